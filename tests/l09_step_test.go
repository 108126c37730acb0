package tests

import (
	"fmt"
	"math"
	"reflect"
	"slices"
	"testing"

	"loop.example/g00781/impl"
)

const mostSteps = 1500

func runOf(t *testing.T, u impl.Unix) impl.Unix {
	t.Helper()
	return answered(t, impl.Run, u)
}

func tickOf(t *testing.T, u impl.Unix) impl.Unix {
	t.Helper()
	return answered(t, impl.Tick, u)
}

// actOf is what an act makes of a Unix.
func actOf(u impl.Unix, act int) impl.Unix {
	switch act {
	case 1:
		return impl.Run(u)
	case 2:
		return impl.Tick(u)
	}
	return u
}

func settleOf(t *testing.T, u impl.Unix, n int) (impl.Unix, int) {
	t.Helper()
	times := 0
	got := answered(t, func(u impl.Unix) impl.Unix {
		made, k := impl.Settle(u, n)
		times = k
		return made
	}, u)
	return got, times
}

func playOf(t *testing.T, progs [][]impl.Ins, acts []int) (impl.Unix, bool) {
	t.Helper()
	given, row := withRoom(progs), withRoom(acts)
	u, ok := impl.Play(given, row)
	if !alike(given, progs) || !alike(row, acts) || !marked(given) || !marked(row) {
		t.Errorf("Play writes into what it is handed: %v and %v became %v and %v", progs, acts, given, row)
	}
	if !sharesNone(u, given, row) {
		t.Errorf("Play(%v, %v) shares memory", progs, acts)
	}
	return u, ok
}

// stepSaid, playSaid and settleSaid are the steps in the document's own words.
func stepSaid(u impl.Unix, said func(impl.Unix) []impl.Eff) impl.Unix {
	if !unixSaid(u) {
		return impl.Unix{}
	}
	made := fresh(u)
	for _, e := range said(u) {
		made, _ = effectSaid(made, e)
	}
	return made
}

func playSaid(progs [][]impl.Ins, acts []int) impl.Unix {
	u := booted()
	u.Progs = progs
	for _, act := range acts {
		switch act {
		case 1:
			u = stepSaid(u, runSaid)
		case 2:
			u = stepSaid(u, tickSaid)
		}
	}
	return u
}

func settleSaid(u impl.Unix, n int) (impl.Unix, int) {
	if !unixSaid(u) {
		return impl.Unix{}, 0
	}
	times := 0
	for len(u.Procs) > 0 && times < n && times < 300 {
		u = stepSaid(stepSaid(u, runSaid), tickSaid)
		times++
	}
	return u, times
}

// noStepComes wants the zero Unix of each step of a Unix that is not right.
func noStepComes(t *testing.T, name string, u impl.Unix) {
	t.Helper()
	if got := runOf(t, u); !alike(got, impl.Unix{}) {
		t.Errorf("%s: Run of %+v: %+v", name, u, got)
	}
	if got := tickOf(t, u); !alike(got, impl.Unix{}) {
		t.Errorf("%s: Tick of %+v: %+v", name, u, got)
	}
	for _, n := range []int{-1, 0, 1, 301} {
		if got, times := settleOf(t, u, n); times != 0 || !alike(got, impl.Unix{}) {
			t.Errorf("%s: Settle of %+v, %d: %+v, %d", name, u, n, got, times)
		}
	}
}

// orders are rows of acts, with runs all along.
func orders() [][]int {
	var l [][]int
	for _, row := range [][]int{
		{1}, {1, 2}, {2, 1}, {1, 1, 2}, {1, 2, 2}, {2, 2, 2, 1}, {1, 1, 1, 2}, {1, 1, 1, 1, 2},
		{1, 1, 1, 1, 1, 2}, {1, 1, 1, 1, 1, 1, 1, 2, 2}, {2, 1, 1, 2, 1, 2, 2, 1, 1, 1}, {1, 0, 2, 3, -1},
	} {
		l = append(l, slices.Repeat(row, mostSteps/len(row)))
	}
	for seed := range 12 {
		d, row := &dice{n: uint64(seed)}, []int{}
		for len(row) < mostSteps {
			act := impl.AcRun
			if d.roll(2+seed%6) == 0 {
				act = impl.AcTick
			}
			row = append(row, act)
		}
		l = append(l, row)
	}
	return l
}

// plays has programs played from Boot on, by many orders, until process 1 has
// ended; it hands on the way of each of them.
func plays(t *testing.T, progs [][]impl.Ins, see func(acts []int, way []impl.Unix)) {
	t.Helper()
	for _, acts := range orders() {
		u, ok := impl.Boot(progs)
		b, way := newBook(), []impl.Unix{u}
		for procWith(&u, 1) != nil {
			if !ok || len(way) > len(acts) {
				t.Fatalf("it does not end: %v, %+v", acts[:30], u)
			}
			next := actOf(u, acts[len(way)-1])
			b.follows(t, u, acts[len(way)-1], next)
			u, way = next, append(way, next)
		}
		for _, n := range []int{0, 1, len(way) / 2, len(way) - 1} {
			n = min(n, impl.MaxActs)
			if got, ok := playOf(t, progs, acts[:n]); !ok || !alike(got, way[n]) {
				t.Fatalf("Play of %v: %v, %+v, not %+v", acts[:n], ok, got, way[n])
			}
		}
		see(acts[:len(way)-1], way)
	}
}

// prints wants just these words, whatever the order; it answers, of each
// state, in how many orders a process was ever in it.
func prints(t *testing.T, progs [][]impl.Ins, want ...int) map[int]int {
	t.Helper()
	met := map[int]int{}
	plays(t, progs, func(acts []int, way []impl.Unix) {
		if u := way[len(way)-1]; !alike(u.Out, want) {
			t.Errorf("by %v it prints %v, not %v", acts, u.Out, want)
		}
		for state := impl.PsReady; state <= impl.PsZombie; state++ {
			if slices.ContainsFunc(way, func(u impl.Unix) bool { return goesOnBy(u, state) }) {
				met[state]++
			}
		}
	})
	return met
}

// wordsBehind are the n numbers behind from.
func wordsBehind(from int, n int) []int {
	var l []int
	for k := range n {
		l = append(l, from+k+1)
	}
	return l
}

// tellsPidAndCode prints what a wait was told; register 3 is 0.
const tellsPidAndCode = "add r2 r1 r3; add r1 r0 r3; set r0 1; write; add r1 r2 r3; set r0 1; write; exit\n"

func TestActNumbers(t *testing.T) {
	if impl.MaxActs != 300 || impl.AcRun != 1 || impl.AcTick != 2 {
		t.Error("the numbers are", impl.MaxActs, impl.AcRun, impl.AcTick)
	}
}

func TestForkAndWaitTellsTheCode(t *testing.T) {
	for _, code := range []int{5, 0, 1, -1, -1000000, 1000000} {
		progs := scripts(t, "fork; zero r0 child; wait;"+tellsPidAndCode+fmt.Sprintf("child: set r0 %d; exit", code))
		met := prints(t, progs, 2, code)
		if n := met[impl.PsWait]; n == 0 || n == met[impl.PsReady] {
			t.Error("one of both was always first:", met)
		}
	}
}

// TestForkAndWaitByHand has each of both run first, act by act.
func TestForkAndWaitByHand(t *testing.T) {
	progs := scripts(t, "fork; zero r0 child; wait;"+tellsPidAndCode+"child: set r0 4; exit")
	for _, c := range []struct {
		acts  []int
		ready []int
		state int
	}{
		{[]int{1}, []int{1, 2}, impl.PsReady},
		{[]int{1, 1, 1}, []int{2}, impl.PsWait},
		{[]int{1, 1, 1, 1, 1, 1}, []int{1}, impl.PsReady},
		{[]int{1, 2}, []int{2, 1}, impl.PsReady},
		{[]int{1, 2, 1, 1, 1}, []int{1}, impl.PsReady},
		{[]int{1, 2, 2, 1, 1}, []int{2}, impl.PsWait},
	} {
		u, ok := playOf(t, progs, c.acts)
		if !ok || !slices.Equal(u.Ready, c.ready) || u.Procs[0].State != c.state {
			t.Errorf("by %v: %v, %v, %+v", c.acts, ok, u.Ready, u.Procs)
		}
	}
	u, _ := playOf(t, progs, []int{1, 2, 1, 1, 1})
	if p := u.Procs[1]; p.State != impl.PsZombie || p.Code != 4 || p.Parent != 1 || len(p.Mem) != 0 {
		t.Errorf("the child that ended first is %+v", p)
	}
	u, _ = playOf(t, progs, []int{1, 2, 1, 1, 1, 1, 1})
	if len(u.Procs) != 1 || !slices.Equal(u.Procs[0].Cpu.Regs, []int{2, 4, 0, 0}) || u.Procs[0].Cpu.Pc != 3 {
		t.Errorf("it is told %+v", u.Procs)
	}
}

// TestForkOfMany has children whose code is twice their Pid.
func TestForkOfMany(t *testing.T) {
	progs := scripts(t, `
		fork; zero r0 child; fork; zero r0 child; fork; zero r0 child
		again: wait; set r3 1; add r2 r0 r3; zero r2 done; sub r2 r2 r3
		set r0 1; write; set r3 0; add r1 r2 r3; set r0 1; write; jump again
		done: exit
		child: pid; add r0 r0 r0; exit`)
	firsts := map[int]int{}
	plays(t, progs, func(acts []int, way []impl.Unix) {
		out := way[len(way)-1].Out
		if len(out) != 6 {
			t.Fatalf("by %v it prints %v", acts, out)
		}
		var pids []int
		for k := 0; k < 6; k += 2 {
			pids = append(pids, out[k+1])
			if out[k] != 2*out[k+1] {
				t.Errorf("by %v it prints %v", acts, out)
			}
		}
		firsts[pids[0]]++
		if slices.Sort(pids); !slices.Equal(pids, []int{2, 3, 4}) {
			t.Errorf("by %v it prints %v", acts, out)
		}
	})
	if len(firsts) < 2 {
		t.Error("one of them was always first:", firsts)
	}
}

// writesTo writes n words behind from to an Fd; printsAll prints what is read
// from one until there is no more.
func writesTo(fd int, from int, n int) string {
	return fmt.Sprintf(`set r1 %d; set r2 %d; set r3 1
		more: zero r2 done; add r1 r1 r3; set r0 %d; write; sub r2 r2 r3; jump more
		done: set r0 %d; close
		`, from, n, fd, fd)
}

func printsAll(fd int) string {
	return fmt.Sprintf("next: set r0 %d; read; zero r0 last; set r0 1; write; jump next; last: set r3 0; ", fd)
}

func TestPipesAreReadInOrder(t *testing.T) {
	t.Parallel()
	for _, n := range []int{0, 1, 3, 4, 5, 9, 20} {
		parentWrites := "pipe; fork; zero r0 child; set r0 2; close;" + writesTo(3, 100, n) + "wait; exit\n child: set r0 3; close;" + printsAll(2) + "exit"
		childWrites := "pipe; fork; zero r0 child; set r0 3; close;" + printsAll(2) + "wait; exit\n child: set r0 2; close;" + writesTo(3, 100, n) + "exit"
		for _, text := range []string{parentWrites, childWrites} {
			met := prints(t, scripts(t, text), wordsBehind(100, n)...)
			if met[impl.PsRead] == 0 || met[impl.PsWrite] == 0 && n > impl.PipeCap {
				t.Errorf("of %d words nobody had to wait: %v", n, met)
			}
		}
	}
}

// TestTwoWhoWriteIntoOnePipe has the words of each in order.
func TestTwoWhoWriteIntoOnePipe(t *testing.T) {
	main := "pipe; fork; zero r0 low; fork; zero r0 high; set r0 3; close;" + printsAll(2) + "wait; wait; exit\n low: set r0 1; exec; high: set r0 2; exec"
	progs := scripts(t, main, writesTo(3, 100, 7)+"exit", writesTo(3, 200, 7)+"exit")
	mixed := 0
	plays(t, progs, func(acts []int, way []impl.Unix) {
		out := way[len(way)-1].Out
		isLow := func(n int) bool { return n < 200 }
		low := slices.DeleteFunc(slices.Clone(out), func(n int) bool { return !isLow(n) })
		high := slices.DeleteFunc(slices.Clone(out), isLow)
		if !slices.Equal(low, wordsBehind(100, 7)) || !slices.Equal(high, wordsBehind(200, 7)) {
			t.Errorf("by %v it prints %v", acts, out)
		}
		if !slices.IsSorted(out) {
			mixed++
		}
	})
	if mixed == 0 {
		t.Error("the two never wrote by turns")
	}
}

func TestWordsInAFileStay(t *testing.T) {
	main := "fork; zero r0 first; wait; fork; zero r0 second; wait; set r0 3; exec\n first: set r0 1; exec; second: set r0 2; exec"
	opens := func(b int) string { return fmt.Sprintf("set r0 3; set r1 %d; open;", b) }
	for _, n := range []int{0, 1, 2, 5, 8, 9} {
		progs := scripts(t, main, opens(1)+writesTo(2, 50, n)+"exit", opens(0)+writesTo(2, 70, 2)+"exit", opens(0)+printsAll(2)+"exit")
		want := append(wordsBehind(70, 2), wordsBehind(50, min(n, 8))[min(n, 2):]...)
		plays(t, progs, func(acts []int, way []impl.Unix) {
			u := way[len(way)-1]
			if !alike(u.Out, want) || len(u.Procs) != 0 || !alike(u.Files, []impl.File{{Name: 3, Data: want}}) {
				t.Errorf("by %v of %d words it prints %v: %+v", acts, n, u.Out, u.Files)
			}
			after := tickOf(t, runOf(t, tickOf(t, u)))
			if !alike(after.Files, u.Files) || !alike(after.Out, u.Out) || after.Next != u.Next {
				t.Errorf("what stayed is gone: %+v", after)
			}
		})
	}
}

// TestSleepers go on when their ticks have gone, and see the time.
func TestSleepers(t *testing.T) {
	for _, n := range []int{-1000000, -1, 0, 1, 2, 3, 7, 40} {
		u := begun(t, fmt.Sprintf("set r0 %d; sleep; time; add r1 r0 r3; set r0 1; write; exit", n))
		for start := range 4 {
			v := runOf(t, runOf(t, u))
			for gone := range max(n, 0) {
				if v.Tick != start+gone || v.Procs[0].State != impl.PsSleep || v.Procs[0].Until != start+n || len(v.Ready) != 0 {
					t.Fatalf("of %d ticks %d are gone: %+v", n, gone, v)
				}
				if still := runOf(t, v); !alike(still, v) {
					t.Fatalf("who sleeps runs: %+v", still)
				}
				v = tickOf(t, v)
			}
			if v.Procs[0].State != impl.PsReady || v.Procs[0].Until != 0 || !slices.Equal(v.Ready, []int{1}) || v.Procs[0].Cpu.Regs[0] != 0 {
				t.Fatalf("%d ticks from %d on: %+v", n, start, v)
			}
			end, times := settleOf(t, v, 9)
			if want := []int{start + max(n, 0)}; times != 5 || !slices.Equal(end.Out, want) {
				t.Errorf("%d ticks from %d on: it goes on at %v, not %v", n, start, end.Out, want)
			}
			u = tickOf(t, u)
		}
	}
}

func TestSleepersByManyOrders(t *testing.T) {
	progs := scripts(t, `
		fork; zero r0 long; fork; zero r0 short; wait; wait; exit
		long: set r0 60; sleep; time; exit
		short: set r0 3; sleep; time; exit`)
	for _, acts := range orders()[1:] {
		u, _ := impl.Boot(progs)
		b, until := newBook(), map[int]int{}
		for k := 0; k < len(acts) && len(u.Procs) > 0; k++ {
			next := actOf(u, acts[k])
			b.follows(t, u, acts[k], next)
			for _, p := range next.Procs {
				if p.State == impl.PsSleep {
					until[p.Pid] = p.Until
				}
			}
			u = next
		}
		if len(until) != 2 || len(u.Procs) != 0 || b.codes[2] < until[2] || b.codes[3] < until[3] {
			t.Errorf("by %v: until %v, they see %v: %+v", acts[:30], until, b.codes, u)
		}
	}
}

// TestSleepAtTheEnd is of the last ticks there are.
func TestSleepAtTheEnd(t *testing.T) {
	text := "sleep; time; exit"
	for _, c := range []struct{ left, sleep, told int }{{2, 1, 0}, {2, 2, 0}, {2, 3, -1}, {1, 1, 0}, {1, 2, -1}, {0, 1, -1}, {0, 0, 0}} {
		u := begun(t, text)
		u.Tick, u.Procs[0].Cpu.Regs[0] = impl.MaxTick-c.left, c.sleep
		u = runOf(t, u)
		if u.Procs[0].Cpu.Regs[0] != c.told {
			t.Errorf("%d ticks from %d on: it is told %d", c.sleep, impl.MaxTick-c.left, u.Procs[0].Cpu.Regs[0])
		}
		if c.told != 0 || c.sleep == 0 {
			continue
		}
		for range c.sleep {
			if u.Procs[0].State != impl.PsSleep {
				t.Errorf("it sleeps no longer: %+v", u)
			}
			u = tickOf(t, u)
		}
		if u = runOf(t, u); u.Procs[0].Cpu.Regs[0] != impl.MaxTick-c.left+c.sleep {
			t.Errorf("it goes on at %+v", u.Procs[0].Cpu)
		}
	}
}

// TestKilledEndWithLessThanZero has a child killed in each state.
func TestKilledEndWithLessThanZero(t *testing.T) {
	for state, child := range map[int]string{
		impl.PsReady: "again: yield; yield; yield; jump again",
		impl.PsSleep: "set r0 500000; sleep; set r0 9; exit",
		impl.PsWait:  "fork; zero r0 grand; wait; set r0 9; exit; grand: set r0 500000; sleep; exit",
		impl.PsRead:  "pipe; read; set r0 9; exit",
		impl.PsWrite: "pipe; more: set r0 3; write; jump more",
	} {
		for name, wait := range map[string]string{"at once": "", "behind it": "yield; yield;", "later": "yield; yield; yield; yield; yield; yield;"} {
			progs := scripts(t, "fork; zero r0 child; add r2 r0 r3;"+wait+"add r0 r2 r3; kill; wait;"+tellsPidAndCode+"child: set r0 1; exec", child)
			met := 0
			plays(t, progs, func(acts []int, way []impl.Unix) {
				u := way[len(way)-1]
				if !slices.Equal(u.Out, []int{2, -1}) {
					t.Errorf("state %d, killed %s, by %v: it prints %v", state, name, acts, u.Out)
				}
				if killedIn(t, acts, way) == state {
					met++
				}
			})
			if met == 0 && name != "at once" {
				t.Errorf("nobody was killed %s in state %d", name, state)
			}
		}
	}
}

// killedIn is the state of process 2 when 1 kills it.
func killedIn(t *testing.T, acts []int, way []impl.Unix) int {
	t.Helper()
	for k, u := range way[:len(way)-1] {
		if acts[k] != impl.AcRun || slices.Index(u.Ready, 1) != 0 || sysOf(u, u.Procs[0]) != 13 {
			continue
		}
		p := way[k+1].Procs[1]
		if p.Pid != 2 || p.State != impl.PsZombie || p.Code != -1 || p.Until != 0 || len(p.Mem) != 0 || slices.Contains(way[k+1].Ready, 2) {
			t.Errorf("who is killed is %+v", p)
		}
		return u.Procs[1].State
	}
	t.Errorf("nobody is killed: %+v", way)
	return 0
}

// TestKillsOfOthers has a process kill itself, and a child its parent.
func TestKillsOfOthers(t *testing.T) {
	prints(t, scripts(t, "fork; zero r0 child; wait;"+tellsPidAndCode+"child: pid; kill"), 2, -1)
	prints(t, scripts(t, "fork; zero r0 child; wait;"+tellsPidAndCode+"child: fork; zero r0 grand; wait; exit; grand: set r0 2; kill; exit"), 2, -1)
	prints(t, scripts(t, "fork; zero r0 child; wait;"+tellsPidAndCode+"child: jump 40"), 2, -1)
}

// TestWhoIsFirst has Ready told act by act.
func TestWhoIsFirst(t *testing.T) {
	u := begun(t, "fork; zero r0 child; fork; zero r0 child; yield; exit; child: set r0 2; sleep; again: jump again")
	for k, c := range []struct {
		act   int
		ready []int
	}{
		{1, []int{1, 2}}, {1, []int{1, 2}}, {2, []int{2, 1}}, {1, []int{2, 1}}, {2, []int{1, 2}},
		{1, []int{1, 2, 3}}, {2, []int{2, 3, 1}}, {1, []int{2, 3, 1}}, {1, []int{3, 1}}, {2, []int{1, 3}},
		{1, []int{1, 3}}, {1, []int{3, 1}}, {2, []int{1, 3, 2}}, {2, []int{3, 2, 1}}, {1, []int{3, 2, 1}},
		{1, []int{3, 2, 1}}, {1, []int{2, 1}}, {1, []int{2, 1}}, {2, []int{1, 2}}, {1, []int{2}}, {2, []int{2, 3}},
		{2, []int{3, 2}}, {2, []int{2, 3}}, {1, []int{2, 3}},
	} {
		if u = actOf(u, c.act); !slices.Equal(u.Ready, c.ready) {
			t.Fatalf("behind act %d Ready is %v, not %v", k, u.Ready, c.ready)
		}
	}
}

// fixed are Unixes that were made by hand, all of them right.
func fixed() []impl.Unix {
	l := []impl.Unix{
		empty(), booted(), busy(), five(), crowd(1, 2, 3), opened(8), piped(3), filed(6), plumbed(1, 2), family(1, 4, 5, 3, 6), family(2, 1, 2, 2),
		changed(crowd(1), func(u *impl.Unix) { u.Out, u.Progs = words(60), [][]impl.Ins{{{Op: impl.InSys, A: 9}}} }),
	}
	for sys := 1; sys <= 20; sys++ {
		l = append(l, asking(busy(), sys, 2, 1), asking(five(), sys, 1, 1), asking(plumbed(7, 8), sys, 0, 1), asking(crowd(1, 1), sys, 2, 0))
	}
	return l
}

// isAsItsEffects holds Run and Tick of a Unix against their effects.
func isAsItsEffects(t *testing.T, u impl.Unix) {
	t.Helper()
	run, _ := impl.ApplyAll(u, impl.RunEffects(u))
	if got := runOf(t, u); !alike(got, run) || !alike(got, stepSaid(u, runSaid)) {
		t.Fatalf("Run of\n%+v:\n%+v, not\n%+v", u, got, run)
	}
	tick, _ := impl.ApplyAll(u, impl.TickEffects(u))
	if got := tickOf(t, u); !alike(got, tick) || !alike(got, stepSaid(u, tickSaid)) {
		t.Fatalf("Tick of\n%+v:\n%+v, not\n%+v", u, got, tick)
	}
}

func TestRunAndTickAreTheirEffects(t *testing.T) {
	t.Parallel()
	for _, u := range fixed() {
		isAsItsEffects(t, u)
	}
	walked(t, 40, func(u impl.Unix) { isAsItsEffects(t, u) })
}

// TestManyRunsAndTicks holds promise 9 of programs that ask for anything.
func TestManyRunsAndTicks(t *testing.T) {
	calls, codes, printed, next := map[int]int{}, 0, 0, 0
	for walk := range 200 {
		d := &dice{n: uint64(1000 + walk)}
		u, _ := impl.Boot([][]impl.Ins{d.rolled(), d.rolled(), d.rolled(), d.rolled()})
		b := newBook()
		for range 250 {
			act := impl.AcRun
			if d.roll(5) == 0 || len(u.Ready) == 0 {
				act = impl.AcTick
			} else {
				calls[sysOf(u, *procWith(&u, u.Ready[0]))]++
			}
			after := actOf(u, act)
			b.follows(t, u, act, after)
			u = after
		}
		codes, printed, next = codes+len(b.codes), printed+len(b.out), max(next, b.next)
	}
	if len(calls) < 19 || codes < 150 || printed < 150 || next < 10 {
		t.Errorf("not much was done: %v, %d, %d, %d", calls, codes, printed, next)
	}
}

func TestRunWhereNobodyIsReady(t *testing.T) {
	still := changed(busy(), func(u *impl.Unix) {
		u.Procs[1].State, u.Procs[1].Until, u.Ready = impl.PsSleep, 40, nil
	})
	for _, u := range []impl.Unix{empty(), still, changed(empty(), func(u *impl.Unix) { u.Tick, u.Out, u.Files = 9, words(60), filed(6).Files })} {
		if got := runOf(t, u); !alike(got, u) {
			t.Errorf("Run of %+v: %+v", u, got)
		}
	}
	if got := tickOf(t, still); got.Tick != 6 || !slices.Equal(got.Ready, []int{4}) {
		t.Errorf("Tick of %+v: %+v", still, got)
	}
}

func TestTickAtTheEnd(t *testing.T) {
	for _, from := range fixed() {
		last := changed(fresh(from), func(u *impl.Unix) {
			for k := range u.Procs {
				if u.Procs[k].State == impl.PsSleep {
					u.Procs[k].Until = impl.MaxTick + k%2
				}
			}
			u.Tick = impl.MaxTick - 1
		})
		got := tickOf(t, last)
		if got.Tick != impl.MaxTick || !alike(got, stepSaid(last, tickSaid)) || !unixSaid(got) {
			t.Errorf("Tick of %+v: %+v", last, got)
		}
		if again := tickOf(t, got); !alike(again, got) {
			t.Errorf("Tick of %+v: %+v", got, again)
		}
	}
}

// rolledActs are acts, some of which are none.
func rolledActs(d *dice, n int) []int {
	var l []int
	for range n {
		l = append(l, []int{1, 1, 1, 1, 1, 2, 2, 0, 3, -1, math.MaxInt, math.MinInt}[d.roll(12)])
	}
	return l
}

func TestPlayIsActByAct(t *testing.T) {
	t.Parallel()
	for walk := range 24 {
		d := &dice{n: uint64(walk)}
		progs := [][]impl.Ins{d.rolled(), d.rolled(), d.rolled(), d.rolled()}[:1+walk%4]
		for _, n := range []int{0, 1, 2, 3 + d.roll(297), 299, 300} {
			acts := rolledActs(d, n)
			u, _ := impl.Boot(progs)
			for _, act := range acts {
				u = actOf(u, act)
			}
			if got, ok := playOf(t, progs, acts); !ok || !alike(got, u) || !alike(got, playSaid(progs, acts)) {
				t.Fatalf("Play(%v, %v) = %+v, %v, not %+v", progs, acts, got, ok, u)
			}
			if got, ok := playOf(t, progs, append(acts, make([]int, 301-n)...)); ok || !alike(got, impl.Unix{}) {
				t.Fatalf("Play of 301 acts: %+v, %v", got, ok)
			}
		}
	}
}

func TestPlayOfActsThatAreNone(t *testing.T) {
	progs := scripts(t, "fork; yield; exit")
	boot, _ := impl.Boot(progs)
	for _, act := range []int{0, 3, -1, 4, 99, math.MinInt, math.MaxInt} {
		for _, n := range []int{1, 2, 300} {
			if got, ok := playOf(t, progs, slices.Repeat([]int{act}, n)); !ok || !alike(got, boot) {
				t.Errorf("Play of %d times %d: %+v, %v", n, act, got, ok)
			}
		}
		if got, ok := playOf(t, progs, slices.Repeat([]int{act}, 301)); ok || !alike(got, impl.Unix{}) {
			t.Errorf("Play of 301 times %d: %+v, %v", act, got, ok)
		}
		one, _ := playOf(t, progs, []int{1, 2, 1})
		if got, ok := playOf(t, progs, []int{act, 1, act, act, 2, 1, act}); !ok || !alike(got, one) {
			t.Errorf("Play with %d between: %+v, %v, not %+v", act, got, ok, one)
		}
	}
	for _, acts := range [][]int{nil, {}} {
		if got, ok := playOf(t, progs, acts); !ok || !alike(got, boot) {
			t.Errorf("Play of no acts: %+v, %v", got, ok)
		}
	}
}

func TestPlayOfManyActs(t *testing.T) {
	progs := scripts(t, "again: jump again")
	for act, want := range map[int]int{impl.AcRun: 0, impl.AcTick: 300} {
		if got, ok := playOf(t, progs, slices.Repeat([]int{act}, 300)); !ok || got.Tick != want || len(got.Procs) != 1 {
			t.Errorf("Play of 300 times %d: %+v, %v", act, got, ok)
		}
		for _, n := range []int{301, 302, 5000} {
			if got, ok := playOf(t, progs, slices.Repeat([]int{act}, n)); ok || !alike(got, impl.Unix{}) {
				t.Errorf("Play of %d times %d: %+v, %v", n, act, got, ok)
			}
		}
	}
}

func TestPlayRefusesWhatBootRefuses(t *testing.T) {
	for _, progs := range bootsWrong() {
		for _, acts := range [][]int{nil, {1}, {0}, {2, 1}, make([]int, 300), make([]int, 301)} {
			if got, ok := playOf(t, progs, acts); ok || !alike(got, impl.Unix{}) {
				t.Errorf("Play(%v, %v) = %+v, %v", progs, acts, got, ok)
			}
		}
	}
}

// counts are those that Settle may be asked for.
func counts() []int {
	return []int{math.MinInt, -300, -1, 0, 1, 2, 3, 17, 299, 300, 301, 5000, math.MaxInt}
}

// settles wants Settle to be Run and Tick, so and so often.
func settles(t *testing.T, u impl.Unix, n int, times int) {
	t.Helper()
	want := fresh(u)
	for range times {
		want = impl.Tick(impl.Run(want))
	}
	if got, k := settleOf(t, u, n); k != times || !alike(got, want) {
		t.Fatalf("Settle of %+v, %d: %d times, not %d:\n%+v, not\n%+v", u, n, k, times, got, want)
	}
}

func TestSettleIsRunAndThenTick(t *testing.T) {
	t.Parallel()
	u := begun(t, "fork; yield; yield; exit")
	v, n := settleOf(t, u, 1)
	if n != 1 || v.Tick != 1 || !slices.Equal(v.Ready, []int{2, 1}) || v.Procs[1].Pid != 2 {
		t.Errorf("Run is not ahead of Tick: %+v, %d", v, n)
	}
	for _, from := range append(fixed(), u) {
		for _, n := range []int{-1, 0, 1, 2, 17, 301} {
			want, times := settleSaid(from, n)
			settles(t, from, n, times)
			if got, k := impl.Settle(from, n); k != times || !alike(got, want) {
				t.Fatalf("Settle of %+v, %d: %+v, %d, not %+v, %d", from, n, got, k, want, times)
			}
		}
	}
	count := 0
	walked(t, 30, func(u impl.Unix) {
		if count++; count%37 == 0 {
			n := []int{1, 2, 5, 30, 301}[count%5]
			_, times := settleSaid(u, n)
			settles(t, u, n, times)
		}
	})
}

func TestSettleHowOften(t *testing.T) {
	for _, n := range counts() {
		most := max(0, min(n, 300))
		settles(t, begun(t, "again: jump again"), n, most)
		settles(t, begun(t, "set r0 500000; sleep; exit"), n, most)
		settles(t, begun(t, "pipe; read"), n, most)
		settles(t, begun(t, "yield"), n, min(most, 2))
		settles(t, begun(t, "exit"), n, min(most, 1))
		settles(t, begun(t, "set r0 3; sleep; exit"), n, min(most, 5))
		settles(t, empty(), n, 0)
		settles(t, changed(empty(), func(u *impl.Unix) { u.Tick = 77 }), n, 0)
	}
	u, n := settleOf(t, begun(t, "exit"), 5)
	if n != 1 || len(u.Procs) != 0 || u.Tick != 1 {
		t.Errorf("Tick is behind the last Run, too: %+v, %d", u, n)
	}
	late := begun(t, "again: jump again")
	late.Tick = impl.MaxTick - 2
	if u, n := settleOf(t, late, 300); n != 300 || u.Tick != impl.MaxTick {
		t.Errorf("where no tick is left: %+v, %d", u, n)
	}
}

func TestNotRightNoStepComes(t *testing.T) {
	noStepComes(t, "the zero Unix", impl.Unix{})
	noStepComes(t, "twins", twins())
	for _, n := range counts() {
		if got, times := settleOf(t, impl.Unix{}, n); times != 0 || !alike(got, impl.Unix{}) {
			t.Errorf("Settle of the zero Unix, %d: %+v, %d", n, got, times)
		}
	}
}

// TestStepsOfTurnedNumbers turns each number and takes out of each list.
func TestStepsOfTurnedNumbers(t *testing.T) {
	t.Parallel()
	for _, from := range []impl.Unix{asking(busy(), 7, 2, 0), asking(plumbed(5), 1, 0, 0), family(2, 1, 2)} {
		eachTurned(t, from, func(u impl.Unix) {
			if got := impl.Run(u); !alike(got, stepSaid(u, runSaid)) {
				t.Fatalf("Run of %+v: %+v", u, got)
			}
			if got := impl.Tick(u); !alike(got, stepSaid(u, tickSaid)) {
				t.Fatalf("Tick of %+v: %+v", u, got)
			}
			want, times := settleSaid(u, 2)
			if got, n := impl.Settle(u, 2); n != times || !alike(got, want) {
				t.Fatalf("Settle of %+v: %+v, %d, not %+v, %d", u, got, n, want, times)
			}
		})
	}
}

// TestStepsOfListsThatAreOne has lists that are one where they come in.
func TestStepsOfListsThatAreOne(t *testing.T) {
	one, prog := withRoom([]int{0, 0, 0, 0}), withRoom(script(t, "set r0 7; store r0 r1; fork; write"))
	u := crowd(1, 1, 1)
	u.Progs = [][]impl.Ins{prog, prog, prog}
	u.Opens = []impl.Open{{Id: 0, Kind: impl.OpOut, Target: 2, Refs: 12}}
	u.Pipes, u.Files = []impl.Pipe{{Id: 2, Data: one}}, []impl.File{{Name: 1, Data: one}, {Name: 5, Data: one}}
	for k := range u.Procs {
		u.Procs[k].Cpu.Regs, u.Procs[k].Mem, u.Procs[k].Fds = one, one, one
	}
	u.Out = one
	was := fresh(u)
	still, _ := impl.Settle(u, 0)
	many, _ := impl.Settle(u, 9)
	for _, got := range []impl.Unix{impl.Run(u), impl.Tick(u), still, many} {
		if !sharesNone(got, u, one, prog) || !alike(u, was) || !marked(one) || !marked(prog) {
			t.Errorf("lists that are one: %+v of %+v", got, u)
		}
	}
	if want, _ := settleSaid(was, 9); !alike(many, want) || !alike(still, was) {
		t.Errorf("lists that are one: %+v, not %+v", many, want)
	}
	if got, ok := impl.Play(u.Progs, []int{1, 1, 2, 1}); !ok || !sharesNone(got, u, prog) || !marked(prog) {
		t.Errorf("programs that are one: %+v, %v", got, ok)
	}
}

// TestWhatWasAnsweredIsNotKept changes what was answered, and asks again.
func TestWhatWasAnsweredIsNotKept(t *testing.T) {
	progs, acts := scripts(t, "pipe; fork; again: set r0 3; write; jump again"), []int{1, 1, 2, 1, 1, 2, 1}
	for _, of := range []func() impl.Unix{
		func() impl.Unix { return impl.Run(busy()) },
		func() impl.Unix { return impl.Tick(busy()) },
		func() impl.Unix { u, _ := impl.Settle(busy(), 3); return u },
		func() impl.Unix { u, _ := impl.Play(progs, acts); return u },
	} {
		first := of()
		was := fresh(first)
		for _, n := range numbersOf(reflect.ValueOf(&first).Elem()) {
			n.SetInt(55)
		}
		if again := of(); !alike(again, was) || !sharesNone(again, first) {
			t.Errorf("behind a change of what was answered: %+v, not %+v", again, was)
		}
	}
}
