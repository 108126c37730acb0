package tests

import (
	"fmt"
	"math"
	"reflect"
	"slices"
	"testing"

	"loop.example/g00781/impl"
)

func absOf(t *testing.T, a impl.Arrays) impl.Unix {
	t.Helper()
	return answered(t, impl.AbsA, a)
}

func aOkOf(t *testing.T, a impl.Arrays) bool {
	t.Helper()
	return answered(t, impl.AOk, a)
}

// noSlot, noPipe are what is not Used; the Buf of a pipe may have any numbers.
func noSlot() impl.ASlot {
	return impl.ASlot{Regs: []int{0, 0, 0, 0}, Pt: []int{-1, -1, -1}, Fds: []int{-1, -1, -1, -1}}
}

func noPipe(buf ...int) impl.ARing { return impl.ARing{Buf: buf} }

// scattered is busy with nothing where ALoad would have it: processes in any
// slots, pages in any frames, words that go round the ends of their rings, and
// other numbers wherever nobody has any.
func scattered() impl.Arrays {
	a := impl.Arrays{
		Next:  9,
		Tick:  5,
		Progs: busy().Progs,
		Slots: []impl.ASlot{
			{Used: true, Pid: 7, State: impl.PsWrite, Until: 6, Regs: []int{3, 9, 0, 0}, Pt: []int{15, -1, -1}, Fds: []int{0, -1, -1, 6}},
			{Used: true, Pid: 8, Parent: 2, State: impl.PsZombie, Prog: 1, Pc: 9, Code: -7, Regs: []int{-1, 0, 0, 0}, Pt: []int{-1, -1, -1}, Fds: []int{-1, -1, -1, -1}},
			{Used: true, Pid: 2, Parent: 1, State: impl.PsReady, Pc: 40, Regs: []int{1, -1, 1000000, -1000000}, Pt: []int{9, 0, -1}, Fds: []int{0, 2, 4, -1}},
			{Used: true, Pid: 1, State: impl.PsWait, Prog: 2, Pc: 3, Regs: []int{0, 0, 0, 0}, Pt: []int{4, -1, -1}, Fds: []int{0, 0, -1, -1}},
			{Used: true, Pid: 5, Parent: 1, State: impl.PsRead, Until: 1, Regs: []int{2, 0, 0, 0}, Pt: []int{8, -1, -1}, Fds: []int{0, 0, 1, -1}},
			{Used: true, Pid: 4, Parent: 2, State: impl.PsSleep, Prog: 1, Pc: 1, Until: 6, Regs: []int{2, 3, 4, 5}, Pt: []int{3, 2, 1}, Fds: []int{-1, 7, -1, 7}},
		},
		Ram: slices.Repeat([]int{math.MinInt}, 64),
		Map: flags(16, false),
		Opens: []impl.AOpen{
			{Used: true, Kind: impl.OpCon, Refs: 6}, {Used: true, Kind: impl.OpIn, Refs: 1}, {Used: true, Kind: impl.OpOut, Refs: 1}, {},
			{Used: true, Kind: impl.OpIn, Target: 2, Refs: 1}, {}, {Used: true, Kind: impl.OpOut, Target: 2, Refs: 1}, {Used: true, Kind: impl.OpFile, Target: 1, Off: 2, Refs: 2},
		},
		Pipes: []impl.ARing{
			{Used: true, Buf: []int{1, 2, 3, 4}, Head: 3},
			noPipe(math.MaxInt, -1, 0, 9),
			{Used: true, Buf: []int{-1000000, 8, 5, 1000000}, Head: 2, Len: 4},
		},
		Files: []impl.AFile{{}, {Used: true, Data: []int{11, 12, 13}}, {}, {}, {Used: true}, {}},
		Ready: impl.ARing{Buf: []int{7, 7, 7, 7, 7, 2}, Head: 5, Len: 1},
		Out:   []int{3, -1000000, 1000000},
	}
	for _, f := range []int{15, 4, 8, 3, 2, 1, 9, 0} {
		copy(a.Ram[4*f:], []int{0, 0, 0, 0})
		a.Map[f] = true
	}
	copy(a.Ram[36:], []int{1, 2, 3, 4})
	copy(a.Ram, []int{-1000000, 1000000, 0, 7})
	return a
}

// ringSaid are the words of a ring that has its shape, and whether it has.
func ringSaid(r impl.ARing, size int) ([]int, bool) {
	if len(r.Buf) != size || r.Head < 0 || r.Head >= size || r.Len < 0 || r.Len > size {
		return nil, false
	}
	var l []int
	for at := r.Head; len(l) < r.Len; at++ {
		if at == size {
			at = 0
		}
		l = append(l, r.Buf[at])
	}
	return l, true
}

// shapeSaid tells whether a kernel has its shape, in the document's own words.
func shapeSaid(a impl.Arrays) bool {
	if len(a.Slots) != 6 || len(a.Ram) != 64 || len(a.Map) != 16 || len(a.Opens) != 8 || len(a.Pipes) != 3 || len(a.Files) != 6 {
		return false
	}
	for _, s := range a.Slots {
		if len(s.Regs) != 4 || len(s.Pt) != 3 || len(s.Fds) != 4 || !s.Used && !alike(s, noSlot()) {
			return false
		}
	}
	for _, o := range a.Opens {
		if !o.Used && (o.Kind != 0 || o.Target != 0 || o.Off != 0 || o.Refs != 0) {
			return false
		}
	}
	for _, r := range a.Pipes {
		if _, ok := ringSaid(r, 4); !ok || !r.Used && (r.Head != 0 || r.Len != 0) {
			return false
		}
	}
	for _, f := range a.Files {
		if !f.Used && len(f.Data) != 0 {
			return false
		}
	}
	_, ok := ringSaid(a.Ready, 6)
	return ok
}

// absSaid is AbsA, in the document's own words.
func absSaid(a impl.Arrays) impl.Unix {
	if !shapeSaid(a) {
		return impl.Unix{}
	}
	u := impl.Unix{Next: a.Next, Tick: a.Tick, Progs: a.Progs, Out: a.Out}
	u.Ready, _ = ringSaid(a.Ready, 6)
	for _, s := range a.Slots {
		if !s.Used {
			continue
		}
		at := len(u.Procs)
		for at > 0 && u.Procs[at-1].Pid > s.Pid {
			at--
		}
		u.Procs = slices.Insert(u.Procs, at, impl.Proc{
			Pid: s.Pid, Parent: s.Parent, State: s.State, Prog: s.Prog, Cpu: impl.Cpu{Pc: s.Pc, Regs: s.Regs},
			Mem: memSaid(s.Pt, a.Ram), Fds: s.Fds, Until: s.Until, Code: s.Code,
		})
	}
	for id, o := range a.Opens {
		if o.Used {
			u.Opens = append(u.Opens, impl.Open{Id: id, Kind: o.Kind, Target: o.Target, Off: o.Off, Refs: o.Refs})
		}
	}
	for id, r := range a.Pipes {
		if l, _ := ringSaid(r, 4); r.Used {
			u.Pipes = append(u.Pipes, impl.Pipe{Id: id, Data: l})
		}
	}
	for name, f := range a.Files {
		if f.Used {
			u.Files = append(u.Files, impl.File{Name: name, Data: f.Data})
		}
	}
	return u
}

func memSaid(pt []int, ram []int) []int {
	var l []int
	for _, f := range pt {
		if f < 0 || f > 15 {
			break
		}
		l = append(l, ram[4*f], ram[4*f+1], ram[4*f+2], ram[4*f+3])
	}
	return l
}

// aOkSaid is AOk, in the document's own words.
func aOkSaid(a impl.Arrays) bool {
	if !shapeSaid(a) || !unixSaid(absSaid(a)) {
		return false
	}
	holders := make([]int, 16)
	for _, s := range a.Slots {
		ended := false
		for _, f := range s.Pt {
			if f != -1 && (ended || f < 0 || f > 15) {
				return false
			}
			if ended = f == -1; !ended {
				holders[f]++
			}
		}
	}
	for f, n := range holders {
		if n > 1 || (n == 1) != a.Map[f] {
			return false
		}
	}
	return true
}

// arraysAre wants a kernel to be that of a Unix, of its size, and AOk or not.
func arraysAre(t *testing.T, name string, a impl.Arrays, want impl.Unix, wantOk bool) {
	t.Helper()
	if got := absOf(t, a); !alike(got, want) || !alike(absSaid(a), want) {
		t.Errorf("%s: AbsA of %+v:\n%+v, not\n%+v (said is %+v)", name, a, got, want, absSaid(a))
	}
	if got := aOkOf(t, a); got != wantOk || aOkSaid(a) != wantOk {
		t.Errorf("%s: AOk of %+v: %v, not %v (said is %v)", name, a, got, wantOk, aOkSaid(a))
	}
	sizeIs(t, name, a, len(want.Procs))
}

// arraysAreAsSaid wants of a kernel what the document says.
func arraysAreAsSaid(t *testing.T, a impl.Arrays) {
	t.Helper()
	if !alike(impl.AbsA(a), absSaid(a)) || impl.AOk(a) != aOkSaid(a) || impl.ASize(a) != sizeSaid(a) {
		arraysAre(t, "turned", a, absSaid(a), aOkSaid(a))
		t.FailNow()
	}
}

// arraysOf is the kernel that ALoad makes of a right Unix.
func arraysOf(t *testing.T, u impl.Unix) impl.Arrays {
	t.Helper()
	a, ok := impl.ALoad(u)
	if !ok {
		t.Fatalf("ALoad refuses %+v", u)
	}
	return a
}

// lastPlaces has an Open, a pipe and a file in the last place, and none in any
// other.
func lastPlaces() impl.Unix {
	u := crowd(2)
	u.Procs[0].Fds = []int{-1, -1, -1, 7}
	u.Opens = []impl.Open{{Id: 7, Kind: impl.OpOut, Target: 2, Refs: 1}}
	u.Pipes = []impl.Pipe{{Id: 2, Data: []int{4, 5}}}
	u.Files = []impl.File{{Name: 5, Data: words(8)}}
	return u
}

// allFull has as much of all as there may be, but for files.
func allFull() impl.Unix {
	u := crowd(3, 3, 3, 3, 3, 1)
	u.Out, u.Files = words(60), filed(6).Files
	for k := range u.Procs {
		u.Procs[k].Mem = words(len(u.Procs[k].Mem))
	}
	for k := range 8 {
		u.Procs[k%4].Fds[k/4] = k
		u.Opens = append(u.Opens, impl.Open{Id: k, Kind: impl.OpIn + k%2, Target: k / 2 % 3, Refs: 1})
	}
	for id := range 3 {
		u.Pipes = append(u.Pipes, impl.Pipe{Id: id, Data: words(4)})
	}
	slices.Reverse(u.Ready)
	return u
}

// right are Unixes that are right, made by hand.
func right() []impl.Unix {
	nobody := changed(filed(6), func(u *impl.Unix) { u.Procs, u.Opens, u.Ready = nil, nil, nil })
	l := []impl.Unix{
		nobody, lastPlaces(), allFull(), crowd(1, 2, 3), crowd(1, 1, 1, 1, 1, 1), family(impl.PsReady, impl.PsZombie, impl.PsZombie),
		opened(3), piped(2), filed(1), changed(filed(6), func(u *impl.Unix) { u.Files[0].Data, u.Files[5].Data = nil, words(8) }),
	}
	for n := range 5 {
		l = append(l, plumbed(words(n)...))
	}
	return append(append(l, soundOnes()...), stuckOnes()...)
}

func TestArraysByHand(t *testing.T) {
	arraysAre(t, "scattered", scattered(), busy(), true)
	none := impl.Arrays{
		Next: 1, Progs: [][]impl.Ins{ends()},
		Slots: slices.Repeat([]impl.ASlot{noSlot()}, 6), Ram: words(64), Map: flags(16, false), Opens: make([]impl.AOpen, 8),
		Pipes: slices.Repeat([]impl.ARing{noPipe(5, 6, 7, 8)}, 3), Files: make([]impl.AFile, 6),
		Ready: impl.ARing{Buf: []int{1, 2, 3, 4, 5, 6}, Head: 5},
	}
	arraysAre(t, "nobody", none, empty(), true)
	arraysAre(t, "nothing", impl.Arrays{}, impl.Unix{}, false)
	one := fresh(none)
	one.Next, one.Slots[5] = 2, noSlot()
	one.Slots[5].Used, one.Slots[5].Pid, one.Slots[5].State, one.Slots[5].Pt[0] = true, 1, impl.PsReady, 15
	copy(one.Ram[60:], []int{6, 7, 8, 9})
	one.Map[15], one.Ready = true, impl.ARing{Buf: []int{0, 0, 0, 0, 1, 0}, Head: 4, Len: 1}
	want := crowd(1)
	want.Procs[0].Mem = []int{6, 7, 8, 9}
	arraysAre(t, "one in the last slot and frame", one, want, true)
}

func TestArraysOfWhatIsLoaded(t *testing.T) {
	t.Parallel()
	for _, u := range right() {
		arraysAre(t, "loaded", arraysOf(t, u), u, true)
	}
	seen := map[int]int{}
	walked(t, 20, func(u impl.Unix) {
		arraysAre(t, "walked", arraysOf(t, u), u, true)
		for _, p := range u.Procs {
			seen[p.State]++
		}
		seen[-1] += len(u.Pipes)
		seen[-2] += len(u.Files)
	})
	for state := impl.PsReady; state <= impl.PsZombie; state++ {
		if seen[state] == 0 || seen[-1] == 0 || seen[-2] == 0 {
			t.Errorf("hardly anything was seen: %v", seen)
		}
	}
}

// elsewhere changes where all that a kernel has lies, by dice, and nothing of
// what there is.
type elsewhere struct {
	d *dice
	a impl.Arrays
}

func (e *elsewhere) slots(order []int) {
	was := fresh(e.a.Slots)
	for k, s := range was {
		e.a.Slots[order[k]] = s
	}
}

func (e *elsewhere) frames(order []int) {
	ram, set := slices.Clone(e.a.Ram), slices.Clone(e.a.Map)
	for f, to := range order {
		copy(e.a.Ram[4*to:], ram[4*f:4*f+4])
		e.a.Map[to] = set[f]
	}
	for _, s := range e.a.Slots {
		for k, f := range s.Pt {
			if f != -1 {
				s.Pt[k] = order[f]
			}
		}
	}
}

// ring has a ring begin by so many places later.
func (e *elsewhere) ring(r *impl.ARing, by int) {
	was, n := slices.Clone(r.Buf), len(r.Buf)
	for k, word := range was {
		r.Buf[(k+by)%n] = word
	}
	r.Head = (r.Head + by) % n
}

func (e *elsewhere) rings() {
	for k := range e.a.Pipes {
		if e.a.Pipes[k].Used {
			e.ring(&e.a.Pipes[k], e.d.roll(4))
		}
	}
	e.ring(&e.a.Ready, e.d.roll(6))
}

// unasked puts other numbers in the frames of nobody, and in the part of each
// Buf that is not asked for.
func (e *elsewhere) unasked() {
	for f, set := range e.a.Map {
		for k := range 4 {
			if !set {
				e.a.Ram[4*f+k] = e.d.edge()
			}
		}
	}
	for _, r := range append(slices.Clone(e.a.Pipes), e.a.Ready) {
		for k := r.Len; k < len(r.Buf); k++ {
			r.Buf[(r.Head+k)%len(r.Buf)] = e.d.edge()
		}
	}
}

func TestArraysLieAnywhere(t *testing.T) {
	for k, u := range right() {
		e := &elsewhere{d: &dice{n: uint64(k)}}
		for name, move := range map[string]func(){
			"other slots":   func() { e.slots(e.d.order(6)) },
			"other frames":  func() { e.frames(e.d.order(16)) },
			"other Heads":   e.rings,
			"other numbers": e.unasked,
		} {
			for range 5 {
				e.a = arraysOf(t, u)
				move()
				arraysAre(t, name, e.a, u, true)
			}
		}
		for range 30 {
			e.slots(e.d.order(6))
			e.frames(e.d.order(16))
			e.rings()
			e.unasked()
			arraysAre(t, "all of it", e.a, u, true)
		}
	}
}

// orderings are all orders of n numbers.
func orderings(n int) [][]int {
	if n == 0 {
		return [][]int{{}}
	}
	var l [][]int
	for _, order := range orderings(n - 1) {
		for at := range n {
			l = append(l, slices.Insert(slices.Clone(order), at, n-1))
		}
	}
	return l
}

func TestArraysInEachOrderOfSlots(t *testing.T) {
	for _, u := range []impl.Unix{busy(), five(), crowd(1, 2, 3)} {
		for _, order := range orderings(6) {
			e := &elsewhere{a: arraysOf(t, u)}
			if e.slots(order); !impl.AOk(e.a) || !alike(impl.AbsA(e.a), u) {
				arraysAre(t, fmt.Sprint("slots ", order), e.a, u, true)
			}
		}
	}
}

// eachTurn hands on all frames in a row that begins at each one, and goes up or
// down.
func eachTurn(see func(order []int)) {
	for by := range 16 {
		for _, back := range []bool{false, true} {
			order := make([]int, 16)
			for f := range order {
				order[f] = (f + by) % 16
			}
			if back {
				slices.Reverse(order)
			}
			see(order)
		}
	}
}

func TestArraysInFramesThatAreTurned(t *testing.T) {
	for _, u := range []impl.Unix{busy(), allFull(), crowd(1), crowd(3)} {
		eachTurn(func(order []int) {
			e := &elsewhere{a: arraysOf(t, u)}
			e.frames(order)
			arraysAre(t, fmt.Sprint("frames ", order), e.a, u, true)
		})
	}
}

// TestArraysOfEachRing has each Head with each Len, of a pipe and of Ready.
func TestArraysOfEachRing(t *testing.T) {
	for head := range 4 {
		for n := range 5 {
			u := plumbed(words(n)...)
			a := arraysOf(t, u)
			a.Pipes[2] = impl.ARing{Used: true, Buf: []int{77, 78, 79, 80}, Head: head, Len: n}
			for k, word := range words(n) {
				a.Pipes[2].Buf[(head+k)%4] = word
			}
			arraysAre(t, fmt.Sprintf("a pipe of %d from %d on", n, head), a, u, true)
		}
	}
	for head := range 6 {
		for n := range 7 {
			u := crowd(slices.Repeat([]int{1}, n)...)
			slices.Reverse(u.Ready)
			a := arraysOf(t, u)
			a.Ready = impl.ARing{Buf: []int{1, 2, 3, 4, 5, 6}, Head: head, Len: n}
			for k, pid := range u.Ready {
				a.Ready.Buf[(head+k)%6] = pid
			}
			arraysAre(t, fmt.Sprintf("%d ready from %d on", n, head), a, u, true)
			a.Ready.Used = true
			arraysAre(t, fmt.Sprintf("%d ready from %d on, Used", n, head), a, u, true)
		}
	}
}

// TestArraysOfTheSamePid has processes of one Pid told by their slots.
func TestArraysOfTheSamePid(t *testing.T) {
	for _, order := range orderings(6) {
		a := arraysOf(t, crowd(1, 1, 1, 1, 1, 1))
		pids := []int{2, 5, 2, 1, 5, 2}
		for k, at := range order {
			a.Slots[at].Pid, a.Slots[at].Prog = pids[k], at
		}
		u := impl.AbsA(a)
		for k, p := range u.Procs {
			if p.Pid != []int{1, 2, 2, 2, 5, 5}[k] || k > 0 && p.Pid == u.Procs[k-1].Pid && p.Prog < u.Procs[k-1].Prog {
				t.Fatalf("slots %+v are told as %+v", a.Slots, u.Procs)
			}
		}
		if len(u.Procs) != 6 || impl.AOk(a) {
			t.Fatalf("slots %+v are %d processes, and AOk", a.Slots, len(u.Procs))
		}
	}
	two := arraysOf(t, crowd(1, 2))
	two.Slots[1].Pid = 1
	want := crowd(1, 2)
	want.Procs[1].Pid = 1
	arraysAre(t, "two of Pid 1", two, want, false)
	two.Slots[0], two.Slots[1] = two.Slots[1], two.Slots[0]
	want.Procs[0], want.Procs[1] = want.Procs[1], want.Procs[0]
	arraysAre(t, "two of Pid 1, the other way round", two, want, false)
	same := arraysOf(t, crowd(1, 1, 1, 1, 1, 1))
	want = crowd(1, 1, 1, 1, 1, 1)
	for k := range 6 {
		same.Slots[k].Pid, same.Slots[k].Pc, want.Procs[k].Pid, want.Procs[k].Cpu.Pc = -9, k, -9, k
	}
	arraysAre(t, "all of Pid -9", same, want, false)
}

// arraysChange is one change of a kernel, and what it comes to.
type arraysChange struct {
	name string
	do   func(a *impl.Arrays)
}

// shapeless wants a kernel that is AOk to be without its shape by each change.
func shapeless(t *testing.T, from func() impl.Arrays, l []arraysChange) {
	t.Helper()
	if !aOkOf(t, from()) {
		t.Fatalf("not AOk: %+v", from())
	}
	for _, c := range l {
		a := fresh(from())
		c.do(&a)
		arraysAre(t, c.name, a, impl.Unix{}, false)
		nothingIsChanged(t, c.name, a, impl.Eff{Kind: impl.EfTick}, impl.Eff{Kind: impl.EfSpawn, A: from().Next, B: 1}, impl.Eff{Kind: impl.EfReap, A: 1})
	}
}

// partUsed is a kernel of which each kind of slot is Used in part.
func partUsed(t *testing.T) func() impl.Arrays {
	u := changed(plumbed(4, 5, 6), func(u *impl.Unix) { u.Procs[0].Mem = words(8) })
	u = shared(u, 1, impl.PsReady, 0)
	return func() impl.Arrays {
		e := &elsewhere{d: &dice{n: 5}, a: arraysOf(t, u)}
		e.slots([]int{1, 4, 0, 2, 3, 5})
		e.rings()
		e.unasked()
		return e.a
	}
}

func bases(t *testing.T) []func() impl.Arrays {
	return []func() impl.Arrays{scattered, partUsed(t), func() impl.Arrays { return arraysOf(t, booted()) }, func() impl.Arrays { return arraysOf(t, empty()) }, func() impl.Arrays { return arraysOf(t, allFull()) }}
}

func TestArraysOfAnotherLength(t *testing.T) {
	for _, from := range bases(t) {
		shapeless(t, from, []arraysChange{
			{"a slot too few", func(a *impl.Arrays) { a.Slots = a.Slots[:5] }},
			{"another slot too few", func(a *impl.Arrays) { a.Slots = a.Slots[1:] }},
			{"a slot too many", func(a *impl.Arrays) { a.Slots = append(a.Slots, noSlot()) }},
			{"a slot twice", func(a *impl.Arrays) { a.Slots = append(a.Slots, a.Slots[5]) }},
			{"no slots", func(a *impl.Arrays) { a.Slots = nil }},
			{"a word of Ram too few", func(a *impl.Arrays) { a.Ram = a.Ram[:63] }},
			{"a page of Ram too few", func(a *impl.Arrays) { a.Ram = a.Ram[:60] }},
			{"a word of Ram too many", func(a *impl.Arrays) { a.Ram = append(a.Ram, 0) }},
			{"a page of Ram too many", func(a *impl.Arrays) { a.Ram = append(a.Ram, 0, 0, 0, 0) }},
			{"no Ram", func(a *impl.Arrays) { a.Ram = nil }},
			{"a flag of Map too few", func(a *impl.Arrays) { a.Map = a.Map[:15] }},
			{"a flag of Map too many", func(a *impl.Arrays) { a.Map = append(a.Map, false) }},
			{"no Map", func(a *impl.Arrays) { a.Map = nil }},
			{"an Open too few", func(a *impl.Arrays) { a.Opens = a.Opens[:7] }},
			{"an Open too many", func(a *impl.Arrays) { a.Opens = append(a.Opens, impl.AOpen{}) }},
			{"no Opens", func(a *impl.Arrays) { a.Opens = nil }},
			{"a pipe too few", func(a *impl.Arrays) { a.Pipes = a.Pipes[:2] }},
			{"a pipe too many", func(a *impl.Arrays) { a.Pipes = append(a.Pipes, noPipe(0, 0, 0, 0)) }},
			{"no pipes", func(a *impl.Arrays) { a.Pipes = nil }},
			{"a file too few", func(a *impl.Arrays) { a.Files = a.Files[:5] }},
			{"a file too many", func(a *impl.Arrays) { a.Files = append(a.Files, impl.AFile{}) }},
			{"no files", func(a *impl.Arrays) { a.Files = nil }},
		})
	}
}

func TestArraysOfSlotsOfAnotherLength(t *testing.T) {
	for _, from := range bases(t) {
		for k := range 6 {
			shapeless(t, from, []arraysChange{
				{"a register too few", func(a *impl.Arrays) { a.Slots[k].Regs = a.Slots[k].Regs[:3] }},
				{"a register too many", func(a *impl.Arrays) { a.Slots[k].Regs = append(a.Slots[k].Regs, 0) }},
				{"no registers", func(a *impl.Arrays) { a.Slots[k].Regs = nil }},
				{"a page too few", func(a *impl.Arrays) { a.Slots[k].Pt = a.Slots[k].Pt[:2] }},
				{"a page too many", func(a *impl.Arrays) { a.Slots[k].Pt = append(a.Slots[k].Pt, -1) }},
				{"no Pt", func(a *impl.Arrays) { a.Slots[k].Pt = nil }},
				{"an Fd too few", func(a *impl.Arrays) { a.Slots[k].Fds = a.Slots[k].Fds[:3] }},
				{"an Fd too many", func(a *impl.Arrays) { a.Slots[k].Fds = append(a.Slots[k].Fds, -1) }},
				{"no Fds", func(a *impl.Arrays) { a.Slots[k].Fds = nil }},
			})
		}
	}
}

func TestArraysOfRingsOutOfBounds(t *testing.T) {
	ringed := func(at int, size int, r func(a *impl.Arrays) *impl.ARing) []arraysChange {
		name := fmt.Sprintf("ring %d: ", at)
		l := []arraysChange{
			{name + "a word of Buf too few", func(a *impl.Arrays) { r(a).Buf = r(a).Buf[:size-1] }},
			{name + "a word of Buf too many", func(a *impl.Arrays) { r(a).Buf = append(r(a).Buf, 0) }},
			{name + "no Buf", func(a *impl.Arrays) { r(a).Buf = nil }},
		}
		for _, head := range []int{-1, size, size + 1, -size, math.MinInt, math.MaxInt} {
			l = append(l, arraysChange{name + fmt.Sprint("Head ", head), func(a *impl.Arrays) { r(a).Head = head }})
		}
		for _, n := range []int{-1, size + 1, 2 * size, math.MinInt, math.MaxInt} {
			l = append(l, arraysChange{name + fmt.Sprint("Len ", n), func(a *impl.Arrays) { r(a).Len = n }})
		}
		return l
	}
	for _, from := range bases(t) {
		for k := range 3 {
			shapeless(t, from, ringed(k, 4, func(a *impl.Arrays) *impl.ARing { return &a.Pipes[k] }))
		}
		shapeless(t, from, ringed(3, 6, func(a *impl.Arrays) *impl.ARing { return &a.Ready }))
	}
}

// onlyWhere are changes of those of a kernel's slots that are not Used.
func onlyWhere(k int, used bool, l []arraysChange) []arraysChange {
	if used {
		return nil
	}
	for at := range l {
		l[at].name = fmt.Sprintf("%s (%d)", l[at].name, k)
	}
	return l
}

func TestArraysOfSlotsThatAreNotUsed(t *testing.T) {
	for _, from := range bases(t)[1:4] {
		for k, s := range from().Slots {
			for _, n := range []int{1, -1} {
				shapeless(t, from, onlyWhere(k, s.Used, []arraysChange{
					{"a Pid", func(a *impl.Arrays) { a.Slots[k].Pid = n }},
					{"a Parent", func(a *impl.Arrays) { a.Slots[k].Parent = n }},
					{"a State", func(a *impl.Arrays) { a.Slots[k].State = n }},
					{"a Prog", func(a *impl.Arrays) { a.Slots[k].Prog = n }},
					{"a Pc", func(a *impl.Arrays) { a.Slots[k].Pc = n }},
					{"an Until", func(a *impl.Arrays) { a.Slots[k].Until = n }},
					{"a Code", func(a *impl.Arrays) { a.Slots[k].Code = n }},
				}))
			}
			for at := range 4 {
				shapeless(t, from, onlyWhere(k, s.Used, []arraysChange{
					{"a register", func(a *impl.Arrays) { a.Slots[k].Regs[at] = 1 }},
					{"a frame that is somebody's", func(a *impl.Arrays) { a.Slots[k].Pt[at%3] = 0 }},
					{"a frame", func(a *impl.Arrays) { a.Slots[k].Pt[at%3] = 15 }},
					{"no frame", func(a *impl.Arrays) { a.Slots[k].Pt[at%3] = -2 }},
					{"an Fd", func(a *impl.Arrays) { a.Slots[k].Fds[at] = 0 }},
					{"no Fd", func(a *impl.Arrays) { a.Slots[k].Fds[at] = -2 }},
				}))
			}
		}
	}
}

func TestArraysOfWhatElseIsNotUsed(t *testing.T) {
	for _, from := range bases(t)[:4] {
		for k, o := range from().Opens {
			for _, n := range []int{1, -1} {
				shapeless(t, from, onlyWhere(k, o.Used, []arraysChange{
					{"a Kind", func(a *impl.Arrays) { a.Opens[k].Kind = n }},
					{"a Target", func(a *impl.Arrays) { a.Opens[k].Target = n }},
					{"an Off", func(a *impl.Arrays) { a.Opens[k].Off = n }},
					{"Refs", func(a *impl.Arrays) { a.Opens[k].Refs = n }},
				}))
			}
		}
		for k, r := range from().Pipes {
			shapeless(t, from, onlyWhere(k, r.Used, []arraysChange{
				{"a Head", func(a *impl.Arrays) { a.Pipes[k].Head = 1 }},
				{"the last Head", func(a *impl.Arrays) { a.Pipes[k].Head = 3 }},
				{"a Len", func(a *impl.Arrays) { a.Pipes[k].Len = 1 }},
				{"the greatest Len", func(a *impl.Arrays) { a.Pipes[k].Len = 4 }},
			}))
		}
		for k, f := range from().Files {
			shapeless(t, from, onlyWhere(k, f.Used, []arraysChange{
				{"a word", func(a *impl.Arrays) { a.Files[k].Data = []int{0} }},
				{"words", func(a *impl.Arrays) { a.Files[k].Data = words(8) }},
			}))
		}
	}
}

// TestArraysOfWhatIsUsedNoMore leaves all as it is of what was Used.
func TestArraysOfWhatIsUsedNoMore(t *testing.T) {
	for k := range 6 {
		shapeless(t, scattered, []arraysChange{{"a slot", func(a *impl.Arrays) { a.Slots[k].Used = false }}})
	}
	for _, k := range []int{0, 1, 2, 4, 6, 7} {
		shapeless(t, scattered, []arraysChange{{"an Open", func(a *impl.Arrays) { a.Opens[k].Used = false }}})
	}
	shapeless(t, scattered, []arraysChange{
		{"an empty pipe with a Head", func(a *impl.Arrays) { a.Pipes[0].Used = false }},
		{"a full pipe", func(a *impl.Arrays) { a.Pipes[2].Used = false }},
		{"a full pipe with Head 0", func(a *impl.Arrays) { a.Pipes[2].Used, a.Pipes[2].Head = false, 0 }},
		{"a file", func(a *impl.Arrays) { a.Files[1].Used = false }},
	})
	a := scattered()
	a.Files[4].Used = false
	want := busy()
	want.Files = want.Files[:1]
	arraysAre(t, "a file without words", a, want, true)
}

// notOk wants a kernel that is AOk to be so no longer by a change, and to be
// that of the Unix in which this has changed.
func notOk(t *testing.T, name string, do func(a *impl.Arrays), want func(u *impl.Unix)) {
	t.Helper()
	arraysAre(t, "scattered", scattered(), busy(), true)
	a, u := scattered(), busy()
	do(&a)
	want(&u)
	arraysAre(t, name, a, u, false)
}

// TestArraysOfPagesThatAreWrong is of 4, in frames 3, 2 and 1, of 2, in 9 and 0,
// and of 1, in frame 4.
func TestArraysOfPagesThatAreWrong(t *testing.T) {
	ofFour := func(pages int) func(u *impl.Unix) {
		return func(u *impl.Unix) { u.Procs[2].Mem = u.Procs[2].Mem[:4*pages] }
	}
	notOk(t, "a hole", func(a *impl.Arrays) { a.Slots[5].Pt[1], a.Map[2] = -1, false }, ofFour(1))
	notOk(t, "a hole of a frame that is set", func(a *impl.Arrays) { a.Slots[5].Pt[1] = -1 }, ofFour(1))
	notOk(t, "a hole, and what is behind it is not set", func(a *impl.Arrays) { a.Slots[5].Pt[1], a.Map[2], a.Map[1] = -1, false, false }, ofFour(1))
	notOk(t, "a hole at the beginning", func(a *impl.Arrays) { a.Slots[5].Pt[0], a.Map[3] = -1, false }, ofFour(0))
	notOk(t, "a frame behind all", func(a *impl.Arrays) { a.Slots[3].Pt[2], a.Map[14] = 14, true }, asItIs)
	notOk(t, "a frame of a zombie, behind a hole", func(a *impl.Arrays) { a.Slots[1].Pt[1], a.Map[14] = 14, true }, asItIs)
	for _, f := range append(noFrames()[1:], -3) {
		name := fmt.Sprint("no frame but ", f)
		notOk(t, name+" behind all", func(a *impl.Arrays) { a.Slots[3].Pt[1] = f }, asItIs)
		notOk(t, name+" at the end", func(a *impl.Arrays) { a.Slots[3].Pt[2] = f }, asItIs)
		notOk(t, name+" instead of the last one", func(a *impl.Arrays) { a.Slots[5].Pt[2], a.Map[1] = f, false }, ofFour(2))
		notOk(t, name+" between two", func(a *impl.Arrays) { a.Slots[5].Pt[1], a.Map[2] = f, false }, ofFour(1))
		notOk(t, name+" ahead of all", func(a *impl.Arrays) { a.Slots[5].Pt[0], a.Map[3] = f, false }, ofFour(0))
		notOk(t, name+" of a zombie", func(a *impl.Arrays) { a.Slots[1].Pt[0] = f }, asItIs)
	}
	notOk(t, "a frame twice in one Pt", func(a *impl.Arrays) { a.Slots[2].Pt, a.Map[0] = []int{9, 9, -1}, false }, func(u *impl.Unix) {
		u.Procs[1].Mem = []int{1, 2, 3, 4, 1, 2, 3, 4}
	})
	notOk(t, "a frame twice, one more", func(a *impl.Arrays) { a.Slots[2].Pt[2] = 9 }, func(u *impl.Unix) {
		u.Procs[1].Mem = append(u.Procs[1].Mem, 1, 2, 3, 4)
	})
	notOk(t, "a frame of two", func(a *impl.Arrays) { a.Slots[3].Pt[0], a.Map[4] = 9, false }, func(u *impl.Unix) {
		u.Procs[0].Mem = []int{1, 2, 3, 4}
	})
	notOk(t, "a frame of two, one more", func(a *impl.Arrays) { a.Slots[3].Pt[1] = 9 }, func(u *impl.Unix) {
		u.Procs[0].Mem = []int{0, 0, 0, 0, 1, 2, 3, 4}
	})
}

func TestArraysOfAMapThatIsWrong(t *testing.T) {
	for f := range 16 {
		notOk(t, fmt.Sprint("flag ", f), func(a *impl.Arrays) { a.Map[f] = !a.Map[f] }, func(u *impl.Unix) {})
	}
	notOk(t, "all set", func(a *impl.Arrays) { a.Map = flags(16, true) }, asItIs)
	notOk(t, "none set", func(a *impl.Arrays) { a.Map = flags(16, false) }, asItIs)
	notOk(t, "as many others", func(a *impl.Arrays) { a.Map[4], a.Map[5] = false, true }, asItIs)
	full := arraysOf(t, allFull())
	for f := range 16 {
		a := fresh(full)
		a.Map[f] = false
		arraysAre(t, "one of all is not set", a, allFull(), false)
	}
}

// TestArraysOfAUnixThatIsNotRight has their shape, and is told, but is not AOk.
func TestArraysOfAUnixThatIsNotRight(t *testing.T) {
	notOk(t, "Next 0", func(a *impl.Arrays) { a.Next = 0 }, func(u *impl.Unix) { u.Next = 0 })
	notOk(t, "Next is a Pid", func(a *impl.Arrays) { a.Next = 8 }, func(u *impl.Unix) { u.Next = 8 })
	notOk(t, "Tick -1", func(a *impl.Arrays) { a.Tick = -1 }, func(u *impl.Unix) { u.Tick = -1 })
	notOk(t, "no programs", func(a *impl.Arrays) { a.Progs = nil }, func(u *impl.Unix) { u.Progs = nil })
	notOk(t, "a wrong program", func(a *impl.Arrays) { a.Progs[1] = make([]impl.Ins, 1) }, func(u *impl.Unix) { u.Progs[1] = make([]impl.Ins, 1) })
	notOk(t, "too long an Out", func(a *impl.Arrays) { a.Out = words(61) }, func(u *impl.Unix) { u.Out = words(61) })
	notOk(t, "no word in Out", func(a *impl.Arrays) { a.Out[1] = -1000001 }, func(u *impl.Unix) { u.Out[1] = -1000001 })
	notOk(t, "no State", func(a *impl.Arrays) { a.Slots[2].State = 7 }, func(u *impl.Unix) { u.Procs[1].State = 7 })
	notOk(t, "a Pid twice", func(a *impl.Arrays) { a.Slots[4].Pid = 4 }, func(u *impl.Unix) {
		u.Procs[3].Pid = 4
		u.Procs[2], u.Procs[3] = u.Procs[3], u.Procs[2]
	})
	notOk(t, "a Parent that is not there", func(a *impl.Arrays) { a.Slots[4].Parent = 3 }, func(u *impl.Unix) { u.Procs[3].Parent = 3 })
	notOk(t, "no page", func(a *impl.Arrays) { a.Slots[3].Pt[0], a.Map[4] = -1, false }, func(u *impl.Unix) { u.Procs[0].Mem = nil })
	notOk(t, "a page of a zombie", func(a *impl.Arrays) { a.Slots[1].Pt[0], a.Map[10] = 10, true }, func(u *impl.Unix) {
		u.Procs[5].Mem = slices.Repeat([]int{math.MinInt}, 4)
	})
	notOk(t, "no word in a Mem", func(a *impl.Arrays) { a.Ram[37] = 1000001 }, func(u *impl.Unix) { u.Procs[1].Mem[1] = 1000001 })
	notOk(t, "no Cpu", func(a *impl.Arrays) { a.Slots[0].Pc = 41 }, func(u *impl.Unix) { u.Procs[4].Cpu.Pc = 41 })
	notOk(t, "no register", func(a *impl.Arrays) { a.Slots[0].Regs[3] = 1000001 }, func(u *impl.Unix) { u.Procs[4].Cpu.Regs[3] = 1000001 })
	notOk(t, "too few Refs", func(a *impl.Arrays) { a.Opens[7].Refs = 1 }, func(u *impl.Unix) { u.Opens[5].Refs = 1 })
	notOk(t, "an Open of nothing", func(a *impl.Arrays) { a.Opens[3].Used = true }, func(u *impl.Unix) {
		u.Opens = slices.Insert(u.Opens, 3, impl.Open{Id: 3})
	})
	notOk(t, "an Fd that is not open", func(a *impl.Arrays) { a.Slots[3].Fds[3] = 5 }, func(u *impl.Unix) { u.Procs[0].Fds[3] = 5 })
	notOk(t, "a pipe with no end", func(a *impl.Arrays) { a.Pipes[1].Used = true }, func(u *impl.Unix) {
		u.Pipes = slices.Insert(u.Pipes, 1, impl.Pipe{Id: 1})
	})
	notOk(t, "no word in a pipe", func(a *impl.Arrays) { a.Pipes[2].Buf[1] = 1000001 }, func(u *impl.Unix) { u.Pipes[1].Data[3] = 1000001 })
	notOk(t, "too long a file", func(a *impl.Arrays) { a.Files[4].Data = words(9) }, func(u *impl.Unix) { u.Files[1].Data = words(9) })
	notOk(t, "a file shorter than Off", func(a *impl.Arrays) { a.Files[1].Data = words(1) }, func(u *impl.Unix) { u.Files[0].Data = words(1) })
	notOk(t, "nobody ready", func(a *impl.Arrays) { a.Ready.Len = 0 }, func(u *impl.Unix) { u.Ready = nil })
	notOk(t, "another one ready", func(a *impl.Arrays) { a.Ready.Head = 4 }, func(u *impl.Unix) { u.Ready = []int{7} })
	notOk(t, "ready twice", func(a *impl.Arrays) { a.Ready.Len, a.Ready.Buf[0] = 2, 2 }, func(u *impl.Unix) { u.Ready = []int{2, 2} })
}

// TestArraysAreAsSaid turns each number and flag of kernels of many kinds.
func TestArraysAreAsSaid(t *testing.T) {
	t.Parallel()
	ok, told, nothing := 0, 0, 0
	for _, from := range append(bases(t), func() impl.Arrays { return arraysOf(t, lastPlaces()) }) {
		eachTurned(t, from(), func(a impl.Arrays) {
			arraysAreAsSaid(t, a)
			switch {
			case impl.AOk(a):
				ok++
			case shapeSaid(a):
				told++
			default:
				nothing++
			}
			if (ok+told+nothing)%29 == 0 {
				absOf(t, a)
				aOkOf(t, a)
			}
		})
	}
	if ok < 1000 || told < 1000 || nothing < 1000 {
		t.Errorf("of all that was turned %d are AOk, %d have their shape alone, %d have it not", ok, told, nothing)
	}
}

// TestWhatAbsATellsIsNotKept changes what was told, and asks again.
func TestWhatAbsATellsIsNotKept(t *testing.T) {
	a := scattered()
	first := impl.AbsA(a)
	for _, n := range numbersOf(reflect.ValueOf(&first).Elem()) {
		n.SetInt(55)
	}
	if arraysAre(t, "behind a change of what was told", a, busy(), true); !alike(a, scattered()) {
		t.Errorf("a change of what was told changes the kernel: %+v", a)
	}
	one := withRoom(ends())
	a.Progs = [][]impl.Ins{one, one, one}
	if u := impl.AbsA(a); !sharesNone(u, a, one) {
		t.Error("programs that are one list are one list in the answer, too")
	}
}
