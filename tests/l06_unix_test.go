package tests

import (
	"math"
	"reflect"
	"slices"
	"testing"

	"loop.example/g00781/impl"
)

// ends are a program whose process ends at once.
func ends() []impl.Ins { return []impl.Ins{{Op: impl.InSys, A: 1}} }

// empty is a right Unix without a process.
func empty() impl.Unix { return impl.Unix{Next: 1, Progs: [][]impl.Ins{ends()}} }

func booted() impl.Unix {
	return impl.Unix{
		Next:  2,
		Progs: [][]impl.Ins{ends()},
		Procs: []impl.Proc{{Pid: 1, State: 1, Cpu: cpuAt(0, 0, 0, 0, 0), Mem: []int{0, 0, 0, 0}, Fds: []int{0, 0, -1, -1}}},
		Opens: []impl.Open{{Kind: 1, Refs: 2}},
		Ready: []int{1},
	}
}

// busy is a right Unix, and Sound, with a process in each state: 1 waits, 2
// is ready, 4 sleeps, 5 reads the empty pipe 0, 7 writes into the full pipe
// 2, 8 is a zombie and a child of 2. Pids, Ids and Names have gaps.
func busy() impl.Unix {
	return impl.Unix{
		Next:  9,
		Tick:  5,
		Progs: [][]impl.Ins{ends(), nil, {{Op: impl.InSet, A: 1, B: -1000000}, {Op: impl.InJump, A: 40}}},
		Procs: []impl.Proc{
			{Pid: 1, State: impl.PsWait, Prog: 2, Cpu: cpuAt(3, 0, 0, 0, 0), Mem: make([]int, 4), Fds: []int{0, 0, -1, -1}},
			{Pid: 2, Parent: 1, State: impl.PsReady, Cpu: cpuAt(40, 1, -1, 1000000, -1000000), Mem: []int{1, 2, 3, 4, -1000000, 1000000, 0, 7}, Fds: []int{0, 2, 4, -1}},
			{Pid: 4, Parent: 2, State: impl.PsSleep, Prog: 1, Cpu: cpuAt(1, 2, 3, 4, 5), Mem: make([]int, 12), Fds: []int{-1, 7, -1, 7}, Until: 6},
			{Pid: 5, Parent: 1, State: impl.PsRead, Cpu: cpuAt(0, 2, 0, 0, 0), Mem: make([]int, 4), Fds: []int{0, 0, 1, -1}, Until: 1},
			{Pid: 7, State: impl.PsWrite, Cpu: cpuAt(0, 3, 9, 0, 0), Mem: make([]int, 4), Fds: []int{0, -1, -1, 6}, Until: 6},
			{Pid: 8, Parent: 2, State: impl.PsZombie, Prog: 1, Cpu: cpuAt(9, -1, 0, 0, 0), Fds: []int{-1, -1, -1, -1}, Code: -7},
		},
		Opens: []impl.Open{
			{Id: 0, Kind: impl.OpCon, Refs: 6},
			{Id: 1, Kind: impl.OpIn, Target: 0, Refs: 1},
			{Id: 2, Kind: impl.OpOut, Target: 0, Refs: 1},
			{Id: 4, Kind: impl.OpIn, Target: 2, Refs: 1},
			{Id: 6, Kind: impl.OpOut, Target: 2, Refs: 1},
			{Id: 7, Kind: impl.OpFile, Target: 1, Off: 2, Refs: 2},
		},
		Pipes: []impl.Pipe{{Id: 0}, {Id: 2, Data: []int{5, 1000000, -1000000, 8}}},
		Files: []impl.File{{Name: 1, Data: []int{11, 12, 13}}, {Name: 4}},
		Ready: []int{2},
		Out:   []int{3, -1000000, 1000000},
	}
}

// crowd is a right Unix but for too many pages or processes: a process for
// each number of pages, with nothing open, all of them ready.
func crowd(pages ...int) impl.Unix {
	u := empty()
	for k, n := range pages {
		u.Next = k + 2
		u.Procs = append(u.Procs, impl.Proc{Pid: k + 1, State: impl.PsReady, Cpu: cpuAt(0, 0, 0, 0, 0), Mem: make([]int, 4*n), Fds: []int{-1, -1, -1, -1}})
		u.Ready = append(u.Ready, k+1)
	}
	return u
}

// opened is a right Unix with n Opens, all of the console, at most four to a
// process.
func opened(n int) impl.Unix {
	u := crowd(1, 1, 1)
	for k := range n {
		u.Opens = append(u.Opens, impl.Open{Id: k, Kind: impl.OpCon, Refs: 1})
		u.Procs[k/4].Fds[k%4] = k
	}
	return u
}

// piped is a right Unix with n pipes, one end open of each.
func piped(n int) impl.Unix {
	u := opened(n)
	for k := range n {
		u.Opens[k] = impl.Open{Id: k, Kind: impl.OpIn + k%2, Target: k, Refs: 1}
		u.Pipes = append(u.Pipes, impl.Pipe{Id: k})
	}
	return u
}

func filed(n int) impl.Unix {
	u := booted()
	for k := range n {
		u.Files = append(u.Files, impl.File{Name: k, Data: []int{k}})
	}
	return u
}

// words are n of them, from the least to the greatest one.
func words(n int) []int {
	l := make([]int, n)
	for k := range l {
		l[k] = []int{-1000000, 1000000, 0, k}[k%4]
	}
	return l
}

// changed is a Unix with a change of it.
func changed(u impl.Unix, change func(u *impl.Unix)) impl.Unix {
	change(&u)
	return u
}

// unixOk is UnixOk, which may not write into what it is handed.
func unixOk(t *testing.T, u impl.Unix) bool {
	t.Helper()
	given := withRoom(u)
	ok := impl.UnixOk(given)
	if !alike(given, u) || !marked(given) {
		t.Errorf("UnixOk writes into what it is handed: %+v became %+v", u, given)
	}
	return ok
}

// change is one change, and what it comes to.
type change struct {
	name string
	do   func(u *impl.Unix)
}

func allRight(t *testing.T, from func() impl.Unix, l []change) {
	t.Helper()
	if !unixOk(t, from()) {
		t.Fatalf("not right: %+v", from())
	}
	for _, c := range l {
		if u := changed(from(), c.do); !unixOk(t, u) || !unixSaid(u) {
			t.Errorf("%s: not right: %+v", c.name, u)
		}
	}
}

// allWrong wants a Unix that is right to be no longer so by each change.
func allWrong(t *testing.T, from func() impl.Unix, l []change) {
	t.Helper()
	if !unixOk(t, from()) {
		t.Fatalf("not right: %+v", from())
	}
	for _, c := range l {
		u := changed(from(), c.do)
		if unixOk(t, u) || unixSaid(u) {
			t.Errorf("%s: taken as right: %+v", c.name, u)
		}
		nothingComes(t, c.name, u)
		noStepComes(t, c.name, u)
		nothingHolds(t, c.name, u)
		nothingLoads(t, c.name, u)
		noNodesLoad(t, c.name, u)
	}
}

func wordsSaid(l []int) bool {
	return !slices.ContainsFunc(l, func(n int) bool { return n < -1000000 || n > 1000000 })
}

// unixSaid tells whether a Unix is right, in the document's own words.
func unixSaid(u impl.Unix) bool {
	if u.Next < 1 || u.Next > 100000 || u.Tick < 0 || u.Tick > 1000000 || len(u.Progs) < 1 || len(u.Progs) > 4 || len(u.Out) > 60 || !wordsSaid(u.Out) {
		return false
	}
	for _, p := range u.Progs {
		if !impl.ProgOk(p) {
			return false
		}
	}
	var ready []int
	pages := 0
	for k, p := range u.Procs {
		if p.Pid < 1 || p.Pid > u.Next-1 || k > 0 && p.Pid <= u.Procs[k-1].Pid || !procSaid(u, p) {
			return false
		}
		if p.State == 1 {
			ready = append(ready, p.Pid)
		}
		pages += len(p.Mem) / 4
	}
	sorted := slices.Sorted(slices.Values(u.Ready))
	return len(u.Procs) <= 6 && pages <= 16 && slices.Equal(sorted, ready) && opensSaid(u) && dataSaid(u)
}

func procSaid(u impl.Unix, p impl.Proc) bool {
	isOpen := func(id int) bool {
		return slices.ContainsFunc(u.Opens, func(o impl.Open) bool { return o.Id == id })
	}
	parents := slices.ContainsFunc(u.Procs, func(q impl.Proc) bool { return q.Pid == p.Parent && q.Pid != p.Pid && q.State != 6 })
	if p.Parent != 0 && !parents || p.State < 1 || p.State > 6 || p.Prog < 0 || p.Prog >= len(u.Progs) || !impl.CpuOk(p.Cpu) {
		return false
	}
	if len(p.Mem) > 12 || len(p.Mem)%4 != 0 || !wordsSaid(p.Mem) || len(p.Fds) != 4 || !wordsSaid([]int{p.Code}) {
		return false
	}
	closed := 0
	for _, id := range p.Fds {
		if id == -1 {
			closed++
		} else if !isOpen(id) {
			return false
		}
	}
	until := p.Until == 0
	if p.State == 2 {
		until = p.Until > u.Tick
	} else if p.State == 4 || p.State == 5 {
		until = isOpen(p.Until)
	}
	if p.State == 6 {
		return until && len(p.Mem) == 0 && closed == 4 && p.Parent != 0
	}
	return until && len(p.Mem) >= 4 && p.Code == 0
}

func opensSaid(u impl.Unix) bool {
	for k, o := range u.Opens {
		refs := 0
		for _, p := range u.Procs {
			for _, id := range p.Fds {
				if id == o.Id {
					refs++
				}
			}
		}
		if o.Id < 0 || o.Id > 7 || k > 0 && o.Id <= u.Opens[k-1].Id || o.Refs != refs || refs == 0 {
			return false
		}
		there := false
		switch o.Kind {
		case 1:
			there = o.Target == 0 && o.Off == 0
		case 2:
			for _, f := range u.Files {
				there = there || f.Name == o.Target && o.Off >= 0 && o.Off <= len(f.Data)
			}
		case 3, 4:
			for _, p := range u.Pipes {
				there = there || p.Id == o.Target && o.Off == 0
			}
		}
		if !there {
			return false
		}
	}
	return len(u.Opens) <= 8
}

func dataSaid(u impl.Unix) bool {
	for k, p := range u.Pipes {
		ended := slices.ContainsFunc(u.Opens, func(o impl.Open) bool { return o.Kind >= 3 && o.Target == p.Id })
		if p.Id < 0 || p.Id > 2 || k > 0 && p.Id <= u.Pipes[k-1].Id || len(p.Data) > 4 || !wordsSaid(p.Data) || !ended {
			return false
		}
	}
	for k, f := range u.Files {
		if f.Name < 0 || f.Name > 5 || k > 0 && f.Name <= u.Files[k-1].Name || len(f.Data) > 8 || !wordsSaid(f.Data) {
			return false
		}
	}
	return len(u.Pipes) <= 3 && len(u.Files) <= 6
}

// soundSaid tells whether a Unix is Sound, in the document's own words.
func soundSaid(u impl.Unix) bool {
	for _, p := range u.Procs {
		children, zombies := 0, 0
		for _, q := range u.Procs {
			if q.Parent == p.Pid {
				children++
				if q.State == impl.PsZombie {
					zombies++
				}
			}
		}
		switch p.State {
		case impl.PsWait:
			if children == 0 || zombies > 0 {
				return false
			}
		case impl.PsRead:
			if !blockedSaid(u, p, impl.OpIn, impl.OpOut, 0) {
				return false
			}
		case impl.PsWrite:
			if !blockedSaid(u, p, impl.OpOut, impl.OpIn, 4) {
				return false
			}
		case impl.PsZombie:
			if zombies > 0 {
				return false
			}
		}
	}
	return unixSaid(u)
}

// blockedSaid tells whether a process rightly waits at its end of a pipe that
// has so many Data, and whose other end is there.
func blockedSaid(u impl.Unix, p impl.Proc, end int, other int, data int) bool {
	for _, o := range u.Opens {
		if o.Id != p.Until || o.Kind != end || !slices.Contains(p.Fds, o.Id) {
			continue
		}
		full := slices.ContainsFunc(u.Pipes, func(q impl.Pipe) bool { return q.Id == o.Target && len(q.Data) == data })
		return full && slices.ContainsFunc(u.Opens, func(q impl.Open) bool { return q.Kind == other && q.Target == o.Target })
	}
	return false
}

func TestUnixNumbers(t *testing.T) {
	got := []int{
		impl.MaxProcs, impl.MaxFds, impl.MaxOpen, impl.MaxPipes, impl.PipeCap, impl.PageWords, impl.MaxPages,
		impl.Frames, impl.MaxNames, impl.MaxFile, impl.MaxPid, impl.MaxTick, impl.MaxOut, impl.MaxProgs,
	}
	if want := []int{6, 4, 8, 3, 4, 4, 3, 16, 6, 8, 100000, 1000000, 60, 4}; !slices.Equal(got, want) {
		t.Error("the limits are", got)
	}
	states := []int{impl.PsReady, impl.PsSleep, impl.PsWait, impl.PsRead, impl.PsWrite, impl.PsZombie}
	kinds := []int{impl.OpCon, impl.OpFile, impl.OpIn, impl.OpOut}
	if !slices.Equal(states, []int{1, 2, 3, 4, 5, 6}) || !slices.Equal(kinds, []int{1, 2, 3, 4}) {
		t.Error("the states and kinds are", states, kinds)
	}
}

// bootsRight are lists of right programs that Boot takes.
func bootsRight() [][][]impl.Ins {
	l := [][][]impl.Ins{{nil}, {{}}, {{}, nil, {}, nil}, {ends()}}
	all := progsRight()
	for k := range all {
		for n := 1; n <= impl.MaxProgs; n++ {
			var progs [][]impl.Ins
			for j := range n {
				progs = append(progs, all[(k+17*j)%len(all)])
			}
			l = append(l, progs)
		}
	}
	return l
}

func TestBootMakes(t *testing.T) {
	for _, progs := range bootsRight() {
		given := withRoom(progs)
		u, ok := impl.Boot(given)
		want := booted()
		want.Progs = progs
		if !ok || !alike(u, want) {
			t.Fatalf("Boot(%v) = %+v, %v", progs, u, ok)
		}
		if !alike(given, progs) || !marked(given) {
			t.Fatalf("Boot writes into what it is handed: %v became %v", progs, given)
		}
		if !sharesNone(u, given) {
			t.Fatalf("Boot(%v) shares memory", progs)
		}
	}
}

// TestBootPromise holds promise 6.
func TestBootPromise(t *testing.T) {
	for _, progs := range bootsRight() {
		u, ok := impl.Boot(progs)
		if !ok || !unixOk(t, u) || !unixSaid(u) || !soundSaid(u) || len(u.Procs) != 1 || len(u.Out) != 0 {
			t.Fatalf("Boot(%v) = %+v, %v", progs, u, ok)
		}
	}
}

func TestBootSharesNothing(t *testing.T) {
	one := withRoom(ends())
	progs := withRoom([][]impl.Ins{nil, nil, nil, nil})
	for k := range progs {
		progs[k] = one
	}
	u, _ := impl.Boot(progs)
	if !sharesNone(u, progs, one) {
		t.Error("programs that are one list are one list in the answer, too")
	}
	for _, n := range numbersOf(reflect.ValueOf(&u).Elem()) {
		n.SetInt(55)
	}
	if !alike(one, ends()) || !marked(one) {
		t.Error("a change of the answer changes the argument:", one)
	}
	if again, ok := impl.Boot(progs); !ok || !impl.UnixOk(again) || again.Procs[0].Pid != 1 || !sharesNone(again, u) {
		t.Errorf("behind a change of what it answered first Boot answers %+v, %v", again, ok)
	}
}

// bootsWrong are lists that are not 1 to MaxProgs right programs.
func bootsWrong() [][][]impl.Ins {
	long := yields(impl.MaxProg + 1)
	l := [][][]impl.Ins{nil, {}, {ends(), ends(), ends(), ends(), ends()}, make([][]impl.Ins, 5), make([][]impl.Ins, 1000)}
	for n := 1; n <= impl.MaxProgs; n++ {
		for at := range n {
			for _, bad := range [][]impl.Ins{long, {{}}, {{Op: 9}}, {{Op: impl.InSys, A: 21}}, append(ends(), impl.Ins{Op: impl.InSet, A: 4})} {
				progs := slices.Repeat([][]impl.Ins{ends()}, n)
				progs[at] = bad
				l = append(l, progs)
			}
		}
	}
	return l
}

func TestBootRefuses(t *testing.T) {
	for _, progs := range bootsWrong() {
		given := withRoom(progs)
		if u, ok := impl.Boot(given); ok || !alike(u, impl.Unix{}) {
			t.Errorf("Boot(%v) = %+v, %v", progs, u, ok)
		}
		if !alike(given, progs) || !marked(given) {
			t.Errorf("Boot writes into what it is handed: %v became %v", progs, given)
		}
	}
}

func TestUnixOkOfWhatThereMayBe(t *testing.T) {
	for _, u := range []impl.Unix{empty(), booted(), busy(), opened(0), opened(8), piped(3), filed(6), crowd(3, 3, 3, 3, 3, 1), crowd(1)} {
		if !unixOk(t, u) || !unixSaid(u) {
			t.Errorf("not right: %+v", u)
		}
	}
	if !soundSaid(busy()) {
		t.Error("busy is not Sound")
	}
	if unixOk(t, impl.Unix{}) {
		t.Error("the zero Unix is taken as right")
	}
}

func TestUnixOkOfNumbers(t *testing.T) {
	allRight(t, empty, []change{
		{"Next 2", func(u *impl.Unix) { u.Next = 2 }},
		{"Next MaxPid", func(u *impl.Unix) { u.Next = 100000 }},
		{"Tick 1", func(u *impl.Unix) { u.Tick = 1 }},
		{"Tick MaxTick", func(u *impl.Unix) { u.Tick = 1000000 }},
		{"MaxOut words", func(u *impl.Unix) { u.Out = words(60) }},
		{"no word", func(u *impl.Unix) { u.Out = []int{} }},
	})
	allRight(t, busy, []change{
		{"Next MaxPid", func(u *impl.Unix) { u.Next = 100000 }},
		{"the last Pid there may be", func(u *impl.Unix) { u.Next, u.Procs[5].Pid = 100000, 99999 }},
		{"Tick 0", func(u *impl.Unix) { u.Tick = 0 }},
	})
	allWrong(t, empty, []change{
		{"Next 0", func(u *impl.Unix) { u.Next = 0 }},
		{"Next -1", func(u *impl.Unix) { u.Next = -1 }},
		{"Next far below 0", func(u *impl.Unix) { u.Next = math.MinInt }},
		{"Next past MaxPid", func(u *impl.Unix) { u.Next = 100001 }},
		{"Tick -1", func(u *impl.Unix) { u.Tick = -1 }},
		{"Tick past MaxTick", func(u *impl.Unix) { u.Tick = 1000001 }},
		{"a word more than MaxOut", func(u *impl.Unix) { u.Out = words(61) }},
		{"a word below all", func(u *impl.Unix) { u.Out = []int{1, -1000001, 1} }},
		{"a word above all", func(u *impl.Unix) { u.Out = []int{1, 1, 1000001} }},
		{"the last of MaxOut words is none", func(u *impl.Unix) { u.Out = append(words(59), math.MaxInt) }},
	})
	allWrong(t, booted, []change{
		{"Next past MaxPid", func(u *impl.Unix) { u.Next = 100001 }},
		{"Next far below 0", func(u *impl.Unix) { u.Next = math.MinInt }},
	})
}

func TestUnixOkOfPrograms(t *testing.T) {
	for _, from := range []func() impl.Unix{empty, booted} {
		allRight(t, from, []change{
			{"MaxProgs programs", func(u *impl.Unix) { u.Progs = slices.Repeat([][]impl.Ins{ends()}, 4) }},
			{"a program of nothing", func(u *impl.Unix) { u.Progs = [][]impl.Ins{nil} }},
			{"MaxProg instructions", func(u *impl.Unix) { u.Progs = [][]impl.Ins{yields(40)} }},
		})
		allWrong(t, from, []change{
			{"no program", func(u *impl.Unix) { u.Progs = nil }},
			{"an empty list of programs", func(u *impl.Unix) { u.Progs = [][]impl.Ins{} }},
			{"a program more than MaxProgs", func(u *impl.Unix) { u.Progs = slices.Repeat([][]impl.Ins{ends()}, 5) }},
			{"an instruction more than MaxProg", func(u *impl.Unix) { u.Progs[0] = yields(41) }},
			{"an instruction that is none", func(u *impl.Unix) { u.Progs[0] = append(ends(), impl.Ins{}) }},
			{"the last program is not right", func(u *impl.Unix) { u.Progs = [][]impl.Ins{ends(), ends(), ends(), {{Op: 9}}} }},
		})
	}
}

func TestUnixOkOfPids(t *testing.T) {
	allRight(t, busy, []change{
		{"Pids without a gap", func(u *impl.Unix) { u.Procs[4].Pid = 6 }},
	})
	allWrong(t, booted, []change{
		{"Pid 0", func(u *impl.Unix) { u.Procs[0].Pid, u.Ready[0] = 0, 0 }},
		{"Pid -1", func(u *impl.Unix) { u.Procs[0].Pid, u.Ready[0] = -1, -1 }},
		{"Pid Next", func(u *impl.Unix) { u.Next = 1 }},
		{"Pid past Next", func(u *impl.Unix) { u.Procs[0].Pid, u.Ready[0] = 3, 3 }},
	})
	allWrong(t, busy, []change{
		{"the last Pid is Next", func(u *impl.Unix) { u.Next = 8 }},
		{"one Pid twice", func(u *impl.Unix) { u.Procs[4].Pid = 5 }},
		{"two in the wrong order", func(u *impl.Unix) { u.Procs[3], u.Procs[4] = u.Procs[4], u.Procs[3] }},
		{"Pids that fall", func(u *impl.Unix) { slices.Reverse(u.Procs) }},
		{"a process more than MaxProcs", func(u *impl.Unix) {
			u.Next = 10
			u.Procs = append(u.Procs, u.Procs[5])
			u.Procs[6].Pid = 9
		}},
	})
	if u := crowd(1, 1, 1, 1, 1, 1, 1); unixOk(t, u) || unixSaid(u) {
		t.Error("seven processes are taken as right")
	}
}

func TestUnixOkOfParents(t *testing.T) {
	allRight(t, busy, []change{
		{"Parent 0", func(u *impl.Unix) { u.Procs[1].Parent = 0 }},
		{"a Parent of a greater Pid", func(u *impl.Unix) { u.Procs[1].Parent = 7 }},
		{"each the Parent of the other", func(u *impl.Unix) { u.Procs[0].Parent = 2 }},
		{"a zombie is another one's", func(u *impl.Unix) { u.Procs[5].Parent = 7 }},
	})
	for k := range busy().Procs {
		self := busy().Procs[k].Pid
		allWrong(t, busy, []change{
			{"a Parent that is not there", func(u *impl.Unix) { u.Procs[k].Parent = 3 }},
			{"a Parent of Next", func(u *impl.Unix) { u.Procs[k].Parent = 9 }},
			{"Parent -1", func(u *impl.Unix) { u.Procs[k].Parent = -1 }},
			{"its own Parent", func(u *impl.Unix) { u.Procs[k].Parent = self }},
			{"a Parent that is a zombie", func(u *impl.Unix) { u.Procs[k].Parent = 8 }},
		})
	}
}

func TestUnixOkOfStates(t *testing.T) {
	allWrong(t, busy, []change{
		{"State 0", func(u *impl.Unix) { u.Procs[0].State = 0 }},
		{"State 7", func(u *impl.Unix) { u.Procs[0].State = 7 }},
		{"State -1", func(u *impl.Unix) { u.Procs[0].State = -1 }},
		{"State 0 of the ready one", func(u *impl.Unix) { u.Procs[1].State, u.Ready = 0, nil }},
		{"State 7 of what was a zombie", func(u *impl.Unix) { u.Procs[5].State = 7 }},
	})
	for _, k := range []int{0, 1, 2, 3, 4, 5} {
		allRight(t, busy, []change{
			{"the last program", func(u *impl.Unix) { u.Procs[k].Prog = 2 }},
			{"the first program", func(u *impl.Unix) { u.Procs[k].Prog = 0 }},
		})
		allWrong(t, busy, []change{
			{"Prog -1", func(u *impl.Unix) { u.Procs[k].Prog = -1 }},
			{"Prog past the last one", func(u *impl.Unix) { u.Procs[k].Prog = 3 }},
			{"Pc -1", func(u *impl.Unix) { u.Procs[k].Cpu.Pc = -1 }},
			{"Pc 41", func(u *impl.Unix) { u.Procs[k].Cpu.Pc = 41 }},
			{"no Regs", func(u *impl.Unix) { u.Procs[k].Cpu.Regs = nil }},
			{"a register more", func(u *impl.Unix) { u.Procs[k].Cpu.Regs = make([]int, 5) }},
			{"a register past MaxWord", func(u *impl.Unix) { u.Procs[k].Cpu.Regs[3] = 1000001 }},
		})
	}
}

func TestUnixOkOfMemory(t *testing.T) {
	for n := range 20 {
		u := changed(booted(), func(u *impl.Unix) { u.Procs[0].Mem = words(n) })
		if want := n == 4 || n == 8 || n == 12; unixOk(t, u) != want || unixSaid(u) != want {
			t.Errorf("a Mem of %d words is taken as right: %v", n, !want)
		}
	}
	allWrong(t, booted, []change{
		{"a word below all", func(u *impl.Unix) { u.Procs[0].Mem[0] = -1000001 }},
		{"a word above all", func(u *impl.Unix) { u.Procs[0].Mem[3] = 1000001 }},
		{"the last word of three pages is none", func(u *impl.Unix) { u.Procs[0].Mem = append(words(11), math.MinInt) }},
	})
	for _, c := range []struct {
		pages []int
		want  bool
	}{
		{[]int{3, 3, 3, 3, 3, 1}, true}, {[]int{1, 3, 3, 3, 3, 3}, true}, {[]int{2, 2, 3, 3, 3, 3}, true}, {[]int{3, 3, 3, 3, 3}, true},
		{[]int{3, 3, 3, 3, 3, 2}, false}, {[]int{2, 3, 3, 3, 3, 3}, false}, {[]int{3, 3, 3, 3, 3, 3}, false},
	} {
		if u := crowd(c.pages...); unixOk(t, u) != c.want || unixSaid(u) != c.want {
			t.Errorf("pages %v: %v", c.pages, !c.want)
		}
	}
}

func TestUnixOkOfFds(t *testing.T) {
	allRight(t, busy, []change{
		{"another Fd of an Open", func(u *impl.Unix) { u.Procs[4].Fds[1], u.Opens[1].Refs = 1, 2 }},
		{"another Fd of the last Open", func(u *impl.Unix) { u.Procs[4].Fds[1], u.Opens[5].Refs = 7, 3 }},
	})
	for k := range 5 {
		allWrong(t, busy, []change{
			{"a fifth Fd", func(u *impl.Unix) { u.Procs[k].Fds = append(u.Procs[k].Fds, -1) }},
		})
	}
	allWrong(t, busy, []change{
		{"three Fds", func(u *impl.Unix) { u.Procs[1].Fds = u.Procs[1].Fds[:3] }},
		{"three Fds of a zombie", func(u *impl.Unix) { u.Procs[5].Fds = []int{-1, -1, -1} }},
		{"five Fds of a zombie", func(u *impl.Unix) { u.Procs[5].Fds = []int{-1, -1, -1, -1, -1} }},
		{"no Fds of a zombie", func(u *impl.Unix) { u.Procs[5].Fds = nil }},
		{"an Id that is not open", func(u *impl.Unix) { u.Procs[0].Fds[3] = 3 }},
		{"an Id between two that are open", func(u *impl.Unix) { u.Procs[0].Fds[2] = 5 }},
		{"Id MaxOpen", func(u *impl.Unix) { u.Procs[0].Fds[3] = 8 }},
		{"Id -2", func(u *impl.Unix) { u.Procs[0].Fds[3] = -2 }},
	})
	allWrong(t, func() impl.Unix { return crowd(1, 1) }, []change{
		{"no Fds", func(u *impl.Unix) { u.Procs[1].Fds = nil }},
		{"an Fd, and nothing is open", func(u *impl.Unix) { u.Procs[1].Fds[0] = 0 }},
	})
}

func TestUnixOkOfUntil(t *testing.T) {
	allRight(t, busy, []change{
		{"a sleep up to MaxTick", func(u *impl.Unix) { u.Procs[2].Until = 1000000 }},
		{"a sleep past MaxTick", func(u *impl.Unix) { u.Procs[2].Until = 1000001 }},
		{"a sleep in the last Tick", func(u *impl.Unix) { u.Tick, u.Procs[2].Until = 1000000, 1000001 }},
		{"a read of Open 0", func(u *impl.Unix) { u.Procs[3].Until = 0 }},
		{"a read of the last Open", func(u *impl.Unix) { u.Procs[3].Until = 7 }},
		{"a write of another one's Open", func(u *impl.Unix) { u.Procs[4].Until = 2 }},
	})
	allWrong(t, busy, []change{
		{"a sleep until Tick", func(u *impl.Unix) { u.Procs[2].Until = 5 }},
		{"a sleep until 0", func(u *impl.Unix) { u.Procs[2].Until = 0 }},
		{"a sleep until -1", func(u *impl.Unix) { u.Procs[2].Until = -1 }},
	})
	for _, k := range []int{3, 4} {
		for _, id := range []int{-1, 3, 5, 8, 9, 1000} {
			allWrong(t, busy, []change{{"an end that is not open", func(u *impl.Unix) { u.Procs[k].Until = id }}})
		}
	}
	for _, k := range []int{0, 1, 5} {
		for _, until := range []int{-1, 1, 6, 7} {
			allWrong(t, busy, []change{{"Until where nothing is awaited", func(u *impl.Unix) { u.Procs[k].Until = until }}})
		}
	}
	if u := changed(crowd(1), func(u *impl.Unix) { u.Procs[0].State, u.Ready = impl.PsRead, nil }); unixOk(t, u) {
		t.Error("a read where nothing is open is taken as right")
	}
}

func TestUnixOkOfZombies(t *testing.T) {
	allRight(t, busy, []change{
		{"Code 0", func(u *impl.Unix) { u.Procs[5].Code = 0 }},
		{"the least Code", func(u *impl.Unix) { u.Procs[5].Code = -1000000 }},
		{"the greatest Code", func(u *impl.Unix) { u.Procs[5].Code = 1000000 }},
		{"an empty Mem", func(u *impl.Unix) { u.Procs[5].Mem = []int{} }},
	})
	allWrong(t, busy, []change{
		{"a page", func(u *impl.Unix) { u.Procs[5].Mem = make([]int, 4) }},
		{"an Fd", func(u *impl.Unix) { u.Procs[5].Fds[0], u.Opens[0].Refs = 0, 7 }},
		{"the last Fd", func(u *impl.Unix) { u.Procs[5].Fds[3], u.Opens[5].Refs = 7, 3 }},
		{"an Fd that is not open", func(u *impl.Unix) { u.Procs[5].Fds[1] = 3 }},
		{"Parent 0", func(u *impl.Unix) { u.Procs[5].Parent = 0 }},
		{"a Code below all", func(u *impl.Unix) { u.Procs[5].Code = -1000001 }},
		{"a Code above all", func(u *impl.Unix) { u.Procs[5].Code = 1000001 }},
		{"ready", func(u *impl.Unix) { u.Ready = []int{2, 8} }},
	})
	two := func() impl.Unix {
		u := crowd(1, 1, 1)
		for k := 1; k <= 2; k++ {
			u.Procs[k].Parent, u.Procs[k].State, u.Procs[k].Mem = 1, impl.PsZombie, nil
		}
		u.Ready = []int{1}
		return u
	}
	allRight(t, two, nil)
	allWrong(t, two, []change{
		{"one the child of the other one", func(u *impl.Unix) { u.Procs[2].Parent = 2 }},
		{"each the child of the other one", func(u *impl.Unix) { u.Procs[1].Parent, u.Procs[2].Parent = 3, 2 }},
		{"a child of one", func(u *impl.Unix) { u.Procs[0].Parent = 2 }},
	})
	for k := range 5 {
		allWrong(t, busy, []change{
			{"no page of one that is none", func(u *impl.Unix) { u.Procs[k].Mem = nil }},
			{"Code 1 of one that is none", func(u *impl.Unix) { u.Procs[k].Code = 1 }},
			{"Code -1 of one that is none", func(u *impl.Unix) { u.Procs[k].Code = -1 }},
		})
	}
}

func TestUnixOkOfOpens(t *testing.T) {
	allRight(t, busy, []change{
		{"a file at its beginning", func(u *impl.Unix) { u.Opens[5].Off = 0 }},
		{"a file at its end", func(u *impl.Unix) { u.Opens[5].Off = 3 }},
		{"a file of nothing", func(u *impl.Unix) { u.Opens[5].Target, u.Opens[5].Off = 4, 0 }},
		{"a second console", func(u *impl.Unix) { u.Opens[5] = impl.Open{Id: 7, Kind: impl.OpCon, Refs: 2} }},
	})
	for k := range busy().Opens {
		allWrong(t, busy, []change{
			{"Refs too few", func(u *impl.Unix) { u.Opens[k].Refs-- }},
			{"Refs too many", func(u *impl.Unix) { u.Opens[k].Refs++ }},
			{"Refs 0", func(u *impl.Unix) { u.Opens[k].Refs = 0 }},
			{"Refs -1", func(u *impl.Unix) { u.Opens[k].Refs = -1 }},
			{"Kind 0", func(u *impl.Unix) { u.Opens[k].Kind = 0 }},
			{"Kind 5", func(u *impl.Unix) { u.Opens[k].Kind = 5 }},
			{"Off -1", func(u *impl.Unix) { u.Opens[k].Off = -1 }},
			{"Off past all", func(u *impl.Unix) { u.Opens[k].Off = 4 }},
			{"Target -1", func(u *impl.Unix) { u.Opens[k].Target = -1 }},
			{"a Target that is not there", func(u *impl.Unix) { u.Opens[k].Target = 3 }},
		})
	}
	allWrong(t, busy, []change{
		{"a console of Target 1", func(u *impl.Unix) { u.Opens[0].Target = 1 }},
		{"a console of Off 1", func(u *impl.Unix) { u.Opens[0].Off = 1 }},
		{"an OpIn of Off 1", func(u *impl.Unix) { u.Opens[1].Off = 1 }},
		{"an OpOut of Off 1", func(u *impl.Unix) { u.Opens[4].Off = 1 }},
		{"an OpIn of a pipe that is not there", func(u *impl.Unix) { u.Opens[1].Target = 1 }},
		{"an OpOut of a pipe that is not there", func(u *impl.Unix) { u.Opens[4].Target = 1 }},
		{"a file that is not there", func(u *impl.Unix) { u.Opens[5].Target, u.Opens[5].Off = 0, 0 }},
		{"a file shorter than Off", func(u *impl.Unix) { u.Opens[5].Target = 4 }},
		{"a new one that no Fd has", func(u *impl.Unix) { u.Opens = slices.Insert(u.Opens, 3, impl.Open{Id: 3, Kind: impl.OpCon}) }},
		{"a new one with a Ref that no Fd has", func(u *impl.Unix) {
			u.Opens = slices.Insert(u.Opens, 3, impl.Open{Id: 3, Kind: impl.OpCon, Refs: 1})
		}},
	})
}

func TestUnixOkOfIds(t *testing.T) {
	for n := range 9 {
		if u := opened(n); !unixOk(t, u) || !unixSaid(u) {
			t.Errorf("%d Opens are not right", n)
		}
	}
	allRight(t, func() impl.Unix { return opened(1) }, []change{
		{"the last Id", func(u *impl.Unix) { u.Opens[0].Id, u.Procs[0].Fds[0] = 7, 7 }},
	})
	allWrong(t, func() impl.Unix { return opened(1) }, []change{
		{"Id MaxOpen", func(u *impl.Unix) { u.Opens[0].Id, u.Procs[0].Fds[0] = 8, 8 }},
		{"Id -1", func(u *impl.Unix) { u.Opens[0].Id, u.Opens[0].Refs, u.Procs[0].Fds[0] = -1, 12, -1 }},
		{"Id -2", func(u *impl.Unix) { u.Opens[0].Id, u.Procs[0].Fds[0] = -2, -2 }},
	})
	allWrong(t, func() impl.Unix { return opened(8) }, []change{
		{"Ids that fall", func(u *impl.Unix) { slices.Reverse(u.Opens) }},
		{"two in the wrong order", func(u *impl.Unix) { u.Opens[6], u.Opens[7] = u.Opens[7], u.Opens[6] }},
		{"one twice", func(u *impl.Unix) { u.Opens[1], u.Procs[0].Fds[1] = u.Opens[0], -1 }},
		{"an Open more", func(u *impl.Unix) {
			u.Opens = append(u.Opens, impl.Open{Id: 8, Kind: impl.OpCon, Refs: 1})
			u.Procs[2].Fds[0] = 8
		}},
		{"the last one a second time", func(u *impl.Unix) { u.Opens = append(u.Opens, u.Opens[7]) }},
	})
}

func TestUnixOkOfPipes(t *testing.T) {
	for n := range 4 {
		if u := piped(n); !unixOk(t, u) || !unixSaid(u) {
			t.Errorf("%d pipes are not right", n)
		}
	}
	one := func() impl.Unix { return piped(1) }
	allRight(t, one, []change{
		{"PipeCap words", func(u *impl.Unix) { u.Pipes[0].Data = words(4) }},
		{"the last Id", func(u *impl.Unix) { u.Pipes[0].Id, u.Opens[0].Target = 2, 2 }},
		{"only an OpOut", func(u *impl.Unix) { u.Opens[0].Kind = impl.OpOut }},
	})
	allWrong(t, one, []change{
		{"a word more than PipeCap", func(u *impl.Unix) { u.Pipes[0].Data = words(5) }},
		{"a word below all", func(u *impl.Unix) { u.Pipes[0].Data = []int{1, -1000001} }},
		{"a word above all", func(u *impl.Unix) { u.Pipes[0].Data = []int{1000001, 1} }},
		{"Id -1", func(u *impl.Unix) { u.Pipes[0].Id, u.Opens[0].Target = -1, -1 }},
		{"Id MaxPipes", func(u *impl.Unix) { u.Pipes[0].Id, u.Opens[0].Target = 3, 3 }},
		{"no Open of it, but a console", func(u *impl.Unix) { u.Opens[0].Kind = impl.OpCon }},
		{"no Open of it, but of a file of its number", func(u *impl.Unix) { u.Opens[0].Kind, u.Files = impl.OpFile, []impl.File{{}} }},
		{"no Open of a second one", func(u *impl.Unix) { u.Pipes = append(u.Pipes, impl.Pipe{Id: 1}) }},
		{"no Open at all", func(u *impl.Unix) { u.Opens, u.Procs[0].Fds[0] = nil, -1 }},
	})
	allWrong(t, func() impl.Unix { return piped(3) }, []change{
		{"Ids that fall", func(u *impl.Unix) { slices.Reverse(u.Pipes) }},
		{"one twice", func(u *impl.Unix) { u.Pipes[1].Id, u.Opens[1].Target = 0, 0 }},
		{"a pipe more", func(u *impl.Unix) {
			u.Pipes = append(u.Pipes, impl.Pipe{Id: 3})
			u.Opens = append(u.Opens, impl.Open{Id: 3, Kind: impl.OpIn, Target: 3, Refs: 1})
			u.Procs[0].Fds[3] = 3
		}},
		{"the last one a second time", func(u *impl.Unix) { u.Pipes = append(u.Pipes, u.Pipes[2]) }},
	})
}

func TestUnixOkOfFiles(t *testing.T) {
	for n := range 7 {
		if u := filed(n); !unixOk(t, u) || !unixSaid(u) {
			t.Errorf("%d files are not right", n)
		}
	}
	allRight(t, func() impl.Unix { return filed(6) }, []change{
		{"MaxFile words", func(u *impl.Unix) { u.Files[5].Data = words(8) }},
		{"no word", func(u *impl.Unix) { u.Files[0].Data = nil }},
		{"only the last Name", func(u *impl.Unix) { u.Files = u.Files[5:] }},
	})
	allWrong(t, func() impl.Unix { return filed(6) }, []change{
		{"a word more than MaxFile", func(u *impl.Unix) { u.Files[5].Data = words(9) }},
		{"a word below all", func(u *impl.Unix) { u.Files[0].Data = []int{1, -1000001} }},
		{"a word above all", func(u *impl.Unix) { u.Files[5].Data = []int{1000001, 1} }},
		{"Name -1", func(u *impl.Unix) { u.Files[0].Name = -1 }},
		{"Name MaxNames", func(u *impl.Unix) { u.Files[5].Name = 6 }},
		{"Names that fall", func(u *impl.Unix) { slices.Reverse(u.Files) }},
		{"one twice", func(u *impl.Unix) { u.Files[4].Name = 5 }},
		{"a file more", func(u *impl.Unix) { u.Files = append(u.Files, impl.File{Name: 6}) }},
		{"the last one a second time", func(u *impl.Unix) { u.Files = append(u.Files, u.Files[5]) }},
	})
}

func TestUnixOkOfReady(t *testing.T) {
	six := func() impl.Unix { return crowd(1, 1, 1, 1, 1, 1) }
	allRight(t, six, []change{
		{"falling", func(u *impl.Unix) { slices.Reverse(u.Ready) }},
		{"in any order", func(u *impl.Unix) { u.Ready = []int{4, 6, 1, 5, 3, 2} }},
	})
	allWrong(t, six, []change{
		{"the first one lacks", func(u *impl.Unix) { u.Ready = u.Ready[1:] }},
		{"the last one lacks", func(u *impl.Unix) { u.Ready = u.Ready[:5] }},
		{"all lack", func(u *impl.Unix) { u.Ready = nil }},
		{"one twice, and one lacks", func(u *impl.Unix) { u.Ready[5] = 1 }},
		{"one twice", func(u *impl.Unix) { u.Ready = append(u.Ready, 6) }},
		{"0 at the end", func(u *impl.Unix) { u.Ready = append(u.Ready, 0) }},
	})
	for _, pid := range []int{1, 4, 5, 7, 8, 0, 3, 9, -1, math.MaxInt} {
		allWrong(t, busy, []change{
			{"one that is not ready behind", func(u *impl.Unix) { u.Ready = []int{2, pid} }},
			{"one that is not ready ahead", func(u *impl.Unix) { u.Ready = []int{pid, 2} }},
			{"one that is not ready alone", func(u *impl.Unix) { u.Ready = []int{pid} }},
		})
	}
	allWrong(t, empty, []change{{"a Pid without a process", func(u *impl.Unix) { u.Ready = []int{1} }}})
}

// edges are numbers at the ends of whatever a number may be, and past them.
func edges() []int {
	l := []int{math.MinInt, -1000001, -1000000, 99999, 100000, 100001, 999999, 1000000, 1000001, math.MaxInt}
	for n := -3; n <= 14; n++ {
		l = append(l, n)
	}
	return append(l, 20, 21, 39, 40, 41, 77)
}

// eachTurned hands on a value with each of its numbers and flags turned, and
// with one thing taken out of each list or there twice.
func eachTurned[T any](t *testing.T, from T, see func(v T)) {
	t.Helper()
	u := fresh(from)
	for _, n := range numbersOf(reflect.ValueOf(&u).Elem()) {
		was := n.Int()
		for _, turned := range edges() {
			n.SetInt(int64(turned))
			see(u)
		}
		n.SetInt(was)
	}
	for _, flag := range flagsOf(reflect.ValueOf(&u).Elem()) {
		flag.SetBool(!flag.Bool())
		see(u)
		flag.SetBool(!flag.Bool())
	}
	for _, l := range listsOf(reflect.ValueOf(&u).Elem()) {
		was := reflect.ValueOf(l.Interface())
		for k := range was.Len() {
			l.Set(reflect.AppendSlice(reflect.AppendSlice(reflect.MakeSlice(l.Type(), 0, 0), was.Slice(0, k)), was.Slice(k+1, was.Len())))
			see(u)
			l.Set(reflect.AppendSlice(reflect.AppendSlice(reflect.MakeSlice(l.Type(), 0, 0), was.Slice(0, k+1)), was.Slice(k, was.Len())))
			see(u)
		}
		l.Set(was)
	}
	if !alike(u, from) {
		t.Fatal("a turned number was not turned back")
	}
}

func TestUnixOkIsAsSaid(t *testing.T) {
	t.Parallel()
	for _, from := range []impl.Unix{busy(), booted(), opened(8), piped(3), filed(6), crowd(3, 3, 3, 3, 3, 1), crowd(2, 1)} {
		eachTurned(t, from, func(u impl.Unix) {
			if got, want := unixOk(t, u), unixSaid(u); got != want {
				t.Fatalf("UnixOk(%+v) = %v", u, got)
			}
		})
	}
}
