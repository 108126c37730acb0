package tests

import (
	"math"
	"slices"
	"testing"

	"loop.example/g00781/impl"
)

// five is busy without its zombie, so that there is room for one more.
func five() impl.Unix {
	u := busy()
	u.Procs = u.Procs[:5]
	return u
}

// between has Opens, pipes and files with room ahead of, between and behind
// them.
func between() impl.Unix {
	return impl.Unix{
		Next:  1,
		Opens: []impl.Open{{Id: 2, Kind: impl.OpOut, Target: 1, Off: 4, Refs: 5}, {Id: 5, Kind: impl.OpFile, Target: 2, Off: 9, Refs: -1}},
		Pipes: []impl.Pipe{{Id: 1, Data: []int{4, 5}}},
		Files: []impl.File{{Name: 2, Data: []int{6}}, {Name: 4, Data: []int{7, 8}}},
	}
}

// twins is a Unix in which each number is that of two, which are unlike.
func twins() impl.Unix {
	return impl.Unix{
		Next:  -3,
		Tick:  -8,
		Progs: [][]impl.Ins{nil, {{Op: 99}}},
		Procs: []impl.Proc{
			{Pid: 9, Parent: 9, State: 70, Prog: -1, Cpu: cpuAt(-1, 5), Mem: words(7), Fds: []int{3, 3}, Until: -6, Code: 2000000},
			{Pid: 3, State: impl.PsReady, Cpu: cpuAt(1, 1, 1, 1, 1), Mem: words(4), Fds: []int{5, 6, 7, 8, 9}, Code: 3},
			{Pid: 9, State: impl.PsSleep, Cpu: cpuAt(2, 2, 2, 2, 2), Mem: words(8), Fds: []int{1, 2, 3, 4}},
			{Pid: 3, State: impl.PsZombie, Cpu: cpuAt(3, 3, 3, 3, 3)},
		},
		Opens: []impl.Open{{Id: 6, Kind: 1}, {Id: 2, Kind: 9, Target: -4, Off: 8, Refs: 5}, {Id: 6, Kind: 3, Refs: 4}, {Id: 2, Off: 1}, {Id: 40}},
		Pipes: []impl.Pipe{{Id: 1, Data: []int{1, 2}}, {Id: 1, Data: []int{3, 4}}, {Id: 7}},
		Files: []impl.File{{Name: 5, Data: []int{1}}, {Name: 3, Data: []int{2, 3}}, {Name: 5, Data: words(8)}, {Name: 3}},
		Ready: []int{5, 9, 5, 9},
		Out:   []int{5000000},
	}
}

// spoils are changes by which a Unix is right no longer, and that small
// changes do not ask about.
func spoils() []change {
	return []change{
		{"nothing", func(u *impl.Unix) {}},
		{"a word that is none printed", func(u *impl.Unix) { u.Out = append(u.Out, 1000001) }},
		{"a Parent that is not there", func(u *impl.Unix) { u.Procs[4].Parent = -3 }},
		{"a State that is none", func(u *impl.Unix) { u.Procs[4].State = 7 }},
		{"a Prog that is not there", func(u *impl.Unix) { u.Procs[1].Prog = 77 }},
		{"a Code of one that is no zombie", func(u *impl.Unix) { u.Procs[1].Code = 9 }},
		{"a Cpu that is not right", func(u *impl.Unix) { u.Procs[1].Cpu = cpuAt(41, 1) }},
		{"words that are none", func(u *impl.Unix) { u.Procs[1].Mem[1] = math.MaxInt }},
		{"a program that is not right", func(u *impl.Unix) { u.Progs[2][0].Op = 99 }},
		{"Refs too many", func(u *impl.Unix) { u.Opens[0].Refs = 400 }},
		{"an Open without a Kind", func(u *impl.Unix) { u.Opens[5].Kind = 0 }},
		{"Ready has one that is not there", func(u *impl.Unix) { u.Ready = append(u.Ready, 99) }},
		{"a sleeper that should be awake", func(u *impl.Unix) { u.Procs[2].Until = -1 }},
	}
}

// appliedBy is what effects come to by a function, which may neither write into
// what it is handed nor hand out memory of it.
func appliedBy[G, E any](t *testing.T, of func(G, E) (G, bool), u G, e E) (G, bool) {
	t.Helper()
	given, effects := withRoom(u), withRoom(e)
	got, ok := of(given, effects)
	if !alike(given, u) || !alike(effects, e) || !marked(given) || !marked(effects) {
		t.Errorf("it writes into what it is handed: %+v and %+v became %+v and %+v", u, e, given, effects)
	}
	if !sharesNone(got, given, effects) {
		t.Errorf("what %+v makes of %+v shares memory", e, u)
	}
	return got, ok
}

func applied(t *testing.T, u impl.Unix, e impl.Eff) (impl.Unix, bool) {
	t.Helper()
	return appliedBy(t, impl.Apply, u, e)
}

func appliedAll(t *testing.T, u impl.Unix, l []impl.Eff) (impl.Unix, bool) {
	t.Helper()
	return appliedBy(t, impl.ApplyAll, u, l)
}

// fits wants an effect to make just that change.
func fits(t *testing.T, u impl.Unix, e impl.Eff, do func(u *impl.Unix)) {
	t.Helper()
	want := changed(fresh(u), do)
	if got, ok := applied(t, u, e); !ok || !alike(got, want) {
		t.Errorf("Apply of %+v to %+v:\n%v, %+v, not\n%+v", e, u, ok, got, want)
	}
	if said, ok := effectSaid(u, e); !ok || !alike(said, want) {
		t.Errorf("%+v: the test itself is wrong: %v, %+v, not %+v", e, ok, said, want)
	}
}

// fitsNot wants each effect to change nothing.
func fitsNot(t *testing.T, u impl.Unix, l ...impl.Eff) {
	t.Helper()
	for _, e := range l {
		if got, ok := applied(t, u, e); ok || !alike(got, u) {
			t.Errorf("Apply of %+v, which does not fit, to %+v: %v, %+v", e, u, ok, got)
		}
		if _, ok := effectSaid(u, e); ok {
			t.Errorf("%+v: the test itself is wrong", e)
		}
	}
}

// effectSaid is what an effect comes to, in the document's own words.
func effectSaid(u impl.Unix, e impl.Eff) (impl.Unix, bool) {
	made := fresh(u)
	said := []func(*impl.Unix, impl.Eff) bool{procSays, memSays, openSays, pipeSays, fileSays, listSays}
	for _, says := range said {
		if says(&made, e) {
			return made, true
		}
	}
	return fresh(u), false
}

func procWith(u *impl.Unix, pid int) *impl.Proc {
	for k := range u.Procs {
		if u.Procs[k].Pid == pid {
			return &u.Procs[k]
		}
	}
	return nil
}

// roomSaid tells whether all Mems together and n pages are at most 16 pages.
func roomSaid(u *impl.Unix, n int) bool {
	for _, p := range u.Procs {
		n += len(p.Mem) / 4
	}
	return n <= 16
}

func procSays(u *impl.Unix, e impl.Eff) bool {
	p := procWith(u, e.A)
	if p == nil {
		return false
	}
	switch e.Kind {
	case 1:
		p.Cpu = impl.Cpu{Pc: e.B, Regs: fresh(e.L)}
		return e.B >= 0 && e.B <= 40 && len(e.L) == 4 && wordsSaid(e.L)
	case 3:
		p.State, p.Until = e.B, e.C
	case 25:
		p.Parent = e.B
	case 26:
		p.Code = e.B
	case 9:
		if e.B < 0 || e.B >= len(p.Fds) {
			return false
		}
		p.Fds[e.B] = e.C
	case 6:
		for k := range u.Procs {
			if u.Procs[k].Pid == e.A {
				u.Procs = append(u.Procs[:k], u.Procs[k+1:]...)
				break
			}
		}
	default:
		return false
	}
	return true
}

func memSays(u *impl.Unix, e impl.Eff) bool {
	if e.Kind == 4 {
		p := procWith(u, e.B)
		if p == nil || e.A != u.Next || e.A >= 100000 || len(u.Procs) >= 6 || !roomSaid(u, len(p.Mem)/4) {
			return false
		}
		child := fresh(*p)
		child.Pid, child.Parent, child.State, child.Until, child.Code = e.A, e.B, 1, 0, 0
		u.Procs, u.Next = append(u.Procs, child), e.A+1
		return true
	}
	p := procWith(u, e.A)
	if p == nil {
		return false
	}
	switch e.Kind {
	case 2:
		if e.B < 0 || e.B >= len(p.Mem) || !wordsSaid([]int{e.C}) {
			return false
		}
		p.Mem[e.B] = e.C
	case 5:
		p.Mem = nil
	case 7:
		if len(p.Mem)/4 >= 3 || !roomSaid(u, 1) {
			return false
		}
		p.Mem = append(p.Mem, 0, 0, 0, 0)
	case 8:
		if e.B < 0 || e.B >= len(u.Progs) || len(p.Mem)/4 == 0 && !roomSaid(u, 1) {
			return false
		}
		p.Prog, p.Mem = e.B, []int{0, 0, 0, 0}
	default:
		return false
	}
	return true
}

func openSays(u *impl.Unix, e impl.Eff) bool {
	for k := range u.Opens {
		o := &u.Opens[k]
		if o.Id != e.A {
			continue
		}
		switch e.Kind {
		case 11:
			o.Refs += e.B
		case 12:
			u.Opens = append(u.Opens[:k], u.Opens[k+1:]...)
		case 13:
			o.Off = e.B
		default:
			return false
		}
		return true
	}
	if e.Kind != 10 || e.A < 0 || e.A > 7 {
		return false
	}
	at := 0
	for at < len(u.Opens) && u.Opens[at].Id < e.A {
		at++
	}
	u.Opens = slices.Insert(u.Opens, at, impl.Open{Id: e.A, Kind: e.B, Target: e.C})
	return true
}

func pipeSays(u *impl.Unix, e impl.Eff) bool {
	for k := range u.Pipes {
		p := &u.Pipes[k]
		if p.Id != e.A {
			continue
		}
		switch e.Kind {
		case 15:
			p.Data = append(p.Data, e.B)
			return len(p.Data) <= 4
		case 16:
			if len(p.Data) == 0 {
				return false
			}
			p.Data = p.Data[1:]
		case 17:
			u.Pipes = append(u.Pipes[:k], u.Pipes[k+1:]...)
		default:
			return false
		}
		return true
	}
	if e.Kind != 14 || e.A < 0 || e.A > 2 {
		return false
	}
	at := 0
	for at < len(u.Pipes) && u.Pipes[at].Id < e.A {
		at++
	}
	u.Pipes = slices.Insert(u.Pipes, at, impl.Pipe{Id: e.A})
	return true
}

func fileSays(u *impl.Unix, e impl.Eff) bool {
	for k := range u.Files {
		f := &u.Files[k]
		if f.Name != e.A {
			continue
		}
		switch e.Kind {
		case 19:
			if e.B < 0 || e.B > len(f.Data) || e.B >= 8 {
				return false
			}
			if e.B == len(f.Data) {
				f.Data = append(f.Data, 0)
			}
			f.Data[e.B] = e.C
		case 20:
			u.Files = append(u.Files[:k], u.Files[k+1:]...)
		default:
			return false
		}
		return true
	}
	if e.Kind != 18 || e.A < 0 || e.A > 5 {
		return false
	}
	at := 0
	for at < len(u.Files) && u.Files[at].Name < e.A {
		at++
	}
	u.Files = slices.Insert(u.Files, at, impl.File{Name: e.A})
	return true
}

func listSays(u *impl.Unix, e impl.Eff) bool {
	switch e.Kind {
	case 21:
		u.Ready = append(u.Ready, e.A)
		return len(u.Ready) <= 6
	case 22:
		for k, pid := range u.Ready {
			if pid == e.A {
				u.Ready = append(u.Ready[:k], u.Ready[k+1:]...)
				return true
			}
		}
		return false
	case 23:
		u.Out = append(u.Out, e.A)
		return len(u.Out) <= 60
	case 24:
		if u.Tick >= 1000000 {
			return false
		}
		u.Tick++
		return true
	}
	return false
}

func TestEffectKinds(t *testing.T) {
	got := []int{
		impl.EfCpu, impl.EfPoke, impl.EfState, impl.EfSpawn, impl.EfDrop, impl.EfReap, impl.EfGrow, impl.EfExec, impl.EfFd,
		impl.EfOpen, impl.EfRef, impl.EfShut, impl.EfOff, impl.EfPipe, impl.EfPut, impl.EfTake, impl.EfUnpipe,
		impl.EfMake, impl.EfWord, impl.EfGone, impl.EfPush, impl.EfPull, impl.EfOut, impl.EfTick, impl.EfParent, impl.EfCode,
	}
	for k, kind := range got {
		if kind != k+1 {
			t.Error("the kinds are", got)
		}
	}
}

// row is an effect, and what it changes.
type row struct {
	e  impl.Eff
	do func(u *impl.Unix)
}

// rows have each kind, in what five is or what a spoil makes of it.
func rows() []row {
	regs := []int{-1000000, 1000000, 0, 7}
	child := func(u *impl.Unix) {
		p := fresh(u.Procs[1])
		p.Pid, p.Parent, p.State, p.Until, p.Code = 9, 2, impl.PsReady, 0, 0
		u.Procs, u.Next = append(u.Procs, p), 10
	}
	return []row{
		{impl.Eff{Kind: impl.EfCpu, A: 2, B: 40, L: regs}, func(u *impl.Unix) { u.Procs[1].Cpu = cpuAt(40, regs...) }},
		{impl.Eff{Kind: impl.EfPoke, A: 2, B: 5, C: 30}, func(u *impl.Unix) { u.Procs[1].Mem[5] = 30 }},
		{impl.Eff{Kind: impl.EfState, A: 2, B: impl.PsSleep, C: 60}, func(u *impl.Unix) { u.Procs[1].State, u.Procs[1].Until = 2, 60 }},
		{impl.Eff{Kind: impl.EfSpawn, A: 9, B: 2}, child},
		{impl.Eff{Kind: impl.EfDrop, A: 2}, func(u *impl.Unix) { u.Procs[1].Mem = nil }},
		{impl.Eff{Kind: impl.EfReap, A: 2}, func(u *impl.Unix) { u.Procs = slices.Delete(u.Procs, 1, 2) }},
		{impl.Eff{Kind: impl.EfGrow, A: 2}, func(u *impl.Unix) { u.Procs[1].Mem = append(u.Procs[1].Mem, 0, 0, 0, 0) }},
		{impl.Eff{Kind: impl.EfExec, A: 2, B: 2}, func(u *impl.Unix) { u.Procs[1].Prog, u.Procs[1].Mem = 2, make([]int, 4) }},
		{impl.Eff{Kind: impl.EfFd, A: 2, B: 1, C: 7}, func(u *impl.Unix) { u.Procs[1].Fds[1] = 7 }},
		{impl.Eff{Kind: impl.EfParent, A: 2, B: 5}, func(u *impl.Unix) { u.Procs[1].Parent = 5 }},
		{impl.Eff{Kind: impl.EfCode, A: 2, B: -1}, func(u *impl.Unix) { u.Procs[1].Code = -1 }},
		{impl.Eff{Kind: impl.EfOpen, A: 3, B: 2, C: 4}, func(u *impl.Unix) { u.Opens = slices.Insert(u.Opens, 3, impl.Open{Id: 3, Kind: 2, Target: 4}) }},
		{impl.Eff{Kind: impl.EfRef, A: 7, B: -2}, func(u *impl.Unix) { u.Opens[5].Refs -= 2 }},
		{impl.Eff{Kind: impl.EfShut, A: 7}, func(u *impl.Unix) { u.Opens = u.Opens[:5] }},
		{impl.Eff{Kind: impl.EfOff, A: 7, B: 3}, func(u *impl.Unix) { u.Opens[5].Off = 3 }},
		{impl.Eff{Kind: impl.EfPipe, A: 1}, func(u *impl.Unix) { u.Pipes = slices.Insert(u.Pipes, 1, impl.Pipe{Id: 1}) }},
		{impl.Eff{Kind: impl.EfPut, A: 0, B: 6}, func(u *impl.Unix) { u.Pipes[0].Data = []int{6} }},
		{impl.Eff{Kind: impl.EfTake, A: 2}, func(u *impl.Unix) { u.Pipes[1].Data = []int{1000000, -1000000, 8} }},
		{impl.Eff{Kind: impl.EfUnpipe, A: 0}, func(u *impl.Unix) { u.Pipes = u.Pipes[1:] }},
		{impl.Eff{Kind: impl.EfMake, A: 3}, func(u *impl.Unix) { u.Files = slices.Insert(u.Files, 1, impl.File{Name: 3}) }},
		{impl.Eff{Kind: impl.EfWord, A: 1, B: 1, C: 9}, func(u *impl.Unix) { u.Files[0].Data[1] = 9 }},
		{impl.Eff{Kind: impl.EfWord, A: 1, B: 3, C: 9}, func(u *impl.Unix) { u.Files[0].Data = []int{11, 12, 13, 9} }},
		{impl.Eff{Kind: impl.EfGone, A: 1}, func(u *impl.Unix) { u.Files = u.Files[1:] }},
		{impl.Eff{Kind: impl.EfPush, A: 4}, func(u *impl.Unix) { u.Ready = append(u.Ready, 4) }},
		{impl.Eff{Kind: impl.EfPull, A: 2}, func(u *impl.Unix) { u.Ready = u.Ready[1:] }},
		{impl.Eff{Kind: impl.EfOut, A: 8}, func(u *impl.Unix) { u.Out = append(u.Out, 8) }},
		{impl.Eff{Kind: impl.EfTick}, func(u *impl.Unix) { u.Tick = 6 }},
	}
}

func TestEachKindFits(t *testing.T) {
	seen := map[int]int{}
	for _, spoil := range spoils() {
		from := changed(five(), spoil.do)
		if right := unixSaid(five()); !right || spoil.name != "nothing" && unixSaid(from) {
			t.Fatalf("%s: right: %v", spoil.name, right)
		}
		for _, r := range rows() {
			fits(t, from, r.e, r.do)
			seen[r.e.Kind]++
		}
	}
	if len(seen) != 26 {
		t.Error("not each kind was tried:", seen)
	}
}

// TestOthersAreNotAsked has fields that a kind does not name.
func TestOthersAreNotAsked(t *testing.T) {
	named := map[int]string{
		1: "ABL", 2: "ABC", 3: "ABC", 4: "AB", 5: "A", 6: "A", 7: "A", 8: "AB", 9: "ABC", 10: "ABC", 11: "AB", 12: "A", 13: "AB",
		14: "A", 15: "AB", 16: "A", 17: "A", 18: "A", 19: "ABC", 20: "A", 21: "A", 22: "A", 23: "A", 24: "", 25: "AB", 26: "AB",
	}
	for _, r := range rows() {
		for _, n := range []int{-1, 0, 5, math.MaxInt, math.MinInt} {
			e := impl.Eff{Kind: r.e.Kind, A: n, B: n, C: n, L: []int{n}}
			for _, field := range named[r.e.Kind] {
				switch field {
				case 'A':
					e.A = r.e.A
				case 'B':
					e.B = r.e.B
				case 'C':
					e.C = r.e.C
				case 'L':
					e.L = r.e.L
				}
			}
			fits(t, five(), e, r.do)
		}
	}
}

func TestEffectKindsThatAreNone(t *testing.T) {
	for _, u := range []impl.Unix{{}, empty(), booted(), five(), busy(), twins()} {
		for _, kind := range []int{0, 27, -1, -26, 28, 100, math.MinInt, math.MaxInt} {
			for _, a := range []int{0, 1, 2, 9} {
				fitsNot(t, u, impl.Eff{Kind: kind}, impl.Eff{Kind: kind, A: a, B: 1, C: 1, L: []int{0, 0, 0, 0}})
			}
		}
	}
}

// TestWhatIsNotThere names what is not there, by each kind that wants it.
func TestWhatIsNotThere(t *testing.T) {
	regs := []int{0, 0, 0, 0}
	for _, pid := range []int{-1, 0, 3, 6, 8, 9, 10, 100000, math.MinInt, math.MaxInt} {
		for _, kind := range []int{1, 2, 3, 5, 6, 7, 8, 9, 25, 26} {
			fitsNot(t, five(), impl.Eff{Kind: kind, A: pid, L: regs})
			fitsNot(t, impl.Unix{}, impl.Eff{Kind: kind, A: pid, L: regs})
		}
		fitsNot(t, five(), impl.Eff{Kind: impl.EfSpawn, A: 9, B: pid})
		fitsNot(t, impl.Unix{Next: 9}, impl.Eff{Kind: impl.EfSpawn, A: 9, B: pid})
	}
	for _, id := range []int{-1, 3, 5, 8, math.MaxInt} {
		for kind := impl.EfRef; kind <= impl.EfOff; kind++ {
			fitsNot(t, busy(), impl.Eff{Kind: kind, A: id})
			fitsNot(t, empty(), impl.Eff{Kind: kind, A: id})
		}
	}
	for _, id := range []int{-1, 1, 3, math.MinInt} {
		for kind := impl.EfPut; kind <= impl.EfUnpipe; kind++ {
			fitsNot(t, busy(), impl.Eff{Kind: kind, A: id})
			fitsNot(t, empty(), impl.Eff{Kind: kind, A: id})
		}
	}
	for _, name := range []int{-1, 0, 2, 3, 5, 6, math.MaxInt} {
		for kind := impl.EfWord; kind <= impl.EfGone; kind++ {
			fitsNot(t, busy(), impl.Eff{Kind: kind, A: name})
			fitsNot(t, empty(), impl.Eff{Kind: kind, A: name})
		}
	}
	for _, pid := range []int{-1, 0, 1, 3, 4, 9, math.MaxInt} {
		fitsNot(t, busy(), impl.Eff{Kind: impl.EfPull, A: pid})
		fitsNot(t, empty(), impl.Eff{Kind: impl.EfPull, A: pid})
	}
}

// TestTheFirstOneIsMeant has two of each number.
func TestTheFirstOneIsMeant(t *testing.T) {
	regs := []int{4, 3, 2, 1}
	fits(t, twins(), impl.Eff{Kind: impl.EfCpu, A: 9, B: 7, L: regs}, func(u *impl.Unix) { u.Procs[0].Cpu = cpuAt(7, regs...) })
	fits(t, twins(), impl.Eff{Kind: impl.EfPoke, A: 9, B: 6, C: 1}, func(u *impl.Unix) { u.Procs[0].Mem[6] = 1 })
	fitsNot(t, twins(), impl.Eff{Kind: impl.EfPoke, A: 9, B: 7, C: 1})
	fits(t, twins(), impl.Eff{Kind: impl.EfState, A: 3, B: 4, C: 2}, func(u *impl.Unix) { u.Procs[1].State, u.Procs[1].Until = 4, 2 })
	fits(t, twins(), impl.Eff{Kind: impl.EfDrop, A: 3}, func(u *impl.Unix) { u.Procs[1].Mem = nil })
	fits(t, twins(), impl.Eff{Kind: impl.EfReap, A: 9}, func(u *impl.Unix) { u.Procs = u.Procs[1:] })
	fits(t, twins(), impl.Eff{Kind: impl.EfReap, A: 3}, func(u *impl.Unix) { u.Procs = slices.Delete(u.Procs, 1, 2) })
	fits(t, twins(), impl.Eff{Kind: impl.EfGrow, A: 3}, func(u *impl.Unix) { u.Procs[1].Mem = append(u.Procs[1].Mem, 0, 0, 0, 0) })
	fits(t, twins(), impl.Eff{Kind: impl.EfExec, A: 9, B: 1}, func(u *impl.Unix) { u.Procs[0].Prog, u.Procs[0].Mem = 1, make([]int, 4) })
	fits(t, twins(), impl.Eff{Kind: impl.EfFd, A: 3, B: 4, C: -9}, func(u *impl.Unix) { u.Procs[1].Fds[4] = -9 })
	fitsNot(t, twins(), impl.Eff{Kind: impl.EfFd, A: 9, B: 2, C: 1})
	fits(t, twins(), impl.Eff{Kind: impl.EfParent, A: 9, B: -2}, func(u *impl.Unix) { u.Procs[0].Parent = -2 })
	fits(t, twins(), impl.Eff{Kind: impl.EfCode, A: 3, B: 5}, func(u *impl.Unix) { u.Procs[1].Code = 5 })
	fits(t, twins(), impl.Eff{Kind: impl.EfSpawn, A: -3, B: 9}, func(u *impl.Unix) {
		u.Procs = append(u.Procs, impl.Proc{Pid: -3, Parent: 9, State: 1, Prog: -1, Cpu: cpuAt(-1, 5), Mem: words(7), Fds: []int{3, 3}})
		u.Next = -2
	})
	fits(t, twins(), impl.Eff{Kind: impl.EfRef, A: 6, B: 3}, func(u *impl.Unix) { u.Opens[0].Refs = 3 })
	fits(t, twins(), impl.Eff{Kind: impl.EfShut, A: 2}, func(u *impl.Unix) { u.Opens = slices.Delete(u.Opens, 1, 2) })
	fits(t, twins(), impl.Eff{Kind: impl.EfOff, A: 2, B: 7}, func(u *impl.Unix) { u.Opens[1].Off = 7 })
	fits(t, twins(), impl.Eff{Kind: impl.EfPut, A: 1, B: 9}, func(u *impl.Unix) { u.Pipes[0].Data = []int{1, 2, 9} })
	fits(t, twins(), impl.Eff{Kind: impl.EfTake, A: 1}, func(u *impl.Unix) { u.Pipes[0].Data = []int{2} })
	fits(t, twins(), impl.Eff{Kind: impl.EfUnpipe, A: 1}, func(u *impl.Unix) { u.Pipes = u.Pipes[1:] })
	fits(t, twins(), impl.Eff{Kind: impl.EfWord, A: 5, B: 1, C: 8}, func(u *impl.Unix) { u.Files[0].Data = []int{1, 8} })
	fits(t, twins(), impl.Eff{Kind: impl.EfWord, A: 3, B: 0, C: 8}, func(u *impl.Unix) { u.Files[1].Data[0] = 8 })
	fitsNot(t, twins(), impl.Eff{Kind: impl.EfWord, A: 5, B: 2, C: 8})
	fits(t, twins(), impl.Eff{Kind: impl.EfGone, A: 3}, func(u *impl.Unix) { u.Files = slices.Delete(u.Files, 1, 2) })
	fits(t, twins(), impl.Eff{Kind: impl.EfPull, A: 9}, func(u *impl.Unix) { u.Ready = []int{5, 5, 9} })
	fits(t, twins(), impl.Eff{Kind: impl.EfPull, A: 5}, func(u *impl.Unix) { u.Ready = []int{9, 5, 9} })
}

func TestCpuEffects(t *testing.T) {
	for _, u := range []impl.Unix{five(), busy()} {
		for k, p := range u.Procs {
			for _, pc := range []int{0, 1, 39, 40} {
				regs := []int{-1000000, 1000000, pc, k}
				fits(t, u, impl.Eff{Kind: impl.EfCpu, A: p.Pid, B: pc, L: regs}, func(u *impl.Unix) { u.Procs[k].Cpu = cpuAt(pc, regs...) })
			}
			for _, c := range cpusWrong() {
				fitsNot(t, u, impl.Eff{Kind: impl.EfCpu, A: p.Pid, B: c.Pc, L: c.Regs})
			}
			for _, n := range []int{-1000001, 1000001, math.MinInt, math.MaxInt} {
				for at := range 4 {
					regs := make([]int, 4)
					regs[at] = n
					fitsNot(t, u, impl.Eff{Kind: impl.EfCpu, A: p.Pid, L: regs})
				}
			}
			for _, n := range []int{0, 1, 3, 5} {
				fitsNot(t, u, impl.Eff{Kind: impl.EfCpu, A: p.Pid, L: make([]int, n)})
			}
			fitsNot(t, u, impl.Eff{Kind: impl.EfCpu, A: p.Pid, B: -1, L: make([]int, 4)}, impl.Eff{Kind: impl.EfCpu, A: p.Pid, B: 41, L: make([]int, 4)})
		}
	}
}

func TestPokes(t *testing.T) {
	for k, p := range busy().Procs {
		for at := range p.Mem {
			for _, word := range []int{-1000000, -1, 0, 999999, 1000000} {
				fits(t, busy(), impl.Eff{Kind: impl.EfPoke, A: p.Pid, B: at, C: word}, func(u *impl.Unix) { u.Procs[k].Mem[at] = word })
			}
			for _, word := range []int{-1000001, 1000001, math.MinInt, math.MaxInt} {
				fitsNot(t, busy(), impl.Eff{Kind: impl.EfPoke, A: p.Pid, B: at, C: word})
			}
		}
		for _, at := range []int{-1, len(p.Mem), len(p.Mem) + 1, math.MinInt, math.MaxInt} {
			fitsNot(t, busy(), impl.Eff{Kind: impl.EfPoke, A: p.Pid, B: at, C: 1})
		}
	}
}

// TestNumbersOfProcesses has kinds that want no more than the process.
func TestNumbersOfProcesses(t *testing.T) {
	for k, p := range busy().Procs {
		for _, n := range []int{-1, 0, 1, 6, 7, 1000000, 1000001, math.MinInt, math.MaxInt} {
			fits(t, busy(), impl.Eff{Kind: impl.EfState, A: p.Pid, B: n, C: -n}, func(u *impl.Unix) { u.Procs[k].State, u.Procs[k].Until = n, -n })
			fits(t, busy(), impl.Eff{Kind: impl.EfParent, A: p.Pid, B: n}, func(u *impl.Unix) { u.Procs[k].Parent = n })
			fits(t, busy(), impl.Eff{Kind: impl.EfCode, A: p.Pid, B: n}, func(u *impl.Unix) { u.Procs[k].Code = n })
			for fd := range 4 {
				fits(t, busy(), impl.Eff{Kind: impl.EfFd, A: p.Pid, B: fd, C: n}, func(u *impl.Unix) { u.Procs[k].Fds[fd] = n })
			}
		}
		for _, fd := range []int{-1, 4, 5, math.MinInt, math.MaxInt} {
			fitsNot(t, busy(), impl.Eff{Kind: impl.EfFd, A: p.Pid, B: fd, C: 0})
		}
		fits(t, busy(), impl.Eff{Kind: impl.EfDrop, A: p.Pid}, func(u *impl.Unix) { u.Procs[k].Mem = nil })
		fits(t, busy(), impl.Eff{Kind: impl.EfReap, A: p.Pid}, func(u *impl.Unix) { u.Procs = slices.Delete(u.Procs, k, k+1) })
	}
	bare := crowd(1)
	bare.Procs[0].Fds = nil
	fitsNot(t, bare, impl.Eff{Kind: impl.EfFd, A: 1})
	fits(t, bare, impl.Eff{Kind: impl.EfReap, A: 1}, func(u *impl.Unix) { u.Procs = nil })
}

// spawned is the change by which B of a crowd has a child.
func spawned(from int, pid int) func(u *impl.Unix) {
	return func(u *impl.Unix) {
		p := fresh(u.Procs[from])
		p.Pid, p.Parent, p.State, p.Until, p.Code = pid, u.Procs[from].Pid, 1, 0, 0
		u.Procs, u.Next = append(u.Procs, p), pid+1
	}
}

func TestSpawns(t *testing.T) {
	for k, p := range five().Procs {
		fits(t, five(), impl.Eff{Kind: impl.EfSpawn, A: 9, B: p.Pid}, spawned(k, 9))
		for _, pid := range []int{8, 10, 0, -1, 1, 2, math.MaxInt} {
			fitsNot(t, five(), impl.Eff{Kind: impl.EfSpawn, A: pid, B: p.Pid})
		}
		fitsNot(t, busy(), impl.Eff{Kind: impl.EfSpawn, A: 9, B: p.Pid})
	}
	for _, next := range []int{math.MinInt, -1, 0, 1, 2, 99998, 99999} {
		u := crowd(1)
		u.Next = next
		fits(t, u, impl.Eff{Kind: impl.EfSpawn, A: next, B: 1}, spawned(0, next))
		fitsNot(t, u, impl.Eff{Kind: impl.EfSpawn, A: next + 1, B: 1}, impl.Eff{Kind: impl.EfSpawn, A: next - 1, B: 1})
	}
	for _, next := range []int{100000, 100001, math.MaxInt} {
		u := crowd(1)
		u.Next = next
		fitsNot(t, u, impl.Eff{Kind: impl.EfSpawn, A: next, B: 1}, impl.Eff{Kind: impl.EfSpawn, A: next - 1, B: 1})
	}
	low := crowd(1, 1)
	low.Next = 2
	fits(t, low, impl.Eff{Kind: impl.EfSpawn, A: 2, B: 2}, spawned(1, 2))
}

func TestSpawnsOfMany(t *testing.T) {
	for _, c := range []struct {
		pages []int
		pid   int
		want  bool
	}{
		{[]int{1, 1, 1, 1, 1}, 5, true},
		{[]int{1, 1, 1, 1, 1, 1}, 1, false},
		{[]int{0, 0, 0, 0, 0, 0, 0}, 1, false},
		{[]int{3, 3, 3, 3, 1}, 1, true},
		{[]int{3, 3, 3, 3, 2}, 1, false},
		{[]int{3, 3, 3, 3, 2}, 5, true},
		{[]int{3, 3, 3, 4, 2}, 1, false},
		{[]int{3, 3, 3, 5, 1}, 5, true},
		{[]int{3, 3, 3, 5, 2}, 5, false},
		{[]int{8}, 1, true},
		{[]int{9}, 1, false},
		{[]int{16, 0}, 2, true},
		{[]int{17, 0}, 2, false},
		{[]int{16, 1}, 2, false},
	} {
		u := crowd(c.pages...)
		for _, p := range u.Procs {
			copy(p.Mem, words(len(p.Mem)))
		}
		e := impl.Eff{Kind: impl.EfSpawn, A: u.Next, B: c.pid}
		if c.want {
			fits(t, u, e, spawned(c.pid-1, u.Next))
		} else {
			fitsNot(t, u, e)
		}
	}
}

func TestGrows(t *testing.T) {
	for _, c := range []struct {
		pages []int
		pid   int
		want  bool
	}{
		{[]int{0}, 1, true}, {[]int{1}, 1, true}, {[]int{2}, 1, true}, {[]int{3}, 1, false}, {[]int{4}, 1, false},
		{[]int{3, 3, 3, 3, 2, 1}, 5, true}, {[]int{3, 3, 3, 3, 2, 1}, 6, true}, {[]int{3, 3, 3, 3, 2, 1}, 1, false},
		{[]int{3, 3, 3, 3, 2, 2}, 5, false}, {[]int{3, 3, 3, 3, 3, 1}, 6, false}, {[]int{16, 0}, 2, false}, {[]int{15, 0}, 2, true},
		{[]int{20, 1}, 2, false},
	} {
		u := crowd(c.pages...)
		for _, p := range u.Procs {
			copy(p.Mem, words(len(p.Mem)))
		}
		e := impl.Eff{Kind: impl.EfGrow, A: c.pid}
		if c.want {
			fits(t, u, e, func(u *impl.Unix) { u.Procs[c.pid-1].Mem = append(u.Procs[c.pid-1].Mem, 0, 0, 0, 0) })
		} else {
			fitsNot(t, u, e)
		}
	}
}

func TestExecs(t *testing.T) {
	for k, p := range busy().Procs {
		for prog := range 3 {
			fits(t, busy(), impl.Eff{Kind: impl.EfExec, A: p.Pid, B: prog}, func(u *impl.Unix) { u.Procs[k].Prog, u.Procs[k].Mem = prog, make([]int, 4) })
		}
		for _, prog := range []int{-1, 3, 4, math.MinInt, math.MaxInt} {
			fitsNot(t, busy(), impl.Eff{Kind: impl.EfExec, A: p.Pid, B: prog})
		}
	}
	for _, c := range []struct {
		pages []int
		pid   int
		want  bool
	}{
		{[]int{3, 3, 3, 3, 3, 1}, 1, true}, {[]int{3, 3, 3, 3, 3, 1}, 6, true}, {[]int{20, 1}, 2, true}, {[]int{20, 1}, 1, true},
		{[]int{16, 0}, 2, false}, {[]int{17, 0}, 2, false}, {[]int{15, 0}, 2, true}, {[]int{0}, 1, true},
	} {
		u := crowd(c.pages...)
		for _, p := range u.Procs {
			copy(p.Mem, words(len(p.Mem)))
		}
		e := impl.Eff{Kind: impl.EfExec, A: c.pid, B: 0}
		if c.want {
			fits(t, u, e, func(u *impl.Unix) { u.Procs[c.pid-1].Mem = make([]int, 4) })
		} else {
			fitsNot(t, u, e)
		}
		u.Progs = nil
		fitsNot(t, u, e)
	}
}

func TestOpens(t *testing.T) {
	for id := range 8 {
		made := impl.Open{Id: id, Kind: -id, Target: 5 * id}
		e := impl.Eff{Kind: impl.EfOpen, A: id, B: -id, C: 5 * id}
		fits(t, empty(), e, func(u *impl.Unix) { u.Opens = []impl.Open{made} })
		if id != 2 && id != 5 {
			at := []int{0, 0, 0, 1, 1, 1, 2, 2}[id]
			fits(t, between(), e, func(u *impl.Unix) { u.Opens = slices.Insert(u.Opens, at, made) })
		} else {
			fitsNot(t, between(), e)
		}
		seven := opened(8)
		fitsNot(t, seven, e)
		seven.Opens = slices.Delete(seven.Opens, id, id+1)
		fits(t, seven, e, func(u *impl.Unix) { u.Opens = slices.Insert(u.Opens, id, made) })
		for _, n := range []int{-1, 0, 1, math.MaxInt} {
			fits(t, opened(8), impl.Eff{Kind: impl.EfRef, A: id, B: n}, func(u *impl.Unix) { u.Opens[id].Refs += n })
			fits(t, opened(8), impl.Eff{Kind: impl.EfOff, A: id, B: n}, func(u *impl.Unix) { u.Opens[id].Off = n })
		}
		fits(t, opened(8), impl.Eff{Kind: impl.EfShut, A: id}, func(u *impl.Unix) { u.Opens = slices.Delete(u.Opens, id, id+1) })
	}
	for _, id := range []int{-1, 8, 9, 40, math.MinInt, math.MaxInt} {
		for _, u := range []impl.Unix{empty(), between(), busy(), twins()} {
			fitsNot(t, u, impl.Eff{Kind: impl.EfOpen, A: id, B: 1})
		}
	}
	many := impl.Unix{Opens: make([]impl.Open, 9)}
	for k := range many.Opens {
		many.Opens[k].Id = 100 + k
	}
	fits(t, many, impl.Eff{Kind: impl.EfOpen, A: 7}, func(u *impl.Unix) { u.Opens = slices.Insert(u.Opens, 0, impl.Open{Id: 7}) })
}

func TestPipes(t *testing.T) {
	for id := range 3 {
		e := impl.Eff{Kind: impl.EfPipe, A: id}
		fits(t, empty(), e, func(u *impl.Unix) { u.Pipes = []impl.Pipe{{Id: id}} })
		fitsNot(t, piped(3), e)
		if id != 1 {
			fits(t, between(), e, func(u *impl.Unix) { u.Pipes = slices.Insert(u.Pipes, id/2, impl.Pipe{Id: id}) })
		} else {
			fitsNot(t, between(), e)
		}
		two := piped(3)
		two.Pipes = slices.Delete(two.Pipes, id, id+1)
		fits(t, two, e, func(u *impl.Unix) { u.Pipes = slices.Insert(u.Pipes, id, impl.Pipe{Id: id}) })
		fits(t, piped(3), impl.Eff{Kind: impl.EfUnpipe, A: id}, func(u *impl.Unix) { u.Pipes = slices.Delete(u.Pipes, id, id+1) })
		for n := range 7 {
			u := piped(3)
			u.Pipes[id].Data = words(n)
			put, take := impl.Eff{Kind: impl.EfPut, A: id, B: 9}, impl.Eff{Kind: impl.EfTake, A: id}
			if n < 4 {
				fits(t, u, put, func(u *impl.Unix) { u.Pipes[id].Data = append(u.Pipes[id].Data, 9) })
			} else {
				fitsNot(t, u, put)
			}
			if n > 0 {
				fits(t, u, take, func(u *impl.Unix) { u.Pipes[id].Data = u.Pipes[id].Data[1:] })
			} else {
				fitsNot(t, u, take)
			}
		}
	}
	for _, id := range []int{-1, 3, 4, 7, math.MinInt, math.MaxInt} {
		for _, u := range []impl.Unix{empty(), between(), busy(), twins()} {
			fitsNot(t, u, impl.Eff{Kind: impl.EfPipe, A: id})
		}
	}
}

func TestFiles(t *testing.T) {
	for name := range 6 {
		e := impl.Eff{Kind: impl.EfMake, A: name}
		fits(t, empty(), e, func(u *impl.Unix) { u.Files = []impl.File{{Name: name}} })
		fitsNot(t, filed(6), e)
		if name != 2 && name != 4 {
			at := []int{0, 0, 0, 1, 1, 2}[name]
			fits(t, between(), e, func(u *impl.Unix) { u.Files = slices.Insert(u.Files, at, impl.File{Name: name}) })
		} else {
			fitsNot(t, between(), e)
		}
		rest := filed(6)
		rest.Files = slices.Delete(rest.Files, name, name+1)
		fits(t, rest, e, func(u *impl.Unix) { u.Files = slices.Insert(u.Files, name, impl.File{Name: name}) })
		fits(t, filed(6), impl.Eff{Kind: impl.EfGone, A: name}, func(u *impl.Unix) { u.Files = slices.Delete(u.Files, name, name+1) })
		for n := range 11 {
			u := filed(6)
			u.Files[name].Data = words(n)
			for at := -1; at <= 11; at++ {
				e := impl.Eff{Kind: impl.EfWord, A: name, B: at, C: 90 + at}
				if at < 0 || at > n || at >= 8 {
					fitsNot(t, u, e)
					continue
				}
				fits(t, u, e, func(u *impl.Unix) {
					u.Files[name].Data = append(append(words(n)[:at:at], 90+at), words(n)[min(at+1, n):]...)
				})
			}
		}
		fitsNot(t, filed(6), impl.Eff{Kind: impl.EfWord, A: name, B: math.MinInt}, impl.Eff{Kind: impl.EfWord, A: name, B: math.MaxInt})
	}
	for _, name := range []int{-1, 6, 7, math.MinInt, math.MaxInt} {
		for _, u := range []impl.Unix{empty(), between(), busy(), twins()} {
			fitsNot(t, u, impl.Eff{Kind: impl.EfMake, A: name})
		}
	}
}

// TestWordsThatAreNone are taken where the document does not ask for a word.
func TestWordsThatAreNone(t *testing.T) {
	for _, n := range []int{-1000001, -1000000, 0, 1000000, 1000001, math.MinInt, math.MaxInt} {
		fits(t, busy(), impl.Eff{Kind: impl.EfPut, A: 0, B: n}, func(u *impl.Unix) { u.Pipes[0].Data = []int{n} })
		fits(t, busy(), impl.Eff{Kind: impl.EfWord, A: 4, C: n}, func(u *impl.Unix) { u.Files[1].Data = []int{n} })
		fits(t, busy(), impl.Eff{Kind: impl.EfWord, A: 1, B: 2, C: n}, func(u *impl.Unix) { u.Files[0].Data[2] = n })
		fits(t, busy(), impl.Eff{Kind: impl.EfOut, A: n}, func(u *impl.Unix) { u.Out = append(u.Out, n) })
		fits(t, busy(), impl.Eff{Kind: impl.EfPush, A: n}, func(u *impl.Unix) { u.Ready = append(u.Ready, n) })
	}
}

func TestListsOfAll(t *testing.T) {
	for n := range 9 {
		u := empty()
		u.Ready = words(n)
		if n < 6 {
			fits(t, u, impl.Eff{Kind: impl.EfPush, A: 5}, func(u *impl.Unix) { u.Ready = append(u.Ready, 5) })
		} else {
			fitsNot(t, u, impl.Eff{Kind: impl.EfPush, A: 5})
		}
		for _, pid := range []int{-1000000, 1000000, 0, 3, 7} {
			if at := slices.Index(u.Ready, pid); at >= 0 {
				fits(t, u, impl.Eff{Kind: impl.EfPull, A: pid}, func(u *impl.Unix) { u.Ready = slices.Delete(u.Ready, at, at+1) })
			} else {
				fitsNot(t, u, impl.Eff{Kind: impl.EfPull, A: pid})
			}
		}
	}
	for _, n := range []int{0, 1, 58, 59} {
		fits(t, impl.Unix{Out: words(n)}, impl.Eff{Kind: impl.EfOut, A: 6}, func(u *impl.Unix) { u.Out = append(u.Out, 6) })
	}
	for _, n := range []int{60, 61, 100} {
		fitsNot(t, impl.Unix{Out: words(n)}, impl.Eff{Kind: impl.EfOut, A: 6})
	}
	for _, n := range []int{math.MinInt, -2, -1, 0, 1, 999998, 999999} {
		fits(t, impl.Unix{Tick: n}, impl.Eff{Kind: impl.EfTick}, func(u *impl.Unix) { u.Tick = n + 1 })
	}
	for _, n := range []int{1000000, 1000001, math.MaxInt} {
		fitsNot(t, impl.Unix{Tick: n}, impl.Eff{Kind: impl.EfTick})
	}
}

// unixes are some that are right and some that are not.
func unixes() []impl.Unix {
	return []impl.Unix{
		{}, empty(), booted(), busy(), five(), between(), twins(), opened(8), piped(3), filed(6),
		crowd(3, 3, 3, 3, 3, 1), crowd(3, 3, 3, 3, 3), crowd(3, 3, 0, 9), crowd(1, 0, 2),
	}
}

func sweep() []impl.Eff {
	var l []impl.Eff
	for kind := 0; kind <= 27; kind++ {
		for _, a := range []int{-3, -1, 0, 1, 2, 3, 4, 5, 6, 7, 9} {
			for _, b := range []int{-1, 0, 1, 2, 3, 4, 8, 9} {
				c := []int{-1000001, 7, 1000000, 0, 1000001}[(a+b+9)%5]
				l = append(l, impl.Eff{Kind: kind, A: a, B: b, C: c, L: words(3 + (a+b+9)%3)})
			}
		}
	}
	return l
}

// TestEffectsAreAsSaid holds promise 7: what does not fit changes nothing.
func TestEffectsAreAsSaid(t *testing.T) {
	t.Parallel()
	for _, u := range unixes() {
		for _, e := range sweep() {
			want, fit := effectSaid(u, e)
			if got, ok := applied(t, u, e); ok != fit || !alike(got, want) || !ok && !alike(got, u) {
				t.Fatalf("Apply of %+v to %+v:\n%v, %+v, not\n%v, %+v", e, u, ok, got, fit, want)
			}
			if t.Failed() {
				return
			}
		}
	}
}

// TestManyEffects holds promise 7: many are one behind the other.
func TestManyEffects(t *testing.T) {
	all := sweep()
	for k, u := range unixes() {
		for n := range 60 {
			var l []impl.Eff
			want, every := fresh(u), true
			for j := range n {
				e := all[(k*131+j*j*977+n*389+j*57)%len(all)]
				if n%3 == 0 {
					e = rows()[(j*7+n)%len(rows())].e
				}
				next, ok := impl.Apply(want, e)
				if n%2 == 0 && !ok {
					continue
				}
				l, want, every = append(l, e), next, every && ok
			}
			if got, ok := appliedAll(t, u, l); ok != every || !alike(got, want) {
				t.Fatalf("ApplyAll of %+v to %+v:\n%v, %+v, not\n%v, %+v", l, u, ok, got, every, want)
			}
		}
	}
}

func TestAllOfNoneAndOne(t *testing.T) {
	for _, u := range unixes() {
		for _, l := range [][]impl.Eff{nil, {}} {
			if got, ok := appliedAll(t, u, l); !ok || !alike(got, u) {
				t.Errorf("ApplyAll of nothing to %+v: %v, %+v", u, ok, got)
			}
		}
		for _, r := range rows() {
			want, fit := effectSaid(u, r.e)
			if got, ok := appliedAll(t, u, []impl.Eff{r.e}); ok != fit || !alike(got, want) {
				t.Errorf("ApplyAll of %+v alone to %+v: %v, %+v", r.e, u, ok, got)
			}
		}
	}
}

// TestItGoesOn has one that does not fit ahead, between and behind others.
func TestItGoesOn(t *testing.T) {
	good := []impl.Eff{{Kind: impl.EfTick}, {Kind: impl.EfOut, A: 4}, {Kind: impl.EfPush, A: 2}, {Kind: impl.EfGrow, A: 1}}
	want := changed(five(), func(u *impl.Unix) {
		u.Tick, u.Out, u.Ready, u.Procs[0].Mem = 6, append(u.Out, 4), []int{2, 2}, make([]int, 8)
	})
	if got, ok := appliedAll(t, five(), good); !ok || !alike(got, want) {
		t.Errorf("all fit: %v, %+v", ok, got)
	}
	for at := range len(good) + 1 {
		for _, bad := range []impl.Eff{{}, {Kind: 27}, {Kind: impl.EfGrow, A: 4}, {Kind: impl.EfTake, A: 0}, {Kind: impl.EfOpen, A: 0}, {Kind: impl.EfCpu, A: 1}} {
			if got, ok := appliedAll(t, five(), slices.Insert(slices.Clone(good), at, bad)); ok || !alike(got, want) {
				t.Errorf("%+v at place %d: %v, %+v", bad, at, ok, got)
			}
		}
	}
	twice := []impl.Eff{{Kind: impl.EfPull, A: 2}, {Kind: impl.EfPull, A: 2}, {Kind: impl.EfMake, A: 0}, {Kind: impl.EfMake, A: 0}, {Kind: impl.EfGone, A: 0}, {Kind: impl.EfMake, A: 0}}
	made := changed(five(), func(u *impl.Unix) {
		u.Ready, u.Files = nil, slices.Insert(u.Files, 0, impl.File{Name: 0})
	})
	if got, ok := appliedAll(t, five(), twice); ok || !alike(got, made) {
		t.Errorf("what fits once: %v, %+v", ok, got)
	}
}

// TestEffectsShareNothing has lists that are one where they come in.
func TestEffectsShareNothing(t *testing.T) {
	regs := withRoom([]int{1, 2, 3, 4})
	u := five()
	for k := range u.Procs {
		u.Procs[k].Mem, u.Procs[k].Fds, u.Procs[k].Cpu.Regs = regs, regs, regs
	}
	for k := range u.Progs {
		u.Progs[k] = u.Progs[2]
	}
	u.Pipes[0].Data, u.Pipes[1].Data, u.Files[0].Data, u.Files[1].Data, u.Ready, u.Out = regs, regs, regs, regs, regs, regs
	was := fresh(u)
	l := []impl.Eff{{Kind: impl.EfCpu, A: 1, L: regs}, {Kind: impl.EfCpu, A: 2, L: regs}, {Kind: impl.EfSpawn, A: 9, B: 2}, {}}
	for n := range len(l) + 1 {
		got, ok := impl.ApplyAll(u, l[:n])
		if ok != (n < 4) || !sharesNone(got, u, l, regs) || !alike(u, was) || !marked(regs) {
			t.Errorf("ApplyAll of %+v: %v, %+v", l[:n], ok, got)
		}
	}
	for _, r := range append(rows(), row{e: impl.Eff{Kind: impl.EfCpu, A: 1, L: regs}}, row{}) {
		if got, _ := impl.Apply(u, r.e); !sharesNone(got, u, r.e, regs) || !alike(u, was) || !marked(regs) {
			t.Errorf("Apply of %+v shares memory: %+v", r.e, got)
		}
	}
	if again, ok := impl.ApplyAll(five(), l[:3]); !ok || !slices.Equal(again.Procs[5].Cpu.Regs, regs) {
		t.Errorf("a call is told of another one: %v, %+v", ok, again)
	}
}
