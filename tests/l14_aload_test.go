package tests

import (
	"fmt"
	"math"
	"reflect"
	"slices"
	"testing"

	"loop.example/g00781/impl"
)

// loadedBy is what one makes of a Unix that may neither write into it nor hand
// out memory of it.
func loadedBy[G any](t *testing.T, of func(impl.Unix) (G, bool), u impl.Unix) (G, bool) {
	t.Helper()
	loaded := false
	made := answered(t, func(u impl.Unix) G {
		made, ok := of(u)
		loaded = ok
		return made
	}, u)
	return made, loaded
}

func loadOf(t *testing.T, u impl.Unix) (impl.Arrays, bool) {
	t.Helper()
	return loadedBy(t, impl.ALoad, u)
}

func sizeOf(t *testing.T, a impl.Arrays) int {
	t.Helper()
	return answered(t, impl.ASize, a)
}

// sizeSaid is ASize, in the document's own words.
func sizeSaid(a impl.Arrays) int {
	used := 0
	for _, s := range a.Slots {
		if s.Used && shapeSaid(a) {
			used++
		}
	}
	return used
}

func sizeIs(t *testing.T, name string, a impl.Arrays, want int) {
	t.Helper()
	if got := sizeOf(t, a); got != want || sizeSaid(a) != want {
		t.Errorf("%s: ASize of %+v: %d, not %d (said is %d)", name, a, got, want, sizeSaid(a))
	}
}

// nothingLoads wants no kernel of a Unix that is not right.
func nothingLoads(t *testing.T, name string, u impl.Unix) {
	t.Helper()
	if a, ok := loadOf(t, u); ok || !alike(a, impl.Arrays{}) {
		t.Errorf("%s: ALoad of %+v: %+v, %v", name, u, a, ok)
	}
}

// loadSaid is ALoad of a right Unix, in the document's own words.
func loadSaid(u impl.Unix) impl.Arrays {
	a := impl.Arrays{
		Next: u.Next, Tick: u.Tick, Progs: u.Progs, Out: u.Out,
		Slots: slices.Repeat([]impl.ASlot{noSlot()}, 6), Ram: make([]int, 64), Map: flags(16, false),
		Opens: make([]impl.AOpen, 8), Pipes: slices.Repeat([]impl.ARing{noPipe(0, 0, 0, 0)}, 3), Files: make([]impl.AFile, 6),
		Ready: impl.ARing{Buf: padded(u.Ready, 0, 6), Len: len(u.Ready)},
	}
	var ram []int
	for k, p := range u.Procs {
		var pt []int
		for at := 0; at < len(p.Mem); at += 4 {
			pt = append(pt, len(ram)/4)
			a.Map[len(ram)/4] = true
			ram = append(ram, p.Mem[at:at+4]...)
		}
		a.Slots[k] = impl.ASlot{
			Used: true, Pid: p.Pid, Parent: p.Parent, State: p.State, Prog: p.Prog, Pc: p.Cpu.Pc, Until: p.Until, Code: p.Code,
			Regs: p.Cpu.Regs, Pt: padded(pt, -1, 3), Fds: p.Fds,
		}
	}
	a.Ram = padded(ram, 0, 64)
	for _, o := range u.Opens {
		a.Opens[o.Id] = impl.AOpen{Used: true, Kind: o.Kind, Target: o.Target, Off: o.Off, Refs: o.Refs}
	}
	for _, p := range u.Pipes {
		a.Pipes[p.Id] = impl.ARing{Used: true, Buf: padded(p.Data, 0, 4), Len: len(p.Data)}
	}
	for _, f := range u.Files {
		a.Files[f.Name] = impl.AFile{Used: true, Data: f.Data}
	}
	return a
}

// padded is a list with so many numbers behind it that it has n.
func padded(l []int, number int, n int) []int {
	l = slices.Clone(l)
	for len(l) < n {
		l = append(l, number)
	}
	return l
}

func TestALoadByHand(t *testing.T) {
	want := scattered()
	s := want.Slots
	want.Slots = []impl.ASlot{s[3], s[2], s[5], s[4], s[0], s[1]}
	for k, pt := range [][]int{{0, -1, -1}, {1, 2, -1}, {3, 4, 5}, {6, -1, -1}, {7, -1, -1}, {-1, -1, -1}} {
		want.Slots[k].Pt = pt
	}
	want.Ram = padded([]int{0, 0, 0, 0, 1, 2, 3, 4, -1000000, 1000000, 0, 7}, 0, 64)
	want.Map = append(flags(8, true), flags(8, false)...)
	want.Pipes = []impl.ARing{
		{Used: true, Buf: []int{0, 0, 0, 0}}, noPipe(0, 0, 0, 0), {Used: true, Buf: []int{5, 1000000, -1000000, 8}, Len: 4},
	}
	want.Ready = impl.ARing{Buf: []int{2, 0, 0, 0, 0, 0}, Len: 1}
	if got, ok := loadOf(t, busy()); !ok || !alike(got, want) || !alike(loadSaid(busy()), want) {
		t.Errorf("ALoad of busy is\n%+v, %v, not\n%+v", got, ok, want)
	}
}

// closeTogether tells whether processes stand in the first slots by Pid, and
// their pages in the first frames in that order, and nothing anywhere else.
func closeTogether(a impl.Arrays) bool {
	pages, last, ended := 0, 0, false
	for _, s := range a.Slots {
		if ended = ended || !s.Used; ended {
			if !alike(s, noSlot()) {
				return false
			}
			continue
		}
		if s.Pid <= last {
			return false
		}
		last = s.Pid
		for k, f := range s.Pt {
			if f == pages {
				pages++
			} else if f != -1 || k < 2 && s.Pt[k+1] != -1 {
				return false
			}
		}
	}
	return alike(a.Map, append(flags(pages, true), flags(16-pages, false)...)) && !slices.ContainsFunc(a.Ram[4*pages:], func(word int) bool { return word != 0 })
}

// loads holds promise 14 of a right Unix.
func loads(t *testing.T, u impl.Unix) impl.Arrays {
	t.Helper()
	a, ok := loadOf(t, u)
	if !ok || !alike(a, loadSaid(u)) {
		t.Fatalf("ALoad(%+v) = %+v, %v, not %+v", u, a, ok, loadSaid(u))
	}
	if !alike(impl.AbsA(a), u) || !impl.AOk(a) || !closeTogether(a) {
		t.Fatalf("of %+v ALoad makes %+v, which is %+v", u, a, impl.AbsA(a))
	}
	if got := sizeOf(t, a); got != len(u.Procs) {
		t.Fatalf("of %d processes ALoad makes %d: %+v", len(u.Procs), got, a)
	}
	return a
}

// sights count what was seen of Unixes that were come to by steps.
type sights map[string]int

func (s sights) see(u impl.Unix) {
	for _, p := range u.Procs {
		s[fmt.Sprint("state ", p.State)]++
		s[fmt.Sprint("pages ", len(p.Mem)/4)]++
	}
	for _, o := range u.Opens {
		s[fmt.Sprint("kind ", o.Kind)]++
	}
	for _, p := range u.Pipes {
		s[fmt.Sprint("words ", len(p.Data))]++
	}
	s[fmt.Sprint("files ", min(len(u.Files), 1))]++
	s[fmt.Sprint("processes ", len(u.Procs))]++
}

// wereMany wants each of what there may be to have been seen often.
func (s sights) wereMany(t *testing.T) {
	t.Helper()
	for _, what := range []string{
		"state 1", "state 2", "state 3", "state 4", "state 5", "state 6", "pages 0", "pages 1", "pages 2", "pages 3",
		"kind 1", "kind 2", "kind 3", "kind 4", "words 0", "words 1", "words 4", "files 0", "files 1",
		"processes 1", "processes 2", "processes 5", "processes 6",
	} {
		if s[what] < 5 {
			t.Errorf("hardly anything was seen of %s: %v", what, s)
		}
	}
}

func TestALoadIsAsSaid(t *testing.T) {
	t.Parallel()
	for _, u := range append(right(), atTheEnds()...) {
		loads(t, u)
	}
	seen := sights{}
	walked(t, 40, func(u impl.Unix) {
		loads(t, u)
		seen.see(u)
	})
	seen.wereMany(t)
}

// populated is a right Unix of processes of so many pages, of which the first
// has one at least; one without is a zombie, and a child of the first. Pids
// have gaps, and all words are unlike.
func populated(pages ...int) impl.Unix {
	u, word := empty(), 1
	for k, n := range pages {
		p := impl.Proc{Pid: 3*k + 1, State: impl.PsReady, Cpu: cpuAt(k, k, -k, 0, 7), Fds: []int{-1, -1, -1, -1}}
		if p.Mem = wordsBehind(word, 4*n); n == 0 {
			p.State, p.Parent, p.Code = impl.PsZombie, 1, k
		} else {
			u.Ready = slices.Insert(u.Ready, 0, p.Pid)
		}
		u.Procs, u.Next, word = append(u.Procs, p), p.Pid+1, word+4*n
	}
	return u
}

// eachCrowd hands on each number of pages of up to as many processes as there
// may be, up to all frames, and how many frames are left.
func eachCrowd(t *testing.T, see func(pages []int, left int)) {
	t.Helper()
	counts := map[int]int{}
	var each func(pages []int, left int)
	each = func(pages []int, left int) {
		see(pages, left)
		counts[left]++
		for n := range 4 {
			if len(pages) < 6 && n <= left && (n > 0 || len(pages) > 0) {
				each(append(slices.Clone(pages), n), left-n)
			}
		}
	}
	each(nil, 16)
	if counts[0] < 20 || counts[16] != 1 {
		t.Errorf("by pages that are left there were %v", counts)
	}
}

// crowdsWrong are numbers of pages that are too many, or too few.
func crowdsWrong() [][]int {
	return [][]int{{3, 3, 3, 3, 3, 2}, {3, 3, 3, 3, 3, 3}, {4}, {0}, {1, 4}, {1, 1, 1, 1, 1, 1, 1}, {1, 0, 0, 0, 0, 0, 0}}
}

func TestALoadOfEachNumberOfPages(t *testing.T) {
	t.Parallel()
	eachCrowd(t, func(pages []int, left int) {
		a := loads(t, populated(pages...))
		for k, f := 0, 0; k < len(pages); k++ {
			want := []int{-1, -1, -1}
			for at := range pages[k] {
				want[at] = f
				f++
			}
			if !slices.Equal(a.Slots[k].Pt, want) {
				t.Fatalf("of %v pages slot %d has %v, not %v", pages, k, a.Slots[k].Pt, want)
			}
		}
	})
	for _, pages := range crowdsWrong() {
		nothingLoads(t, fmt.Sprint("pages ", pages), populated(pages...))
	}
}

// eachFilling hands on three pipes of each number of words.
func eachFilling(see func(u impl.Unix)) {
	for n := range 5 {
		for m := range 5 {
			u := piped(3)
			u.Pipes[0].Data, u.Pipes[1].Data, u.Pipes[2].Data = wordsBehind(10, n), wordsBehind(20, m), wordsBehind(30, 4-n)
			see(u)
		}
	}
}

// eachReady hands on each order of each number of those that are ready.
func eachReady(see func(u impl.Unix)) {
	for n := range 7 {
		for _, order := range orderings(n) {
			u := crowd(slices.Repeat([]int{1}, n)...)
			for k := range order {
				u.Ready[k] = order[k] + 1
			}
			see(u)
		}
	}
}

// eachPlace hands on one Open, one pipe and one file, in each place.
func eachPlace(see func(u impl.Unix)) {
	for id := range 8 {
		for name := range 6 {
			u := crowd(1)
			u.Procs[0].Fds[id%4] = id
			u.Opens = []impl.Open{{Id: id, Kind: impl.OpIn + id%2, Target: name % 3, Refs: 1}}
			u.Pipes = []impl.Pipe{{Id: name % 3, Data: wordsBehind(id, name%5)}}
			u.Files = []impl.File{{Name: name, Data: words(id + 1)}}
			see(u)
		}
	}
}

func TestALoadOfEachRing(t *testing.T) {
	eachFilling(func(u impl.Unix) {
		for id, r := range loads(t, u).Pipes {
			if l := u.Pipes[id].Data; !r.Used || r.Head != 0 || r.Len != len(l) || !slices.Equal(r.Buf, padded(l, 0, 4)) {
				t.Errorf("pipe %d of %v is %+v", id, l, r)
			}
		}
	})
	eachReady(func(u impl.Unix) {
		if r := loads(t, u).Ready; r.Head != 0 || r.Len != len(u.Ready) || !slices.Equal(r.Buf, padded(u.Ready, 0, 6)) {
			t.Errorf("Ready of %v is %+v", u.Ready, r)
		}
	})
}

func TestALoadOfEachPlace(t *testing.T) {
	eachPlace(func(u impl.Unix) {
		a := loads(t, u)
		for k, o := range a.Opens {
			if o.Used != (k == u.Opens[0].Id) {
				t.Errorf("Open %d is in place %d, too: %+v", u.Opens[0].Id, k, a.Opens)
			}
		}
		for k, r := range a.Pipes {
			if r.Used != (k == u.Pipes[0].Id) {
				t.Errorf("pipe %d is in place %d, too: %+v", u.Pipes[0].Id, k, a.Pipes)
			}
		}
		for k, f := range a.Files {
			if f.Used != (k == u.Files[0].Name) {
				t.Errorf("file %d is in place %d, too: %+v", u.Files[0].Name, k, a.Files)
			}
		}
	})
}

// TestALoadOfWhatLiesAnywhere loads what AbsA tells of a kernel that goes along
// many steps, with all of it elsewhere.
func TestALoadOfWhatLiesAnywhere(t *testing.T) {
	t.Parallel()
	for k, u := range right() {
		e := &elsewhere{d: &dice{n: uint64(k)}, a: arraysOf(t, u)}
		for range 40 {
			e.everywhere()
			loads(t, impl.AbsA(e.a))
			of := impl.RunEffects
			if e.d.roll(4) == 0 {
				of = impl.TickEffects
			}
			for _, effect := range of(u) {
				e.a, _ = impl.AApply(e.a, effect)
			}
			if u = impl.AbsA(e.a); !impl.UnixOk(u) {
				break
			}
		}
	}
}

// TestALoadOfTurnedNumbers loads what is right of all that is turned.
func TestALoadOfTurnedNumbers(t *testing.T) {
	loaded, refused := 0, 0
	for _, from := range []impl.Unix{busy(), lastPlaces(), plumbed(1, 2, 3)} {
		eachTurned(t, from, func(u impl.Unix) {
			a, ok := impl.ALoad(u)
			if ok != unixSaid(u) || ok && !alike(a, loadSaid(u)) || !ok && !alike(a, impl.Arrays{}) {
				t.Fatalf("ALoad(%+v) = %+v, %v", u, a, ok)
			}
			if ok {
				loaded++
				arraysAreAsSaid(t, a)
				if !alike(impl.AbsA(a), u) || !impl.AOk(a) || !closeTogether(a) {
					t.Fatalf("of %+v ALoad makes %+v", u, a)
				}
			} else {
				refused++
			}
		})
	}
	if loaded < 500 || refused < 500 {
		t.Errorf("of all that was turned %d were loaded, %d refused", loaded, refused)
	}
}

// TestALoadOfWhatIsNotRight has a few by name; allWrong asks it of each way in
// which a Unix is not right.
func TestALoadOfWhatIsNotRight(t *testing.T) {
	nothingLoads(t, "the zero Unix", impl.Unix{})
	nothingLoads(t, "twins", twins())
	nothingLoads(t, "too many pages", crowd(3, 3, 3, 3, 3, 2))
	nothingLoads(t, "too many processes", crowd(1, 1, 1, 1, 1, 1, 1))
	for _, c := range spoils()[1:] {
		nothingLoads(t, c.name, changed(busy(), c.do))
	}
}

func TestWhatALoadMakesIsNotKept(t *testing.T) {
	u := busy()
	first, _ := impl.ALoad(u)
	for _, n := range numbersOf(reflect.ValueOf(&first).Elem()) {
		n.SetInt(55)
	}
	for _, flag := range flagsOf(reflect.ValueOf(&first).Elem()) {
		flag.SetBool(!flag.Bool())
	}
	if again, ok := loadOf(t, u); !ok || !alike(again, loadSaid(busy())) || !alike(u, busy()) {
		t.Errorf("behind a change of what it made ALoad makes %+v, %v", again, ok)
	}
	blank := arraysOf(t, empty())
	blank.Slots[0].Regs[0], blank.Slots[0].Pt[0], blank.Slots[0].Fds[0], blank.Pipes[0].Buf[0] = 5, 5, 5, 5
	if !alike(blank.Slots[1:], slices.Repeat([]impl.ASlot{noSlot()}, 5)) || !alike(blank.Pipes[1], noPipe(0, 0, 0, 0)) {
		t.Errorf("what is not Used is in one memory: %+v", blank)
	}
	if again := arraysOf(t, empty()); !alike(again, loadSaid(empty())) {
		t.Errorf("behind a change of what is not Used ALoad makes %+v", again)
	}
}

// keepsNothing changes what one was handed.
func keepsNothing[G any](t *testing.T, of func(impl.Unix) (G, bool), said func(impl.Unix) G) {
	t.Helper()
	for _, from := range []func() impl.Unix{busy, allFull, lastPlaces, five} {
		u := from()
		made, _ := of(u)
		for _, n := range numbersOf(reflect.ValueOf(&u).Elem()) {
			n.SetInt(55)
		}
		if !alike(made, said(from())) {
			t.Errorf("a change of what it was handed changes what it made: %+v", made)
		}
	}
}

func TestALoadKeepsNothing(t *testing.T) { keepsNothing(t, impl.ALoad, loadSaid) }

// sharesNothing hands one lists that are one where they come in.
func sharesNothing[G any](t *testing.T, of func(impl.Unix) (G, bool), said func(impl.Unix) G) {
	t.Helper()
	for _, from := range []func() impl.Unix{busy, allFull, func() impl.Unix { return crowd(1, 1, 1, 1, 1, 1) }} {
		u, program := from(), withRoom(ends())
		regs, fds, mem := withRoom(words(4)), withRoom([]int{-1, -1, -1, -1}), withRoom(words(4))
		for k := range u.Procs {
			u.Procs[k].Cpu.Regs = regs
			if u.Procs[k].Prog = 0; len(u.Procs[k].Mem) == 4 {
				u.Procs[k].Mem = mem
			}
			if slices.Equal(u.Procs[k].Fds, fds) {
				u.Procs[k].Fds = fds
			}
		}
		for k := range u.Pipes {
			if len(u.Pipes[k].Data) == 4 {
				u.Pipes[k].Data = mem
			}
		}
		u.Progs, u.Out = [][]impl.Ins{program, program, program}, mem
		was := fresh(u)
		made, ok := of(u)
		if !ok || !alike(made, said(was)) || !sharesNone(made, u, program, regs, fds, mem) {
			t.Errorf("of lists that are one there comes %+v, %v", made, ok)
		}
		if !alike(u, was) || !marked(program) || !marked(regs) || !marked(fds) || !marked(mem) {
			t.Errorf("it writes into what it is handed: %+v became %+v", was, u)
		}
	}
}

func TestALoadSharesNothing(t *testing.T) { sharesNothing(t, impl.ALoad, loadSaid) }

// TestASizeOfEachSlots has each set of slots Used, by processes of a kernel
// that is AOk, and by slots of one that is not.
func TestASizeOfEachSlots(t *testing.T) {
	for used := range 1 << 6 {
		bare, full, gone := arraysOf(t, empty()), arraysOf(t, crowd(1, 1, 1, 1, 1, 1)), arraysOf(t, crowd(1, 1, 1, 1, 1, 1))
		n := 0
		for k := range 6 {
			if used>>k&1 == 0 {
				full.Slots[k], full.Map[k] = noSlot(), false
				gone, _ = impl.AApply(gone, impl.Eff{Kind: impl.EfReap, A: k + 1})
				continue
			}
			n++
			bare.Slots[k].Used = true
		}
		name := fmt.Sprintf("slots %b", used)
		sizeIs(t, name+" by hand", full, n)
		sizeIs(t, name+" with nothing in them", bare, n)
		sizeIs(t, name+" that are left", gone, n)
		if impl.AOk(bare) != (n == 0) || len(impl.AbsA(full).Procs) != n {
			t.Errorf("slots %b: the test itself is wrong", used)
		}
	}
}

// TestASizeBehindChanges has a kernel go along changes told by hand.
func TestASizeBehindChanges(t *testing.T) {
	a := arraysOf(t, crowd(1, 2, 1))
	for k, c := range []struct {
		e    impl.Eff
		ok   bool
		size int
	}{
		{impl.Eff{Kind: impl.EfSpawn, A: 4, B: 2}, true, 4}, {impl.Eff{Kind: impl.EfReap, A: 2}, true, 3},
		{impl.Eff{Kind: impl.EfReap, A: 2}, false, 3}, {impl.Eff{Kind: impl.EfDrop, A: 1}, true, 3},
		{impl.Eff{Kind: impl.EfState, A: 1, B: impl.PsZombie}, true, 3}, {impl.Eff{Kind: impl.EfSpawn, A: 5, B: 3}, true, 4},
		{impl.Eff{Kind: impl.EfSpawn, A: 6, B: 5}, true, 5}, {impl.Eff{Kind: impl.EfSpawn, A: 7, B: 1}, true, 6},
		{impl.Eff{Kind: impl.EfSpawn, A: 8, B: 1}, false, 6}, {impl.Eff{Kind: impl.EfOpen, A: 3, B: 1}, true, 6},
		{impl.Eff{Kind: impl.EfPipe, A: 2}, true, 6}, {impl.Eff{Kind: impl.EfMake, A: 5}, true, 6},
		{impl.Eff{Kind: impl.EfReap, A: 1}, true, 5}, {impl.Eff{Kind: impl.EfReap, A: 3}, true, 4}, {impl.Eff{Kind: impl.EfReap, A: 4}, true, 3},
		{impl.Eff{Kind: impl.EfReap, A: 5}, true, 2}, {impl.Eff{Kind: impl.EfReap, A: 6}, true, 1}, {impl.Eff{Kind: impl.EfReap, A: 7}, true, 0},
		{impl.Eff{Kind: impl.EfReap, A: 7}, false, 0},
	} {
		made, ok := impl.AApply(a, c.e)
		if a = made; ok != c.ok {
			t.Fatalf("change %d, %+v: %v", k, c.e, ok)
		}
		sizeIs(t, fmt.Sprintf("behind change %d, %+v", k, c.e), a, c.size)
		e := &elsewhere{d: &dice{n: uint64(k)}, a: fresh(a)}
		e.everywhere()
		sizeIs(t, fmt.Sprintf("elsewhere behind change %d, %+v", k, c.e), e.a, c.size)
	}
}

// TestASizeOfWhatIsNotOk has its shape: what stands in a slot, and whether any
// of it is right, is not asked.
func TestASizeOfWhatIsNotOk(t *testing.T) {
	for _, c := range []struct {
		name string
		do   func(a *impl.Arrays)
		size int
	}{
		{"all as it is", func(a *impl.Arrays) {}, 6},
		{"one Pid for all", func(a *impl.Arrays) {
			for k := range a.Slots {
				a.Slots[k].Pid = 7
			}
		}, 6},
		{"a Pid of 0", func(a *impl.Arrays) { a.Slots[2].Pid = 0 }, 6},
		{"the least Pid", func(a *impl.Arrays) { a.Slots[2].Pid = math.MinInt }, 6},
		{"no State", func(a *impl.Arrays) { a.Slots[2].State = 0 }, 6},
		{"no page", func(a *impl.Arrays) { a.Slots[5].Pt = []int{-1, -1, -1} }, 6},
		{"frames that are none", func(a *impl.Arrays) { a.Slots[5].Pt = []int{16, -2, 99} }, 6},
		{"a frame of two", func(a *impl.Arrays) { a.Slots[5].Pt[0] = 9 }, 6},
		{"none set in Map", func(a *impl.Arrays) { a.Map = flags(16, false) }, 6},
		{"all set in Map", func(a *impl.Arrays) { a.Map = flags(16, true) }, 6},
		{"nobody ready", func(a *impl.Arrays) { a.Ready.Len = 0 }, 6},
		{"no programs", func(a *impl.Arrays) { a.Progs = nil }, 6},
		{"Next of 0", func(a *impl.Arrays) { a.Next = 0 }, 6},
		{"no Opens", func(a *impl.Arrays) { a.Opens = make([]impl.AOpen, 8) }, 6},
		{"too long an Out", func(a *impl.Arrays) { a.Out = words(61) }, 6},
		{"a slot less", func(a *impl.Arrays) { a.Slots[3] = noSlot() }, 5},
		{"a slot alone", func(a *impl.Arrays) {
			for k := range 5 {
				a.Slots[k] = noSlot()
			}
		}, 1},
		{"no slot", func(a *impl.Arrays) { a.Slots = arraysOf(t, empty()).Slots }, 0},
	} {
		a := scattered()
		c.do(&a)
		sizeIs(t, c.name, a, c.size)
	}
}

// TestASizeWithoutItsShape has a few by name, in each of which slots are Used;
// shapeless asks it of each way not to have it.
func TestASizeWithoutItsShape(t *testing.T) {
	sizeIs(t, "nothing", impl.Arrays{}, 0)
	sizeIs(t, "Used slots alone", impl.Arrays{Slots: scattered().Slots}, 0)
	for _, c := range []arraysChange{
		{"a slot too few", func(a *impl.Arrays) { a.Slots = a.Slots[:5] }},
		{"a slot too many", func(a *impl.Arrays) { a.Slots = append(a.Slots, noSlot()) }},
		{"a Used slot too many", func(a *impl.Arrays) { a.Slots = append(a.Slots, fresh(a.Slots[0])) }},
		{"a register too many of one", func(a *impl.Arrays) { a.Slots[2].Regs = append(a.Slots[2].Regs, 0) }},
		{"a slot that is not Used with a Pid", func(a *impl.Arrays) { a.Slots[1].Pid = 1 }},
		{"a slot that is not Used with a frame", func(a *impl.Arrays) { a.Slots[1].Pt[2] = 0 }},
		{"a word of Ram too few", func(a *impl.Arrays) { a.Ram = a.Ram[1:] }},
		{"a flag too few", func(a *impl.Arrays) { a.Map = a.Map[1:] }},
		{"an Open that is not Used with a Kind", func(a *impl.Arrays) { a.Opens[3].Kind = 1 }},
		{"a pipe with a Head past its end", func(a *impl.Arrays) { a.Pipes[0].Head = 4 }},
		{"a pipe that is not Used with a word", func(a *impl.Arrays) { a.Pipes[1].Len = 1 }},
		{"a file that is not Used with a word", func(a *impl.Arrays) { a.Files[0].Data = []int{0} }},
		{"Ready with a Len past its end", func(a *impl.Arrays) { a.Ready.Len = 7 }},
	} {
		a := vacant()
		sizeIs(t, "vacant", a, 5)
		c.do(&a)
		sizeIs(t, c.name, a, 0)
	}
}
