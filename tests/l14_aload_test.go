package tests

import (
	"reflect"
	"slices"
	"testing"

	"loop.example/g00781/impl"
)

func loadOf(t *testing.T, u impl.Unix) (impl.Arrays, bool) {
	t.Helper()
	loaded := false
	a := answered(t, func(u impl.Unix) impl.Arrays {
		made, ok := impl.ALoad(u)
		loaded = ok
		return made
	}, u)
	return a, loaded
}

// nothingLoads wants no kernel of a Unix that is not right.
func nothingLoads(t *testing.T, name string, u impl.Unix) {
	t.Helper()
	if a, ok := loadOf(t, u); ok || !alike(a, impl.Arrays{}) {
		t.Errorf("%s: ALoad of %+v: %+v, %v", name, u, a, ok)
	}
}

// loadSaid is ALoad of a right Unix, in the document's own words.
func loadSaid(u impl.Unix) impl.Arrays {
	a := impl.Arrays{
		Next: u.Next, Tick: u.Tick, Progs: u.Progs, Out: u.Out,
		Slots: slices.Repeat([]impl.ASlot{noSlot()}, 6), Ram: make([]int, 64), Map: flags(16, false),
		Opens: make([]impl.AOpen, 8), Pipes: slices.Repeat([]impl.ARing{noPipe(0, 0, 0, 0)}, 3), Files: make([]impl.AFile, 6),
		Ready: impl.ARing{Buf: padded(u.Ready, 0, 6), Len: len(u.Ready)},
	}
	var ram []int
	for k, p := range u.Procs {
		var pt []int
		for at := 0; at < len(p.Mem); at += 4 {
			pt = append(pt, len(ram)/4)
			a.Map[len(ram)/4] = true
			ram = append(ram, p.Mem[at:at+4]...)
		}
		a.Slots[k] = impl.ASlot{
			Used: true, Pid: p.Pid, Parent: p.Parent, State: p.State, Prog: p.Prog, Pc: p.Cpu.Pc, Until: p.Until, Code: p.Code,
			Regs: p.Cpu.Regs, Pt: padded(pt, -1, 3), Fds: p.Fds,
		}
	}
	a.Ram = padded(ram, 0, 64)
	for _, o := range u.Opens {
		a.Opens[o.Id] = impl.AOpen{Used: true, Kind: o.Kind, Target: o.Target, Off: o.Off, Refs: o.Refs}
	}
	for _, p := range u.Pipes {
		a.Pipes[p.Id] = impl.ARing{Used: true, Buf: padded(p.Data, 0, 4), Len: len(p.Data)}
	}
	for _, f := range u.Files {
		a.Files[f.Name] = impl.AFile{Used: true, Data: f.Data}
	}
	return a
}

// padded is a list with so many numbers behind it that it has n.
func padded(l []int, number int, n int) []int {
	l = slices.Clone(l)
	for len(l) < n {
		l = append(l, number)
	}
	return l
}

func TestALoadByHand(t *testing.T) {
	want := scattered()
	s := want.Slots
	want.Slots = []impl.ASlot{s[3], s[2], s[5], s[4], s[0], s[1]}
	for k, pt := range [][]int{{0, -1, -1}, {1, 2, -1}, {3, 4, 5}, {6, -1, -1}, {7, -1, -1}, {-1, -1, -1}} {
		want.Slots[k].Pt = pt
	}
	want.Ram = padded([]int{0, 0, 0, 0, 1, 2, 3, 4, -1000000, 1000000, 0, 7}, 0, 64)
	want.Map = append(flags(8, true), flags(8, false)...)
	want.Pipes = []impl.ARing{
		{Used: true, Buf: []int{0, 0, 0, 0}}, noPipe(0, 0, 0, 0), {Used: true, Buf: []int{5, 1000000, -1000000, 8}, Len: 4},
	}
	want.Ready = impl.ARing{Buf: []int{2, 0, 0, 0, 0, 0}, Len: 1}
	if got, ok := loadOf(t, busy()); !ok || !alike(got, want) || !alike(loadSaid(busy()), want) {
		t.Errorf("ALoad of busy is\n%+v, %v, not\n%+v", got, ok, want)
	}
}

func TestALoadIsAsSaid(t *testing.T) {
	loads := func(u impl.Unix) {
		t.Helper()
		if got, ok := loadOf(t, u); !ok || !alike(got, loadSaid(u)) {
			t.Fatalf("ALoad(%+v) = %+v, %v, not %+v", u, got, ok, loadSaid(u))
		}
	}
	for _, u := range right() {
		loads(u)
	}
	walked(t, 20, loads)
}

// TestALoadOfTurnedNumbers loads what is right of all that is turned.
func TestALoadOfTurnedNumbers(t *testing.T) {
	loaded, refused := 0, 0
	for _, from := range []impl.Unix{busy(), lastPlaces(), plumbed(1, 2, 3)} {
		eachTurned(t, from, func(u impl.Unix) {
			a, ok := impl.ALoad(u)
			if ok != unixSaid(u) || ok && !alike(a, loadSaid(u)) || !ok && !alike(a, impl.Arrays{}) {
				t.Fatalf("ALoad(%+v) = %+v, %v", u, a, ok)
			}
			if ok {
				loaded++
				arraysAreAsSaid(t, a)
			} else {
				refused++
			}
		})
	}
	if loaded < 500 || refused < 500 {
		t.Errorf("of all that was turned %d were loaded, %d refused", loaded, refused)
	}
}

// TestALoadOfWhatIsNotRight has a few by name; allWrong asks it of each way in
// which a Unix is not right.
func TestALoadOfWhatIsNotRight(t *testing.T) {
	nothingLoads(t, "the zero Unix", impl.Unix{})
	nothingLoads(t, "twins", twins())
	nothingLoads(t, "too many pages", crowd(3, 3, 3, 3, 3, 2))
	nothingLoads(t, "too many processes", crowd(1, 1, 1, 1, 1, 1, 1))
	for _, c := range spoils()[1:] {
		nothingLoads(t, c.name, changed(busy(), c.do))
	}
}

func TestWhatALoadMakesIsNotKept(t *testing.T) {
	u := busy()
	first, _ := impl.ALoad(u)
	for _, n := range numbersOf(reflect.ValueOf(&first).Elem()) {
		n.SetInt(55)
	}
	for _, flag := range flagsOf(reflect.ValueOf(&first).Elem()) {
		flag.SetBool(!flag.Bool())
	}
	if again, ok := loadOf(t, u); !ok || !alike(again, loadSaid(busy())) || !alike(u, busy()) {
		t.Errorf("behind a change of what it made ALoad makes %+v, %v", again, ok)
	}
	blank := arraysOf(t, empty())
	blank.Slots[0].Regs[0], blank.Slots[0].Pt[0], blank.Pipes[0].Buf[0] = 5, 5, 5
	if !alike(blank.Slots[1], noSlot()) || !alike(blank.Pipes[1], noPipe(0, 0, 0, 0)) {
		t.Errorf("what is not Used is in one memory: %+v", blank)
	}
}
