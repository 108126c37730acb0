package tests

import (
	"fmt"
	"math"
	"reflect"
	"slices"
	"testing"

	"loop.example/g00781/impl"
)

func aApplied(t *testing.T, a impl.Arrays, e impl.Eff) (impl.Arrays, bool) {
	t.Helper()
	return appliedBy(t, impl.AApply, a, e)
}

// aApplySaid is AApply, in the document's own words.
func aApplySaid(a impl.Arrays, e impl.Eff) (impl.Arrays, bool) {
	if !shapeSaid(a) {
		return impl.Arrays{}, false
	}
	if _, fit := effectSaid(absSaid(a), e); !fit {
		return fresh(a), false
	}
	made := fresh(a)
	for _, says := range []func(*impl.Arrays, impl.Eff) bool{aProcSays, aPageSays, aOpenSays, aPipeSays, aFileSays, aListSays} {
		if says(&made, e) {
			return made, true
		}
	}
	return fresh(a), false
}

// usedWith is the first Used slot with a Pid.
func usedWith(a *impl.Arrays, pid int) *impl.ASlot {
	for k := range a.Slots {
		if a.Slots[k].Used && a.Slots[k].Pid == pid {
			return &a.Slots[k]
		}
	}
	return nil
}

func aProcSays(a *impl.Arrays, e impl.Eff) bool {
	s := usedWith(a, e.A)
	switch e.Kind {
	case 1:
		s.Pc, s.Regs = e.B, fresh(e.L)
	case 2:
		a.Ram[4*s.Pt[e.B/4]+e.B%4] = e.C
	case 3:
		s.State, s.Until = e.B, e.C
	case 9:
		s.Fds[e.B] = e.C
	case 25:
		s.Parent = e.B
	case 26:
		s.Code = e.B
	default:
		return false
	}
	return true
}

// takesSaid has a page with words behind those of a slot, in the first frame
// that is not set.
func takesSaid(a *impl.Arrays, s *impl.ASlot, words []int) bool {
	f := slices.Index(a.Map, false)
	if f < 0 {
		return false
	}
	s.Pt[len(memSaid(s.Pt, a.Ram))/4] = f
	a.Map[f] = true
	copy(a.Ram[4*f:4*f+4], slices.Clone(words))
	return true
}

func givesSaid(a *impl.Arrays, s *impl.ASlot) {
	for _, f := range s.Pt {
		if f >= 0 && f <= 15 {
			a.Map[f] = false
		}
	}
	s.Pt = []int{-1, -1, -1}
}

func aPageSays(a *impl.Arrays, e impl.Eff) bool {
	switch e.Kind {
	case 4:
		return spawnSays(a, e)
	case 5:
		givesSaid(a, usedWith(a, e.A))
	case 6:
		s := usedWith(a, e.A)
		givesSaid(a, s)
		*s = noSlot()
	case 7:
		return takesSaid(a, usedWith(a, e.A), make([]int, 4))
	case 8:
		s := usedWith(a, e.A)
		s.Prog = e.B
		givesSaid(a, s)
		return takesSaid(a, s, make([]int, 4))
	default:
		return false
	}
	return true
}

func spawnSays(a *impl.Arrays, e impl.Eff) bool {
	s := usedWith(a, e.B)
	child := impl.ASlot{
		Used: true, Pid: e.A, Parent: e.B, State: 1, Prog: s.Prog, Pc: s.Pc,
		Regs: fresh(s.Regs), Pt: []int{-1, -1, -1}, Fds: fresh(s.Fds),
	}
	for _, f := range s.Pt[:len(memSaid(s.Pt, a.Ram))/4] {
		if !takesSaid(a, &child, a.Ram[4*f:4*f+4]) {
			return false
		}
	}
	for k := range a.Slots {
		if !a.Slots[k].Used {
			a.Slots[k], a.Next = child, e.A+1
			return true
		}
	}
	return false
}

func aOpenSays(a *impl.Arrays, e impl.Eff) bool {
	switch e.Kind {
	case 10:
		a.Opens[e.A] = impl.AOpen{Used: true, Kind: e.B, Target: e.C}
	case 11:
		a.Opens[e.A].Refs += e.B
	case 12:
		a.Opens[e.A] = impl.AOpen{}
	case 13:
		a.Opens[e.A].Off = e.B
	default:
		return false
	}
	return true
}

// putSaid has a word behind the last one of a ring.
func putSaid(r *impl.ARing, word int) {
	at := r.Head + r.Len
	if at >= len(r.Buf) {
		at -= len(r.Buf)
	}
	r.Buf[at] = word
	r.Len++
}

func aPipeSays(a *impl.Arrays, e impl.Eff) bool {
	switch e.Kind {
	case 14:
		a.Pipes[e.A].Used = true
	case 15:
		putSaid(&a.Pipes[e.A], e.B)
	case 16:
		r := &a.Pipes[e.A]
		r.Len--
		if r.Head++; r.Head == 4 {
			r.Head = 0
		}
	case 17:
		a.Pipes[e.A] = noPipe(a.Pipes[e.A].Buf...)
	default:
		return false
	}
	return true
}

func aFileSays(a *impl.Arrays, e impl.Eff) bool {
	switch e.Kind {
	case 18:
		a.Files[e.A].Used = true
	case 19:
		f := &a.Files[e.A]
		f.Data = append(append(slices.Clone(f.Data[:e.B]), e.C), f.Data[min(e.B+1, len(f.Data)):]...)
	case 20:
		a.Files[e.A] = impl.AFile{}
	default:
		return false
	}
	return true
}

func aListSays(a *impl.Arrays, e impl.Eff) bool {
	switch e.Kind {
	case 21:
		putSaid(&a.Ready, e.A)
	case 22:
		l, _ := ringSaid(a.Ready, 6)
		for k := slices.Index(l, e.A); k < len(l)-1; k++ {
			a.Ready.Buf[(a.Ready.Head+k)%6] = l[k+1]
		}
		a.Ready.Len--
	case 23:
		a.Out = append(a.Out, e.A)
	case 24:
		a.Tick++
	default:
		return false
	}
	return true
}

// aFits wants an effect to make just that change of a kernel.
func aFits(t *testing.T, a impl.Arrays, e impl.Eff, do func(a *impl.Arrays)) impl.Arrays {
	t.Helper()
	want := fresh(a)
	do(&want)
	got, ok := aApplied(t, a, e)
	if !ok || !alike(got, want) {
		t.Errorf("AApply of %+v to %+v:\n%v, %+v, not\n%+v", e, a, ok, got, want)
	}
	if said, ok := aApplySaid(a, e); !ok || !alike(said, want) {
		t.Errorf("%+v: the test itself is wrong: %v, %+v, not %+v", e, ok, said, want)
	}
	return got
}

// aFitsNot wants each effect to change nothing.
func aFitsNot(t *testing.T, a impl.Arrays, l ...impl.Eff) {
	t.Helper()
	for _, e := range l {
		if got, ok := aApplied(t, a, e); ok || !alike(got, a) {
			t.Errorf("AApply of %+v, which cannot be done, to %+v: %v, %+v", e, a, ok, got)
		}
		if _, ok := aApplySaid(a, e); ok {
			t.Errorf("%+v: the test itself is wrong", e)
		}
	}
}

// nothingIsChanged wants the zero kernel and false of one without its shape.
func nothingIsChanged(t *testing.T, name string, a impl.Arrays, l ...impl.Eff) {
	t.Helper()
	for k, e := range append(l, impl.Eff{}) {
		apply := impl.AApply
		if k == 0 {
			apply = func(a impl.Arrays, e impl.Eff) (impl.Arrays, bool) { return aApplied(t, a, e) }
		}
		if got, ok := apply(a, e); ok || !alike(got, impl.Arrays{}) {
			t.Errorf("%s: AApply of %+v to %+v: %+v, %v", name, e, a, got, ok)
		}
	}
}

// framesSaid tells whether just those frames are set that are somebody's.
func framesSaid(a impl.Arrays) bool {
	held := make([]bool, 16)
	for _, s := range a.Slots {
		for k, f := range s.Pt {
			if f == -1 && (k == 2 || s.Pt[k+1] == -1) {
				continue
			}
			if f < 0 || f > 15 || held[f] {
				return false
			}
			held[f] = true
		}
	}
	return slices.Equal(held, a.Map)
}

// goesAlong holds promises 12 and 13, of a kernel that is AOk, and of one that
// has come of such a one by effects: it hands on what an effect comes to.
func goesAlong(t *testing.T, a impl.Arrays, u impl.Unix, e impl.Eff) (impl.Arrays, impl.Unix) {
	t.Helper()
	want, fit := impl.Apply(u, e)
	got, ok := impl.AApply(a, e)
	if ok != fit || !alike(impl.AbsA(got), want) || !framesSaid(got) || !ok && !alike(got, a) || impl.ASize(got) != len(want.Procs) {
		t.Fatalf("AApply of %+v to %+v:\n%v, %+v, not\n%v, %+v", e, a, ok, got, fit, want)
	}
	if said, ok := aApplySaid(a, e); ok != fit || !alike(got, said) {
		t.Fatalf("AApply of %+v to %+v:\n%+v, not\n%v, %+v", e, a, got, ok, said)
	}
	return got, want
}

// isAsSaid holds AApply of any kernel against the document's own words.
func isAsSaid(t *testing.T, a impl.Arrays, e impl.Eff) (impl.Arrays, bool) {
	t.Helper()
	want, fit := aApplySaid(a, e)
	got, ok := impl.AApply(a, e)
	if ok != fit || !alike(got, want) {
		t.Fatalf("AApply of %+v to %+v:\n%v, %+v, not\n%v, %+v", e, a, ok, got, fit, want)
	}
	return got, ok
}

// tries are effects of each kind, with numbers that are there, that are not,
// and that are next to the ends of what there may be.
func tries(u impl.Unix) []impl.Eff {
	var l []impl.Eff
	for kind := impl.EfOpen; kind <= impl.EfOff; kind++ {
		for id := -1; id <= 8; id++ {
			l = append(l, impl.Eff{Kind: kind, A: id, B: 3 - id, C: 2})
		}
	}
	for kind := impl.EfPipe; kind <= impl.EfUnpipe; kind++ {
		for id := -1; id <= 3; id++ {
			l = append(l, impl.Eff{Kind: kind, A: id, B: 30 + id})
		}
	}
	for name := -1; name <= 6; name++ {
		l = append(l, impl.Eff{Kind: impl.EfMake, A: name}, impl.Eff{Kind: impl.EfGone, A: name})
		for at := -1; at <= 9; at++ {
			l = append(l, impl.Eff{Kind: impl.EfWord, A: name, B: at, C: 40 + at})
		}
	}
	for _, pid := range append([]int{-1, 0, u.Next, 99}, u.Ready...) {
		l = append(l, impl.Eff{Kind: impl.EfPush, A: pid}, impl.Eff{Kind: impl.EfPull, A: pid})
	}
	for _, kind := range []int{impl.EfTick, impl.EfOut, 0, 27, -1, math.MinInt, math.MaxInt} {
		l = append(l, impl.Eff{Kind: kind, A: 1, B: 1, C: 1, L: words(4)})
	}
	for _, p := range u.Procs {
		l = append(l, triesOn(u, p)...)
	}
	return append(l, triesOn(u, impl.Proc{Pid: 0})...)
}

func triesOn(u impl.Unix, p impl.Proc) []impl.Eff {
	l := []impl.Eff{
		{Kind: impl.EfCpu, A: p.Pid, B: 40, L: []int{9, -1000000, 1000000, 0}}, {Kind: impl.EfCpu, A: p.Pid, B: 41, L: words(4)},
		{Kind: impl.EfCpu, A: p.Pid, B: 1, L: words(5)}, {Kind: impl.EfState, A: p.Pid, B: 2, C: 50}, {Kind: impl.EfParent, A: p.Pid, B: 70},
		{Kind: impl.EfCode, A: p.Pid, B: -5}, {Kind: impl.EfDrop, A: p.Pid}, {Kind: impl.EfReap, A: p.Pid}, {Kind: impl.EfGrow, A: p.Pid},
		{Kind: impl.EfSpawn, A: u.Next, B: p.Pid}, {Kind: impl.EfSpawn, A: u.Next + 1, B: p.Pid}, {Kind: impl.EfPoke, A: p.Pid, C: 1000001},
	}
	for prog := -1; prog <= len(u.Progs); prog++ {
		l = append(l, impl.Eff{Kind: impl.EfExec, A: p.Pid, B: prog})
	}
	for fd := -1; fd <= 4; fd++ {
		l = append(l, impl.Eff{Kind: impl.EfFd, A: p.Pid, B: fd, C: 60 + fd})
	}
	for at := -1; at <= 12; at++ {
		l = append(l, impl.Eff{Kind: impl.EfPoke, A: p.Pid, B: at, C: -at})
	}
	return l
}

// vacant is scattered without its zombie, so that there is a slot for one more.
func vacant() impl.Arrays {
	a := scattered()
	a.Slots[1] = noSlot()
	return a
}

// aRow is an effect, and what it changes in a kernel.
type aRow struct {
	e  impl.Eff
	do func(a *impl.Arrays)
}

// aRowsOnProcs, with aRowsOnOthers, are the rows of five, in what vacant is: 2
// has slot 2, and its pages are in frames 9 and 0; 5 is the first free one.
func aRowsOnProcs() []aRow {
	regs := []int{-1000000, 1000000, 0, 7}
	return []aRow{
		{impl.Eff{Kind: impl.EfCpu, A: 2, B: 40, L: regs}, func(a *impl.Arrays) { a.Slots[2].Pc, a.Slots[2].Regs = 40, regs }},
		{impl.Eff{Kind: impl.EfPoke, A: 2, B: 5, C: 30}, func(a *impl.Arrays) { a.Ram[1] = 30 }},
		{impl.Eff{Kind: impl.EfState, A: 2, B: impl.PsSleep, C: 60}, func(a *impl.Arrays) { a.Slots[2].State, a.Slots[2].Until = 2, 60 }},
		{impl.Eff{Kind: impl.EfSpawn, A: 9, B: 2}, func(a *impl.Arrays) {
			a.Slots[1] = impl.ASlot{
				Used: true, Pid: 9, Parent: 2, State: impl.PsReady, Pc: 40,
				Regs: []int{1, -1, 1000000, -1000000}, Pt: []int{5, 6, -1}, Fds: []int{0, 2, 4, -1},
			}
			a.Next, a.Map[5], a.Map[6] = 10, true, true
			copy(a.Ram[20:], []int{1, 2, 3, 4, -1000000, 1000000, 0, 7})
		}},
		{impl.Eff{Kind: impl.EfDrop, A: 2}, func(a *impl.Arrays) { a.Slots[2].Pt, a.Map[9], a.Map[0] = []int{-1, -1, -1}, false, false }},
		{impl.Eff{Kind: impl.EfReap, A: 2}, func(a *impl.Arrays) { a.Slots[2], a.Map[9], a.Map[0] = noSlot(), false, false }},
		{impl.Eff{Kind: impl.EfGrow, A: 2}, func(a *impl.Arrays) {
			a.Slots[2].Pt[2], a.Map[5] = 5, true
			copy(a.Ram[20:], make([]int, 4))
		}},
		{impl.Eff{Kind: impl.EfExec, A: 2, B: 2}, func(a *impl.Arrays) {
			a.Slots[2].Prog, a.Slots[2].Pt, a.Map[9] = 2, []int{0, -1, -1}, false
			copy(a.Ram, make([]int, 4))
		}},
		{impl.Eff{Kind: impl.EfFd, A: 2, B: 1, C: 7}, func(a *impl.Arrays) { a.Slots[2].Fds[1] = 7 }},
		{impl.Eff{Kind: impl.EfParent, A: 2, B: 5}, func(a *impl.Arrays) { a.Slots[2].Parent = 5 }},
		{impl.Eff{Kind: impl.EfCode, A: 2, B: -1}, func(a *impl.Arrays) { a.Slots[2].Code = -1 }},
	}
}

func aRowsOnOthers() []aRow {
	return []aRow{
		{impl.Eff{Kind: impl.EfOpen, A: 3, B: 2, C: 4}, func(a *impl.Arrays) { a.Opens[3] = impl.AOpen{Used: true, Kind: 2, Target: 4} }},
		{impl.Eff{Kind: impl.EfRef, A: 7, B: -2}, func(a *impl.Arrays) { a.Opens[7].Refs = 0 }},
		{impl.Eff{Kind: impl.EfShut, A: 7}, func(a *impl.Arrays) { a.Opens[7] = impl.AOpen{} }},
		{impl.Eff{Kind: impl.EfOff, A: 7, B: 3}, func(a *impl.Arrays) { a.Opens[7].Off = 3 }},
		{impl.Eff{Kind: impl.EfPipe, A: 1}, func(a *impl.Arrays) { a.Pipes[1].Used = true }},
		{impl.Eff{Kind: impl.EfPut, A: 0, B: 6}, func(a *impl.Arrays) { a.Pipes[0].Len, a.Pipes[0].Buf[3] = 1, 6 }},
		{impl.Eff{Kind: impl.EfTake, A: 2}, func(a *impl.Arrays) { a.Pipes[2].Head, a.Pipes[2].Len = 3, 3 }},
		{impl.Eff{Kind: impl.EfUnpipe, A: 0}, func(a *impl.Arrays) { a.Pipes[0] = noPipe(1, 2, 3, 4) }},
		{impl.Eff{Kind: impl.EfMake, A: 3}, func(a *impl.Arrays) { a.Files[3].Used = true }},
		{impl.Eff{Kind: impl.EfWord, A: 1, B: 1, C: 9}, func(a *impl.Arrays) { a.Files[1].Data[1] = 9 }},
		{impl.Eff{Kind: impl.EfWord, A: 1, B: 3, C: 9}, func(a *impl.Arrays) { a.Files[1].Data = []int{11, 12, 13, 9} }},
		{impl.Eff{Kind: impl.EfGone, A: 1}, func(a *impl.Arrays) { a.Files[1] = impl.AFile{} }},
		{impl.Eff{Kind: impl.EfPush, A: 4}, func(a *impl.Arrays) { a.Ready.Len, a.Ready.Buf[0] = 2, 4 }},
		{impl.Eff{Kind: impl.EfPull, A: 2}, func(a *impl.Arrays) { a.Ready.Len = 0 }},
		{impl.Eff{Kind: impl.EfOut, A: 8}, func(a *impl.Arrays) { a.Out = append(a.Out, 8) }},
		{impl.Eff{Kind: impl.EfTick}, func(a *impl.Arrays) { a.Tick = 6 }},
	}
}

// TestEachKindFitsInArrays has each row of five in each way that a kernel may
// have it.
func TestEachKindFitsInArrays(t *testing.T) {
	arraysAre(t, "vacant", vacant(), five(), true)
	aRows, kinds := append(aRowsOnProcs(), aRowsOnOthers()...), map[int]int{}
	for k, r := range rows() {
		if !alike(aRows[k].e, r.e) {
			t.Fatalf("row %d is %+v, not %+v", k, aRows[k].e, r.e)
		}
		kinds[r.e.Kind]++
		got := aFits(t, vacant(), r.e, aRows[k].do)
		if want := changed(five(), r.do); !alike(absOf(t, got), want) {
			t.Errorf("AbsA behind %+v: %+v, not %+v", r.e, impl.AbsA(got), want)
		}
		e := &elsewhere{d: &dice{n: uint64(k)}}
		for range 20 {
			e.a = vacant()
			e.everywhere()
			goesAlong(t, e.a, five(), r.e)
			aApplied(t, e.a, r.e)
		}
	}
	if len(kinds) != 26 || len(aRows) != len(rows()) {
		t.Error("not each kind was tried:", kinds)
	}
}

// everywhere has all of a kernel lie elsewhere.
func (e *elsewhere) everywhere() {
	e.slots(e.d.order(6))
	e.frames(e.d.order(16))
	e.rings()
	e.unasked()
}

// atTheEnds are right Unixes in which a number is as great as it may be.
func atTheEnds() []impl.Unix {
	return []impl.Unix{
		changed(five(), func(u *impl.Unix) { u.Next = 99999 }), changed(five(), func(u *impl.Unix) { u.Next = 100000 }),
		changed(empty(), func(u *impl.Unix) { u.Tick = 999999 }), changed(empty(), func(u *impl.Unix) { u.Tick = 1000000 }),
		changed(five(), func(u *impl.Unix) { u.Out = words(59) }), changed(five(), func(u *impl.Unix) { u.Out = words(60) }),
		crowd(3, 3, 3, 3, 2), crowd(3, 3, 3, 3, 3), crowd(3, 3, 3, 3, 1), crowd(3, 3, 3, 3, 3, 1), crowd(3), crowd(1, 1, 1, 1, 1),
	}
}

// TestArrayChangesAreAsSaid holds promises 12 and 13: each try in kernels that
// ALoad makes, and in the same ones with all of it elsewhere.
func TestArrayChangesAreAsSaid(t *testing.T) {
	t.Parallel()
	fit, fitNot := map[int]int{}, map[int]int{}
	for k, u := range append(right(), append(atTheEnds(), five())...) {
		e := &elsewhere{d: &dice{n: uint64(k)}, a: arraysOf(t, u)}
		for turn := range 4 {
			if !impl.AOk(e.a) {
				t.Fatalf("not AOk: %+v", e.a)
			}
			for at, try := range tries(u) {
				if turn > 0 && (at+turn)%3 > 0 {
					continue
				}
				if _, ok := impl.Apply(u, try); ok {
					fit[try.Kind]++
				} else {
					fitNot[try.Kind]++
				}
				goesAlong(t, e.a, u, try)
				if (at+turn)%11 == 0 {
					aApplied(t, e.a, try)
				}
			}
			e.everywhere()
		}
	}
	for kind := impl.EfCpu; kind <= impl.EfCode; kind++ {
		if fit[kind] < 10 || fitNot[kind] < 2 {
			t.Errorf("of kind %d %d fit, %d do not", kind, fit[kind], fitNot[kind])
		}
	}
}

// TestArrayChangesOfSteps holds promises 12 and 13 along many steps: what
// RunEffects and TickEffects tell is done to one kernel that goes along.
func TestArrayChangesOfSteps(t *testing.T) {
	t.Parallel()
	kinds, heads, effects := map[int]int{}, map[int]int{}, 0
	for walk := range 40 {
		d := &dice{n: uint64(walk)}
		u, _ := impl.Boot([][]impl.Ins{d.rolled(), d.rolled(), d.rolled(), d.rolled()})
		e := &elsewhere{d: d, a: arraysOf(t, u)}
		for step := range 120 {
			if !goesOnBy(u, impl.PsReady, impl.PsSleep) {
				break
			}
			of := impl.RunEffects
			if d.roll(6) == 0 || len(u.Ready) == 0 {
				of = impl.TickEffects
			}
			for _, effect := range of(u) {
				e.a, u = goesAlong(t, e.a, u, effect)
				kinds[effect.Kind]++
				effects++
			}
			if !aOkSaid(e.a) || !impl.AOk(e.a) {
				t.Fatalf("behind a step it is not AOk: %+v", e.a)
			}
			for _, r := range e.a.Pipes {
				heads[r.Head]++
			}
			if walk%2 == 1 && step%20 == 0 {
				e.everywhere()
			}
		}
	}
	if len(kinds) != 26 || heads[1] < 100 || heads[2] < 100 || heads[3] < 100 || effects < 5000 {
		t.Errorf("hardly anything was seen: kinds %v, Heads %v, %d effects", kinds, heads, effects)
	}
}

// TestManyArrayChanges has many one behind the other that nobody would ask
// for, so that what they come to is not right; each still does what it says.
func TestManyArrayChanges(t *testing.T) {
	t.Parallel()
	done := map[int]int{}
	for k, u := range append(right(), five(), five(), crowd(2, 1, 3)) {
		e := &elsewhere{d: &dice{n: uint64(k)}, a: arraysOf(t, u)}
		e.everywhere()
		was, chain, every := u, []impl.Eff{}, true
		a := e.a
		for range 120 {
			l := tries(u)
			try := l[e.d.roll(len(l))]
			if try.Kind == impl.EfReap && e.d.roll(4) > 0 {
				continue
			}
			_, fit := impl.Apply(u, try)
			chain, every = append(chain, try), every && fit
			e.a, u = goesAlong(t, e.a, u, try)
			if fit {
				done[try.Kind]++
			}
		}
		if want, ok := impl.ApplyAll(was, chain); ok != every || !alike(u, want) {
			t.Fatalf("ApplyAll of %+v to %+v: %v, %+v, not %+v", chain, was, ok, want, u)
		}
		for _, try := range chain {
			a, _ = impl.AApply(a, try)
		}
		if !alike(a, e.a) {
			t.Fatalf("the same changes once more: %+v, not %+v", a, e.a)
		}
	}
	if len(done) != 26 {
		t.Error("not each kind was done:", done)
	}
}

// TestArrayChangesOfKernelsThatAreNotOk turns each number and flag.
func TestArrayChangesOfKernelsThatAreNotOk(t *testing.T) {
	t.Parallel()
	did, refused, shapeless := 0, 0, 0
	for _, from := range []func() impl.Arrays{vacant, partUsed(t), func() impl.Arrays { return arraysOf(t, lastPlaces()) }} {
		all, at := tries(absSaid(from())), 0
		for _, r := range rows() {
			all = append(all, r.e)
		}
		eachTurned(t, from(), func(a impl.Arrays) {
			for range 2 {
				at = (at + 41) % len(all)
				switch got, ok := isAsSaid(t, a, all[at]); {
				case ok:
					did++
				case alike(got, a):
					refused++
				default:
					shapeless++
				}
			}
			if at%17 == 0 {
				aApplied(t, a, all[at])
			}
		})
	}
	if did < 3000 || refused < 3000 || shapeless < 1000 {
		t.Errorf("of all that was turned %d were done, %d refused, %d had no shape", did, refused, shapeless)
	}
}

// TestArrayChangesOfAnyPages has any numbers in Pts, and any flags in Map.
func TestArrayChangesOfAnyPages(t *testing.T) {
	t.Parallel()
	d := &dice{n: 13}
	numbers := append([]int{-1, -1, -1, -1, -2, 16, 99, math.MinInt, math.MaxInt}, wordsBehind(-1, 16)...)
	kinds := map[int]int{}
	for turn := range 1000 {
		a := arraysOf(t, crowd(1, 2, 3, 1))
		for k := range 4 {
			for at := range 3 {
				a.Slots[k].Pt[at] = numbers[d.roll(len(numbers))]
			}
		}
		for f := range a.Map {
			a.Map[f] = d.roll(1+turn%5) > 0
		}
		for at := range a.Ram {
			a.Ram[at] = at
		}
		for pid := 1; pid <= 5; pid++ {
			for _, kind := range []int{impl.EfSpawn, impl.EfDrop, impl.EfReap, impl.EfGrow, impl.EfExec, impl.EfPoke} {
				e := impl.Eff{Kind: kind, A: pid, C: 7}
				switch kind {
				case impl.EfSpawn:
					e.A, e.B = 5, pid
				case impl.EfPoke:
					e.B = d.roll(13)
				}
				if _, ok := isAsSaid(t, a, e); ok {
					kinds[kind]++
				} else {
					kinds[-kind]++
				}
			}
		}
	}
	for _, kind := range []int{impl.EfSpawn, impl.EfGrow, impl.EfExec, impl.EfPoke} {
		if kinds[kind] < 200 || kinds[-kind] < 200 {
			t.Errorf("of kind %d %d were done, %d refused", kind, kinds[kind], kinds[-kind])
		}
	}
}

// TestSlotsAreTakenInOrder has the first slot that is not Used for a child.
func TestSlotsAreTakenInOrder(t *testing.T) {
	for used := range 1 << 6 {
		a := arraysOf(t, crowd(1, 1, 1, 1, 1, 1))
		first, from := -1, -1
		for k := range 6 {
			if used>>k&1 == 0 {
				a.Map[k], a.Slots[k] = false, noSlot()
				if first < 0 {
					first = k
				}
			} else {
				from = k
			}
		}
		if from < 0 {
			aFitsNot(t, a, impl.Eff{Kind: impl.EfSpawn, A: 7, B: 1})
			continue
		}
		e := impl.Eff{Kind: impl.EfSpawn, A: 7, B: from + 1}
		if first < 0 {
			aFitsNot(t, a, e)
			continue
		}
		got := aFits(t, a, e, func(a *impl.Arrays) {
			a.Slots[first] = fresh(a.Slots[from])
			a.Slots[first].Pid, a.Slots[first].Parent = 7, from+1
			a.Slots[first].Pt[0], a.Map[first], a.Next = first, true, 8
			copy(a.Ram[4*first:4*first+4], a.Ram[4*from:])
		})
		if got.Slots[first].Pid != 7 {
			t.Errorf("of slots %b the child has not slot %d: %+v", used, first, got.Slots)
		}
	}
}

// TestTheFirstSlotIsMeant has two processes of one Pid, which are in slots 1
// and 4, and slots that are not Used ahead of them, whose Pid is 0, too.
func TestTheFirstSlotIsMeant(t *testing.T) {
	for _, pid := range []int{0, 1, -7, math.MaxInt} {
		e := &elsewhere{a: arraysOf(t, crowd(1, 2))}
		e.slots([]int{1, 4, 0, 2, 3, 5})
		e.a.Slots[1].Pid, e.a.Slots[4].Pid = pid, pid
		regs := []int{5, 6, 7, 8}
		aFits(t, e.a, impl.Eff{Kind: impl.EfCpu, A: pid, B: 9, L: regs}, func(a *impl.Arrays) { a.Slots[1].Pc, a.Slots[1].Regs = 9, regs })
		aFits(t, e.a, impl.Eff{Kind: impl.EfPoke, A: pid, B: 3, C: 5}, func(a *impl.Arrays) { a.Ram[3] = 5 })
		aFitsNot(t, e.a, impl.Eff{Kind: impl.EfPoke, A: pid, B: 4, C: 5})
		aFits(t, e.a, impl.Eff{Kind: impl.EfState, A: pid, B: 3, C: 4}, func(a *impl.Arrays) { a.Slots[1].State, a.Slots[1].Until = 3, 4 })
		aFits(t, e.a, impl.Eff{Kind: impl.EfParent, A: pid, B: 3}, func(a *impl.Arrays) { a.Slots[1].Parent = 3 })
		aFits(t, e.a, impl.Eff{Kind: impl.EfCode, A: pid, B: 3}, func(a *impl.Arrays) { a.Slots[1].Code = 3 })
		aFits(t, e.a, impl.Eff{Kind: impl.EfFd, A: pid, C: 3}, func(a *impl.Arrays) { a.Slots[1].Fds[0] = 3 })
		aFits(t, e.a, impl.Eff{Kind: impl.EfDrop, A: pid}, func(a *impl.Arrays) { a.Slots[1].Pt[0], a.Map[0] = -1, false })
		aFits(t, e.a, impl.Eff{Kind: impl.EfGrow, A: pid}, func(a *impl.Arrays) { a.Slots[1].Pt[1], a.Map[3] = 3, true })
		aFits(t, e.a, impl.Eff{Kind: impl.EfExec, A: pid}, func(a *impl.Arrays) {})
		aFits(t, e.a, impl.Eff{Kind: impl.EfSpawn, A: 3, B: pid}, func(a *impl.Arrays) {
			a.Slots[0] = fresh(a.Slots[1])
			a.Slots[0].Pid, a.Slots[0].Parent, a.Slots[0].Pt[0], a.Map[3], a.Next = 3, pid, 3, true, 4
		})
		once := aFits(t, e.a, impl.Eff{Kind: impl.EfReap, A: pid}, func(a *impl.Arrays) { a.Slots[1], a.Map[0] = noSlot(), false })
		none := aFits(t, once, impl.Eff{Kind: impl.EfReap, A: pid}, func(a *impl.Arrays) { a.Slots[4], a.Map[1], a.Map[2] = noSlot(), false, false })
		aFitsNot(t, none, impl.Eff{Kind: impl.EfReap, A: pid}, impl.Eff{Kind: impl.EfCode, A: pid}, impl.Eff{Kind: impl.EfSpawn, A: 3, B: pid})
	}
}

// onlyFrames is the kernel of one process of so many pages, in the greatest
// frames, where just some others are free, and each word of Ram is another one.
func onlyFrames(t *testing.T, pages int, free ...int) impl.Arrays {
	a := arraysOf(t, crowd(1))
	a.Ram, a.Map = wordsBehind(90, 64), flags(16, true)
	a.Slots[0].Pt = []int{-1, -1, -1}
	for k := range pages {
		a.Slots[0].Pt[k] = 15 - k
	}
	for _, f := range free {
		a.Map[f] = false
	}
	return a
}

func blank(a *impl.Arrays, f int) { copy(a.Ram[4*f:4*f+4], make([]int, 4)) }

// TestFramesAreTakenInOrder has each set of the frames 0 to 7 left.
func TestFramesAreTakenInOrder(t *testing.T) {
	for left := range 1 << 8 {
		var free []int
		for f := range 8 {
			if left>>f&1 == 1 {
				free = append(free, f)
			}
		}
		for pages := range 4 {
			spawnsInto(t, onlyFrames(t, pages, free...), pages, free)
			growsInto(t, onlyFrames(t, pages, free...), pages, free)
			execsInto(t, onlyFrames(t, pages, free...), pages, free)
		}
	}
}

func spawnsInto(t *testing.T, a impl.Arrays, pages int, free []int) {
	t.Helper()
	e := impl.Eff{Kind: impl.EfSpawn, A: 2, B: 1}
	if len(free) < pages {
		aFitsNot(t, a, e)
		return
	}
	aFits(t, a, e, func(a *impl.Arrays) {
		a.Slots[1] = fresh(a.Slots[0])
		a.Slots[1].Pid, a.Slots[1].Parent, a.Slots[1].Pt, a.Next = 2, 1, []int{-1, -1, -1}, 3
		for k, f := range free[:pages] {
			a.Slots[1].Pt[k], a.Map[f] = f, true
			copy(a.Ram[4*f:4*f+4], wordsBehind(90+4*(15-k), 4))
		}
	})
}

func growsInto(t *testing.T, a impl.Arrays, pages int, free []int) {
	t.Helper()
	e := impl.Eff{Kind: impl.EfGrow, A: 1}
	if len(free) == 0 || pages == 3 {
		aFitsNot(t, a, e)
		return
	}
	aFits(t, a, e, func(a *impl.Arrays) {
		a.Slots[0].Pt[pages], a.Map[free[0]] = free[0], true
		blank(a, free[0])
	})
}

func execsInto(t *testing.T, a impl.Arrays, pages int, free []int) {
	t.Helper()
	e := impl.Eff{Kind: impl.EfExec, A: 1}
	all := slices.Clone(free)
	for k := range pages {
		all = append(all, 15-k)
	}
	if len(all) == 0 {
		aFitsNot(t, a, e)
		return
	}
	least := slices.Min(all)
	aFits(t, a, e, func(a *impl.Arrays) {
		for _, f := range all {
			a.Map[f] = f == least
		}
		a.Slots[0].Pt = []int{least, -1, -1}
		blank(a, least)
	})
}

// TestNoFrameIsLeft has all 16 frames held, and fewer of them by what there
// is than by Map.
func TestNoFrameIsLeft(t *testing.T) {
	full := arraysOf(t, allFull())
	aFitsNot(t, full, impl.Eff{Kind: impl.EfGrow, A: 6}, impl.Eff{Kind: impl.EfSpawn, A: 7, B: 6})
	aFits(t, full, impl.Eff{Kind: impl.EfExec, A: 6}, func(a *impl.Arrays) { blank(a, 15) })
	aFits(t, full, impl.Eff{Kind: impl.EfExec, A: 5}, func(a *impl.Arrays) {
		a.Slots[4].Pt, a.Map[13], a.Map[14] = []int{12, -1, -1}, false, false
		blank(a, 12)
	})
	lost := arraysOf(t, crowd(1, 2))
	lost.Map = flags(16, true)
	aFitsNot(t, lost, impl.Eff{Kind: impl.EfGrow, A: 1}, impl.Eff{Kind: impl.EfSpawn, A: 3, B: 1}, impl.Eff{Kind: impl.EfSpawn, A: 3, B: 2})
	aFits(t, lost, impl.Eff{Kind: impl.EfExec, A: 2}, func(a *impl.Arrays) {
		a.Slots[1].Pt, a.Map[2] = []int{1, -1, -1}, false
		blank(a, 1)
	})
	lost.Map[9] = false
	aFitsNot(t, lost, impl.Eff{Kind: impl.EfSpawn, A: 3, B: 2})
	aFits(t, lost, impl.Eff{Kind: impl.EfSpawn, A: 3, B: 1}, func(a *impl.Arrays) {
		a.Slots[2] = fresh(a.Slots[0])
		a.Slots[2].Pid, a.Slots[2].Parent, a.Slots[2].Pt, a.Map[9], a.Next = 3, 1, []int{9, -1, -1}, true, 4
		copy(a.Ram[36:40], a.Ram[:4])
	})
	bare := arraysOf(t, crowd(1, 2))
	bare.Slots[0].Pt[0], bare.Map = -1, flags(16, true)
	aFitsNot(t, bare, impl.Eff{Kind: impl.EfExec, A: 1}, impl.Eff{Kind: impl.EfGrow, A: 1})
	aFits(t, bare, impl.Eff{Kind: impl.EfSpawn, A: 3, B: 1}, func(a *impl.Arrays) {
		a.Slots[2] = fresh(a.Slots[0])
		a.Slots[2].Pid, a.Slots[2].Parent, a.Next = 3, 1, 4
	})
	shared := arraysOf(t, crowd(3, 3, 3, 3, 3))
	for k := range 5 {
		shared.Slots[k].Pt, shared.Map = []int{0, 1, 2}, append(flags(3, true), flags(13, false)...)
	}
	aFitsNot(t, shared, impl.Eff{Kind: impl.EfSpawn, A: 6, B: 1})
}

func TestPagesAreGiven(t *testing.T) {
	drop, reap := impl.Eff{Kind: impl.EfDrop, A: 1}, impl.Eff{Kind: impl.EfReap, A: 1}
	for pages := range 4 {
		a := onlyFrames(t, pages, 3)
		frees := func(a *impl.Arrays) {
			for k := range pages {
				a.Map[15-k] = false
			}
		}
		dropped := aFits(t, a, drop, func(a *impl.Arrays) {
			frees(a)
			a.Slots[0].Pt = []int{-1, -1, -1}
		})
		gone := func(a *impl.Arrays) {
			frees(a)
			a.Slots[0] = noSlot()
		}
		if twice := aFits(t, dropped, drop, func(a *impl.Arrays) {}); !alike(twice, dropped) {
			t.Errorf("what has no page has dropped one: %+v", twice)
		}
		aFits(t, dropped, reap, gone)
		reaped := aFits(t, a, reap, gone)
		aFitsNot(t, reaped, reap, drop, impl.Eff{Kind: impl.EfGrow, A: 1}, impl.Eff{Kind: impl.EfGrow})
	}
}

// TestPagesThatAreNone has numbers in a Pt that are no frame, and frames that
// Map does not have.
func TestPagesThatAreNone(t *testing.T) {
	drop, reap := impl.Eff{Kind: impl.EfDrop, A: 1}, impl.Eff{Kind: impl.EfReap, A: 1}
	exec, grow := impl.Eff{Kind: impl.EfExec, A: 1}, impl.Eff{Kind: impl.EfGrow, A: 1}
	for _, f := range append(noFrames(), -3) {
		for _, c := range []struct {
			pt    []int
			frees []int
		}{
			{[]int{f, -1, -1}, nil}, {[]int{15, f, -1}, []int{15}}, {[]int{15, 4, f}, []int{15, 4}}, {[]int{15, f, f}, []int{15}},
			{[]int{15, f, 4}, []int{15, 4}}, {[]int{f, 15, 4}, []int{15, 4}}, {[]int{-1, f, 4}, []int{4}}, {[]int{f, f, 15}, []int{15}},
		} {
			a := onlyFrames(t, 0, 7)
			a.Slots[0].Pt = c.pt
			frees := func(a *impl.Arrays) {
				a.Slots[0].Pt = []int{-1, -1, -1}
				for _, f := range c.frees {
					a.Map[f] = false
				}
			}
			aFits(t, a, drop, frees)
			aFits(t, a, reap, func(a *impl.Arrays) {
				frees(a)
				a.Slots[0] = noSlot()
			})
			aFits(t, a, exec, func(a *impl.Arrays) {
				frees(a)
				least := slices.Index(a.Map, false)
				a.Slots[0].Pt[0], a.Map[least] = least, true
				blank(a, least)
			})
			aFits(t, a, grow, func(a *impl.Arrays) {
				a.Slots[0].Pt[len(memSaid(c.pt, a.Ram))/4], a.Map[7] = 7, true
				blank(a, 7)
			})
		}
	}
}

func TestFramesThatMapDoesNotHave(t *testing.T) {
	drop, reap := impl.Eff{Kind: impl.EfDrop, A: 1}, impl.Eff{Kind: impl.EfReap, A: 1}
	exec, grow := impl.Eff{Kind: impl.EfExec, A: 1}, impl.Eff{Kind: impl.EfGrow, A: 1}
	for _, pt := range [][]int{{7, -1, -1}, {7, 3, -1}, {7, 3, 15}, {15, 7, 3}, {3, 3, -1}, {15, 15, 15}, {7, 15, 7}} {
		a := onlyFrames(t, 0, 3, 7)
		a.Slots[0].Pt = slices.Clone(pt)
		frees := func(a *impl.Arrays) {
			a.Slots[0].Pt = []int{-1, -1, -1}
			if slices.Contains(pt, 15) {
				a.Map[15] = false
			}
		}
		aFits(t, a, drop, frees)
		aFits(t, a, reap, func(a *impl.Arrays) {
			frees(a)
			a.Slots[0] = noSlot()
		})
		aFits(t, a, exec, func(a *impl.Arrays) {
			frees(a)
			a.Slots[0].Pt[0], a.Map[3] = 3, true
			blank(a, 3)
		})
		if n := slices.Index(pt, -1); n > 0 {
			aFits(t, a, grow, func(a *impl.Arrays) {
				a.Slots[0].Pt[n], a.Map[3] = 3, true
				blank(a, 3)
			})
		} else {
			aFitsNot(t, a, grow)
		}
	}
	a := onlyFrames(t, 2, 14, 15)
	aFits(t, a, impl.Eff{Kind: impl.EfSpawn, A: 2, B: 1}, func(a *impl.Arrays) {
		a.Slots[1] = fresh(a.Slots[0])
		a.Slots[1].Pid, a.Slots[1].Parent, a.Slots[1].Pt, a.Next = 2, 1, []int{14, 15, -1}, 3
		a.Map = flags(16, true)
		copy(a.Ram[56:60], a.Ram[60:])
	})
}

// ringed is a ring of so many words from a Head on, told by their places from
// 10 on, with numbers behind 70 where no word is.
func ringed(size int, head int, n int) impl.ARing {
	r := impl.ARing{Buf: wordsBehind(70, size), Head: head, Len: n}
	for k := range n {
		r.Buf[(head+k)%size] = 10 + k
	}
	return r
}

// TestPipesGoRound has each Head with each Len.
func TestPipesGoRound(t *testing.T) {
	put, take := impl.Eff{Kind: impl.EfPut, A: 1, B: 5}, impl.Eff{Kind: impl.EfTake, A: 1}
	for head := range 4 {
		for n := range 5 {
			a := arraysOf(t, piped(3))
			a.Pipes[1] = ringed(4, head, n)
			a.Pipes[1].Used = true
			if n == 4 {
				aFitsNot(t, a, put)
			} else {
				aFits(t, a, put, func(a *impl.Arrays) { a.Pipes[1].Buf[(head+n)%4], a.Pipes[1].Len = 5, n+1 })
			}
			if n == 0 {
				aFitsNot(t, a, take)
			} else {
				aFits(t, a, take, func(a *impl.Arrays) { a.Pipes[1].Head, a.Pipes[1].Len = []int{1, 2, 3, 0}[head], n-1 })
			}
			shut := aFits(t, a, impl.Eff{Kind: impl.EfUnpipe, A: 1}, func(a *impl.Arrays) { a.Pipes[1] = noPipe(a.Pipes[1].Buf...) })
			aFitsNot(t, shut, put, take, impl.Eff{Kind: impl.EfUnpipe, A: 1})
			again := aFits(t, shut, impl.Eff{Kind: impl.EfPipe, A: 1}, func(a *impl.Arrays) { a.Pipes[1].Used = true })
			aFits(t, again, put, func(a *impl.Arrays) { a.Pipes[1].Buf[0], a.Pipes[1].Len = 5, 1 })
			aFitsNot(t, again, take, impl.Eff{Kind: impl.EfPipe, A: 1})
		}
	}
}

// TestAPipeIsReadInOrder has words go round many times.
func TestAPipeIsReadInOrder(t *testing.T) {
	a := arraysOf(t, piped(1))
	d, in, out := &dice{}, 0, 0
	for range 400 {
		if d.roll(2) == 0 {
			made, ok := impl.AApply(a, impl.Eff{Kind: impl.EfPut, B: in})
			if ok != (in-out < 4) {
				t.Fatalf("%d is put where %d are read: %v, %+v", in, out, ok, made.Pipes)
			}
			if a = made; ok {
				in++
			}
			continue
		}
		l, _ := ringSaid(a.Pipes[0], 4)
		made, ok := impl.AApply(a, impl.Eff{Kind: impl.EfTake})
		if ok != (in > out) || ok && l[0] != out {
			t.Fatalf("%d is not the first one of %v: %v", out, l, ok)
		}
		if a = made; ok {
			out++
		}
	}
	if out < 100 {
		t.Error("only", out, "words were read")
	}
}

// TestReadyGoesRound has each Head with each Len, and each of its words
// pulled.
func TestReadyGoesRound(t *testing.T) {
	for head := range 6 {
		for n := range 7 {
			a := arraysOf(t, booted())
			a.Ready = ringed(6, head, n)
			push := impl.Eff{Kind: impl.EfPush, A: 5}
			if n == 6 {
				aFitsNot(t, a, push)
			} else {
				aFits(t, a, push, func(a *impl.Arrays) { a.Ready.Buf[(head+n)%6], a.Ready.Len = 5, n+1 })
			}
			for at := range n {
				got := aFits(t, a, impl.Eff{Kind: impl.EfPull, A: 10 + at}, func(a *impl.Arrays) {
					a.Ready.Len = n - 1
					for k := at; k < n-1; k++ {
						a.Ready.Buf[(head+k)%6] = 10 + k + 1
					}
				})
				if want := slices.Delete(wordsBehind(9, n), at, at+1); !slices.Equal(impl.AbsA(got).Ready, want) {
					t.Errorf("%d is pulled from %+v: %v, not %v", 10+at, a.Ready, impl.AbsA(got).Ready, want)
				}
			}
			aFitsNot(t, a, impl.Eff{Kind: impl.EfPull, A: 10 + n}, impl.Eff{Kind: impl.EfPull, A: 75}, impl.Eff{Kind: impl.EfPull})
			a.Ready.Used = true
			aFitsNot(t, a, impl.Eff{Kind: impl.EfPull, A: 10 + n})
		}
	}
	a := arraysOf(t, booted())
	a.Ready = impl.ARing{Buf: []int{7, 8, 7, 0, 7, 7}, Head: 4, Len: 5}
	aFits(t, a, impl.Eff{Kind: impl.EfPull, A: 7}, func(a *impl.Arrays) { a.Ready.Buf, a.Ready.Len = []int{8, 7, 7, 0, 7, 7}, 4 })
	aFits(t, a, impl.Eff{Kind: impl.EfPull, A: 8}, func(a *impl.Arrays) { a.Ready.Buf, a.Ready.Len = []int{7, 7, 7, 0, 7, 7}, 4 })
	aFitsNot(t, a, impl.Eff{Kind: impl.EfPull, A: 0})
}

func TestOpensAndFilesByTheirPlaces(t *testing.T) {
	for id := range 8 {
		open := impl.Eff{Kind: impl.EfOpen, A: id, B: -id, C: 50 + id}
		for _, u := range []impl.Unix{empty(), opened(8)} {
			a := arraysOf(t, u)
			if len(u.Opens) == 0 {
				a = aFits(t, a, open, func(a *impl.Arrays) { a.Opens[id] = impl.AOpen{Used: true, Kind: -id, Target: 50 + id} })
			}
			aFitsNot(t, a, open)
			a = aFits(t, a, impl.Eff{Kind: impl.EfRef, A: id, B: 3}, func(a *impl.Arrays) { a.Opens[id].Refs += 3 })
			a = aFits(t, a, impl.Eff{Kind: impl.EfOff, A: id, B: -4}, func(a *impl.Arrays) { a.Opens[id].Off = -4 })
			a = aFits(t, a, impl.Eff{Kind: impl.EfShut, A: id}, func(a *impl.Arrays) { a.Opens[id] = impl.AOpen{} })
			aFitsNot(t, a, impl.Eff{Kind: impl.EfShut, A: id}, impl.Eff{Kind: impl.EfRef, A: id, B: 1}, impl.Eff{Kind: impl.EfOff, A: id, B: 1})
			aFits(t, a, open, func(a *impl.Arrays) { a.Opens[id] = impl.AOpen{Used: true, Kind: -id, Target: 50 + id} })
		}
	}
	for name := range 6 {
		a := aFits(t, arraysOf(t, empty()), impl.Eff{Kind: impl.EfMake, A: name}, func(a *impl.Arrays) { a.Files[name].Used = true })
		for at := range 8 {
			aFitsNot(t, a, impl.Eff{Kind: impl.EfMake, A: name}, impl.Eff{Kind: impl.EfWord, A: name, B: at + 1}, impl.Eff{Kind: impl.EfWord, A: name, B: -1})
			a = aFits(t, a, impl.Eff{Kind: impl.EfWord, A: name, B: at, C: 60 + at}, func(a *impl.Arrays) { a.Files[name].Data = wordsBehind(59, at+1) })
		}
		aFitsNot(t, a, impl.Eff{Kind: impl.EfWord, A: name, B: 8})
		a = aFits(t, a, impl.Eff{Kind: impl.EfWord, A: name, B: 7, C: math.MaxInt}, func(a *impl.Arrays) { a.Files[name].Data[7] = math.MaxInt })
		a = aFits(t, a, impl.Eff{Kind: impl.EfGone, A: name}, func(a *impl.Arrays) { a.Files[name] = impl.AFile{} })
		aFitsNot(t, a, impl.Eff{Kind: impl.EfGone, A: name}, impl.Eff{Kind: impl.EfWord, A: name})
	}
}

// TestWhatIsNotThereInArrays names places, Pids and kinds that are none.
func TestWhatIsNotThereInArrays(t *testing.T) {
	for _, a := range []impl.Arrays{arraysOf(t, empty()), vacant(), scattered(), arraysOf(t, allFull())} {
		for _, n := range []int{math.MinInt, -100, -1, 100, math.MaxInt} {
			for kind := impl.EfCpu; kind <= impl.EfGone; kind++ {
				aFitsNot(t, a, impl.Eff{Kind: kind, A: n, B: n, L: make([]int, 4)})
			}
			aFitsNot(t, a, impl.Eff{Kind: impl.EfParent, A: n}, impl.Eff{Kind: impl.EfCode, A: n}, impl.Eff{Kind: impl.EfPull, A: n})
		}
		for _, kind := range []int{0, -1, 27, 28, 100, math.MinInt, math.MaxInt} {
			aFitsNot(t, a, impl.Eff{Kind: kind}, impl.Eff{Kind: kind, A: 1, B: 1, C: 1, L: make([]int, 4)}, impl.Eff{Kind: kind, A: 9, B: 2})
		}
	}
	a := vacant()
	for _, pid := range []int{0, 3, 6, 8, 9} {
		for _, kind := range []int{1, 2, 3, 5, 6, 7, 8, 9, 25, 26} {
			aFitsNot(t, a, impl.Eff{Kind: kind, A: pid, L: make([]int, 4)})
		}
		aFitsNot(t, a, impl.Eff{Kind: impl.EfSpawn, A: 9, B: pid})
	}
	for _, c := range cpusWrong() {
		aFitsNot(t, a, impl.Eff{Kind: impl.EfCpu, A: 2, B: c.Pc, L: c.Regs})
	}
	for _, at := range []int{-1, 8, 9, math.MinInt, math.MaxInt} {
		aFitsNot(t, a, impl.Eff{Kind: impl.EfPoke, A: 2, B: at}, impl.Eff{Kind: impl.EfFd, A: 2, B: at})
	}
	for _, word := range []int{-1000001, 1000001, math.MinInt, math.MaxInt} {
		aFitsNot(t, a, impl.Eff{Kind: impl.EfPoke, A: 2, B: 1, C: word})
	}
	aFitsNot(t, a, impl.Eff{Kind: impl.EfFd, A: 2, B: 4}, impl.Eff{Kind: impl.EfExec, A: 2, B: 3}, impl.Eff{Kind: impl.EfExec, A: 2, B: -1})
	aFitsNot(t, a, impl.Eff{Kind: impl.EfSpawn, A: 8, B: 2}, impl.Eff{Kind: impl.EfSpawn, A: 10, B: 2})
	aFitsNot(t, scattered(), impl.Eff{Kind: impl.EfSpawn, A: 9, B: 2}, impl.Eff{Kind: impl.EfGrow, A: 4})
}

func TestListsOfAllInArrays(t *testing.T) {
	for _, n := range []int{0, 58, 59, 60, 61, 70} {
		a := arraysOf(t, empty())
		a.Out = words(n)
		if n < 60 {
			aFits(t, a, impl.Eff{Kind: impl.EfOut, A: math.MinInt}, func(a *impl.Arrays) { a.Out = append(a.Out, math.MinInt) })
		} else {
			aFitsNot(t, a, impl.Eff{Kind: impl.EfOut, A: 6})
		}
	}
	for _, n := range []int{math.MinInt, -1, 0, 999999, 1000000, 1000001, math.MaxInt} {
		a := arraysOf(t, empty())
		a.Tick = n
		if n < 1000000 {
			aFits(t, a, impl.Eff{Kind: impl.EfTick}, func(a *impl.Arrays) { a.Tick = n + 1 })
		} else {
			aFitsNot(t, a, impl.Eff{Kind: impl.EfTick})
		}
	}
	for _, n := range []int{math.MinInt, -1, 0, 1, 99999, 100000, 100001, math.MaxInt} {
		a := arraysOf(t, crowd(1))
		a.Next = n
		e := impl.Eff{Kind: impl.EfSpawn, A: n, B: 1}
		if n < 100000 {
			aFits(t, a, e, func(a *impl.Arrays) {
				a.Slots[1] = fresh(a.Slots[0])
				a.Slots[1].Pid, a.Slots[1].Parent, a.Slots[1].Pt[0], a.Map[1], a.Next = n, 1, 1, true, n+1
			})
		} else {
			aFitsNot(t, a, e)
		}
	}
}

// TestWithoutItsShapeNothingIsChanged has a few by name; shapeless asks it of
// each way not to have it.
func TestWithoutItsShapeNothingIsChanged(t *testing.T) {
	l := tries(five())
	nothingIsChanged(t, "nothing", impl.Arrays{}, l...)
	a := vacant()
	a.Slots[1].Pid = 1
	nothingIsChanged(t, "a slot that is not Used", a, l...)
	a = vacant()
	a.Map = a.Map[:15]
	nothingIsChanged(t, "a flag too few", a, l...)
	a = vacant()
	a.Ready.Head = 6
	nothingIsChanged(t, "Head of Ready past its end", a, l...)
}

// TestArrayChangesShareNothing has lists that are one where they come in.
func TestArrayChangesShareNothing(t *testing.T) {
	a, regs := arraysOf(t, five()), withRoom([]int{1, 2, 3, 4})
	pt := []int{0, -1, -1}
	for k := range a.Slots[:5] {
		a.Slots[k].Regs, a.Slots[k].Fds, a.Slots[k].Pt = regs, regs, pt
	}
	for k := range a.Progs {
		a.Progs[k] = a.Progs[2]
	}
	a.Pipes[0].Buf, a.Pipes[1].Buf, a.Pipes[2].Buf, a.Files[1].Data, a.Files[4].Data, a.Out = regs, regs, regs, regs, regs, regs
	was := fresh(a)
	for _, e := range append(tries(five()), impl.Eff{Kind: impl.EfCpu, A: 1, L: regs}) {
		if got, _ := impl.AApply(a, e); !sharesNone(got, a, e, regs) || !alike(a, was) || !marked(regs) {
			t.Errorf("AApply of %+v shares memory: %+v", e, got)
		}
	}
}

// TestWhatAApplyMakesIsNotKept changes what was made, and asks again.
func TestWhatAApplyMakesIsNotKept(t *testing.T) {
	for k, r := range append(aRowsOnProcs(), aRowsOnOthers()...) {
		a := vacant()
		for _, e := range []impl.Eff{r.e, {}} {
			made, _ := impl.AApply(a, e)
			for _, n := range numbersOf(reflect.ValueOf(&made).Elem()) {
				n.SetInt(55)
			}
			for _, flag := range flagsOf(reflect.ValueOf(&made).Elem()) {
				flag.SetBool(!flag.Bool())
			}
		}
		if !alike(a, vacant()) {
			t.Fatalf("a change of what was made changes the kernel: %+v", a)
		}
		aFits(t, a, r.e, r.do)
		if t.Failed() {
			t.Fatal(fmt.Sprint("row ", k))
		}
	}
}
