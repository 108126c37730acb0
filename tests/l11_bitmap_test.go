package tests

import (
	"math"
	"slices"
	"testing"

	"loop.example/g00781/impl"
)

const frames = 16

// patterns are how many bitmaps there are, each told by a number.
const patterns = 1 << frames

// mapOf is the bitmap of a pattern: frame f is set where f halvings of the
// pattern leave an odd number.
func mapOf(pattern int) []bool {
	var m []bool
	for range frames {
		m = append(m, pattern%2 == 1)
		pattern /= 2
	}
	return m
}

// flags are n flags, all of them set or none.
func flags(n int, set bool) []bool { return slices.Repeat([]bool{set}, n) }

// withFlag is a bitmap in which frame f is set, or not, and nothing else is
// another one.
func withFlag(m []bool, f int, set bool) []bool {
	m = slices.Clone(m)
	m[f] = set
	return m
}

func mapFreeSaid(m []bool) int {
	n := 0
	for _, set := range m {
		if !set {
			n++
		}
	}
	return n
}

// mapTakeSaid and mapGiveSaid are what comes of a right bitmap, by the document's own
// words.
func mapTakeSaid(m []bool) ([]bool, int) {
	f := slices.Index(m, false)
	if f == -1 {
		return m, -1
	}
	return withFlag(m, f, true), f
}

func mapGiveSaid(m []bool, f int) ([]bool, bool) {
	if f < 0 || f > 15 || !m[f] {
		return m, false
	}
	return withFlag(m, f, false), true
}

// ofMap asks twice, with room behind the flags in which none is set and in
// which all are: neither may be read, nor written into, and the answer shares
// none of it.
func ofMap[T comparable](t *testing.T, of func(m []bool) ([]bool, T), m []bool) ([]bool, T) {
	t.Helper()
	said, told := askMap(t, of, m, false)
	again, toldAgain := askMap(t, of, m, true)
	if !slices.Equal(again, said) || toldAgain != told {
		t.Fatalf("of %v it answers %v, %v, and then %v, %v", m, said, told, again, toldAgain)
	}
	return said, told
}

func askMap[T comparable](t *testing.T, of func(m []bool) ([]bool, T), m []bool, mark bool) ([]bool, T) {
	t.Helper()
	given := roomy(m, mark)
	answer, told := of(given)
	said := slices.Clone(answer)
	if !untouched(given, m, mark) {
		t.Fatalf("it writes into %v: %v", m, given[:len(m)+3])
	}
	for k := range answer[:cap(answer)] {
		answer[:cap(answer)][k] = !answer[:cap(answer)][k]
	}
	if !untouched(given, m, mark) {
		t.Fatalf("what it answers shares memory with %v", m)
	}
	return said, told
}

// justTold is a function that answers no list, for ofMap.
func justTold[T comparable](of func(m []bool) T) func(m []bool) ([]bool, T) {
	return func(m []bool) ([]bool, T) { return nil, of(m) }
}

func mapOk(t *testing.T, m []bool) bool {
	t.Helper()
	_, ok := ofMap(t, justTold(impl.MapOk), m)
	return ok
}

func mapFree(t *testing.T, m []bool) int {
	t.Helper()
	_, n := ofMap(t, justTold(impl.MapFree), m)
	return n
}

func mapTake(t *testing.T, m []bool) ([]bool, int) {
	t.Helper()
	return ofMap(t, impl.MapTake, m)
}

func mapGive(t *testing.T, m []bool, f int) ([]bool, bool) {
	t.Helper()
	return ofMap(t, func(m []bool) ([]bool, bool) { return impl.MapGive(m, f) }, m)
}

// mapTakes wants a MapTake of a bitmap to come to this, with one less free behind
// it where a frame was taken.
func mapTakes(t *testing.T, m []bool, want []bool, wantFrame int) {
	t.Helper()
	free := mapFree(t, m)
	got, f := mapTake(t, m)
	if !slices.Equal(got, want) || f != wantFrame {
		t.Fatalf("MapTake(%v) = %v, %d, not %v, %d", m, got, f, want, wantFrame)
	}
	if f != -1 {
		free--
	}
	if n := mapFree(t, got); n != free || n < 0 || !mapOk(t, got) {
		t.Fatalf("behind MapTake of %v %d are free, not %d", m, n, free)
	}
}

// mapGives wants a MapGive of a bitmap to come to this, with one more free behind
// it where a frame was given.
func mapGives(t *testing.T, m []bool, f int, want []bool, wantOk bool) {
	t.Helper()
	free := mapFree(t, m)
	got, ok := mapGive(t, m, f)
	if !slices.Equal(got, want) || ok != wantOk {
		t.Fatalf("MapGive(%v, %d) = %v, %v, not %v, %v", m, f, got, ok, want, wantOk)
	}
	if ok {
		free++
	}
	if n := mapFree(t, got); n != free || n > frames || !mapOk(t, got) {
		t.Fatalf("behind MapGive of %d to %v %d are free, not %d", f, m, n, free)
	}
}

// noFrames are numbers of no frame, some of which are that of one in fewer
// bits.
func noFrames() []int {
	return []int{
		-1, -2, -15, -16, -17, -64, -256, -1 << 32, math.MinInt + 15, math.MinInt + 1, math.MinInt,
		16, 17, 31, 32, 47, 63, 64, 65, 79, 128, 255, 256, 271, 1 << 16, 1<<31 - 1, 1 << 31, 1 << 32, 1<<32 + 15, 1 << 62, math.MaxInt - 1, math.MaxInt,
	}
}

func TestMapTakesEachFrameOnceTheLeastFirst(t *testing.T) {
	m := flags(frames, false)
	for want := range frames {
		if n := mapFree(t, m); n != frames-want {
			t.Errorf("with %d taken %d are free", want, n)
		}
		next, f := mapTake(t, m)
		if f != want || !slices.Equal(next, withFlag(m, want, true)) {
			t.Fatalf("MapTake number %d is of frame %d: %v", want, f, next)
		}
		m = next
	}
	if !slices.Equal(m, flags(frames, true)) {
		t.Error("behind all of them there are", m)
	}
	for range 3 {
		next, f := mapTake(t, m)
		if f != -1 || !slices.Equal(next, flags(frames, true)) || mapFree(t, next) != 0 {
			t.Fatalf("one more is %d, of %v", f, next)
		}
		m = next
	}
}

func TestMapOfEachPattern(t *testing.T) {
	for pattern := range patterns {
		m := mapOf(pattern)
		if !mapOk(t, m) || mapFree(t, m) != mapFreeSaid(m) {
			t.Fatalf("MapOk, MapFree of %v: %v, %d", m, mapOk(t, m), mapFree(t, m))
		}
		want, f := mapTakeSaid(m)
		mapTakes(t, m, want, f)
	}
}

func TestMapGiveOfEachPattern(t *testing.T) {
	for pattern := range patterns {
		m := mapOf(pattern)
		for f := -1; f <= frames; f++ {
			want, ok := mapGiveSaid(m, f)
			got, gotOk := impl.MapGive(m, f)
			if !slices.Equal(got, want) || gotOk != ok {
				t.Fatalf("MapGive(%v, %d) = %v, %v", m, f, got, gotOk)
			}
			if pattern%251 == 0 {
				mapGives(t, m, f, want, ok)
			}
		}
		if !slices.Equal(m, mapOf(pattern)) {
			t.Fatalf("MapGive writes into pattern %d: %v", pattern, m)
		}
	}
}

func TestMapWhatIsGivenIsTakenAgain(t *testing.T) {
	for pattern := range patterns {
		m := mapOf(pattern)
		_, least := mapTakeSaid(m)
		for f := range frames {
			given, ok := impl.MapGive(m, f)
			if !ok {
				continue
			}
			again, taken := impl.MapTake(given)
			comesFirst := least == -1 || f < least
			if comesFirst && (taken != f || !slices.Equal(again, m)) || !comesFirst && taken != least {
				t.Fatalf("of %v frame %d was given, and %d is taken: %v", m, f, taken, again)
			}
		}
	}
}

// TestMapAllThatIsGivenIsTakenAgain gives some of all frames, in one order or
// the other, and takes until none is left: they come rising, each once.
func TestMapAllThatIsGivenIsTakenAgain(t *testing.T) {
	for pattern := 0; pattern < patterns; pattern += 37 {
		var back []int
		for f, set := range mapOf(pattern) {
			if set {
				back = append(back, f)
			}
		}
		for _, order := range [][]int{back, backwards(back)} {
			m, ok := flags(frames, true), true
			for _, f := range order {
				if m, ok = impl.MapGive(m, f); !ok {
					t.Fatalf("of %v frame %d is not given", order, f)
				}
			}
			var taken []int
			for f := 0; len(taken) <= frames; {
				if m, f = impl.MapTake(m); f == -1 {
					break
				}
				taken = append(taken, f)
			}
			if !slices.Equal(taken, back) || !slices.Equal(m, flags(frames, true)) {
				t.Fatalf("given %v, taken %v: %v", order, taken, m)
			}
		}
	}
}

func backwards(l []int) []int {
	l = slices.Clone(l)
	slices.Reverse(l)
	return l
}

// extremes counts how often all frames were free, and how often none was.
type extremes struct{ all, none int }

func (e *extremes) see(held []bool) {
	switch mapFreeSaid(held) {
	case 0:
		e.none++
	case frames:
		e.all++
	}
}

func (e *extremes) wereMet(t *testing.T) {
	t.Helper()
	if e.all < 50 || e.none < 50 {
		t.Errorf("all were free %d times, none %d times", e.all, e.none)
	}
}

// TestMapLongUse takes and gives by turns, and keeps book of what is held; some
// often take more than they give, so that all are held at times, and none.
func TestMapLongUse(t *testing.T) {
	d, met := dice{11}, &extremes{}
	for _, often := range []int{1, 2, 3, 5} {
		m, held := flags(frames, false), flags(frames, false)
		for range 2000 {
			if d.roll(6) < often {
				want, f := mapTakeSaid(held)
				mapTakes(t, m, want, f)
				m, _ = impl.MapTake(m)
				held = want
			} else {
				f := d.roll(18) - 1
				want, ok := mapGiveSaid(held, f)
				mapGives(t, m, f, want, ok)
				m, _ = impl.MapGive(m, f)
				held = want
			}
			met.see(held)
		}
	}
	met.wereMet(t)
}

func TestMapEdges(t *testing.T) {
	none, every := flags(frames, false), flags(frames, true)
	butFirst, butLast := withFlag(every, 0, false), withFlag(every, 15, false)
	onlyFirst, onlyLast := withFlag(none, 0, true), withFlag(none, 15, true)
	for _, c := range []struct {
		m    []bool
		free int
		want []bool
		f    int
	}{
		{none, 16, onlyFirst, 0},
		{every, 0, every, -1},
		{butLast, 1, every, 15},
		{butFirst, 1, every, 0},
		{onlyFirst, 15, mapOf(3), 1},
		{onlyLast, 15, mapOf(1<<15 + 1), 0},
		{mapOf(1<<15 - 1 - 1<<14), 2, butLast, 14},
	} {
		if n := mapFree(t, c.m); n != c.free {
			t.Errorf("of %v %d are free", c.m, n)
		}
		mapTakes(t, c.m, c.want, c.f)
	}
	mapGives(t, every, 0, butFirst, true)
	mapGives(t, every, 15, butLast, true)
	mapGives(t, onlyFirst, 0, none, true)
	mapGives(t, onlyLast, 15, none, true)
	mapGives(t, butFirst, 0, butFirst, false)
	mapGives(t, butLast, 15, butLast, false)
	mapGives(t, butLast, 14, mapOf(1<<14-1), true)
	mapGives(t, onlyLast, 0, onlyLast, false)
	mapGives(t, onlyFirst, 15, onlyFirst, false)
}

func TestMapGiveOfWhatCannotBeGiven(t *testing.T) {
	for pattern := 0; pattern < patterns; pattern += 255 {
		m := mapOf(pattern)
		for _, f := range noFrames() {
			mapGives(t, m, f, m, false)
		}
		for f, set := range m {
			if !set {
				mapGives(t, m, f, m, false)
				continue
			}
			given, _ := impl.MapGive(m, f)
			mapGives(t, given, f, given, false)
		}
	}
}

// TestMapThatIsNotRight holds lists of another length than Frames, each with
// room for more flags behind it.
func TestMapThatIsNotRight(t *testing.T) {
	for _, n := range []int{0, 15, 17, 1, 2, 8, 14, 18, 31, 32, 33, 63, 64, 65, 128, 256, 65536} {
		for _, set := range []bool{false, true} {
			mapIsNotRight(t, flags(n, set))
			if n > 0 {
				mapIsNotRight(t, withFlag(flags(n, set), n-1, !set))
				mapIsNotRight(t, withFlag(flags(n, set), 0, !set))
			}
		}
	}
	mapIsNotRight(t, nil)
	if l, f := impl.MapTake(nil); impl.MapOk(nil) || len(l) != 0 || f != -1 || impl.MapFree(nil) != 0 {
		t.Error("nil is taken from:", l, f)
	}
	whole := flags(frames, true)
	mapIsNotRight(t, whole[:15])
	mapIsNotRight(t, whole[1:])
	if !mapOk(t, whole) {
		t.Error("a whole bitmap is not right")
	}
}

func mapIsNotRight(t *testing.T, m []bool) {
	t.Helper()
	if mapOk(t, m) || mapFree(t, m) != 0 {
		t.Errorf("MapOk, MapFree of %d flags: %v, %d", len(m), mapOk(t, m), mapFree(t, m))
	}
	if got, f := mapTake(t, m); len(got) != 0 || f != -1 {
		t.Errorf("MapTake of %d flags: %v, %d", len(m), got, f)
	}
	for _, f := range append(noFrames(), 0, 1, 14, 15) {
		if got, ok := mapGive(t, m, f); len(got) != 0 || ok {
			t.Errorf("MapGive of %d to %d flags: %v, %v", f, len(m), got, ok)
		}
	}
}

// TestMapAnswersAreNewMemory asks it of what is taken and given, and of what is
// handed back.
func TestMapAnswersAreNewMemory(t *testing.T) {
	for _, pattern := range []int{0, 1, 1<<15 - 1, 1 << 15, patterns - 2, patterns - 1} {
		m := roomy(mapOf(pattern), true)
		a, _ := impl.MapTake(m)
		b, _ := impl.MapTake(m)
		c, _ := impl.MapGive(m, 0)
		d, _ := impl.MapGive(m, 0)
		e, _ := impl.MapGive(m, -1)
		f, _ := impl.MapGive(m, 16)
		for _, l := range [][]bool{a, b, c, d, e, f} {
			if len(l) != frames {
				t.Errorf("of pattern %d an answer has %d flags", pattern, len(l))
			}
		}
		if !sharesNone([][]bool{a, b, c, d, e, f}, m) {
			t.Errorf("answers of pattern %d share memory", pattern)
		}
	}
}
