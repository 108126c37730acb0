package tests

import (
	"fmt"
	"slices"
	"testing"

	"loop.example/g00781/impl"
)

const whole = 4

// heap is one of five lists, those of orders that are not named empty.
func heap(firsts ...[]int) impl.Buddy {
	for len(firsts) <= whole {
		firsts = append(firsts, nil)
	}
	return impl.Buddy{Free: firsts}
}

// heapOf has just those frames free that are set: in the greatest blocks that
// have none but them.
func heapOf(free []bool) impl.Buddy {
	b, left := heap(), slices.Clone(free)
	for order := whole; order >= 0; order-- {
		n := 1 << order
		for f := 0; f < frames; f += n {
			if !slices.Contains(left[f:f+n], false) {
				b.Free[order] = append(b.Free[order], f)
				copy(left[f:], flags(n, false))
			}
		}
	}
	return b
}

type block struct{ first, length int }

func (a block) has(f int) bool { return a.first <= f && f < a.first+a.length }

func (a block) meets(c block) bool {
	return a.has(c.first) || c.has(a.first)
}

// isLowerBuddy tells whether the other one begins where this one ends, and
// this one begins as both would.
func (a block) isLowerBuddy(c block) bool {
	return a.length == c.length && a.length < frames && c.first == a.first+a.length && a.first%(2*a.length) == 0
}

func blocksOf(b impl.Buddy) []block {
	var l []block
	for order, firsts := range b.Free {
		for _, f := range firsts {
			l = append(l, block{f, 1 << order})
		}
	}
	return l
}

// freeOf are the frames that the blocks of a heap have.
func freeOf(b impl.Buddy) []bool {
	free := flags(frames, false)
	for f := range frames {
		free[f] = slices.ContainsFunc(blocksOf(b), func(a block) bool { return a.has(f) })
	}
	return free
}

func buddyOkSaid(b impl.Buddy) bool {
	if len(b.Free) != 5 {
		return false
	}
	for _, firsts := range b.Free {
		for k := range firsts {
			if k > 0 && firsts[k-1] >= firsts[k] {
				return false
			}
		}
	}
	l := blocksOf(b)
	for k, a := range l {
		if a.first < 0 || a.first > 15 || a.first%a.length != 0 {
			return false
		}
		for _, c := range l[k+1:] {
			if a.meets(c) || a.isLowerBuddy(c) || c.isLowerBuddy(a) {
				return false
			}
		}
	}
	return true
}

// buddyTakeSaid is what comes of a right heap, by the document's own words.
func buddyTakeSaid(b impl.Buddy) (impl.Buddy, int) {
	b = fresh(b)
	for order, firsts := range b.Free {
		if len(firsts) == 0 {
			continue
		}
		f := firsts[0]
		b.Free[order] = firsts[1:]
		for order > 0 {
			order--
			b.Free[order] = []int{f + 1<<order}
		}
		return b, f
	}
	return b, -1
}

// buddyGiveSaid is what comes of a right heap: the book of its frames with one
// more, in the greatest blocks that there are.
func buddyGiveSaid(b impl.Buddy, f int) (impl.Buddy, bool) {
	free := freeOf(b)
	if f < 0 || f > 15 || free[f] {
		return b, false
	}
	return heapOf(withFlag(free, f, true)), true
}

func freeSaidOf(b impl.Buddy) int { return frames - mapFreeSaid(freeOf(b)) }

func buddyOk(t *testing.T, b impl.Buddy) bool {
	t.Helper()
	return answered(t, impl.BuddyOk, b)
}

func buddyFree(t *testing.T, b impl.Buddy) int {
	t.Helper()
	return answered(t, impl.BuddyFree, b)
}

func buddyTake(t *testing.T, b impl.Buddy) (impl.Buddy, int) {
	t.Helper()
	type taken struct {
		Heap  impl.Buddy
		Frame int
	}
	a := answered(t, func(b impl.Buddy) taken {
		heap, f := impl.BuddyTake(b)
		return taken{heap, f}
	}, b)
	return a.Heap, a.Frame
}

func buddyGive(t *testing.T, b impl.Buddy, f int) (impl.Buddy, bool) {
	t.Helper()
	return appliedBy(t, impl.BuddyGive, b, f)
}

// buddyTakes wants a BuddyTake to come to this, and to a right heap that has
// one frame less where one was taken.
func buddyTakes(t *testing.T, b impl.Buddy, want impl.Buddy, wantFrame int) impl.Buddy {
	t.Helper()
	free := buddyFree(t, b)
	got, f := buddyTake(t, b)
	if !alike(got, want) || f != wantFrame {
		t.Fatalf("BuddyTake(%v) = %v, %d, not %v, %d", b, got, f, want, wantFrame)
	}
	if f != -1 {
		free--
	}
	if n := buddyFree(t, got); n != free || !buddyOk(t, got) {
		t.Fatalf("behind BuddyTake of %v there is %v: %d are free, not %d", b, got, n, free)
	}
	return got
}

// buddyGives wants a BuddyGive to come to this, and to a right heap that has
// one frame more where one was given.
func buddyGives(t *testing.T, b impl.Buddy, f int, want impl.Buddy, wantOk bool) impl.Buddy {
	t.Helper()
	free := buddyFree(t, b)
	got, ok := buddyGive(t, b, f)
	if !alike(got, want) || ok != wantOk {
		t.Fatalf("BuddyGive(%v, %d) = %v, %v, not %v, %v", b, f, got, ok, want, wantOk)
	}
	if ok {
		free++
	}
	if n := buddyFree(t, got); n != free || !buddyOk(t, got) {
		t.Fatalf("behind BuddyGive of %d to %v there is %v: %d are free, not %d", f, b, got, n, free)
	}
	return got
}

// heapIsAsSaid asks all of a heap that is right.
func heapIsAsSaid(t *testing.T, b impl.Buddy) {
	t.Helper()
	if !buddyOk(t, b) || buddyFree(t, b) != freeSaidOf(b) {
		t.Fatalf("BuddyOk, BuddyFree of %v: %v, %d", b, buddyOk(t, b), buddyFree(t, b))
	}
	want, f := buddyTakeSaid(b)
	buddyTakes(t, b, want, f)
	for f := -1; f <= frames; f++ {
		want, ok := buddyGiveSaid(b, f)
		buddyGives(t, b, f, want, ok)
	}
}

// heapIsWrong asks all of a heap that is not right.
func heapIsWrong(t *testing.T, name string, b impl.Buddy) {
	t.Helper()
	if buddyOk(t, b) || buddyFree(t, b) != 0 {
		t.Errorf("%s: BuddyOk, BuddyFree of %v: %v, %d", name, b, buddyOk(t, b), buddyFree(t, b))
	}
	if got, f := buddyTake(t, b); !alike(got, impl.Buddy{}) || f != -1 {
		t.Errorf("%s: BuddyTake(%v) = %v, %d", name, b, got, f)
	}
	for f := -1; f <= frames; f++ {
		if got, ok := buddyGive(t, b, f); !alike(got, impl.Buddy{}) || ok {
			t.Errorf("%s: BuddyGive(%v, %d) = %v, %v", name, b, f, got, ok)
		}
	}
}

func TestBuddyAllIsOneBlock(t *testing.T) {
	for range 2 {
		b := impl.BuddyAll()
		if !alike(b, heap(nil, nil, nil, nil, []int{0})) || !sharesNone(b, impl.BuddyAll()) {
			t.Fatalf("BuddyAll() = %v", b)
		}
		heapIsAsSaid(t, b)
		// What is made of one heap may not be seen in the next.
		b.Free[whole][0], b.Free[0] = 5, []int{3}
	}
}

func TestBuddyTakesUntilNoneIsLeft(t *testing.T) {
	b, free := impl.BuddyAll(), flags(frames, true)
	for want := range frames {
		free[want] = false
		b = buddyTakes(t, b, heapOf(free), want)
		if n := buddyFree(t, b); n != frames-1-want {
			t.Errorf("with %d taken %d are free", want+1, n)
		}
	}
	for range 3 {
		b = buddyTakes(t, b, heap(), -1)
	}
}

// ordersBack are orders in which all frames are given back.
func ordersBack() [][]int {
	var l [][]int
	// By these steps each frame comes once, buddies near to one another or far.
	for step := 1; step < frames; step += 2 {
		for begin := range frames {
			var order []int
			for k := range frames {
				order = append(order, (begin+k*step)%frames)
			}
			l = append(l, order)
		}
	}
	for turned := range frames {
		var near, far []int
		for k := range frames {
			f := k ^ turned
			// By bits backwards buddies are half the frames apart.
			near, far = append(near, f), append(far, f%2*8+f/2%2*4+f/4%2*2+f/8)
		}
		l = append(l, near, far)
	}
	d := dice{15}
	for range 300 {
		l = append(l, d.order(frames))
	}
	return l
}

func TestBuddyGivenBackInManyOrders(t *testing.T) {
	none := heap()
	for _, order := range ordersBack() {
		b, free := none, flags(frames, false)
		for k, f := range order {
			free[f] = true
			b = buddyGives(t, b, f, heapOf(free), true)
			if n := buddyFree(t, b); n != k+1 {
				t.Fatalf("of %v %d are given, and %d are free", order, k+1, n)
			}
		}
		if !alike(b, impl.BuddyAll()) {
			t.Fatalf("all given back by %v are %v", order, b)
		}
	}
}

// TestBuddyOfEachPattern goes through all right heaps: which frames are free
// says how.
func TestBuddyOfEachPattern(t *testing.T) {
	for pattern := range patterns {
		free := mapOf(pattern)
		b := heapOf(free)
		if !impl.BuddyOk(b) || impl.BuddyFree(b) != frames-mapFreeSaid(free) {
			t.Fatalf("BuddyOk, BuddyFree of %v: %v, %d", b, impl.BuddyOk(b), impl.BuddyFree(b))
		}
		want, f := buddyTakeSaid(b)
		got, taken := impl.BuddyTake(b)
		if !alike(got, want) || taken != f {
			t.Fatalf("BuddyTake(%v) = %v, %d", b, got, taken)
		}
		if f != -1 && (!free[f] || !alike(got, heapOf(withFlag(free, f, false)))) {
			t.Fatalf("BuddyTake(%v) takes %d and leaves %v", b, f, got)
		}
		if !alike(b, heapOf(free)) {
			t.Fatalf("BuddyTake writes into %v", heapOf(free))
		}
		if pattern%97 == 0 {
			heapIsAsSaid(t, b)
		}
	}
}

func TestBuddyGiveOfEachPattern(t *testing.T) {
	d := dice{51}
	for pattern := range patterns {
		free := mapOf(pattern)
		b, f := heapOf(free), d.roll(frames)
		want, ok := buddyGiveSaid(b, f)
		got, gotOk := impl.BuddyGive(b, f)
		if !alike(got, want) || gotOk != ok {
			t.Fatalf("BuddyGive(%v, %d) = %v, %v", b, f, got, gotOk)
		}
		if !alike(b, heapOf(free)) {
			t.Fatalf("BuddyGive writes into %v", heapOf(free))
		}
	}
}

// bookOf is the heap that has all frames but those that are held.
func bookOf(held []bool) impl.Buddy {
	free := slices.Clone(held)
	for f := range free {
		free[f] = !free[f]
	}
	return heapOf(free)
}

// takenOf is which frame comes of the heap that has all others than those that
// are held, and what is held then.
func takenOf(held []bool) ([]bool, int) {
	_, f := buddyTakeSaid(bookOf(held))
	if f == -1 {
		return held, f
	}
	return withFlag(held, f, true), f
}

// TestBuddyLongUse takes and gives by turns, and keeps book of what is free;
// some often take more than they give, so that none is free at times, and all.
func TestBuddyLongUse(t *testing.T) {
	d, met := dice{115}, &extremes{}
	for _, often := range []int{1, 2, 3, 4, 5} {
		b, held := impl.BuddyAll(), flags(frames, false)
		for range 1500 {
			if d.roll(6) >= often {
				f := d.roll(18) - 1
				want, ok := mapGiveSaid(held, f)
				b, held = buddyGives(t, b, f, bookOf(want), ok), want
			} else {
				want, f := takenOf(held)
				b, held = buddyTakes(t, b, bookOf(want), f), want
			}
			met.see(held)
		}
	}
	met.wereMet(t)
}

// TestBuddyFramesAreUnlike takes of a heap with holes until none is left.
func TestBuddyFramesAreUnlike(t *testing.T) {
	for pattern := 1; pattern < patterns; pattern += 61 {
		b, free := heapOf(mapOf(pattern)), mapOf(pattern)
		for {
			next, f := impl.BuddyTake(b)
			if f == -1 {
				break
			}
			if !free[f] || !impl.BuddyOk(next) {
				t.Fatalf("frame %d comes of %v", f, b)
			}
			b, free[f] = next, false
		}
		if slices.Contains(free, true) || !alike(b, heap()) {
			t.Fatalf("of %v %v are left: %v", heapOf(mapOf(pattern)), free, b)
		}
	}
}

func TestBuddyTakesTheFirstOfTheLeastOrder(t *testing.T) {
	for _, c := range []struct {
		b    impl.Buddy
		want impl.Buddy
		f    int
	}{
		{heap(nil, nil, nil, nil, []int{0}), heap([]int{1}, []int{2}, []int{4}, []int{8}), 0},
		{heap(nil, nil, nil, []int{0}), heap([]int{1}, []int{2}, []int{4}), 0},
		{heap(nil, nil, nil, []int{8}), heap([]int{9}, []int{10}, []int{12}), 8},
		{heap(nil, nil, []int{4}), heap([]int{5}, []int{6}), 4},
		{heap(nil, nil, []int{12}), heap([]int{13}, []int{14}), 12},
		{heap(nil, []int{6}), heap([]int{7}), 6},
		{heap(nil, []int{14}), heap([]int{15}), 14},
		{heap([]int{15}), heap(), 15},
		{heap([]int{0}), heap(), 0},
		{heap([]int{1, 2, 15}), heap([]int{2, 15}), 1},
		{heap([]int{15}, nil, nil, []int{0}), heap(nil, nil, nil, []int{0}), 15},
		{heap(nil, []int{12}, []int{0, 8}), heap([]int{13}, nil, []int{0, 8}), 12},
		{heap(nil, nil, []int{4, 8}), heap([]int{5}, []int{6}, []int{8}), 4},
		{heap(nil, nil, []int{8}, []int{0}), heap([]int{9}, []int{10}, nil, []int{0}), 8},
		{heap(nil, []int{2, 4, 12}), heap([]int{3}, []int{4, 12}), 2},
		{heap(), heap(), -1},
	} {
		buddyTakes(t, c.b, c.want, c.f)
	}
}

// TestBuddyMeetsUpToEachOrder gives each frame to a heap that has all others
// of a block, and no other one.
func TestBuddyMeetsUpToEachOrder(t *testing.T) {
	for order := range whole + 1 {
		for f := range frames {
			first, n := f/(1<<order)*(1<<order), 1<<order
			free := flags(frames, false)
			copy(free[first:], flags(n, true))
			free[f] = false
			b := heapOf(free)
			for k := range order {
				if len(b.Free[k]) != 1 {
					t.Fatalf("%v has not one block of order %d", b, k)
				}
			}
			want := heap()
			want.Free[order] = []int{first}
			buddyGives(t, b, f, want, true)
		}
	}
}

func TestBuddyGiveEdges(t *testing.T) {
	for _, c := range []struct {
		name string
		b    impl.Buddy
		f    int
		want impl.Buddy
	}{
		{"the first one of none", heap(), 0, heap([]int{0})},
		{"the last one of none", heap(), 15, heap([]int{15})},
		{"a neighbour ahead that is no buddy", heap([]int{1}), 2, heap([]int{1, 2})},
		{"a neighbour behind that is no buddy", heap([]int{8}), 7, heap([]int{7, 8})},
		{"two neighbours, one of them the buddy", heap([]int{5, 7}), 6, heap([]int{5}, []int{6})},
		{"two neighbours, the other one the buddy", heap([]int{8, 10}), 9, heap([]int{10}, []int{8})},
		{"a block of two ahead that is no buddy", heap([]int{4}, []int{2}), 5, heap(nil, []int{2, 4})},
		{"a block of two behind that is no buddy", heap([]int{2}, []int{4}), 3, heap(nil, []int{2, 4})},
		{"a block of four ahead that is no buddy", heap([]int{9}, []int{10}, []int{4}), 8, heap(nil, nil, []int{4, 8})},
		{"a buddy of two free in its first frame", heap([]int{1, 2}), 0, heap([]int{2}, []int{0})},
		{"a buddy of two free in its last frame", heap([]int{1, 3}), 0, heap([]int{3}, []int{0})},
		{"a buddy of two, ahead, free in its first frame", heap([]int{4, 6}), 7, heap([]int{4}, []int{6})},
		{"a buddy of two, ahead, free in its last frame", heap([]int{5, 7}), 6, heap([]int{5}, []int{6})},
		{"a buddy of four free in its first half", heap([]int{1}, []int{2, 4}), 0, heap(nil, []int{4}, []int{0})},
		{"a buddy of four free in three frames", heap([]int{1, 6}, []int{2, 4}), 0, heap([]int{6}, []int{4}, []int{0})},
		{"a buddy of eight free in its last half", heap([]int{9}, []int{10}, []int{4, 12}), 8, heap(nil, nil, []int{4}, []int{8})},
		{"a buddy that is in part of one frame", heap([]int{2}, nil, []int{12}), 1, heap([]int{1, 2}, nil, []int{12})},
		{"first of all in its order", heap([]int{4, 6, 9}), 2, heap([]int{2, 4, 6, 9})},
		{"between others in its order", heap([]int{3, 4, 9}), 6, heap([]int{3, 4, 6, 9})},
		{"met between others in the next order", heap([]int{5}, []int{0, 8}), 4, heap(nil, []int{0, 4, 8})},
		{"once", heap([]int{13}), 12, heap(nil, []int{12})},
		{"twice", heap([]int{13}, []int{14}), 12, heap(nil, nil, []int{12})},
		{"three times", heap([]int{13}, []int{14}, []int{8}), 12, heap(nil, nil, nil, []int{8})},
		{"up to the whole", heap([]int{13}, []int{14}, []int{8}, []int{0}), 12, heap(nil, nil, nil, nil, []int{0})},
		{"up to the whole, the first one", heap([]int{1}, []int{2}, []int{4}, []int{8}), 0, impl.BuddyAll()},
		{"up to the whole, the last one", heap([]int{14}, []int{12}, []int{8}, []int{0}), 15, impl.BuddyAll()},
	} {
		if !buddyOkSaid(c.b) || !buddyOkSaid(c.want) {
			t.Fatalf("%s: %v or %v is not right", c.name, c.b, c.want)
		}
		buddyGives(t, c.b, c.f, c.want, true)
	}
}

// TestBuddyGiveOfWhatIsFree gives what stands in a block of each order, at each
// place of it, alone and beside others.
func TestBuddyGiveOfWhatIsFree(t *testing.T) {
	for order := range whole + 1 {
		n := 1 << order
		for first := 0; first < frames; first += n {
			alone, butOne := heap(), flags(frames, true)
			alone.Free[order] = []int{first}
			// The buddy lacks a frame, so that the block stays one.
			if order < whole {
				butOne[first^n] = false
			}
			beside := heapOf(butOne)
			if !slices.Contains(beside.Free[order], first) {
				t.Fatalf("%v has no block %d of order %d", beside, first, order)
			}
			for f := first; f < first+n; f++ {
				buddyGives(t, alone, f, alone, false)
				buddyGives(t, beside, f, beside, false)
			}
		}
	}
	for f := range frames {
		given := buddyGives(t, heap(), f, heap([]int{f}), true)
		buddyGives(t, given, f, given, false)
	}
}

func TestBuddyGiveOfNoFrame(t *testing.T) {
	for _, b := range []impl.Buddy{
		heap(), impl.BuddyAll(), heap([]int{15}), heap([]int{0}), heap(nil, nil, nil, []int{8}), heap([]int{1}, []int{2}, []int{4}, []int{8}),
	} {
		for _, f := range append(noFrames(), edges()...) {
			if f < 0 || f >= frames {
				buddyGives(t, b, f, b, false)
			}
		}
	}
}

func TestBuddyThatIsNotRight(t *testing.T) {
	type wrong struct {
		name string
		b    impl.Buddy
	}
	l := []wrong{
		{"nothing", impl.Buddy{}},
		{"no lists", impl.Buddy{Free: [][]int{}}},
		{"one list", impl.Buddy{Free: [][]int{{1}}}},
		{"four lists", impl.Buddy{Free: [][]int{{1}, {2}, {4}, {8}}}},
		{"four lists that are empty", impl.Buddy{Free: make([][]int, 4)}},
		{"six lists", impl.Buddy{Free: [][]int{{1}, {2}, {4}, {8}, {}, {}}}},
		{"six lists, all in the fifth", impl.Buddy{Free: [][]int{{}, {}, {}, {}, {0}, {}}}},
		{"six lists, one block in the last", impl.Buddy{Free: [][]int{{}, {}, {}, {}, {}, {0}}}},
		{"many lists", impl.Buddy{Free: make([][]int, 70000)}},
		{"a list that falls", heap([]int{3, 1})},
		{"a list that falls at its end", heap([]int{1, 4, 2})},
		{"a list of twos that falls", heap(nil, []int{8, 4})},
		{"a list of fours that falls", heap(nil, nil, []int{8, 4})},
		{"one twice", heap([]int{3, 3})},
		{"one twice behind another", heap([]int{1, 6, 6})},
		{"a block of two twice", heap(nil, []int{6, 6})},
		{"a block of four twice", heap(nil, nil, []int{4, 4})},
		{"a block of eight twice", heap(nil, nil, nil, []int{8, 8})},
		{"all twice", heap(nil, nil, nil, nil, []int{0, 0})},
		{"one and its two", heap([]int{3}, []int{2})},
		{"one and its four", heap([]int{4}, nil, []int{4})},
		{"one and its eight", heap([]int{15}, nil, nil, []int{8})},
		{"one and all", heap([]int{7}, nil, nil, nil, []int{0})},
		{"two and its four", heap(nil, []int{2}, []int{0})},
		{"two and its eight", heap(nil, []int{4}, nil, []int{0})},
		{"two and all", heap(nil, []int{14}, nil, nil, []int{0})},
		{"four and its eight", heap(nil, nil, []int{12}, []int{8})},
		{"four and all", heap(nil, nil, []int{0}, nil, []int{0})},
		{"eight and all", heap(nil, nil, nil, []int{8}, []int{0})},
		{"buddies of eight", heap(nil, nil, nil, []int{0, 8})},
		{"far numbers", heap([]int{1 << 40})},
		{"a long list", heap(slices.Repeat([]int{1}, 70000))},
	}
	for order := range whole + 1 {
		n := 1 << order
		// Behind the whole there is no other block that begins below Frames.
		for _, first := range []int{-n, -1, frames, frames + n, -2 * frames, 1, 3, n / 2, n + 1, 2*n - 1, 15} {
			if 0 <= first && first < frames && first%n == 0 {
				continue
			}
			b := heap()
			b.Free[order] = []int{first}
			l = append(l, wrong{fmt.Sprint("a block of ", n, " from ", first), b})
		}
		for first := 0; first+n < frames; first += 2 * n {
			b := heap()
			b.Free[order] = []int{first, first + n}
			l = append(l, wrong{fmt.Sprint("buddies from ", first, " of ", n), b})
		}
	}
	for _, c := range l {
		if buddyOkSaid(c.b) {
			t.Fatalf("%s: %v is right", c.name, c.b)
		}
		heapIsWrong(t, c.name, c.b)
	}
}

// TestBuddyOneThingOff puts each number of right heaps elsewhere, and takes a
// thing out of their lists or lays it there twice.
func TestBuddyOneThingOff(t *testing.T) {
	right, wrong := 0, 0
	for pattern := 0; pattern < patterns; pattern += 1009 {
		eachTurned(t, heapOf(mapOf(pattern)), func(b impl.Buddy) {
			if buddyOkSaid(b) {
				right++
				want, f := buddyTakeSaid(b)
				buddyTakes(t, b, want, f)
				return
			}
			wrong++
			if impl.BuddyOk(b) || wrong%7 == 0 {
				heapIsWrong(t, "one thing off", b)
			}
		})
	}
	if right < 100 || wrong < 1000 {
		t.Errorf("%d heaps were right, %d were not", right, wrong)
	}
}

// TestBuddyOfRolledBlocks holds blocks of all orders against the document's
// words, most of which fit together not at all.
func TestBuddyOfRolledBlocks(t *testing.T) {
	d := dice{1015}
	right := 0
	for range 60000 {
		b := heap()
		for range d.roll(6) {
			order := d.roll(5)
			b.Free[order] = append(b.Free[order], d.roll(frames/(1<<order)+1)*(1<<order))
		}
		if d.roll(3) > 0 {
			for _, firsts := range b.Free {
				slices.Sort(firsts)
			}
		}
		said := buddyOkSaid(b)
		if impl.BuddyOk(b) != said {
			t.Fatalf("BuddyOk(%v) = %v", b, !said)
		}
		if said {
			right++
			if !alike(b, heapOf(freeOf(b))) || impl.BuddyFree(b) != freeSaidOf(b) {
				t.Fatalf("of %v %d are free", b, impl.BuddyFree(b))
			}
		}
	}
	if right < 5000 {
		t.Errorf("only %d heaps were right", right)
	}
}

// TestBuddyAnswersAreNewMemory asks it of many answers of one heap.
func TestBuddyAnswersAreNewMemory(t *testing.T) {
	for _, free := range []int{0, 1, 6, 1 << 15, patterns - 2, patterns - 1, 0x3C5A} {
		b := withRoom(heapOf(mapOf(free)))
		a, _ := impl.BuddyTake(b)
		c, _ := impl.BuddyTake(b)
		l := []impl.Buddy{a, c}
		for f := -1; f <= frames; f++ {
			a, _ := impl.BuddyGive(b, f)
			l = append(l, a)
		}
		for _, a := range l {
			if len(a.Free) != 5 {
				t.Errorf("of %v an answer is %v", b, a)
			}
		}
		if !sharesNone(l, b) || !marked(b) {
			t.Errorf("answers of %v share memory", b)
		}
	}
}
