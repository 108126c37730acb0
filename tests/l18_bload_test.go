package tests

import (
	"fmt"
	"math"
	"reflect"
	"slices"
	"testing"

	"loop.example/g00781/impl"
)

func bLoadOf(t *testing.T, u impl.Unix) (impl.Nodes, bool) {
	t.Helper()
	return loadedBy(t, impl.BLoad, u)
}

// noNodesLoad wants no kernel in nodes of a Unix that is not right.
func noNodesLoad(t *testing.T, name string, u impl.Unix) {
	t.Helper()
	if b, ok := bLoadOf(t, u); ok || !alike(b, impl.Nodes{}) {
		t.Errorf("%s: BLoad of %+v: %+v, %v", name, u, b, ok)
	}
}

// bLoadSaid is BLoad of a right Unix, in the document's own words.
func bLoadSaid(u impl.Unix) impl.Nodes {
	b := impl.Nodes{Next: u.Next, Tick: u.Tick, Progs: u.Progs, Ram: make([]int, 64), Heap: impl.BuddyAll(), Ready: u.Ready, Out: u.Out}
	for _, p := range u.Procs {
		n := impl.BProc{Pid: p.Pid, Parent: p.Parent, State: p.State, Prog: p.Prog, Cpu: p.Cpu, Fds: p.Fds, Until: p.Until, Code: p.Code}
		for at := 0; at < len(p.Mem); at += 4 {
			heap, f := buddyTakeSaid(b.Heap)
			copy(b.Ram[4*f:], p.Mem[at:at+4])
			b.Heap, n.Pages = heap, append([]int{f}, n.Pages...)
		}
		b.Procs = append([]impl.BProc{n}, b.Procs...)
	}
	for _, o := range u.Opens {
		b.Opens = append([]impl.Open{o}, b.Opens...)
	}
	for _, p := range u.Pipes {
		n := impl.BPipe{Id: p.Id}
		for at := 0; at < len(p.Data); at += 2 {
			n.Chunks = append(n.Chunks, p.Data[at:min(at+2, len(p.Data))])
		}
		b.Pipes = append([]impl.BPipe{n}, b.Pipes...)
	}
	for _, f := range u.Files {
		b.Files = append([]impl.File{f}, b.Files...)
	}
	return b
}

// newestFirst tells whether the greatest Pid, Id and Name stand first.
func newestFirst(b impl.Nodes) bool {
	return slices.IsSortedFunc(b.Procs, func(p, q impl.BProc) int { return q.Pid - p.Pid }) &&
		slices.IsSortedFunc(b.Opens, func(p, q impl.Open) int { return q.Id - p.Id }) &&
		slices.IsSortedFunc(b.Pipes, func(p, q impl.BPipe) int { return q.Id - p.Id }) &&
		slices.IsSortedFunc(b.Files, func(p, q impl.File) int { return q.Name - p.Name })
}

// pagesInOrder tells whether the pages of all processes, by Pid rising, are in
// the frames as they come from the heap: the least first. The others are free,
// and have no words.
func pagesInOrder(b impl.Nodes) bool {
	pages, free := 0, flags(16, true)
	for _, p := range slices.Backward(b.Procs) {
		for _, f := range slices.Backward(p.Pages) {
			if f != pages {
				return false
			}
			free[pages] = false
			pages++
		}
	}
	return alike(b.Heap, heapOf(free)) && alike(b.Ram[4*pages:], make([]int, 64-4*pages))
}

// chunksOfTwo tells whether all chunks have two words, but the last one of those
// that are odd.
func chunksOfTwo(b impl.Nodes) bool {
	for _, p := range b.Pipes {
		for k, chunk := range p.Chunks {
			if len(chunk) != 2 && (k < len(p.Chunks)-1 || len(chunk) != 1) {
				return false
			}
		}
	}
	return true
}

// nodesLoad wants of a right Unix what BLoad says.
func nodesLoad(t *testing.T, u impl.Unix) impl.Nodes {
	t.Helper()
	b, ok := bLoadOf(t, u)
	if !ok || !alike(b, bLoadSaid(u)) {
		t.Fatalf("BLoad(%+v) = %+v, %v, not %+v", u, b, ok, bLoadSaid(u))
	}
	if !alike(impl.AbsB(b), u) || !impl.BOk(b) || !newestFirst(b) || !pagesInOrder(b) || !chunksOfTwo(b) {
		t.Fatalf("of %+v BLoad makes %+v, which is %+v", u, b, impl.AbsB(b))
	}
	return b
}

func TestBLoadByHand(t *testing.T) {
	want := dispersed()
	for k, pages := range [][]int{nil, {7}, {6}, {5, 4, 3}, {2, 1}, {0}} {
		want.Procs[k].Pages = pages
	}
	want.Ram = padded([]int{0, 0, 0, 0, 1, 2, 3, 4, -1000000, 1000000, 0, 7}, 0, 64)
	want.Heap = heap(nil, nil, nil, []int{8})
	want.Opens = []impl.Open{
		{Id: 7, Kind: impl.OpFile, Target: 1, Off: 2, Refs: 2}, {Id: 6, Kind: impl.OpOut, Target: 2, Refs: 1}, {Id: 4, Kind: impl.OpIn, Target: 2, Refs: 1},
		{Id: 2, Kind: impl.OpOut, Target: 0, Refs: 1}, {Id: 1, Kind: impl.OpIn, Target: 0, Refs: 1}, {Id: 0, Kind: impl.OpCon, Refs: 6},
	}
	want.Pipes = []impl.BPipe{{Id: 2, Chunks: [][]int{{5, 1000000}, {-1000000, 8}}}, {Id: 0}}
	want.Files = []impl.File{{Name: 4}, {Name: 1, Data: []int{11, 12, 13}}}
	if got, ok := bLoadOf(t, busy()); !ok || !alike(got, want) || !alike(bLoadSaid(busy()), want) {
		t.Errorf("BLoad of busy is\n%+v, %v, not\n%+v", got, ok, want)
	}
	none := nobodyHangs()
	none.Ram = make([]int, 64)
	if got, ok := bLoadOf(t, empty()); !ok || !alike(got, none) || !alike(bLoadSaid(empty()), none) {
		t.Errorf("BLoad of nobody is\n%+v, %v, not\n%+v", got, ok, none)
	}
}

func TestBLoadIsAsSaid(t *testing.T) {
	t.Parallel()
	for _, u := range append(right(), atTheEnds()...) {
		nodesLoad(t, u)
	}
	seen := sights{}
	walked(t, 40, func(u impl.Unix) {
		nodesLoad(t, u)
		seen.see(u)
	})
	seen.wereMany(t)
}

func TestBLoadOfEachNumberOfPages(t *testing.T) {
	t.Parallel()
	eachCrowd(t, func(pages []int, left int) {
		b := nodesLoad(t, populated(pages...))
		if n := buddyFree(t, b.Heap); n != left {
			t.Fatalf("of %v pages %d frames are free, not %d", pages, n, left)
		}
		f := 0
		for k, n := range pages {
			var want []int
			for range n {
				want = append([]int{f}, want...)
				f++
			}
			if got := b.Procs[len(pages)-1-k].Pages; !slices.Equal(got, want) {
				t.Fatalf("of %v pages process %d has %v, not %v", pages, k, got, want)
			}
		}
	})
	for _, pages := range crowdsWrong() {
		noNodesLoad(t, fmt.Sprint("pages ", pages), populated(pages...))
	}
}

func TestBLoadOfEachPipe(t *testing.T) {
	lengths := [][]int{nil, {1}, {2}, {2, 1}, {2, 2}}
	eachFilling(func(u impl.Unix) {
		b := nodesLoad(t, u)
		for id, p := range u.Pipes {
			want := impl.BPipe{Id: id, Chunks: cut(p.Data, lengths[len(p.Data)]...)}
			if got := b.Pipes[2-id]; !alike(got, want) {
				t.Errorf("pipe %d of %v is %+v, not %+v", id, p.Data, got, want)
			}
		}
	})
}

func TestBLoadOfEachPlace(t *testing.T) {
	eachPlace(func(u impl.Unix) {
		b := nodesLoad(t, u)
		if !alike(b.Opens, u.Opens) || len(b.Pipes) != 1 || b.Pipes[0].Id != u.Pipes[0].Id || !alike(b.Files, u.Files) {
			t.Errorf("of %+v there are %+v", u, b)
		}
	})
}

// TestBLoadOfEachOrderOfReady leaves Ready as it is: the next one first.
func TestBLoadOfEachOrderOfReady(t *testing.T) {
	eachReady(func(u impl.Unix) {
		if b := nodesLoad(t, u); !slices.Equal(b.Ready, u.Ready) {
			t.Errorf("Ready of %v is %v", u.Ready, b.Ready)
		}
	})
}

// TestBLoadOfWhatHangsAnywhere loads what AbsB tells of kernels with all of it
// elsewhere: nothing of that is left.
func TestBLoadOfWhatHangsAnywhere(t *testing.T) {
	t.Parallel()
	for k, u := range append(right(), atTheEnds()...) {
		a := &adrift{d: &dice{n: uint64(k)}, b: nodesOf(t, u)}
		for range 20 {
			a.everywhere()
			if b := nodesLoad(t, impl.AbsB(a.b)); !alike(b, bLoadSaid(u)) {
				t.Fatalf("of %+v BLoad makes %+v", a.b, b)
			}
		}
	}
}

// TestBLoadOfTurnedNumbers loads what is right of all that is turned.
func TestBLoadOfTurnedNumbers(t *testing.T) {
	loaded, refused := 0, 0
	for _, from := range []impl.Unix{busy(), lastPlaces(), plumbed(1, 2, 3)} {
		eachTurned(t, from, func(u impl.Unix) {
			b, ok := impl.BLoad(u)
			if ok != unixSaid(u) || ok && !alike(b, bLoadSaid(u)) || !ok && !alike(b, impl.Nodes{}) {
				t.Fatalf("BLoad(%+v) = %+v, %v", u, b, ok)
			}
			if !ok {
				refused++
				return
			}
			loaded++
			nodesAre(t, "loaded", b, u, true)
		})
	}
	if loaded < 500 || refused < 500 {
		t.Errorf("of all that was turned %d were loaded, %d refused", loaded, refused)
	}
}

// TestBLoadOfWhatIsNotRight has a few by name; allWrong asks it of each way in
// which a Unix is not right.
func TestBLoadOfWhatIsNotRight(t *testing.T) {
	noNodesLoad(t, "the zero Unix", impl.Unix{})
	noNodesLoad(t, "twins", twins())
	noNodesLoad(t, "too many pages", crowd(3, 3, 3, 3, 3, 2))
	noNodesLoad(t, "too many processes", crowd(1, 1, 1, 1, 1, 1, 1))
	noNodesLoad(t, "a word past all", changed(busy(), func(u *impl.Unix) { u.Procs[1].Mem[0] = math.MaxInt }))
	noNodesLoad(t, "too many words in a pipe", changed(busy(), func(u *impl.Unix) { u.Pipes[0].Data = words(5) }))
	for _, c := range spoils()[1:] {
		noNodesLoad(t, c.name, changed(busy(), c.do))
	}
}

func TestWhatBLoadMakesIsNotKept(t *testing.T) {
	u := busy()
	first, _ := impl.BLoad(u)
	for _, n := range numbersOf(reflect.ValueOf(&first).Elem()) {
		n.SetInt(55)
	}
	if again, ok := bLoadOf(t, u); !ok || !alike(again, bLoadSaid(busy())) || !alike(u, busy()) {
		t.Errorf("behind a change of what it made BLoad makes %+v, %v", again, ok)
	}
}

func TestBLoadKeepsNothing(t *testing.T) { keepsNothing(t, impl.BLoad, bLoadSaid) }

func TestBLoadSharesNothing(t *testing.T) { sharesNothing(t, impl.BLoad, bLoadSaid) }
