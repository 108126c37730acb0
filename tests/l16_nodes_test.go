package tests

import (
	"fmt"
	"math"
	"reflect"
	"slices"
	"testing"

	"loop.example/g00781/impl"
)

func absBOf(t *testing.T, b impl.Nodes) impl.Unix {
	t.Helper()
	return answered(t, impl.AbsB, b)
}

func bOkOf(t *testing.T, b impl.Nodes) bool {
	t.Helper()
	return answered(t, impl.BOk, b)
}

// dispersed is busy with nothing where BLoad would have it, but for the order
// of its processes: pages in any frames, Opens, pipes and files in any order,
// chunks that are not full at both ends, and other words wherever nobody has
// any.
func dispersed() impl.Nodes {
	b := impl.Nodes{
		Next:  9,
		Tick:  5,
		Progs: busy().Progs,
		Procs: []impl.BProc{
			{Pid: 8, Parent: 2, State: impl.PsZombie, Prog: 1, Cpu: cpuAt(9, -1, 0, 0, 0), Fds: []int{-1, -1, -1, -1}, Code: -7},
			{Pid: 7, State: impl.PsWrite, Cpu: cpuAt(0, 3, 9, 0, 0), Pages: []int{15}, Fds: []int{0, -1, -1, 6}, Until: 6},
			{Pid: 5, Parent: 1, State: impl.PsRead, Cpu: cpuAt(0, 2, 0, 0, 0), Pages: []int{8}, Fds: []int{0, 0, 1, -1}, Until: 1},
			{Pid: 4, Parent: 2, State: impl.PsSleep, Prog: 1, Cpu: cpuAt(1, 2, 3, 4, 5), Pages: []int{1, 2, 3}, Fds: []int{-1, 7, -1, 7}, Until: 6},
			{Pid: 2, Parent: 1, State: impl.PsReady, Cpu: cpuAt(40, 1, -1, 1000000, -1000000), Pages: []int{0, 9}, Fds: []int{0, 2, 4, -1}},
			{Pid: 1, State: impl.PsWait, Prog: 2, Cpu: cpuAt(3, 0, 0, 0, 0), Pages: []int{4}, Fds: []int{0, 0, -1, -1}},
		},
		Ram:  slices.Repeat([]int{math.MaxInt}, 64),
		Heap: heap([]int{5, 14}, []int{6, 10, 12}),
		Opens: []impl.Open{
			{Id: 4, Kind: impl.OpIn, Target: 2, Refs: 1},
			{Id: 0, Kind: impl.OpCon, Refs: 6},
			{Id: 7, Kind: impl.OpFile, Target: 1, Off: 2, Refs: 2},
			{Id: 2, Kind: impl.OpOut, Target: 0, Refs: 1},
			{Id: 6, Kind: impl.OpOut, Target: 2, Refs: 1},
			{Id: 1, Kind: impl.OpIn, Target: 0, Refs: 1},
		},
		Pipes: []impl.BPipe{{Id: 0}, {Id: 2, Chunks: [][]int{{5}, {1000000, -1000000}, {8}}}},
		Files: []impl.File{{Name: 1, Data: []int{11, 12, 13}}, {Name: 4}},
		Ready: []int{2},
		Out:   []int{3, -1000000, 1000000},
	}
	for _, f := range []int{15, 8, 1, 2, 3, 4} {
		copy(b.Ram[4*f:], []int{0, 0, 0, 0})
	}
	copy(b.Ram[36:], []int{1, 2, 3, 4})
	copy(b.Ram, []int{-1000000, 1000000, 0, 7})
	return b
}

// bShapeSaid tells whether a kernel has its shape, in the document's own words.
func bShapeSaid(b impl.Nodes) bool {
	if len(b.Ram) != 64 {
		return false
	}
	for _, p := range b.Procs {
		for _, f := range p.Pages {
			if f < 0 || f > 15 {
				return false
			}
		}
	}
	for _, p := range b.Pipes {
		for _, chunk := range p.Chunks {
			if len(chunk) == 0 {
				return false
			}
		}
	}
	return true
}

// behindLesser puts one more behind all that have not a greater number.
func behindLesser[T any](l []T, x T, number func(x T) int) []T {
	at := len(l)
	for at > 0 && number(l[at-1]) > number(x) {
		at--
	}
	return slices.Insert(l, at, x)
}

// absBSaid is AbsB, in the document's own words.
func absBSaid(b impl.Nodes) impl.Unix {
	if !bShapeSaid(b) {
		return impl.Unix{}
	}
	u := impl.Unix{Next: b.Next, Tick: b.Tick, Progs: b.Progs, Ready: b.Ready, Out: b.Out}
	for _, n := range b.Procs {
		p := impl.Proc{Pid: n.Pid, Parent: n.Parent, State: n.State, Prog: n.Prog, Cpu: n.Cpu, Fds: n.Fds, Until: n.Until, Code: n.Code}
		for k := len(n.Pages) - 1; k >= 0; k-- {
			p.Mem = append(p.Mem, b.Ram[4*n.Pages[k]:4*n.Pages[k]+4]...)
		}
		u.Procs = behindLesser(u.Procs, p, func(p impl.Proc) int { return p.Pid })
	}
	for _, o := range b.Opens {
		u.Opens = behindLesser(u.Opens, o, func(o impl.Open) int { return o.Id })
	}
	for _, n := range b.Pipes {
		p := impl.Pipe{Id: n.Id}
		for _, chunk := range n.Chunks {
			p.Data = append(p.Data, chunk...)
		}
		u.Pipes = behindLesser(u.Pipes, p, func(p impl.Pipe) int { return p.Id })
	}
	for _, f := range b.Files {
		u.Files = behindLesser(u.Files, f, func(f impl.File) int { return f.Name })
	}
	return u
}

// bOkSaid is BOk, in the document's own words.
func bOkSaid(b impl.Nodes) bool {
	if !bShapeSaid(b) || !unixSaid(absBSaid(b)) || !buddyOkSaid(b.Heap) {
		return false
	}
	met := freeOf(b.Heap)
	for k, p := range b.Procs {
		if k > 0 && b.Procs[k-1].Pid <= p.Pid {
			return false
		}
		for _, f := range p.Pages {
			if met[f] {
				return false
			}
			met[f] = true
		}
	}
	if slices.Contains(met, false) {
		return false
	}
	for _, p := range b.Pipes {
		for k, chunk := range p.Chunks {
			if len(chunk) > 2 || len(chunk) < 2 && k > 0 && k < len(p.Chunks)-1 {
				return false
			}
		}
	}
	return true
}

// nodesAre wants a kernel to be that of a Unix, and BOk or not.
func nodesAre(t *testing.T, name string, b impl.Nodes, want impl.Unix, wantOk bool) {
	t.Helper()
	if got := absBOf(t, b); !alike(got, want) || !alike(absBSaid(b), want) {
		t.Errorf("%s: AbsB of %+v:\n%+v, not\n%+v (said is %+v)", name, b, got, want, absBSaid(b))
	}
	if got := bOkOf(t, b); got != wantOk || bOkSaid(b) != wantOk {
		t.Errorf("%s: BOk of %+v: %v, not %v (said is %v)", name, b, got, wantOk, bOkSaid(b))
	}
}

// nodesOf is the kernel that BLoad makes of a right Unix.
func nodesOf(t *testing.T, u impl.Unix) impl.Nodes {
	t.Helper()
	b, ok := impl.BLoad(u)
	if !ok {
		t.Fatalf("BLoad refuses %+v", u)
	}
	return b
}

// nobodyHangs is empty as a kernel, with words that are nobody's.
func nobodyHangs() impl.Nodes {
	return impl.Nodes{Next: 1, Progs: [][]impl.Ins{ends()}, Ram: words(64), Heap: heap(nil, nil, nil, nil, []int{0})}
}

func TestNodesByHand(t *testing.T) {
	nodesAre(t, "dispersed", dispersed(), busy(), true)
	nodesAre(t, "nobody", nobodyHangs(), empty(), true)
	nodesAre(t, "nothing", impl.Nodes{}, impl.Unix{}, false)
	one := nobodyHangs()
	one.Next, one.Ready = 2, []int{1}
	one.Procs = []impl.BProc{{Pid: 1, State: impl.PsReady, Cpu: cpuAt(0, 0, 0, 0, 0), Pages: []int{15}, Fds: []int{-1, -1, -1, -1}}}
	copy(one.Ram[60:], []int{6, 7, 8, 9})
	one.Heap = heap([]int{14}, []int{12}, []int{8}, []int{0})
	want := crowd(1)
	want.Procs[0].Mem = []int{6, 7, 8, 9}
	nodesAre(t, "one in the last frame", one, want, true)
}

func TestNodesOfWhatIsLoaded(t *testing.T) {
	t.Parallel()
	for _, u := range append(right(), atTheEnds()...) {
		nodesAre(t, "loaded", nodesOf(t, u), u, true)
	}
	seen := sights{}
	walked(t, 40, func(u impl.Unix) {
		nodesAre(t, "walked", nodesOf(t, u), u, true)
		seen.see(u)
	})
	seen.wereMany(t)
}

// adrift changes where and how all that a kernel has hangs, by dice, and
// nothing of what there is, nor that it is BOk.
type adrift struct {
	d *dice
	b impl.Nodes
}

// frames has what is in a frame be in another one.
func (a *adrift) frames(order []int) {
	ram, free := slices.Clone(a.b.Ram), freeOf(a.b.Heap)
	moved := slices.Clone(free)
	for f, to := range order {
		copy(a.b.Ram[4*to:], ram[4*f:4*f+4])
		moved[to] = free[f]
	}
	for _, p := range a.b.Procs {
		for k, f := range p.Pages {
			p.Pages[k] = order[f]
		}
	}
	a.b.Heap = heapOf(moved)
}

// unasked puts other words in the frames of nobody.
func (a *adrift) unasked() {
	for f, free := range freeOf(a.b.Heap) {
		for k := range 4 {
			if free {
				a.b.Ram[4*f+k] = a.d.edge()
			}
		}
	}
}

// cutsAllowed are the ways in which a pipe of so many words may stand, by the
// words of each chunk.
func cutsAllowed() [][][]int {
	return [][][]int{{{}}, {{1}}, {{2}, {1, 1}}, {{1, 2}, {2, 1}}, {{2, 2}, {1, 2, 1}}}
}

// cut is a list in chunks of so many words.
func cut(l []int, lengths ...int) [][]int {
	var chunks [][]int
	for _, n := range lengths {
		chunks, l = append(chunks, slices.Clone(l[:n])), l[n:]
	}
	return chunks
}

func (a *adrift) chunks() {
	for k, p := range a.b.Pipes {
		l := slices.Concat(p.Chunks...)
		ways := cutsAllowed()[len(l)]
		a.b.Pipes[k].Chunks = cut(l, ways[a.d.roll(len(ways))]...)
	}
}

func inOrderOf[T any](l []T, order []int) []T {
	var made []T
	for _, k := range order {
		made = append(made, l[k])
	}
	return made
}

func (a *adrift) others() {
	a.b.Opens = inOrderOf(a.b.Opens, a.d.order(len(a.b.Opens)))
	a.b.Pipes = inOrderOf(a.b.Pipes, a.d.order(len(a.b.Pipes)))
	a.b.Files = inOrderOf(a.b.Files, a.d.order(len(a.b.Files)))
}

// everywhere has all of a kernel hang elsewhere.
func (a *adrift) everywhere() {
	a.frames(a.d.order(16))
	a.unasked()
	a.chunks()
	a.others()
}

func TestNodesHangAnywhere(t *testing.T) {
	t.Parallel()
	for k, u := range append(right(), atTheEnds()...) {
		a := &adrift{d: &dice{n: uint64(k)}}
		for name, move := range map[string]func(){
			"other frames": func() { a.frames(a.d.order(16)) },
			"other words":  a.unasked,
			"other chunks": a.chunks,
			"other orders": a.others,
		} {
			for range 5 {
				a.b = nodesOf(t, u)
				move()
				nodesAre(t, name, a.b, u, true)
			}
		}
		for range 30 {
			a.everywhere()
			nodesAre(t, "all of it", a.b, u, true)
		}
	}
}

func TestNodesInFramesThatAreTurned(t *testing.T) {
	for _, u := range []impl.Unix{busy(), allFull(), crowd(1), crowd(3), populated(3, 0, 2, 1)} {
		eachTurn(func(order []int) {
			a := &adrift{b: nodesOf(t, u)}
			a.frames(order)
			nodesAre(t, fmt.Sprint("frames ", order), a.b, u, true)
		})
	}
}

// TestNodesOfPages has one process of so many pages, also of more than are
// right, up to all frames: its Mem begins with the last one of Pages.
func TestNodesOfPages(t *testing.T) {
	d := dice{16}
	for n := range 17 {
		for range 10 {
			b, u, order := nobodyHangs(), crowd(n), d.order(16)
			free := flags(16, true)
			b.Next, b.Ready, b.Ram = u.Next, u.Ready, wordsBehind(100, 64)
			u.Procs[0].Mem = nil
			for _, f := range order[:n] {
				free[f] = false
				u.Procs[0].Mem = append(u.Procs[0].Mem, wordsBehind(100+4*f, 4)...)
			}
			b.Heap = heapOf(free)
			pages := slices.Clone(order[:n])
			slices.Reverse(pages)
			b.Procs = []impl.BProc{{Pid: 1, State: impl.PsReady, Cpu: cpuAt(0, 0, 0, 0, 0), Pages: pages, Fds: []int{-1, -1, -1, -1}}}
			nodesAre(t, fmt.Sprint("pages ", pages), b, u, 1 <= n && n <= 3)
		}
	}
}

// TestNodesOfAllFrames has all frames taken, and none.
func TestNodesOfAllFrames(t *testing.T) {
	all := nodesOf(t, allFull())
	if !alike(all.Heap, heap()) {
		t.Fatalf("of %+v the heap is %v", allFull(), all.Heap)
	}
	nodesAre(t, "all taken", all, allFull(), true)
	none := nodesOf(t, filed(2))
	none.Procs, none.Opens, none.Ready, none.Heap = nil, nil, nil, impl.BuddyAll()
	u := filed(2)
	u.Procs, u.Opens, u.Ready = nil, nil, nil
	nodesAre(t, "none taken", none, u, true)
	none.Heap = heap()
	nodesAre(t, "none taken, and none free", none, u, false)
}

// TestNodesInEachOrder has Opens, pipes and files in each order.
func TestNodesInEachOrder(t *testing.T) {
	u := busy()
	u.Opens, u.Pipes[1].Data = append(u.Opens, impl.Open{Id: 5, Kind: impl.OpOut, Target: 1, Refs: 1}), []int{1, 2, 3}
	u.Opens[5], u.Opens[6] = u.Opens[6], u.Opens[5]
	u.Opens[4], u.Opens[5] = u.Opens[5], u.Opens[4]
	u.Procs[1].Fds[3] = 5
	u.Pipes = slices.Insert(u.Pipes, 1, impl.Pipe{Id: 1, Data: []int{7}})
	for name := range 6 {
		if name != 1 && name != 4 {
			u.Files = behindLesser(u.Files, impl.File{Name: name, Data: words(name)}, func(f impl.File) int { return f.Name })
		}
	}
	from := nodesOf(t, u)
	for _, order := range orderings(6) {
		b := fresh(from)
		b.Opens = append(inOrderOf(b.Opens[:6], order), b.Opens[6])
		b.Files = inOrderOf(b.Files, order)
		nodesAre(t, fmt.Sprint("Opens and files in order ", order), b, u, true)
		if !slices.IsSorted(order) {
			u := fresh(u)
			b := fresh(from)
			b.Procs = inOrderOf(b.Procs, order)
			nodesAre(t, fmt.Sprint("processes in order ", order), b, u, false)
		}
	}
	for _, order := range orderings(3) {
		b := fresh(from)
		b.Pipes = inOrderOf(b.Pipes, order)
		nodesAre(t, fmt.Sprint("pipes in order ", order), b, u, true)
	}
}

// TestNodesOfTheSameNumber has things of one number told as they stand.
func TestNodesOfTheSameNumber(t *testing.T) {
	numbers := []int{2, 5, 2, 1, 5, 2}
	for _, order := range orderings(6) {
		b := nodesOf(t, crowd(1, 1, 1, 1, 1, 1))
		for k := range 6 {
			// Where it stands is told by one more of its numbers.
			n := numbers[order[k]]
			b.Procs[k].Pid, b.Procs[k].Code = n, k
			b.Opens = append(b.Opens, impl.Open{Id: n, Off: k})
			b.Pipes = append(b.Pipes, impl.BPipe{Id: n, Chunks: [][]int{{k}}})
			b.Files = append(b.Files, impl.File{Name: n, Data: []int{k}})
		}
		u := impl.AbsB(b)
		if !alike(u, absBSaid(b)) || impl.BOk(b) || len(u.Procs) != 6 || len(u.Opens) != 6 || len(u.Pipes) != 6 || len(u.Files) != 6 {
			t.Fatalf("%+v is told as %+v", b, u)
		}
		for k, n := range []int{1, 2, 2, 2, 5, 5} {
			if u.Procs[k].Pid != n || u.Opens[k].Id != n || u.Pipes[k].Id != n || u.Files[k].Name != n {
				t.Fatalf("%+v is told as %+v", b, u)
			}
			if k > 0 && n == u.Procs[k-1].Pid && (u.Procs[k].Code < u.Procs[k-1].Code || u.Opens[k].Off < u.Opens[k-1].Off ||
				u.Pipes[k].Data[0] < u.Pipes[k-1].Data[0] || u.Files[k].Data[0] < u.Files[k-1].Data[0]) {
				t.Fatalf("of %+v one that stands behind another comes first: %+v", b, u)
			}
		}
	}
}

// TestNodesOfManyOfTheSameNumber has far more than are right.
func TestNodesOfManyOfTheSameNumber(t *testing.T) {
	d := dice{61}
	for _, n := range []int{13, 40, 300} {
		b := nobodyHangs()
		for k := range n {
			b.Procs = append(b.Procs, impl.BProc{Pid: d.roll(5), Code: k})
			b.Opens = append(b.Opens, impl.Open{Id: d.roll(5), Off: k})
			b.Pipes = append(b.Pipes, impl.BPipe{Id: d.roll(5), Chunks: [][]int{{k}}})
			b.Files = append(b.Files, impl.File{Name: d.roll(5), Data: []int{k}})
		}
		nodesAre(t, fmt.Sprint(n, " of all"), b, absBSaid(b), false)
	}
}

// TestNodesOfTwoOfOneNumber has them stand one way round, and the other one.
func TestNodesOfTwoOfOneNumber(t *testing.T) {
	for _, swap := range []bool{false, true} {
		for name, twice := range map[string]func(b *impl.Nodes){
			"two of Pid 1": func(b *impl.Nodes) { b.Procs[4].Pid = 1 },
			"two of Pid 8": func(b *impl.Nodes) { b.Procs[1].Pid = 8 },
			"two Opens 4":  func(b *impl.Nodes) { b.Opens[1].Id = 4 },
			"two pipes 0":  func(b *impl.Nodes) { b.Pipes[1].Id = 0 },
			"two files 1":  func(b *impl.Nodes) { b.Files[1].Name = 1 },
			"all of one": func(b *impl.Nodes) {
				for k := range 6 {
					b.Procs[k].Pid, b.Opens[k].Id = -9, math.MinInt
				}
				b.Pipes[0].Id, b.Pipes[1].Id, b.Files[0].Name, b.Files[1].Name = 77, 77, -1, -1
			},
		} {
			b := dispersed()
			twice(&b)
			if swap {
				slices.Reverse(b.Procs)
				slices.Reverse(b.Opens)
				slices.Reverse(b.Pipes)
				slices.Reverse(b.Files)
			}
			nodesAre(t, name, b, absBSaid(b), false)
		}
	}
	two := nodesOf(t, crowd(1, 2))
	two.Procs[0].Pid = 1
	want := crowd(1, 2)
	want.Procs[1].Pid = 1
	want.Procs[0], want.Procs[1] = want.Procs[1], want.Procs[0]
	nodesAre(t, "two of Pid 1", two, want, false)
	files := nodesOf(t, filed(2))
	files.Files[0].Name, files.Files[1].Name = 3, 3
	wantFiles := filed(2)
	wantFiles.Files = []impl.File{{Name: 3, Data: []int{1}}, {Name: 3, Data: []int{0}}}
	nodesAre(t, "two files 3", files, wantFiles, false)
}

// cuts are all ways to cut n words into chunks.
func cuts(n int) [][]int {
	if n == 0 {
		return [][]int{{}}
	}
	var l [][]int
	for first := 1; first <= n; first++ {
		for _, others := range cuts(n - first) {
			l = append(l, append([]int{first}, others...))
		}
	}
	return l
}

// TestNodesOfEachCut has a pipe of up to 6 words, of which 4 are right, in all
// ways to cut them.
func TestNodesOfEachCut(t *testing.T) {
	for n := range 7 {
		u := plumbed(words(n)...)
		for _, lengths := range cuts(n) {
			ok := n <= 4 && slices.ContainsFunc(cutsAllowed()[min(n, 4)], func(way []int) bool { return slices.Equal(way, lengths) })
			b := nodesOf(t, plumbed())
			b.Pipes[0].Chunks = cut(words(n), lengths...)
			nodesAre(t, fmt.Sprint("chunks of ", lengths), b, u, ok)
			b.Pipes = []impl.BPipe{b.Pipes[0], {Id: 0, Chunks: [][]int{{1, 2}, {3}}}}
			b.Procs[0].Fds[3], b.Opens[0] = 6, impl.Open{Id: 6, Kind: impl.OpIn, Refs: 1}
			two := changed(fresh(u), func(u *impl.Unix) {
				u.Opens[3] = impl.Open{Id: 6, Kind: impl.OpIn, Refs: 1}
				u.Pipes = slices.Insert(u.Pipes, 0, impl.Pipe{Data: []int{1, 2, 3}})
			})
			nodesAre(t, fmt.Sprint("chunks of ", lengths, " beside others"), b, two, ok)
			slices.Reverse(b.Pipes)
			nodesAre(t, fmt.Sprint("chunks of ", lengths, " behind others"), b, two, ok)
			for k := range lengths {
				chunks := slices.Insert(slices.Clone(b.Pipes[1].Chunks), k, []int{})
				nodesWithout(t, fmt.Sprint("an empty chunk ahead of ", k, " of ", lengths), dispersed, func(b *impl.Nodes) { b.Pipes[1].Chunks = chunks })
			}
		}
	}
}

// nodesWithout wants a kernel that is BOk to be without its shape by a change.
func nodesWithout(t *testing.T, name string, from func() impl.Nodes, do func(b *impl.Nodes)) {
	t.Helper()
	b := fresh(from())
	if !bOkOf(t, b) {
		t.Fatalf("not BOk: %+v", b)
	}
	do(&b)
	nodesAre(t, name, b, impl.Unix{}, false)
}

// hangers are kernels that are BOk, with all of it where it may be.
func hangers(t *testing.T) []func() impl.Nodes {
	l := []func() impl.Nodes{dispersed, nobodyHangs}
	for k, u := range []impl.Unix{booted(), allFull(), lastPlaces(), plumbed(1, 2, 3)} {
		a := &adrift{d: &dice{n: uint64(k)}, b: nodesOf(t, u)}
		a.everywhere()
		l = append(l, func() impl.Nodes { return a.b })
	}
	return l
}

func TestNodesOfAnotherRam(t *testing.T) {
	for _, from := range hangers(t) {
		nodesWithout(t, "a word too few", from, func(b *impl.Nodes) { b.Ram = b.Ram[:63] })
		nodesWithout(t, "the first word missing", from, func(b *impl.Nodes) { b.Ram = b.Ram[1:] })
		nodesWithout(t, "a page too few", from, func(b *impl.Nodes) { b.Ram = b.Ram[:60] })
		nodesWithout(t, "a word too many", from, func(b *impl.Nodes) { b.Ram = append(b.Ram, 0) })
		nodesWithout(t, "a page too many", from, func(b *impl.Nodes) { b.Ram = append(b.Ram, 0, 0, 0, 0) })
		nodesWithout(t, "twice as many", from, func(b *impl.Nodes) { b.Ram = append(b.Ram, b.Ram...) })
		nodesWithout(t, "none", from, func(b *impl.Nodes) { b.Ram = nil })
	}
}

func TestNodesOfPagesThatAreNone(t *testing.T) {
	for _, from := range hangers(t) {
		for k, p := range from().Procs {
			for _, f := range noFrames() {
				for at := range p.Pages {
					nodesWithout(t, fmt.Sprint("page ", at, " of process ", k, ": ", f), from, func(b *impl.Nodes) { b.Procs[k].Pages[at] = f })
				}
				nodesWithout(t, fmt.Sprint("one more page of process ", k, ": ", f), from, func(b *impl.Nodes) {
					b.Procs[k].Pages = append(b.Procs[k].Pages, f)
				})
				nodesWithout(t, fmt.Sprint("process ", k, " has but ", f), from, func(b *impl.Nodes) { b.Procs[k].Pages = []int{f} })
			}
		}
	}
}

func TestNodesOfEmptyChunks(t *testing.T) {
	empty := []int{}
	for _, nothing := range [][]int{nil, empty} {
		nodesWithout(t, "the only one", dispersed, func(b *impl.Nodes) { b.Pipes[0].Chunks = [][]int{nothing} })
		nodesWithout(t, "two, and no other", dispersed, func(b *impl.Nodes) { b.Pipes[0].Chunks = [][]int{nothing, nothing} })
		nodesWithout(t, "all of them", dispersed, func(b *impl.Nodes) { b.Pipes[1].Chunks = [][]int{nothing, nothing, nothing} })
		for k := range 3 {
			nodesWithout(t, fmt.Sprint("in place of one, ", k), dispersed, func(b *impl.Nodes) { b.Pipes[1].Chunks[k] = nothing })
		}
		for k := range 4 {
			nodesWithout(t, fmt.Sprint("one more, ", k), dispersed, func(b *impl.Nodes) {
				b.Pipes[1].Chunks = slices.Insert(b.Pipes[1].Chunks, k, nothing)
			})
		}
		nodesWithout(t, "of a pipe that is there twice", dispersed, func(b *impl.Nodes) {
			b.Pipes = append(b.Pipes, impl.BPipe{Id: 2, Chunks: [][]int{nothing}})
		})
		nodesWithout(t, "of a pipe that may not be", dispersed, func(b *impl.Nodes) {
			b.Pipes = append(b.Pipes, impl.BPipe{Id: 99, Chunks: [][]int{{1}, nothing}})
		})
	}
}

// notBOk wants a kernel that is BOk to be so no longer by a change, and to be
// that of the Unix in which this has changed.
func notBOk(t *testing.T, name string, do func(b *impl.Nodes), want func(u *impl.Unix)) {
	t.Helper()
	nodesAre(t, "dispersed", dispersed(), busy(), true)
	b, u := dispersed(), busy()
	do(&b)
	want(&u)
	nodesAre(t, name, b, u, false)
}

func asItIs(u *impl.Unix) {}

// TestNodesOfFramesOfTwo is of 7, in frame 15, of 4, in 3, 2 and 1, and of 2, in
// 9 and 0.
func TestNodesOfFramesOfTwo(t *testing.T) {
	notBOk(t, "one frame twice, and the other one free", func(b *impl.Nodes) {
		b.Procs[4].Pages, b.Heap = []int{9, 9}, withFree(b.Heap, 0, true)
	}, func(u *impl.Unix) { u.Procs[1].Mem = []int{1, 2, 3, 4, 1, 2, 3, 4} })
	notBOk(t, "one frame twice, and the other one nobody's", func(b *impl.Nodes) { b.Procs[4].Pages[0] = 9 }, func(u *impl.Unix) {
		u.Procs[1].Mem = []int{1, 2, 3, 4, 1, 2, 3, 4}
	})
	notBOk(t, "a frame once more", func(b *impl.Nodes) { b.Procs[4].Pages = []int{0, 0, 9} }, func(u *impl.Unix) {
		u.Procs[1].Mem = append(u.Procs[1].Mem, -1000000, 1000000, 0, 7)
	})
	notBOk(t, "a frame of another one, once more", func(b *impl.Nodes) { b.Procs[1].Pages = []int{9, 15} }, func(u *impl.Unix) {
		u.Procs[4].Mem = append(u.Procs[4].Mem, 1, 2, 3, 4)
	})
	notBOk(t, "a frame of another one, and the other one free", func(b *impl.Nodes) {
		b.Procs[1].Pages[0], b.Heap = 9, withFree(b.Heap, 15, true)
	}, func(u *impl.Unix) { u.Procs[4].Mem = []int{1, 2, 3, 4} })
	notBOk(t, "a frame of two, one behind the other", func(b *impl.Nodes) {
		b.Procs[2].Pages[0], b.Heap = 15, withFree(b.Heap, 8, true)
	}, asItIs)
	notBOk(t, "a frame of the first and the last one", func(b *impl.Nodes) { b.Procs[5].Pages = append(b.Procs[5].Pages, 15) }, func(u *impl.Unix) {
		u.Procs[0].Mem = make([]int, 8)
	})
	full := allFull()
	b := nodesOf(t, full)
	b.Procs[0].Pages[0] = 0
	full.Procs[5].Mem = full.Procs[0].Mem[:4]
	nodesAre(t, "one of all is of two", b, full, false)
}

// withFree is a heap in which a frame is free, or not.
func withFree(b impl.Buddy, f int, free bool) impl.Buddy {
	return heapOf(withFlag(freeOf(b), f, free))
}

func TestNodesOfAHeapOfOthers(t *testing.T) {
	for f, free := range freeOf(dispersed().Heap) {
		notBOk(t, fmt.Sprint("frame ", f), func(b *impl.Nodes) { b.Heap = withFree(b.Heap, f, !free) }, asItIs)
	}
	notBOk(t, "all free", func(b *impl.Nodes) { b.Heap = impl.BuddyAll() }, asItIs)
	notBOk(t, "none free", func(b *impl.Nodes) { b.Heap = heap() }, asItIs)
	notBOk(t, "as many others", func(b *impl.Nodes) { b.Heap = withFree(withFree(b.Heap, 4, true), 5, false) }, asItIs)
	for f := range 16 {
		b := nodesOf(t, allFull())
		b.Heap = heap([]int{f})
		nodesAre(t, fmt.Sprint("none but ", f, " free, and it is taken"), b, allFull(), false)
		b = nobodyHangs()
		b.Heap = withFree(b.Heap, f, false)
		nodesAre(t, fmt.Sprint("all but ", f, " free, and nobody is there"), b, empty(), false)
	}
}

// TestNodesOfAHeapThatIsNotRight has just the frames free that should be, where
// it has any, but not as they should stand.
func TestNodesOfAHeapThatIsNotRight(t *testing.T) {
	for name, b := range map[string]impl.Buddy{
		"none":                     {},
		"no lists":                 {Free: [][]int{}},
		"a list too few":           {Free: [][]int{{5, 14}, {6, 10, 12}, nil, nil}},
		"a list too many":          {Free: [][]int{{5, 14}, {6, 10, 12}, nil, nil, nil, nil}},
		"firsts that fall":         heap([]int{14, 5}, []int{6, 10, 12}),
		"firsts of two that fall":  heap([]int{5, 14}, []int{6, 12, 10}),
		"one twice":                heap([]int{5, 5, 14}, []int{6, 10, 12}),
		"two twice":                heap([]int{5, 14}, []int{6, 10, 10, 12}),
		"buddies apart":            heap([]int{5, 6, 7, 14}, []int{10, 12}),
		"all apart":                heap([]int{5, 6, 7, 10, 11, 12, 13, 14}),
		"in two blocks":            heap([]int{5, 6, 14}, []int{6, 10, 12}),
		"in two blocks, once more": heap([]int{5, 13, 14}, []int{6, 10, 12}),
		"two that are no buddies":  heap([]int{6, 7, 14}, []int{5, 10, 12}),
		"four that begin wrong":    heap([]int{5, 14}, []int{6}, []int{10}),
		"a frame -1":               heap([]int{-1, 5, 14}, []int{6, 10, 12}),
		"a frame 16":               heap([]int{5, 14, 16}, []int{6, 10, 12}),
		"frames far off":           heap([]int{math.MinInt, 5, 14, math.MaxInt}, []int{6, 10, 12}),
		"two -2":                   heap([]int{5, 14}, []int{-2, 6, 10, 12}),
		"two 16":                   heap([]int{5, 14}, []int{6, 10, 12, 16}),
	} {
		notBOk(t, name, func(k *impl.Nodes) { k.Heap = b }, asItIs)
	}
	for name, b := range map[string]impl.Buddy{
		"the halves of it all":   heap(nil, nil, nil, []int{0, 8}),
		"all of it twice":        heap(nil, nil, nil, nil, []int{0, 0}),
		"all of it, and a half":  heap(nil, nil, nil, []int{0}, []int{0}),
		"one frame more than it": heap([]int{16}, nil, nil, nil, []int{0}),
		"no list":                {},
	} {
		k := nobodyHangs()
		k.Heap = b
		nodesAre(t, name, k, empty(), false)
	}
}

func TestNodesOfPidsThatDoNotFall(t *testing.T) {
	notBOk(t, "all rise", func(b *impl.Nodes) { slices.Reverse(b.Procs) }, asItIs)
	for k := range 5 {
		notBOk(t, fmt.Sprint("two rise, ", k), func(b *impl.Nodes) { b.Procs[k], b.Procs[k+1] = b.Procs[k+1], b.Procs[k] }, asItIs)
		notBOk(t, fmt.Sprint("the last one comes ahead of ", k), func(b *impl.Nodes) {
			b.Procs = slices.Insert(b.Procs[:5], k, b.Procs[5])
		}, asItIs)
	}
	two := nodesOf(t, crowd(1, 2))
	slices.Reverse(two.Procs)
	nodesAre(t, "two, the older one first", two, crowd(1, 2), false)
}

// TestNodesOfAUnixThatIsNotRight has their shape, and is told, but is not BOk.
func TestNodesOfAUnixThatIsNotRight(t *testing.T) {
	notBOk(t, "Next 0", func(b *impl.Nodes) { b.Next = 0 }, func(u *impl.Unix) { u.Next = 0 })
	notBOk(t, "Next is a Pid", func(b *impl.Nodes) { b.Next = 8 }, func(u *impl.Unix) { u.Next = 8 })
	notBOk(t, "Tick -1", func(b *impl.Nodes) { b.Tick = -1 }, func(u *impl.Unix) { u.Tick = -1 })
	notBOk(t, "no programs", func(b *impl.Nodes) { b.Progs = nil }, func(u *impl.Unix) { u.Progs = nil })
	notBOk(t, "a wrong program", func(b *impl.Nodes) { b.Progs[1] = make([]impl.Ins, 1) }, func(u *impl.Unix) { u.Progs[1] = make([]impl.Ins, 1) })
	notBOk(t, "too long an Out", func(b *impl.Nodes) { b.Out = words(61) }, func(u *impl.Unix) { u.Out = words(61) })
	notBOk(t, "no word in Out", func(b *impl.Nodes) { b.Out[1] = -1000001 }, func(u *impl.Unix) { u.Out[1] = -1000001 })
	notBOk(t, "nobody ready", func(b *impl.Nodes) { b.Ready = nil }, func(u *impl.Unix) { u.Ready = nil })
	notBOk(t, "another one ready", func(b *impl.Nodes) { b.Ready[0] = 7 }, func(u *impl.Unix) { u.Ready[0] = 7 })
	notBOk(t, "ready twice", func(b *impl.Nodes) { b.Ready = []int{2, 2} }, func(u *impl.Unix) { u.Ready = []int{2, 2} })
	notBOk(t, "too few Refs", func(b *impl.Nodes) { b.Opens[2].Refs = 1 }, func(u *impl.Unix) { u.Opens[5].Refs = 1 })
	notBOk(t, "an Open past all", func(b *impl.Nodes) { b.Opens[2].Id = 8 }, func(u *impl.Unix) { u.Opens[5].Id = 8 })
	notBOk(t, "an Open below all", func(b *impl.Nodes) { b.Opens[1].Id = -1 }, func(u *impl.Unix) { u.Opens[0].Id = -1 })
	notBOk(t, "an Open twice", func(b *impl.Nodes) { b.Opens = append(b.Opens, b.Opens[0]) }, func(u *impl.Unix) {
		u.Opens = slices.Insert(u.Opens, 3, u.Opens[3])
	})
	notBOk(t, "a pipe with no end", func(b *impl.Nodes) { b.Pipes = append(b.Pipes, impl.BPipe{Id: 1}) }, func(u *impl.Unix) {
		u.Pipes = slices.Insert(u.Pipes, 1, impl.Pipe{Id: 1})
	})
	notBOk(t, "no word in a pipe", func(b *impl.Nodes) { b.Pipes[1].Chunks[1][1] = 1000001 }, func(u *impl.Unix) { u.Pipes[1].Data[2] = 1000001 })
	notBOk(t, "a word too many in a pipe", func(b *impl.Nodes) { b.Pipes[1].Chunks[2] = []int{8, 9} }, func(u *impl.Unix) {
		u.Pipes[1].Data = append(u.Pipes[1].Data, 9)
	})
	notBOk(t, "too long a file", func(b *impl.Nodes) { b.Files[1].Data = words(9) }, func(u *impl.Unix) { u.Files[1].Data = words(9) })
	notBOk(t, "a file shorter than Off", func(b *impl.Nodes) { b.Files[0].Data = words(1) }, func(u *impl.Unix) { u.Files[0].Data = words(1) })
	notBOk(t, "a file past all", func(b *impl.Nodes) { b.Files[1].Name = 6 }, func(u *impl.Unix) { u.Files[1].Name = 6 })
	notBOk(t, "seven pipes, nine Opens, eight files", func(b *impl.Nodes) {
		b.Pipes, b.Opens, b.Files = slices.Repeat(b.Pipes[:1], 7), slices.Repeat(b.Opens[1:2], 9), slices.Repeat(b.Files[1:], 8)
	}, func(u *impl.Unix) {
		u.Pipes, u.Opens, u.Files = slices.Repeat(u.Pipes[:1], 7), slices.Repeat(u.Opens[:1], 9), slices.Repeat(u.Files[1:], 8)
	})
}

func TestNodesOfAProcessThatIsNotRight(t *testing.T) {
	notBOk(t, "no State", func(b *impl.Nodes) { b.Procs[4].State = 7 }, func(u *impl.Unix) { u.Procs[1].State = 7 })
	notBOk(t, "a Pid past Next", func(b *impl.Nodes) { b.Procs[0].Pid = 9 }, func(u *impl.Unix) { u.Procs[5].Pid = 9 })
	notBOk(t, "a Pid 0", func(b *impl.Nodes) { b.Procs[5].Pid = 0 }, func(u *impl.Unix) { u.Procs[0].Pid = 0 })
	notBOk(t, "a Pid 0 first", func(b *impl.Nodes) { b.Procs[0].Pid = 0 }, func(u *impl.Unix) {
		last := u.Procs[5]
		last.Pid = 0
		u.Procs = slices.Insert(u.Procs[:5], 0, last)
	})
	notBOk(t, "a Parent that is not there", func(b *impl.Nodes) { b.Procs[2].Parent = 3 }, func(u *impl.Unix) { u.Procs[3].Parent = 3 })
	notBOk(t, "no page", func(b *impl.Nodes) { b.Procs[5].Pages, b.Heap = nil, withFree(b.Heap, 4, true) }, func(u *impl.Unix) { u.Procs[0].Mem = nil })
	notBOk(t, "a page too many", func(b *impl.Nodes) {
		b.Procs[3].Pages, b.Heap = []int{0, 1, 2, 3}, withFree(b.Heap, 0, false)
		b.Procs[4].Pages = b.Procs[4].Pages[1:]
	}, func(u *impl.Unix) {
		u.Procs[2].Mem = append(u.Procs[2].Mem, -1000000, 1000000, 0, 7)
		u.Procs[1].Mem = u.Procs[1].Mem[:4]
	})
	notBOk(t, "a page of a zombie", func(b *impl.Nodes) { b.Procs[0].Pages, b.Heap = []int{10}, withFree(b.Heap, 10, false) }, func(u *impl.Unix) {
		u.Procs[5].Mem = slices.Repeat([]int{math.MaxInt}, 4)
	})
	notBOk(t, "no word in a page", func(b *impl.Nodes) { b.Ram[37] = 1000001 }, func(u *impl.Unix) { u.Procs[1].Mem[1] = 1000001 })
	notBOk(t, "no Cpu", func(b *impl.Nodes) { b.Procs[1].Cpu.Pc = 41 }, func(u *impl.Unix) { u.Procs[4].Cpu.Pc = 41 })
	notBOk(t, "a register too few", func(b *impl.Nodes) { b.Procs[1].Cpu.Regs = []int{1, 2, 3} }, func(u *impl.Unix) { u.Procs[4].Cpu.Regs = []int{1, 2, 3} })
	notBOk(t, "a register too many", func(b *impl.Nodes) { b.Procs[5].Cpu.Regs = make([]int, 5) }, func(u *impl.Unix) { u.Procs[0].Cpu.Regs = make([]int, 5) })
	notBOk(t, "no registers", func(b *impl.Nodes) { b.Procs[0].Cpu.Regs = nil }, func(u *impl.Unix) { u.Procs[5].Cpu.Regs = nil })
	notBOk(t, "an Fd too few", func(b *impl.Nodes) { b.Procs[0].Fds = []int{-1, -1, -1} }, func(u *impl.Unix) { u.Procs[5].Fds = []int{-1, -1, -1} })
	notBOk(t, "an Fd too many", func(b *impl.Nodes) { b.Procs[3].Fds = []int{-1, 7, -1, 7, -1} }, func(u *impl.Unix) { u.Procs[2].Fds = []int{-1, 7, -1, 7, -1} })
	notBOk(t, "an Fd that is not open", func(b *impl.Nodes) { b.Procs[5].Fds[3] = 5 }, func(u *impl.Unix) { u.Procs[0].Fds[3] = 5 })
	notBOk(t, "a sleeper that should be awake", func(b *impl.Nodes) { b.Procs[3].Until = 5 }, func(u *impl.Unix) { u.Procs[2].Until = 5 })
	notBOk(t, "a Code of one that goes on", func(b *impl.Nodes) { b.Procs[5].Code = 1 }, func(u *impl.Unix) { u.Procs[0].Code = 1 })
	seven := nodesOf(t, crowd(1, 1, 1, 1, 1, 1))
	seven.Next, seven.Heap = 8, withFree(seven.Heap, 6, false)
	seven.Procs = append([]impl.BProc{{Pid: 7, State: impl.PsReady, Cpu: cpuAt(0, 0, 0, 0, 0), Pages: []int{6}, Fds: []int{-1, -1, -1, -1}}}, seven.Procs...)
	seven.Ready = append(seven.Ready, 7)
	nodesAre(t, "seven processes", seven, crowd(1, 1, 1, 1, 1, 1, 1), false)
}

// TestNodesAreAsSaid turns each number of kernels of many kinds, and takes out
// or doubles whatever hangs anywhere.
func TestNodesAreAsSaid(t *testing.T) {
	t.Parallel()
	ok, told, nothing := 0, 0, 0
	for _, from := range hangers(t) {
		eachTurned(t, from(), func(b impl.Nodes) {
			if !alike(impl.AbsB(b), absBSaid(b)) || impl.BOk(b) != bOkSaid(b) {
				nodesAre(t, "turned", b, absBSaid(b), bOkSaid(b))
				t.FailNow()
			}
			switch {
			case impl.BOk(b):
				ok++
			case bShapeSaid(b):
				told++
			default:
				nothing++
			}
			if (ok+told+nothing)%29 == 0 {
				absBOf(t, b)
				bOkOf(t, b)
			}
		})
	}
	if ok < 1000 || told < 1000 || nothing < 500 {
		t.Errorf("of all that was turned %d are BOk, %d have their shape alone, %d have it not", ok, told, nothing)
	}
}

// TestWhatAbsBTellsIsNotKept changes what was told, and asks again.
func TestWhatAbsBTellsIsNotKept(t *testing.T) {
	b := dispersed()
	first := impl.AbsB(b)
	for _, n := range numbersOf(reflect.ValueOf(&first).Elem()) {
		n.SetInt(55)
	}
	if nodesAre(t, "behind a change of what was told", b, busy(), true); !alike(b, dispersed()) {
		t.Errorf("a change of what was told changes the kernel: %+v", b)
	}
}

// TestAbsBSharesNothing has lists that are one where they come in.
func TestAbsBSharesNothing(t *testing.T) {
	b := nodesOf(t, crowd(1, 1, 1, 1, 1, 1))
	program, four, fds, pages := withRoom(ends()), withRoom(words(4)), withRoom([]int{-1, -1, -1, -1}), withRoom([]int{3})
	b.Progs, b.Ready, b.Out = [][]impl.Ins{program, program, program}, four, four
	for k := range b.Procs {
		b.Procs[k].Cpu.Regs, b.Procs[k].Fds, b.Procs[k].Pages = four, fds, pages
	}
	chunks := withRoom([][]int{four, four})
	b.Pipes = []impl.BPipe{{Id: 1, Chunks: chunks}, {Id: 2, Chunks: chunks}, {Id: 0, Chunks: [][]int{four}}}
	b.Files = []impl.File{{Name: 1, Data: four}, {Name: 0, Data: four}, {Name: 4, Data: four}}
	was := fresh(b)
	u, ok := impl.AbsB(b), impl.BOk(b)
	if ok || !alike(u, absBSaid(was)) || !sharesNone(u, b, program, four, fds, pages, chunks) {
		t.Errorf("of lists that are one AbsB makes %+v", u)
	}
	if !alike(b, was) || !marked(program) || !marked(four) || !marked(fds) || !marked(pages) || cap(chunks) != 5 {
		t.Errorf("AbsB or BOk writes into what it is handed: %+v became %+v", was, b)
	}
}
