package tests

import (
	"math"
	"slices"
	"testing"

	"loop.example/g00781/impl"
)

// roomy is a list with spare room behind it that nobody may write into.
func roomy[T any](l []T, mark T) []T {
	return append(slices.Clone(l), mark, mark, mark)[:len(l)]
}

// untouched tells whether a list of roomy, and the room behind it, is as it was.
func untouched[T comparable](l []T, was []T, mark T) bool {
	return slices.Equal(l, was) && slices.Equal(l[:len(l)+3][len(l):], []T{mark, mark, mark})
}

// exec is Exec, which may change nothing that it is handed, nor share it.
func exec(t *testing.T, p []impl.Ins, c impl.Cpu, mem []int) (impl.Cpu, impl.Did) {
	t.Helper()
	mark := impl.Ins{Op: 77, A: 77, B: 77, C: 77}
	prog, regs, words := roomy(p, mark), roomy(c.Regs, 77), roomy(mem, 77)
	next, did := impl.Exec(prog, impl.Cpu{Pc: c.Pc, Regs: regs}, words)
	said := impl.Cpu{Pc: next.Pc, Regs: slices.Clone(next.Regs)}
	for k := range next.Regs[:cap(next.Regs)] {
		next.Regs[:cap(next.Regs)][k] = 55
	}
	if !untouched(prog, p, mark) || !untouched(regs, c.Regs, 77) || !untouched(words, mem, 77) {
		t.Errorf("Exec(%v, %v, %v) changes or shares what it is handed: %v, %v, %v", p, c, mem, prog, regs, words)
	}
	return said, did
}

func does(t *testing.T, p []impl.Ins, c impl.Cpu, mem []int, want impl.Cpu, wantDid impl.Did) {
	t.Helper()
	next, did := exec(t, p, c, mem)
	if next.Pc != want.Pc || !slices.Equal(next.Regs, want.Regs) || did != wantDid {
		t.Errorf("Exec(%v, %v, %v) = %v, %v, want %v, %v", p, c, mem, next, did, want, wantDid)
	}
}

func goesOn() impl.Did { return impl.Did{Kind: impl.CpGo, Addr: -1} }

func faults() impl.Did { return impl.Did{Kind: impl.CpFault, Addr: -1} }

func faultsAsItIs(t *testing.T, p []impl.Ins, c impl.Cpu, mem []int) {
	t.Helper()
	does(t, p, c, mem, c, faults())
}

func refusesExec(t *testing.T, p []impl.Ins, c impl.Cpu, mem []int) {
	t.Helper()
	does(t, p, c, mem, impl.Cpu{}, faults())
}

func cpuAt(pc int, regs ...int) impl.Cpu { return impl.Cpu{Pc: pc, Regs: regs} }

// yields are instructions that change nothing but Pc.
func yields(n int) []impl.Ins { return slices.Repeat([]impl.Ins{{Op: impl.InSys, A: 17}}, n) }

// progWith has an instruction at its place pc, and others around it.
func progWith(i impl.Ins, pc int) []impl.Ins {
	p := yields(min(pc+3, impl.MaxProg))
	p[pc] = i
	return p
}

// execSaid is what an instruction of a right program does, in the document's
// own words.
func execSaid(i impl.Ins, c impl.Cpu, mem []int) (impl.Cpu, impl.Did) {
	next := impl.Cpu{Pc: c.Pc + 1, Regs: slices.Clone(c.Regs)}
	isThere := func(at int) bool { return at >= 0 && at < len(mem) }
	inBounds := func(n int) bool { return n >= -1000000 && n <= 1000000 }
	if i.Op == impl.InSet {
		next.Regs[i.A] = i.B
		return next, goesOn()
	}
	if i.Op == impl.InAdd && inBounds(c.Regs[i.B]+c.Regs[i.C]) {
		next.Regs[i.A] = c.Regs[i.B] + c.Regs[i.C]
		return next, goesOn()
	}
	if i.Op == impl.InSub && inBounds(c.Regs[i.B]-c.Regs[i.C]) {
		next.Regs[i.A] = c.Regs[i.B] - c.Regs[i.C]
		return next, goesOn()
	}
	if i.Op == impl.InLoad && isThere(c.Regs[i.B]) {
		next.Regs[i.A] = mem[c.Regs[i.B]]
		return next, goesOn()
	}
	if i.Op == impl.InStore && isThere(c.Regs[i.B]) {
		return next, impl.Did{Kind: 0, Addr: c.Regs[i.B], Val: c.Regs[i.A]}
	}
	if i.Op == impl.InJump {
		next.Pc = i.A
		return next, goesOn()
	}
	if i.Op == impl.InZero {
		if c.Regs[i.A] == 0 {
			next.Pc = i.B
		}
		return next, goesOn()
	}
	if i.Op == impl.InSys {
		return next, impl.Did{Kind: 1, Addr: -1, Sys: i.A}
	}
	return c, faults()
}

func cpuRegs() [][]int {
	return [][]int{
		{0, 0, 0, 0}, {3, 6, 3, 0}, {0, 1, 2, 3}, {-1, 4, 63, 64}, {1, -1, 1, -1},
		{1000000, -1000000, 1, -1}, {-1000000, 1000000, -1, 1}, {500000, 500001, -500000, -500001},
		{7, 1000000, 0, -1000000}, {63, 62, 0, 65},
	}
}

// mems are right memories, up to the longest one, with unlike words.
func mems() [][]int {
	l := [][]int{nil, {}}
	for _, n := range []int{1, 4, 8, 12, 63, 64} {
		var mem []int
		for k := range n {
			mem = append(mem, 1000+10*k)
		}
		l = append(l, mem)
	}
	edges := slices.Repeat([]int{1000000, -1000000, 0, 5}, 16)
	return append(l, edges)
}

func TestCpuNumbers(t *testing.T) {
	if impl.CpGo != 0 || impl.CpSys != 1 || impl.CpFault != 2 {
		t.Error("the kinds of Did are", impl.CpGo, impl.CpSys, impl.CpFault)
	}
}

func TestCpuOk(t *testing.T) {
	for _, pc := range []int{0, 1, 39, 40} {
		for _, regs := range cpuRegs() {
			if !impl.CpuOk(cpuAt(pc, regs...)) {
				t.Error("refused:", pc, regs)
			}
		}
	}
	for _, c := range cpusWrong() {
		if impl.CpuOk(c) {
			t.Error("taken:", c)
		}
	}
	regs := roomy([]int{1, 2, 3, 4}, 77)
	impl.CpuOk(impl.Cpu{Regs: regs})
	if !untouched(regs, []int{1, 2, 3, 4}, 77) {
		t.Error("CpuOk changes registers:", regs[:7])
	}
}

// cpusWrong are Cpus of which each has one thing that is not right.
func cpusWrong() []impl.Cpu {
	l := []impl.Cpu{{}, {Pc: 40}, {Pc: 0, Regs: []int{}}}
	for _, pc := range []int{-1, 41, -40, 1 << 32, math.MinInt, math.MaxInt} {
		l = append(l, cpuAt(pc, 0, 0, 0, 0))
	}
	for _, n := range []int{1, 2, 3, 5, 6, 8, 100} {
		l = append(l, cpuAt(0, make([]int, n)...))
	}
	for k := range 4 {
		for _, n := range []int{-1000001, 1000001, 1 << 32, math.MinInt, math.MaxInt} {
			c := cpuAt(0, 0, 0, 0, 0)
			c.Regs[k] = n
			l = append(l, c)
		}
	}
	return l
}

func TestExecOfEachKind(t *testing.T) {
	mem := []int{10, 11, 12, 13}
	for _, c := range []struct {
		i    impl.Ins
		pc   int
		regs []int
		did  impl.Did
	}{
		{impl.Ins{Op: impl.InSet, A: 1, B: -77}, 3, []int{3, -77, -5, 2}, goesOn()},
		{impl.Ins{Op: impl.InAdd, A: 0, B: 2, C: 3}, 3, []int{-3, 8, -5, 2}, goesOn()},
		{impl.Ins{Op: impl.InSub, A: 3, B: 0, C: 1}, 3, []int{3, 8, -5, -5}, goesOn()},
		{impl.Ins{Op: impl.InSub, A: 3, B: 1, C: 0}, 3, []int{3, 8, -5, 5}, goesOn()},
		{impl.Ins{Op: impl.InLoad, A: 2, B: 0}, 3, []int{3, 8, 13, 2}, goesOn()},
		{impl.Ins{Op: impl.InStore, A: 2, B: 3}, 3, []int{3, 8, -5, 2}, impl.Did{Kind: impl.CpGo, Addr: 2, Val: -5}},
		{impl.Ins{Op: impl.InJump, A: 17}, 17, []int{3, 8, -5, 2}, goesOn()},
		{impl.Ins{Op: impl.InZero, A: 1, B: 17}, 3, []int{3, 8, -5, 2}, goesOn()},
		{impl.Ins{Op: impl.InSys, A: 9}, 3, []int{3, 8, -5, 2}, impl.Did{Kind: impl.CpSys, Addr: -1, Sys: 9}},
	} {
		does(t, progWith(c.i, 2), cpuAt(2, 3, 8, -5, 2), mem, cpuAt(c.pc, c.regs...), c.did)
	}
}

func TestExecWithOneRegisterTwice(t *testing.T) {
	mem := []int{2, 3, 1}
	for _, c := range []struct {
		i    impl.Ins
		regs []int
	}{
		{impl.Ins{Op: impl.InAdd, A: 1, B: 1, C: 1}, []int{0, 4, 7, 9}},
		{impl.Ins{Op: impl.InAdd, A: 1, B: 1, C: 2}, []int{0, 9, 7, 9}},
		{impl.Ins{Op: impl.InSub, A: 1, B: 1, C: 1}, []int{0, 0, 7, 9}},
		{impl.Ins{Op: impl.InSub, A: 1, B: 2, C: 1}, []int{0, 5, 7, 9}},
		{impl.Ins{Op: impl.InLoad, A: 1, B: 1}, []int{0, 1, 7, 9}},
	} {
		does(t, []impl.Ins{c.i}, cpuAt(0, 0, 2, 7, 9), mem, cpuAt(1, c.regs...), goesOn())
	}
	does(t, []impl.Ins{{Op: impl.InStore, A: 1, B: 1}}, cpuAt(0, 0, 2, 7, 9), mem, cpuAt(1, 0, 2, 7, 9), impl.Did{Addr: 2, Val: 2})
}

func TestExecIsAsSaid(t *testing.T) {
	for _, i := range insRights() {
		for _, regs := range cpuRegs() {
			for _, mem := range mems() {
				for _, pc := range []int{0, 39} {
					c := cpuAt(pc, regs...)
					want, did := execSaid(i, c, mem)
					does(t, progWith(i, pc), c, mem, want, did)
				}
			}
		}
	}
}

// TestExecPromise holds promise 5 against Exec alone, without telling what
// each kind of instruction does.
func TestExecPromise(t *testing.T) {
	for _, i := range insRights() {
		for _, regs := range cpuRegs() {
			for _, mem := range mems() {
				c := cpuAt(5, regs...)
				next, did := exec(t, progWith(i, 5), c, mem)
				changed := 0
				for k := range regs {
					if next.Regs[k] != regs[k] {
						changed++
					}
				}
				asks := did.Addr != -1
				went := next.Pc == 6 || i.Op == impl.InJump && next.Pc == i.A || i.Op == impl.InZero && next.Pc == i.B
				switch {
				case !impl.CpuOk(next) || changed > 1 || asks && (did.Addr < 0 || did.Addr >= len(mem)):
					t.Errorf("%v at %v, %v: %v, %v", i, regs, mem, next, did)
				case did.Kind == impl.CpFault && (next.Pc != 5 || changed > 0 || asks):
					t.Errorf("%v at %v, %v: a fault changes something: %v, %v", i, regs, mem, next, did)
				case did.Kind != impl.CpFault && !went:
					t.Errorf("%v at %v, %v goes to %d", i, regs, mem, next.Pc)
				}
			}
		}
	}
}

func TestExecWithoutAnInstructionFaults(t *testing.T) {
	mem := []int{1, 2, 3, 4}
	for n := range impl.MaxProg + 1 {
		for pc := range impl.MaxProg + 1 {
			c := cpuAt(pc, 0, 1, 2, 3)
			if pc >= n {
				faultsAsItIs(t, yields(n), c, mem)
				continue
			}
			does(t, yields(n), c, mem, cpuAt(pc+1, 0, 1, 2, 3), impl.Did{Kind: impl.CpSys, Addr: -1, Sys: 17})
		}
	}
	for _, pc := range []int{0, 1, 40} {
		faultsAsItIs(t, nil, cpuAt(pc, 5, 6, 7, 8), nil)
		faultsAsItIs(t, []impl.Ins{}, cpuAt(pc, 5, 6, 7, 8), []int{})
	}
}

func TestExecTakesTheInstructionAtPc(t *testing.T) {
	var p []impl.Ins
	for k := range impl.MaxProg {
		p = append(p, impl.Ins{Op: impl.InSet, A: k % 4, B: 100 + k})
	}
	for pc := range p {
		want := cpuAt(pc+1, 1, 2, 3, 4)
		want.Regs[pc%4] = 100 + pc
		does(t, p, cpuAt(pc, 1, 2, 3, 4), nil, want, goesOn())
	}
}

func TestExecSetsWordsAtTheirEdges(t *testing.T) {
	for r := range 4 {
		for _, n := range []int{-1000000, -1, 0, 1, 1000000} {
			want := cpuAt(1, 11, 12, 13, 14)
			want.Regs[r] = n
			does(t, []impl.Ins{{Op: impl.InSet, A: r, B: n}}, cpuAt(0, 11, 12, 13, 14), nil, want, goesOn())
		}
	}
}

func TestExecSumsAtTheirEdges(t *testing.T) {
	for _, c := range []struct {
		op, left, right, sum int
	}{
		{impl.InAdd, 999999, 1, 1000000}, {impl.InAdd, 1000000, 0, 1000000}, {impl.InAdd, 0, 1000000, 1000000},
		{impl.InAdd, 500000, 500000, 1000000}, {impl.InAdd, -999999, -1, -1000000}, {impl.InAdd, -1000000, 0, -1000000},
		{impl.InAdd, 1000000, -1000000, 0}, {impl.InAdd, -1000000, 1000000, 0}, {impl.InAdd, 0, 0, 0},
		{impl.InSub, 999999, -1, 1000000}, {impl.InSub, 0, -1000000, 1000000}, {impl.InSub, 1000000, 0, 1000000},
		{impl.InSub, -999999, 1, -1000000}, {impl.InSub, 0, 1000000, -1000000}, {impl.InSub, -1000000, 0, -1000000},
		{impl.InSub, 1000000, 1000000, 0}, {impl.InSub, -1000000, -1000000, 0},
	} {
		does(t, []impl.Ins{{Op: c.op, A: 3, B: 1, C: 2}}, cpuAt(0, 9, c.left, c.right, 8), nil, cpuAt(1, 9, c.left, c.right, c.sum), goesOn())
	}
	for _, c := range []struct {
		op, left, right int
	}{
		{impl.InAdd, 1000000, 1}, {impl.InAdd, 1, 1000000}, {impl.InAdd, 500000, 500001}, {impl.InAdd, 1000000, 1000000},
		{impl.InAdd, -1000000, -1}, {impl.InAdd, -1, -1000000}, {impl.InAdd, -500001, -500000}, {impl.InAdd, -1000000, -1000000},
		{impl.InSub, 1000000, -1}, {impl.InSub, 1, -1000000}, {impl.InSub, 1000000, -1000000},
		{impl.InSub, -1000000, 1}, {impl.InSub, -1, 1000000}, {impl.InSub, -1000000, 1000000},
	} {
		for a := range 4 {
			faultsAsItIs(t, []impl.Ins{{Op: c.op, A: a, B: 1, C: 2}}, cpuAt(0, 9, c.left, c.right, 8), []int{1, 2})
		}
	}
}

func TestExecWordsThatAreThereAndThatAreNot(t *testing.T) {
	for _, mem := range mems() {
		for _, at := range []int{-1000000, -64, -2, -1, 0, 1, 2, 3, 4, 7, 8, 11, 12, 62, 63, 64, 65, 999999, 1000000, len(mem) - 1, len(mem), len(mem) + 1} {
			c := cpuAt(0, 21, 22, at, 24)
			load, store := []impl.Ins{{Op: impl.InLoad, A: 1, B: 2}}, []impl.Ins{{Op: impl.InStore, A: 1, B: 2}}
			if at < 0 || at >= len(mem) {
				faultsAsItIs(t, load, c, mem)
				faultsAsItIs(t, store, c, mem)
				continue
			}
			does(t, load, c, mem, cpuAt(1, 21, mem[at], at, 24), goesOn())
			does(t, store, c, mem, cpuAt(1, 21, 22, at, 24), impl.Did{Kind: impl.CpGo, Addr: at, Val: 22})
		}
	}
	for _, val := range []int{-1000000, -1, 0, 1000000} {
		does(t, []impl.Ins{{Op: impl.InStore, A: 3, B: 0}}, cpuAt(0, 0, 1, 2, val), []int{5}, cpuAt(1, 0, 1, 2, val), impl.Did{Addr: 0, Val: val})
		does(t, []impl.Ins{{Op: impl.InLoad, A: 3, B: 0}}, cpuAt(0, 0, 1, 2, 3), []int{val}, cpuAt(1, 0, 1, 2, val), goesOn())
	}
}

func TestExecJumps(t *testing.T) {
	for _, to := range []int{0, 1, 2, 20, 39, 40} {
		for _, pc := range []int{0, 2, 39} {
			for r := range 4 {
				c := cpuAt(pc, 1, 1, 1, 1)
				does(t, progWith(impl.Ins{Op: impl.InJump, A: to}, pc), c, nil, cpuAt(to, 1, 1, 1, 1), goesOn())
				for _, n := range []int{-1000000, -1, 1, 1000000} {
					c.Regs[r] = n
					does(t, progWith(impl.Ins{Op: impl.InZero, A: r, B: to}, pc), c, nil, cpuAt(pc+1, c.Regs...), goesOn())
				}
				c.Regs[r] = 0
				does(t, progWith(impl.Ins{Op: impl.InZero, A: r, B: to}, pc), c, nil, cpuAt(to, c.Regs...), goesOn())
			}
		}
	}
	others := cpuAt(0, 0, 0, 5, 0)
	does(t, []impl.Ins{{Op: impl.InZero, A: 2, B: 9}}, others, nil, cpuAt(1, 0, 0, 5, 0), goesOn())
}

func TestExecCalls(t *testing.T) {
	for n := 1; n <= 20; n++ {
		for _, pc := range []int{0, 39} {
			does(t, progWith(impl.Ins{Op: impl.InSys, A: n}, pc), cpuAt(pc, 4, 3, 2, 1), []int{1}, cpuAt(pc+1, 4, 3, 2, 1), impl.Did{Kind: impl.CpSys, Addr: -1, Sys: n})
		}
	}
}

func TestExecRefusesAProgramThatIsNotRight(t *testing.T) {
	c, mem := cpuAt(0, 1, 2, 3, 4), []int{1, 2, 3, 4}
	for _, i := range append(insAround(), impl.Ins{}, impl.Ins{Op: 9}, impl.Ins{Op: -1}, impl.Ins{Op: math.MaxInt}) {
		if insRight(i) {
			continue
		}
		refusesExec(t, []impl.Ins{i}, c, mem)
		refusesExec(t, append(yields(3), i), c, mem)
		refusesExec(t, append([]impl.Ins{i}, yields(3)...), cpuAt(2, 1, 2, 3, 4), mem)
		refusesExec(t, []impl.Ins{i}, cpuAt(40, 1, 2, 3, 4), mem)
	}
	for _, n := range []int{41, 42, 1000} {
		refusesExec(t, yields(n), c, mem)
		refusesExec(t, yields(n), cpuAt(40, 1, 2, 3, 4), mem)
	}
}

func TestExecRefusesACpuThatIsNotRight(t *testing.T) {
	for _, c := range cpusWrong() {
		refusesExec(t, nil, c, nil)
		for _, i := range insRights() {
			refusesExec(t, []impl.Ins{i}, c, []int{1, 2, 3, 4})
			refusesExec(t, slices.Repeat([]impl.Ins{i}, 40), c, nil)
		}
	}
}

func TestExecRefusesAMemoryThatIsNotRight(t *testing.T) {
	var wrong [][]int
	for _, n := range []int{65, 66, 128, 10000} {
		wrong = append(wrong, make([]int, n))
	}
	for _, n := range []int{1, 4, 64} {
		for _, at := range []int{0, n / 2, n - 1} {
			for _, word := range []int{-1000001, 1000001, math.MinInt, math.MaxInt} {
				mem := make([]int, n)
				mem[at] = word
				wrong = append(wrong, mem)
			}
		}
	}
	for _, mem := range wrong {
		for _, i := range insRights() {
			refusesExec(t, []impl.Ins{i}, cpuAt(0, 0, 0, 0, 0), mem)
		}
		refusesExec(t, nil, cpuAt(0, 0, 0, 0, 0), mem)
		refusesExec(t, yields(40), cpuAt(40, 0, 0, 0, 0), mem)
	}
	does(t, yields(1), cpuAt(0, 0, 0, 0, 0), make([]int, 64), cpuAt(1, 0, 0, 0, 0), impl.Did{Kind: impl.CpSys, Addr: -1, Sys: 17})
}

func TestExecRunsAProgram(t *testing.T) {
	p, _ := impl.Asm("set r0 5\nset r2 1\nzero r0 6\nadd r1 r1 r0\nsub r0 r0 r2\njump 2\nset r0 2\nstore r1 r0\nload r3 r0\nsys 1\n")
	c, mem, steps := cpuAt(0, 0, 0, 0, 0), []int{7, 7, 7, 7}, 0
	for ; steps < 100; steps++ {
		next, did := exec(t, p, c, mem)
		c = next
		if did.Addr >= 0 {
			mem[did.Addr] = did.Val
		}
		if did.Kind != impl.CpGo {
			break
		}
	}
	if want := cpuAt(10, 2, 15, 1, 15); steps != 26 || c.Pc != want.Pc || !slices.Equal(c.Regs, want.Regs) || !slices.Equal(mem, []int{7, 7, 15, 7}) {
		t.Error("behind", steps, "steps:", c, mem)
	}
	faultsAsItIs(t, p, c, mem)
}
