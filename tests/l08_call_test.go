package tests

import (
	"math"
	"slices"
	"testing"

	"loop.example/g00781/impl"
)

// askedAt is where asking has its call.
const askedAt = 4

// asking is a Unix whose first ready process asks for a call with a and b.
func asking(u impl.Unix, sys int, a int, b int) impl.Unix {
	return doing(u, impl.Ins{Op: impl.InSys, A: sys}, a, b, 70, -71)
}

// doing is a Unix whose first ready process is at an instruction, with these
// registers.
func doing(u impl.Unix, i impl.Ins, regs ...int) impl.Unix {
	u = fresh(u)
	p := procWith(&u, u.Ready[0])
	u.Progs[p.Prog] = progWith(i, askedAt)
	p.Cpu = cpuAt(askedAt, regs...)
	return u
}

func ef(kind int, numbers ...int) []impl.Eff {
	n := append(numbers, 0, 0, 0)
	return []impl.Eff{{Kind: kind, A: n[0], B: n[1], C: n[2]}}
}

func woken(pid int) []impl.Eff {
	return slices.Concat(ef(impl.EfState, pid, impl.PsReady), ef(impl.EfPush, pid))
}

func blocked(pid int, state int, until int) []impl.Eff {
	return slices.Concat(ef(impl.EfState, pid, state, until), ef(impl.EfPull, pid))
}

// closed is an Fd of an Open that others have, too.
func closed(pid int, fd int, id int) []impl.Eff {
	return slices.Concat(ef(impl.EfFd, pid, fd, -1), ef(impl.EfRef, id, -1))
}

// shut is the last Fd of an Open.
func shut(pid int, fd int, id int) []impl.Eff {
	return slices.Concat(closed(pid, fd, id), ef(impl.EfShut, id))
}

func zombie(pid int, code int) []impl.Eff {
	return slices.Concat(ef(impl.EfState, pid, impl.PsZombie), ef(impl.EfCode, pid, code))
}

// toldTo has only the first registers: asks knows the others.
func toldTo(pid int, answers ...int) []impl.Eff {
	return []impl.Eff{{Kind: impl.EfCpu, A: pid, B: askedAt + 1, L: answers}}
}

// told is toldTo of the one that asks.
func told(answers ...int) []impl.Eff { return toldTo(0, answers...) }

// asks wants just these effects of a call with a and b.
func asks(t *testing.T, u impl.Unix, sys int, a int, b int, lists ...[]impl.Eff) {
	t.Helper()
	want := slices.Concat(lists...)
	for k := range want {
		e := &want[k]
		if e.Kind != impl.EfCpu || len(e.L) == 4 {
			continue
		}
		if e.A == 0 {
			e.A = u.Ready[0]
		}
		e.L = append(slices.Clone(e.L), []int{a, b, 70, -71}[len(e.L):]...)
	}
	runs(t, asking(u, sys, a, b), want)
}

// runs wants just these effects of a step.
func runs(t *testing.T, u impl.Unix, lists ...[]impl.Eff) {
	t.Helper()
	want := slices.Concat(lists...)
	if got := ran(t, u); !alike(got, want) {
		t.Errorf("RunEffects of %+v:\n%+v, not\n%+v", u, got, want)
	}
	if said := runSaid(u); !alike(said, want) {
		t.Errorf("the test itself is wrong, of %+v:\n%+v, not\n%+v", u, want, said)
	}
	comesToRight(t, u, want)
}

// ticks wants just these effects of a tick.
func ticks(t *testing.T, u impl.Unix, lists ...[]impl.Eff) {
	t.Helper()
	want := slices.Concat(lists...)
	if got := ticked(t, u); !alike(got, want) {
		t.Errorf("TickEffects of %+v:\n%+v, not\n%+v", u, got, want)
	}
	if said := tickSaid(u); !alike(said, want) {
		t.Errorf("the test itself is wrong, of %+v:\n%+v, not\n%+v", u, want, said)
	}
	comesToRight(t, u, want)
}

// comesToRight holds promise 8 of one list.
func comesToRight(t *testing.T, u impl.Unix, l []impl.Eff) {
	t.Helper()
	next, every := impl.ApplyAll(u, l)
	if !unixSaid(u) || !every || !unixSaid(next) || !impl.UnixOk(next) {
		t.Errorf("%+v of %+v: %v, what it comes to is not right: %+v", l, u, every, next)
	}
}

// answered is what is told of a Unix by one that may neither write into what
// it is handed nor hand out memory of it.
func answered[G, T any](t *testing.T, of func(G) T, u G) T {
	t.Helper()
	given := withRoom(u)
	got := of(given)
	if !alike(given, u) || !marked(given) {
		t.Errorf("it writes into what it is handed: %+v became %+v", u, given)
	}
	if !sharesNone(got, given) {
		t.Errorf("what it answers shares memory: %+v of %+v", got, u)
	}
	return got
}

func ran(t *testing.T, u impl.Unix) []impl.Eff {
	t.Helper()
	return answered(t, impl.RunEffects, u)
}

func ticked(t *testing.T, u impl.Unix) []impl.Eff {
	t.Helper()
	return answered(t, impl.TickEffects, u)
}

// nothingComes wants no effects of a Unix that is not right.
func nothingComes(t *testing.T, name string, u impl.Unix) {
	t.Helper()
	if l := ran(t, u); len(l) != 0 {
		t.Errorf("%s: RunEffects of %+v: %+v", name, u, l)
	}
	if l := ticked(t, u); len(l) != 0 {
		t.Errorf("%s: TickEffects of %+v: %+v", name, u, l)
	}
}

// telling is a list in the document's own words, and the Unix that it leaves.
type telling struct {
	u impl.Unix
	l []impl.Eff
}

func (s *telling) say(kind int, numbers ...int) { s.sayEff(ef(kind, numbers...)[0]) }

func (s *telling) sayEff(e impl.Eff) {
	for _, says := range []func(*impl.Unix, impl.Eff) bool{procSays, memSays, openSays, pipeSays, fileSays, listSays} {
		if says(&s.u, e) {
			s.l = append(s.l, e)
			return
		}
	}
	panic("an effect that the document tells of a right Unix does not fit")
}

func (s *telling) openWith(id int) *impl.Open {
	for k := range s.u.Opens {
		if s.u.Opens[k].Id == id {
			return &s.u.Opens[k]
		}
	}
	return nil
}

// opensOf is how many Opens of these kinds have that Target.
func (s *telling) opensOf(target int, kinds ...int) int {
	n := 0
	for _, o := range s.u.Opens {
		if o.Target == target && slices.Contains(kinds, o.Kind) {
			n++
		}
	}
	return n
}

func (s *telling) wakes(pid int) {
	s.say(3, pid, 1, 0)
	s.say(21, pid)
}

func (s *telling) wakesPipe(id int) {
	for _, p := range fresh(s.u.Procs) {
		if p.State != 4 && p.State != 5 {
			continue
		}
		if o := s.openWith(p.Until); o != nil && o.Kind >= 3 && o.Target == id {
			s.wakes(p.Pid)
		}
	}
}

func (s *telling) closes(pid int, fd int) {
	id := procWith(&s.u, pid).Fds[fd]
	s.say(9, pid, fd, -1)
	s.say(11, id, -1)
	o := *s.openWith(id)
	if o.Refs != 0 {
		return
	}
	s.say(12, id)
	if o.Kind < 3 {
		return
	}
	if s.opensOf(o.Target, 3, 4) == 0 {
		s.say(17, o.Target)
	} else {
		s.wakesPipe(o.Target)
	}
}

func (s *telling) ends(pid int, code int) {
	if procWith(&s.u, pid).State != 1 {
		s.wakes(pid)
	}
	for fd := range 4 {
		if procWith(&s.u, pid).Fds[fd] != -1 {
			s.closes(pid, fd)
		}
	}
	s.say(5, pid)
	for _, child := range fresh(s.u.Procs) {
		if child.Parent != pid {
			continue
		}
		if child.State == 6 {
			s.say(6, child.Pid)
		} else {
			s.say(25, child.Pid, 0)
		}
	}
	s.say(22, pid)
	parent := procWith(&s.u, pid).Parent
	if parent == 0 {
		s.say(6, pid)
		return
	}
	s.say(3, pid, 6, 0)
	s.say(26, pid, code)
	if procWith(&s.u, parent).State == 3 {
		s.wakes(parent)
	}
}

// freeSaid are the least numbers below a limit that are not taken.
func freeSaid(limit int, taken func(n int) bool) []int {
	var l []int
	for n := range limit {
		if !taken(n) {
			l = append(l, n)
		}
	}
	return l
}

// runSaid is RunEffects of a right Unix.
func runSaid(u impl.Unix) []impl.Eff {
	if len(u.Ready) == 0 {
		return nil
	}
	s := &telling{u: fresh(u)}
	p := fresh(*procWith(&s.u, u.Ready[0]))
	prog := u.Progs[p.Prog]
	c, d := p.Cpu, faults()
	if p.Cpu.Pc < len(prog) {
		c, d = execSaid(prog[p.Cpu.Pc], p.Cpu, p.Mem)
	}
	switch d.Kind {
	case 2:
		s.ends(p.Pid, -1)
	case 0:
		s.sayEff(impl.Eff{Kind: 1, A: p.Pid, B: c.Pc, L: fresh(c.Regs)})
		if d.Addr != -1 {
			s.say(2, p.Pid, d.Addr, d.Val)
		}
	case 1:
		(&asker{telling: s, p: p, c: c, a: c.Regs[0], b: c.Regs[1]}).calls(d.Sys)
	}
	return s.l
}

// asker is a telling of a call: p is the process as it asks.
type asker struct {
	*telling
	p    impl.Proc
	c    impl.Cpu
	a, b int
}

func (s *asker) told(pid int, answers ...int) {
	s.sayEff(impl.Eff{Kind: 1, A: pid, B: s.c.Pc, L: append(answers, s.c.Regs[len(answers):]...)})
}

func (s *asker) blocks(state int, until int) {
	s.say(3, s.p.Pid, state, until)
	s.say(22, s.p.Pid)
}

func (s *asker) freeFds() []int {
	return freeSaid(4, func(n int) bool { return s.p.Fds[n] != -1 })
}

func (s *asker) freeOpens() []int {
	return freeSaid(8, func(n int) bool { return s.openWith(n) != nil })
}

func (s *asker) calls(sys int) {
	if sys > 17 || !s.callsOfProcs(sys) && !s.callsOfFds(sys) && !s.callsOfOthers(sys) {
		s.told(s.p.Pid, -1)
	}
}

// callsOfProcs, callsOfFds and callsOfOthers tell whether there is more to be
// told of a call than -1.
func (s *asker) callsOfProcs(sys int) bool {
	pid := s.p.Pid
	switch sys {
	case 1:
		s.ends(pid, s.a)
	case 2:
		if len(s.u.Procs) == 6 || s.u.Next == 100000 || !roomSaid(&s.u, len(s.p.Mem)/4) {
			return false
		}
		child := s.u.Next
		s.say(4, child, pid)
		for _, id := range s.p.Fds {
			if id != -1 {
				s.say(11, id, 1)
			}
		}
		s.told(child, 0)
		s.say(21, child)
		s.told(pid, child)
	case 3:
		return s.waits()
	case 4:
		s.told(pid, pid)
	case 13:
		p := procWith(&s.u, s.a)
		if p == nil || p.State == 6 {
			return false
		}
		s.ends(s.a, -1)
		if s.a != pid {
			s.told(pid, 0)
		}
	default:
		return false
	}
	return true
}

func (s *asker) waits() bool {
	children := 0
	for _, p := range fresh(s.u.Procs) {
		if p.Parent != s.p.Pid {
			continue
		}
		if children++; p.State == 6 {
			s.say(6, p.Pid)
			s.told(s.p.Pid, p.Pid, p.Code)
			return true
		}
	}
	if children > 0 {
		s.blocks(3, 0)
	}
	return children > 0
}

func (s *asker) callsOfFds(sys int) bool {
	pid, fds, ids := s.p.Pid, s.freeFds(), s.freeOpens()
	if sys == 10 {
		pipes := freeSaid(3, func(n int) bool {
			return slices.ContainsFunc(s.u.Pipes, func(p impl.Pipe) bool { return p.Id == n })
		})
		if len(fds) < 2 || len(ids) < 2 || len(pipes) < 1 {
			return false
		}
		s.say(14, pipes[0])
		s.say(10, ids[0], 3, pipes[0])
		s.say(10, ids[1], 4, pipes[0])
		s.say(11, ids[0], 1)
		s.say(11, ids[1], 1)
		s.say(9, pid, fds[0], ids[0])
		s.say(9, pid, fds[1], ids[1])
		s.told(pid, fds[0], fds[1])
		return true
	}
	if s.a < 0 || s.a > 3 || s.p.Fds[s.a] == -1 {
		return false
	}
	o := *s.openWith(s.p.Fds[s.a])
	switch {
	case sys == 7:
		s.closes(pid, s.a)
		s.told(pid, 0)
	case sys == 8:
		return s.reads(o)
	case sys == 9:
		return s.writes(o)
	case sys == 11 && len(fds) > 0:
		s.say(11, o.Id, 1)
		s.say(9, pid, fds[0], o.Id)
		s.told(pid, fds[0])
	default:
		return false
	}
	return true
}

func (s *asker) fileWith(name int) *impl.File {
	for k := range s.u.Files {
		if s.u.Files[k].Name == name {
			return &s.u.Files[k]
		}
	}
	return nil
}

func (s *asker) pipeWith(id int) *impl.Pipe {
	for k := range s.u.Pipes {
		if s.u.Pipes[k].Id == id {
			return &s.u.Pipes[k]
		}
	}
	return nil
}

func (s *asker) reads(o impl.Open) bool {
	pid := s.p.Pid
	switch o.Kind {
	case 4:
		return false
	case 1:
		s.told(pid, 0)
	case 2:
		if l := s.fileWith(o.Target).Data; o.Off < len(l) {
			s.say(13, o.Id, o.Off+1)
			s.told(pid, 1, l[o.Off])
			return true
		}
		s.told(pid, 0)
	case 3:
		if l := s.pipeWith(o.Target).Data; len(l) > 0 {
			word := l[0]
			s.say(16, o.Target)
			s.wakesPipe(o.Target)
			s.told(pid, 1, word)
		} else if s.opensOf(o.Target, 4) == 0 {
			s.told(pid, 0)
		} else {
			s.blocks(4, o.Id)
		}
	}
	return true
}

func (s *asker) writes(o impl.Open) bool {
	pid := s.p.Pid
	switch o.Kind {
	case 3:
		return false
	case 1:
		if len(s.u.Out) == 60 {
			return false
		}
		s.say(23, s.b)
	case 2:
		if o.Off == 8 {
			return false
		}
		s.say(19, o.Target, o.Off, s.b)
		s.say(13, o.Id, o.Off+1)
	case 4:
		if s.opensOf(o.Target, 3) == 0 {
			return false
		}
		if len(s.pipeWith(o.Target).Data) == 4 {
			s.blocks(5, o.Id)
			return true
		}
		s.say(15, o.Target, s.b)
		s.wakesPipe(o.Target)
	}
	s.told(pid, 1)
	return true
}

func (s *asker) callsOfOthers(sys int) bool {
	pid, fds, ids := s.p.Pid, s.freeFds(), s.freeOpens()
	switch sys {
	case 5:
		words := len(s.p.Mem)
		if words == 12 || !roomSaid(&s.u, 1) {
			return false
		}
		s.say(7, pid)
		s.told(pid, words)
	case 6:
		there := s.fileWith(s.a) != nil
		if s.a < 0 || s.a > 5 || len(fds) == 0 || len(ids) == 0 || !there && s.b == 0 {
			return false
		}
		if !there {
			s.say(18, s.a)
		}
		s.say(10, ids[0], 2, s.a)
		s.say(11, ids[0], 1)
		s.say(9, pid, fds[0], ids[0])
		s.told(pid, fds[0])
	case 12:
		if s.a > 0 && s.u.Tick+s.a > 1000000 {
			return false
		}
		s.told(pid, 0)
		if s.a > 0 {
			s.blocks(2, s.u.Tick+s.a)
		}
	case 14:
		if s.fileWith(s.a) == nil || s.opensOf(s.a, 2) > 0 {
			return false
		}
		s.say(20, s.a)
		s.told(pid, 0)
	case 15:
		s.told(pid, s.u.Tick)
	case 16:
		if s.a < 0 || s.a >= len(s.u.Progs) {
			return false
		}
		s.say(8, pid, s.a)
		s.sayEff(impl.Eff{Kind: 1, A: pid, L: []int{0, 0, 0, 0}})
	case 17:
		s.told(pid, 0)
		s.say(22, pid)
		s.say(21, pid)
	default:
		return false
	}
	return true
}

// tickSaid is TickEffects of a right Unix.
func tickSaid(u impl.Unix) []impl.Eff {
	if u.Tick == 1000000 {
		return nil
	}
	s := &telling{u: fresh(u)}
	s.say(24)
	if len(u.Ready) >= 2 {
		s.say(22, u.Ready[0])
		s.say(21, u.Ready[0])
	}
	for _, p := range u.Procs {
		if p.State == 2 && p.Until <= u.Tick+1 {
			s.wakes(p.Pid)
		}
	}
	return s.l
}

func TestInstructionsThatAreNoCalls(t *testing.T) {
	regs := []int{5, -6, 7, 2}
	goes := func(i impl.Ins, pc int, regs ...int) {
		t.Helper()
		runs(t, doing(busy(), i, 5, -6, 7, 2), []impl.Eff{{Kind: impl.EfCpu, A: 2, B: pc, L: regs}})
	}
	goes(impl.Ins{Op: impl.InSet, A: 3, B: 1000000}, 5, 5, -6, 7, 1000000)
	goes(impl.Ins{Op: impl.InSet, A: 0, B: -1000000}, 5, -1000000, -6, 7, 2)
	goes(impl.Ins{Op: impl.InAdd, A: 1, B: 0, C: 2}, 5, 5, 12, 7, 2)
	goes(impl.Ins{Op: impl.InSub, A: 2, B: 1, C: 0}, 5, 5, -6, -11, 2)
	goes(impl.Ins{Op: impl.InLoad, A: 0, B: 2}, 5, 7, -6, 7, 2)
	goes(impl.Ins{Op: impl.InJump, A: 40}, 40, regs...)
	goes(impl.Ins{Op: impl.InJump, A: 0}, 0, regs...)
	goes(impl.Ins{Op: impl.InZero, A: 0, B: 9}, 5, regs...)
	runs(t, doing(busy(), impl.Ins{Op: impl.InZero, A: 0, B: 9}, 0, 1, 1, 1), []impl.Eff{{Kind: impl.EfCpu, A: 2, B: 9, L: []int{0, 1, 1, 1}}})
	for at := range 8 {
		stores := doing(busy(), impl.Ins{Op: impl.InStore, A: 1, B: 0}, at, -40, 0, 0)
		runs(t, stores, []impl.Eff{{Kind: impl.EfCpu, A: 2, B: 5, L: []int{at, -40, 0, 0}}}, ef(impl.EfPoke, 2, at, -40))
	}
}

// endOfTwo is what is told where process 2 of busy ends: its Parent waits, its
// children sleep and are zombies, and at its pipes others read and write.
func endOfTwo(code int) []impl.Eff {
	return slices.Concat(
		closed(2, 0, 0), shut(2, 1, 2), woken(5), shut(2, 2, 4), woken(7), ef(impl.EfDrop, 2),
		ef(impl.EfParent, 4, 0), ef(impl.EfReap, 8), ef(impl.EfPull, 2), zombie(2, code), woken(1),
	)
}

func TestFaults(t *testing.T) {
	runs(t, busy(), endOfTwo(-1))
	for _, i := range []impl.Ins{
		{Op: impl.InAdd, A: 0, B: 1, C: 1}, {Op: impl.InSub, A: 0, B: 2, C: 1},
		{Op: impl.InLoad, A: 0, B: 3}, {Op: impl.InStore, A: 0, B: 3}, {Op: impl.InStore, A: 0, B: 2},
	} {
		runs(t, doing(busy(), i, 1, 1000000, -1, 8), endOfTwo(-1))
	}
	none := busy()
	none.Progs[0] = nil
	runs(t, none, endOfTwo(-1))
}

func TestExit(t *testing.T) {
	for _, code := range []int{0, 9, -1, 1000000, -1000000} {
		asks(t, busy(), 1, code, 3, endOfTwo(code))
		asks(t, booted(), 1, code, 3, closed(1, 0, 0), shut(1, 1, 0), ef(impl.EfDrop, 1), ef(impl.EfPull, 1), ef(impl.EfReap, 1))
	}
	for state := impl.PsReady; state <= impl.PsWrite; state++ {
		u := family(impl.PsReady, state)
		u.Procs[0].Parent, u.Procs[1].Parent = 2, 0
		want := [][]impl.Eff{closed(1, 3, 5), ef(impl.EfDrop, 1), ef(impl.EfPull, 1), zombie(1, 6)}
		if state == impl.PsWait {
			want = append(want, woken(2))
		}
		asks(t, u, 1, 6, 0, want...)
	}
}

// family is a right Unix in which process 1, which is ready, has a child in
// each of these states, zombies with their Pid times 10 as Code. All but
// zombies have Open 5, the console, as Fd 3; it is what those that read or
// write wait for.
func family(states ...int) impl.Unix {
	u := empty()
	refs := 0
	for k, state := range states {
		p := impl.Proc{Pid: k + 1, Parent: 1, State: state, Cpu: cpuAt(k), Mem: words(4), Fds: []int{-1, -1, -1, 5}}
		p.Cpu.Regs = []int{k, k, k, k}
		switch state {
		case impl.PsReady:
			u.Ready = append(u.Ready, p.Pid)
		case impl.PsSleep:
			p.Until = 3
		case impl.PsRead, impl.PsWrite:
			p.Until = 5
		}
		if state == impl.PsZombie {
			p.Mem, p.Fds, p.Code = nil, []int{-1, -1, -1, -1}, 10*p.Pid
		} else {
			refs++
		}
		u.Procs, u.Next = append(u.Procs, p), k+2
	}
	u.Procs[0].Parent = 0
	u.Opens = []impl.Open{{Id: 5, Kind: impl.OpCon, Refs: refs}}
	return u
}

func TestExitOfParents(t *testing.T) {
	asks(t, family(1, 6, 1, 6, 2, 3), 1, 8, 0,
		closed(1, 3, 5), ef(impl.EfDrop, 1),
		ef(impl.EfReap, 2), ef(impl.EfParent, 3, 0), ef(impl.EfReap, 4), ef(impl.EfParent, 5, 0), ef(impl.EfParent, 6, 0),
		ef(impl.EfPull, 1), ef(impl.EfReap, 1))
	asks(t, family(1, 6, 6, 6), 1, 8, 0,
		shut(1, 3, 5), ef(impl.EfDrop, 1),
		ef(impl.EfReap, 2), ef(impl.EfReap, 3), ef(impl.EfReap, 4), ef(impl.EfPull, 1), ef(impl.EfReap, 1))
	others := family(1, 3, 6, 1)
	others.Procs[0].Parent, others.Procs[1].Parent, others.Procs[2].Parent, others.Procs[3].Parent = 2, 0, 2, 2
	asks(t, others, 1, 8, 0, closed(1, 3, 5), ef(impl.EfDrop, 1), ef(impl.EfPull, 1), zombie(1, 8), woken(2))
	each := family(1, 3)
	each.Procs[0].Parent = 2
	asks(t, each, 1, 8, 0, closed(1, 3, 5), ef(impl.EfDrop, 1), ef(impl.EfParent, 2, 0), ef(impl.EfPull, 1), zombie(1, 8), woken(2))
}

func TestFork(t *testing.T) {
	asks(t, five(), 2, 6, 7,
		ef(impl.EfSpawn, 9, 2), ef(impl.EfRef, 0, 1), ef(impl.EfRef, 2, 1), ef(impl.EfRef, 4, 1),
		toldTo(9, 0), ef(impl.EfPush, 9), told(9))
	asks(t, booted(), 2, 6, 7,
		ef(impl.EfSpawn, 2, 1), ef(impl.EfRef, 0, 1), ef(impl.EfRef, 0, 1), toldTo(2, 0), ef(impl.EfPush, 2), told(2))
	asks(t, busy(), 2, 6, 7, told(-1))
	for _, c := range []struct {
		pages []int
		next  int
		want  bool
	}{
		{[]int{1}, 2, true}, {[]int{1, 1, 1, 1, 1}, 6, true}, {[]int{1, 1, 1, 1, 1, 1}, 7, false},
		{[]int{1}, 99998, true}, {[]int{1}, 99999, true}, {[]int{1}, 100000, false},
		{[]int{3, 3, 3, 3, 1}, 6, true}, {[]int{3, 3, 3, 3, 2}, 6, false}, {[]int{2, 3, 3, 3, 3}, 6, true},
		{[]int{1, 3, 3, 3, 3}, 6, true}, {[]int{3, 3, 3, 3, 3}, 6, false}, {[]int{1, 3, 3, 3, 3, 3}, 7, false},
	} {
		u := crowd(c.pages...)
		u.Next = c.next
		if c.want {
			asks(t, u, 2, 3, 4, ef(impl.EfSpawn, c.next, 1), toldTo(c.next, 0), ef(impl.EfPush, c.next), told(c.next))
		} else {
			asks(t, u, 2, 3, 4, told(-1))
		}
	}
}

func TestWait(t *testing.T) {
	asks(t, family(1), 3, 6, 7, told(-1))
	asks(t, booted(), 3, 6, 7, told(-1))
	for state := impl.PsReady; state <= impl.PsWrite; state++ {
		asks(t, family(1, state), 3, 6, 7, blocked(1, impl.PsWait, 0))
		asks(t, family(1, state, 6), 3, 6, 7, ef(impl.EfReap, 3), told(3, 30))
	}
	asks(t, family(1, 6), 3, 6, 7, ef(impl.EfReap, 2), told(2, 20))
	asks(t, family(1, 6, 6), 3, 6, 7, ef(impl.EfReap, 2), told(2, 20))
	asks(t, family(1, 2, 6, 1, 6), 3, 6, 7, ef(impl.EfReap, 3), told(3, 30))
	asks(t, busy(), 3, 6, 7, ef(impl.EfReap, 8), told(8, -7))
	others := family(1, 2, 6)
	others.Procs[2].Parent = 2
	asks(t, others, 3, 6, 7, blocked(1, impl.PsWait, 0))
	others.Procs[1].Parent = 0
	asks(t, others, 3, 6, 7, told(-1))
	for _, code := range []int{-1000000, -1, 0, 1000000} {
		u := family(1, 6)
		u.Procs[1].Code = code
		asks(t, u, 3, 6, 7, ef(impl.EfReap, 2), told(2, code))
	}
}

func TestPidTimeAndYield(t *testing.T) {
	asks(t, busy(), 4, 6, 7, told(2))
	last := crowd(1)
	last.Next, last.Procs[0].Pid, last.Ready[0] = 100000, 99999, 99999
	asks(t, last, 4, 6, 7, told(99999))
	for _, tick := range []int{0, 1, 4, 999999, 1000000} {
		u := booted()
		u.Tick = tick
		asks(t, u, 15, 6, 7, told(tick))
	}
	asks(t, busy(), 17, 6, 7, told(0), ef(impl.EfPull, 2), ef(impl.EfPush, 2))
	three := crowd(1, 1, 1)
	three.Ready = []int{2, 3, 1}
	asks(t, three, 17, 6, 7, told(0), ef(impl.EfPull, 2), ef(impl.EfPush, 2))
}

func TestCallsThatAreNone(t *testing.T) {
	for _, sys := range []int{18, 19, 20} {
		for _, u := range []impl.Unix{busy(), booted(), family(1, 6), plumbed(1)} {
			asks(t, u, sys, 0, 1, told(-1))
			asks(t, u, sys, 1, 0, told(-1))
		}
	}
}

func TestGrow(t *testing.T) {
	for _, c := range []struct {
		pages []int
		want  int
	}{
		{[]int{1}, 4}, {[]int{2}, 8}, {[]int{3}, -1}, {[]int{1, 3, 3, 3, 3, 2}, 4}, {[]int{2, 3, 3, 3, 3, 1}, 8},
		{[]int{1, 3, 3, 3, 3, 3}, -1}, {[]int{2, 3, 3, 3, 3, 2}, -1}, {[]int{3, 1, 1, 1}, -1},
	} {
		if c.want < 0 {
			asks(t, crowd(c.pages...), 5, 6, 7, told(-1))
		} else {
			asks(t, crowd(c.pages...), 5, 6, 7, ef(impl.EfGrow, 1), told(c.want))
		}
	}
}

func TestOpen(t *testing.T) {
	opens := func(u impl.Unix, a int, b int, id int, fd int, made ...[]impl.Eff) {
		t.Helper()
		pid := u.Ready[0]
		made = append(made, ef(impl.EfOpen, id, impl.OpFile, a), ef(impl.EfRef, id, 1), ef(impl.EfFd, pid, fd, id), told(fd))
		asks(t, u, 6, a, b, made...)
	}
	for _, b := range []int{0, 1, -1, 1000000} {
		opens(busy(), 1, b, 3, 3)
		opens(busy(), 4, b, 3, 3)
		opens(filed(6), 0, b, 1, 2)
		opens(filed(6), 5, b, 1, 2)
		for _, a := range []int{-1, 6, 7, -1000000, 1000000} {
			asks(t, filed(6), 6, a, b, told(-1))
			asks(t, booted(), 6, a, b, told(-1))
		}
		for _, a := range []int{0, 2, 3, 5} {
			if b == 0 {
				asks(t, busy(), 6, a, b, told(-1))
			} else {
				opens(busy(), a, b, 3, 3, ef(impl.EfMake, a))
			}
		}
	}
	full := busy()
	full.Procs[1].Fds[3], full.Opens[0].Refs = 0, 7
	for n := range 9 {
		u := opened(n)
		u.Ready, u.Files = []int{3, 2, 1}, []impl.File{{Name: 2}}
		if n < 8 {
			opens(u, 2, 0, n, 0)
			opens(u, 0, 1, n, 0, ef(impl.EfMake, 0))
		} else {
			asks(t, u, 6, 2, 0, told(-1))
			asks(t, u, 6, 0, 1, told(-1))
		}
	}
	for _, a := range []int{0, 1, 4} {
		asks(t, full, 6, a, 1, told(-1))
	}
}

// plumbed is a right Unix: process 1 is ready, and has as its Fds an OpIn (1)
// and an OpOut (3) of pipe 2, with these Data, file 3 at its word 1 (Open 4)
// and the console (6).
func plumbed(data ...int) impl.Unix {
	u := crowd(1)
	u.Procs[0].Fds = []int{1, 3, 4, 6}
	u.Opens = []impl.Open{
		{Id: 1, Kind: impl.OpIn, Target: 2, Refs: 1},
		{Id: 3, Kind: impl.OpOut, Target: 2, Refs: 1},
		{Id: 4, Kind: impl.OpFile, Target: 3, Off: 1, Refs: 1},
		{Id: 6, Kind: impl.OpCon, Refs: 1},
	}
	u.Pipes = []impl.Pipe{{Id: 2, Data: data}}
	u.Files = []impl.File{{Name: 2, Data: []int{20}}, {Name: 3, Data: []int{31, 32}}}
	return u
}

// without is a Unix in which process 1 has closed an Fd, the last one of its
// Open.
func without(u impl.Unix, fd int) impl.Unix {
	u = fresh(u)
	id := u.Procs[0].Fds[fd]
	u.Procs[0].Fds[fd] = -1
	u.Opens = slices.DeleteFunc(u.Opens, func(o impl.Open) bool { return o.Id == id })
	return u
}

// shared is a Unix with one more process, behind all, that has one Fd, and is
// in a state until an Open.
func shared(u impl.Unix, id int, state int, until int) impl.Unix {
	u = fresh(u)
	p := impl.Proc{Pid: u.Next, State: state, Cpu: cpuAt(0, 0, 0, 0, 0), Mem: make([]int, 4), Fds: []int{-1, id, -1, -1}, Until: until}
	u.Procs, u.Next = append(u.Procs, p), u.Next+1
	if state == impl.PsReady {
		u.Ready = append(u.Ready, p.Pid)
	}
	for k := range u.Opens {
		if u.Opens[k].Id == id {
			u.Opens[k].Refs++
		}
	}
	return u
}

// badFds wants a call to be told -1 of each number that is no Fd that is open.
func badFds(t *testing.T, sys int) {
	t.Helper()
	for _, a := range []int{-1, 4, 5, -1000000, 1000000} {
		asks(t, plumbed(5), sys, a, 9, told(-1))
		asks(t, busy(), sys, a, 9, told(-1))
	}
	for fd := range 4 {
		u := plumbed(5)
		if fd < 2 {
			u = shared(u, u.Procs[0].Fds[fd], impl.PsReady, 0)
		}
		id := u.Procs[0].Fds[fd]
		u.Procs[0].Fds[fd] = -1
		for k := range u.Opens {
			if u.Opens[k].Id == id {
				u.Opens[k].Refs--
			}
		}
		u.Opens = slices.DeleteFunc(u.Opens, func(o impl.Open) bool { return o.Refs == 0 })
		asks(t, u, sys, fd, 9, told(-1))
	}
	for a := range 4 {
		asks(t, crowd(1), sys, a, 9, told(-1))
	}
	asks(t, busy(), sys, 3, 9, told(-1))
}

func TestClose(t *testing.T) {
	badFds(t, 7)
	asks(t, busy(), 7, 0, 9, closed(2, 0, 0), told(0))
	asks(t, busy(), 7, 1, 9, shut(2, 1, 2), woken(5), told(0))
	asks(t, busy(), 7, 2, 9, shut(2, 2, 4), woken(7), told(0))
	asks(t, plumbed(5), 7, 0, 9, shut(1, 0, 1), told(0))
	asks(t, plumbed(5), 7, 1, 9, shut(1, 1, 3), told(0))
	asks(t, plumbed(5), 7, 2, 9, shut(1, 2, 4), told(0))
	asks(t, plumbed(5), 7, 3, 9, shut(1, 3, 6), told(0))
	asks(t, without(plumbed(5), 0), 7, 1, 9, shut(1, 1, 3), ef(impl.EfUnpipe, 2), told(0))
	asks(t, without(plumbed(), 1), 7, 0, 9, shut(1, 0, 1), ef(impl.EfUnpipe, 2), told(0))
	for fd, id := range []int{1, 3, 4, 6} {
		asks(t, shared(plumbed(5), id, impl.PsReady, 0), 7, fd, 9, closed(1, fd, id), told(0))
		asks(t, shared(plumbed(5), id, impl.PsSleep, 1), 7, fd, 9, closed(1, fd, id), told(0))
	}
	same := without(plumbed(), 3)
	same.Procs[0].Fds[3], same.Opens[1].Refs = 3, 2
	asks(t, same, 7, 3, 9, closed(1, 3, 3), told(0))
	asks(t, same, 7, 1, 9, closed(1, 1, 3), told(0))
}

// TestTwoOpensOfOneEnd has a second Open of the end that is shut: it is told
// as any other one of the pipe.
func TestTwoOpensOfOneEnd(t *testing.T) {
	for _, kind := range []int{impl.OpIn, impl.OpOut} {
		u := without(plumbed(7), 2)
		u.Opens[0].Kind, u.Opens[1].Kind = kind, kind
		asks(t, u, 7, 0, 9, shut(1, 0, 1), told(0))
		u = shared(u, 3, impl.PsRead, 3)
		asks(t, u, 7, 0, 9, shut(1, 0, 1), woken(2), told(0))
	}
}

// TestEndsOfPipes has those that wait at a pipe whose last reader or writer
// goes, and at one whose last one does not.
func TestEndsOfPipes(t *testing.T) {
	readers := shared(shared(plumbed(), 1, impl.PsRead, 1), 1, impl.PsRead, 1)
	asks(t, readers, 7, 1, 9, shut(1, 1, 3), woken(2), woken(3), told(0))
	asks(t, readers, 7, 0, 9, closed(1, 0, 1), told(0))
	asks(t, shared(readers, 3, impl.PsReady, 0), 7, 1, 9, closed(1, 1, 3), told(0))
	writers := shared(shared(plumbed(1, 2, 3, 4), 3, impl.PsWrite, 3), 3, impl.PsWrite, 3)
	asks(t, writers, 7, 0, 9, shut(1, 0, 1), woken(2), woken(3), told(0))
	asks(t, writers, 7, 1, 9, closed(1, 1, 3), told(0))
	asks(t, shared(writers, 1, impl.PsReady, 0), 7, 0, 9, closed(1, 0, 1), told(0))
	asks(t, readers, 1, 5, 9,
		closed(1, 0, 1), shut(1, 1, 3), woken(2), woken(3), shut(1, 2, 4), shut(1, 3, 6),
		ef(impl.EfDrop, 1), ef(impl.EfPull, 1), ef(impl.EfReap, 1))
	asks(t, plumbed(4), 1, 5, 9,
		shut(1, 0, 1), shut(1, 1, 3), ef(impl.EfUnpipe, 2), shut(1, 2, 4), shut(1, 3, 6),
		ef(impl.EfDrop, 1), ef(impl.EfPull, 1), ef(impl.EfReap, 1))
}

func TestRead(t *testing.T) {
	badFds(t, 8)
	asks(t, plumbed(5), 8, 3, 9, told(0))
	asks(t, busy(), 8, 0, 9, told(0))
	for _, data := range [][]int{nil, {5}, {1, 2, 3, 4}} {
		asks(t, plumbed(data...), 8, 1, 9, told(-1))
	}
	asks(t, busy(), 8, 1, 9, told(-1))
	for n := range 9 {
		for off := range n + 1 {
			u := plumbed()
			u.Files[1].Data, u.Opens[2].Off = words(n), off
			if off == n {
				asks(t, u, 8, 2, 9, told(0))
			} else {
				asks(t, u, 8, 2, 9, ef(impl.EfOff, 4, off+1), told(1, words(n)[off]))
			}
		}
	}
	for n := 1; n <= 4; n++ {
		data := []int{-1000000, 1000000, 7, 8}[4-n:]
		asks(t, plumbed(data...), 8, 0, 9, ef(impl.EfTake, 2), told(1, data[0]))
		asks(t, without(plumbed(data...), 1), 8, 0, 9, ef(impl.EfTake, 2), told(1, data[0]))
	}
	asks(t, plumbed(), 8, 0, 9, blocked(1, impl.PsRead, 1))
	second := shared(plumbed(), 1, impl.PsReady, 0)
	second.Ready = []int{2, 1}
	asks(t, second, 8, 1, 9, blocked(2, impl.PsRead, 1))
	asks(t, without(plumbed(), 1), 8, 0, 9, told(0))
	other := shared(without(plumbed(), 1), 6, impl.PsReady, 0)
	other.Pipes = slices.Insert(other.Pipes, 0, impl.Pipe{Id: 1})
	other.Opens = append(other.Opens, impl.Open{Id: 7, Kind: impl.OpOut, Target: 1, Refs: 1})
	other.Procs[1].Fds[3] = 7
	asks(t, other, 8, 0, 9, told(0))
	asks(t, busy(), 8, 2, 9, ef(impl.EfTake, 2), woken(7), told(1, 5))
}

func TestWrite(t *testing.T) {
	badFds(t, 9)
	for _, b := range []int{9, 0, -1000000, 1000000} {
		for _, n := range []int{0, 1, 59, 60} {
			u := plumbed()
			u.Out = words(n)
			if n == 60 {
				asks(t, u, 9, 3, b, told(-1))
			} else {
				asks(t, u, 9, 3, b, ef(impl.EfOut, b), told(1))
			}
		}
		for n := range 9 {
			for off := range n + 1 {
				u := plumbed()
				u.Files[1].Data, u.Opens[2].Off = words(n), off
				if off == 8 {
					asks(t, u, 9, 2, b, told(-1))
				} else {
					asks(t, u, 9, 2, b, ef(impl.EfWord, 3, off, b), ef(impl.EfOff, 4, off+1), told(1))
				}
			}
		}
		for n := range 5 {
			u := plumbed(words(n)...)
			if n == 4 {
				asks(t, u, 9, 1, b, blocked(1, impl.PsWrite, 3))
			} else {
				asks(t, u, 9, 1, b, ef(impl.EfPut, 2, b), told(1))
			}
			asks(t, without(plumbed(words(n)...), 0), 9, 1, b, told(-1))
			asks(t, plumbed(words(n)...), 9, 0, b, told(-1))
		}
		asks(t, busy(), 9, 1, b, ef(impl.EfPut, 0, b), woken(5), told(1))
	}
	asks(t, busy(), 9, 2, 3, told(-1))
	second := shared(plumbed(1, 2, 3, 4), 3, impl.PsReady, 0)
	second.Ready = []int{2, 1}
	asks(t, second, 9, 1, 9, blocked(2, impl.PsWrite, 3))
}

// TestWakesInOrder has two and more that wait at one pipe, with others, who
// wait for something else, ahead of, between and behind them.
func TestWakesInOrder(t *testing.T) {
	other := func(data ...int) impl.Unix {
		u := plumbed(data...)
		u.Pipes = slices.Insert(u.Pipes, 0, impl.Pipe{Id: 1})
		u.Opens = append(u.Opens, impl.Open{Id: 7, Kind: impl.OpIn, Target: 1})
		return shared(u, 7, impl.PsRead, 7)
	}
	full := shared(shared(shared(other(5, 6, 7, 8), 3, impl.PsWrite, 3), 3, impl.PsSleep, 2), 3, impl.PsWrite, 3)
	asks(t, full, 8, 0, 9, ef(impl.EfTake, 2), woken(3), woken(5), told(1, 5))
	none := shared(shared(shared(other(), 1, impl.PsRead, 1), 7, impl.PsRead, 7), 1, impl.PsRead, 1)
	asks(t, none, 9, 1, 9, ef(impl.EfPut, 2, 9), woken(3), woken(5), told(1))
	asks(t, none, 7, 1, 9, shut(1, 1, 3), woken(3), woken(5), told(0))
	asks(t, shared(none, 1, impl.PsRead, 1), 9, 1, 9, ef(impl.EfPut, 2, 9), woken(3), woken(5), woken(6), told(1))
	both := shared(shared(other(5), 3, impl.PsWrite, 3), 1, impl.PsRead, 1)
	asks(t, both, 9, 1, 9, ef(impl.EfPut, 2, 9), woken(3), woken(4), told(1))
	asks(t, both, 8, 0, 9, ef(impl.EfTake, 2), woken(3), woken(4), told(1, 5))
	crossed := shared(shared(other(5), 3, impl.PsWrite, 1), 1, impl.PsRead, 3)
	asks(t, crossed, 8, 0, 9, ef(impl.EfTake, 2), woken(3), woken(4), told(1, 5))
	elsewhere := shared(shared(other(5), 6, impl.PsRead, 6), 4, impl.PsWrite, 4)
	asks(t, elsewhere, 8, 0, 9, ef(impl.EfTake, 2), told(1, 5))
}

func TestPipe(t *testing.T) {
	made := func(u impl.Unix, pipe int, in int, out int, read int, write int) {
		t.Helper()
		pid := u.Ready[0]
		asks(t, u, 10, 8, 9,
			ef(impl.EfPipe, pipe), ef(impl.EfOpen, in, impl.OpIn, pipe), ef(impl.EfOpen, out, impl.OpOut, pipe),
			ef(impl.EfRef, in, 1), ef(impl.EfRef, out, 1), ef(impl.EfFd, pid, read, in), ef(impl.EfFd, pid, write, out), told(read, write))
	}
	made(booted(), 0, 1, 2, 2, 3)
	made(crowd(1), 0, 0, 1, 0, 1)
	asks(t, busy(), 10, 8, 9, told(-1))
	roomy := busy()
	roomy.Procs[1].Fds[0], roomy.Opens[0].Refs = -1, 5
	made(roomy, 1, 3, 5, 0, 3)
	for fds := range 5 {
		u := crowd(1)
		u.Opens = []impl.Open{{Id: 1, Kind: impl.OpCon, Refs: fds}}
		for fd := range fds {
			u.Procs[0].Fds[3-fd] = 1
		}
		if fds == 0 {
			u.Opens = nil
		}
		switch {
		case fds == 0:
			made(u, 0, 0, 1, 0, 1)
		case fds <= 2:
			made(u, 0, 0, 2, 0, 1)
		default:
			asks(t, u, 10, 8, 9, told(-1))
		}
	}
	for n := range 9 {
		u := opened(n)
		u.Ready = []int{3, 1, 2}
		if n <= 6 {
			made(u, 0, n, n+1, 0, 1)
		} else {
			asks(t, u, 10, 8, 9, told(-1))
		}
	}
	for n := range 4 {
		u := piped(n)
		u.Ready = []int{2, 1, 3}
		if n < 3 {
			made(u, n, n, n+1, 0, 1)
		} else {
			asks(t, u, 10, 8, 9, told(-1))
		}
	}
}

func TestDup(t *testing.T) {
	badFds(t, 11)
	for fd, id := range []int{0, 2, 4} {
		asks(t, busy(), 11, fd, 9, ef(impl.EfRef, id, 1), ef(impl.EfFd, 2, 3, id), told(3))
	}
	for fd := range 4 {
		asks(t, plumbed(), 11, fd, 9, told(-1))
		for gap := range 4 {
			if gap == fd || gap < 2 && fd >= 2 {
				continue
			}
			u := without(plumbed(), gap)
			id := u.Procs[0].Fds[fd]
			asks(t, u, 11, fd, 9, ef(impl.EfRef, id, 1), ef(impl.EfFd, 1, gap, id), told(gap))
		}
	}
	asks(t, booted(), 11, 1, 9, ef(impl.EfRef, 0, 1), ef(impl.EfFd, 1, 2, 0), told(2))
	asks(t, booted(), 11, 2, 9, told(-1))
}

func TestSleep(t *testing.T) {
	for _, tick := range []int{0, 5, 999999, 1000000} {
		u := booted()
		u.Tick = tick
		for _, a := range []int{0, -1, -1000000} {
			asks(t, u, 12, a, 9, told(0))
		}
		for _, a := range []int{1, 2, 999994, 999995, 999996, 999999, 1000000} {
			if tick+a <= 1000000 {
				asks(t, u, 12, a, 9, told(0), blocked(1, impl.PsSleep, tick+a))
			} else {
				asks(t, u, 12, a, 9, told(-1))
			}
		}
	}
}

func TestKill(t *testing.T) {
	for _, a := range []int{8, 0, -1, 3, 6, 9, 100000, 1000000, -1000000} {
		asks(t, busy(), 13, a, 9, told(-1))
	}
	asks(t, busy(), 13, 2, 9, endOfTwo(-1))
	asks(t, busy(), 13, 1, 9,
		woken(1), closed(1, 0, 0), closed(1, 1, 0), ef(impl.EfDrop, 1), ef(impl.EfParent, 2, 0), ef(impl.EfParent, 5, 0),
		ef(impl.EfPull, 1), ef(impl.EfReap, 1), told(0))
	asks(t, busy(), 13, 4, 9,
		woken(4), closed(4, 1, 7), shut(4, 3, 7), ef(impl.EfDrop, 4), ef(impl.EfPull, 4), zombie(4, -1), told(0))
	asks(t, busy(), 13, 5, 9,
		woken(5), closed(5, 0, 0), closed(5, 1, 0), shut(5, 2, 1), ef(impl.EfDrop, 5), ef(impl.EfPull, 5), zombie(5, -1), woken(1), told(0))
	asks(t, busy(), 13, 7, 9,
		woken(7), closed(7, 0, 0), shut(7, 3, 6), ef(impl.EfDrop, 7), ef(impl.EfPull, 7), ef(impl.EfReap, 7), told(0))
	asks(t, booted(), 13, 1, 9, closed(1, 0, 0), shut(1, 1, 0), ef(impl.EfDrop, 1), ef(impl.EfPull, 1), ef(impl.EfReap, 1))
	asks(t, crowd(1, 1), 13, 2, 9, ef(impl.EfDrop, 2), ef(impl.EfPull, 2), ef(impl.EfReap, 2), told(0))
	asks(t, family(1, 1), 13, 2, 9, closed(2, 3, 5), ef(impl.EfDrop, 2), ef(impl.EfPull, 2), zombie(2, -1), told(0))
}

// TestKillOfKin has a Parent and a grandchild killed, and one at whose pipe
// the one that is killed waits itself.
func TestKillOfKin(t *testing.T) {
	parent := family(1, 1, 6, 3)
	parent.Ready = []int{2, 1}
	asks(t, parent, 13, 1, 9,
		closed(1, 3, 5), ef(impl.EfDrop, 1), ef(impl.EfParent, 2, 0), ef(impl.EfReap, 3), ef(impl.EfParent, 4, 0),
		ef(impl.EfPull, 1), ef(impl.EfReap, 1), told(0))
	grand := family(1, 3, 2)
	grand.Procs[2].Parent = 2
	asks(t, grand, 13, 3, 9, woken(3), closed(3, 3, 5), ef(impl.EfDrop, 3), ef(impl.EfPull, 3), zombie(3, -1), woken(2), told(0))
	asks(t, grand, 13, 2, 9,
		woken(2), closed(2, 3, 5), ef(impl.EfDrop, 2), ef(impl.EfParent, 3, 0), ef(impl.EfPull, 2), zombie(2, -1), told(0))
	readers := shared(shared(without(plumbed(), 1), 3, impl.PsReady, 0), 1, impl.PsRead, 1)
	readers.Opens = slices.Insert(readers.Opens, 1, impl.Open{Id: 3, Kind: impl.OpOut, Target: 2, Refs: 2})
	readers.Procs[2].Fds[3] = 3
	asks(t, readers, 13, 3, 9, woken(3), closed(3, 1, 1), closed(3, 3, 3), ef(impl.EfDrop, 3), ef(impl.EfPull, 3), ef(impl.EfReap, 3), told(0))
	asks(t, readers, 13, 2, 9, closed(2, 1, 3), ef(impl.EfDrop, 2), ef(impl.EfPull, 2), ef(impl.EfReap, 2), told(0))
	last := shared(shared(without(plumbed(), 1), 1, impl.PsRead, 1), 1, impl.PsRead, 1)
	last.Opens = slices.Insert(last.Opens, 1, impl.Open{Id: 3, Kind: impl.OpOut, Target: 2, Refs: 1})
	last.Procs[1].Fds[3] = 3
	asks(t, last, 13, 2, 9,
		woken(2), closed(2, 1, 1), shut(2, 3, 3), woken(3), ef(impl.EfDrop, 2), ef(impl.EfPull, 2), ef(impl.EfReap, 2), told(0))
}

func TestUnlink(t *testing.T) {
	asks(t, busy(), 14, 1, 9, told(-1))
	asks(t, busy(), 14, 4, 9, ef(impl.EfGone, 4), told(0))
	for _, a := range []int{-1, 0, 2, 5, 6, -1000000, 1000000} {
		asks(t, busy(), 14, a, 9, told(-1))
	}
	for a := -1; a <= 6; a++ {
		if a < 0 || a > 5 {
			asks(t, filed(6), 14, a, 9, told(-1))
		} else {
			asks(t, filed(6), 14, a, 9, ef(impl.EfGone, a), told(0))
		}
		asks(t, filed(0), 14, a, 9, told(-1))
	}
	asks(t, plumbed(5), 14, 2, 9, ef(impl.EfGone, 2), told(0))
	asks(t, plumbed(5), 14, 3, 9, told(-1))
	asks(t, without(plumbed(5), 2), 14, 3, 9, ef(impl.EfGone, 3), told(0))
	asks(t, filed(1), 14, 0, 9, ef(impl.EfGone, 0), told(0))
}

func TestExecCall(t *testing.T) {
	none := []impl.Eff{{Kind: impl.EfCpu, A: 2, L: []int{0, 0, 0, 0}}}
	for a := range 3 {
		asks(t, busy(), 16, a, 9, ef(impl.EfExec, 2, a), none)
	}
	for _, a := range []int{-1, 3, 4, -1000000, 1000000} {
		asks(t, busy(), 16, a, 9, told(-1))
	}
	asks(t, booted(), 16, 1, 9, told(-1))
	full := crowd(1, 3, 3, 3, 3, 3)
	full.Progs = append(full.Progs, nil, nil, ends())
	for a := range 4 {
		asks(t, full, 16, a, 9, ef(impl.EfExec, 1, a), []impl.Eff{{Kind: impl.EfCpu, A: 1, L: []int{0, 0, 0, 0}}})
	}
	asks(t, full, 16, 4, 9, told(-1))
}

func TestTickEffects(t *testing.T) {
	turned := func(pid int) []impl.Eff { return slices.Concat(ef(impl.EfPull, pid), ef(impl.EfPush, pid)) }
	ticks(t, empty(), ef(impl.EfTick))
	ticks(t, booted(), ef(impl.EfTick))
	ticks(t, busy(), ef(impl.EfTick), woken(4))
	for n := 2; n <= 6; n++ {
		u := crowd(slices.Repeat([]int{1}, n)...)
		ticks(t, u, ef(impl.EfTick), turned(1))
		slices.Reverse(u.Ready)
		ticks(t, u, ef(impl.EfTick), turned(n))
	}
	for _, tick := range []int{0, 1, 2, 999998, 999999} {
		u := family(2, 1, 2, 2, 1, 2)
		u.Tick = tick
		for k, until := range []int{1, 0, 2, 1, 0, 3} {
			if until > 0 {
				u.Procs[k].Until = tick + until
			}
		}
		ticks(t, u, ef(impl.EfTick), turned(2), woken(1), woken(4))
		u.Ready, u.Procs[1].State = []int{5}, impl.PsWait
		ticks(t, u, ef(impl.EfTick), woken(1), woken(4))
		u.Ready, u.Procs[4].State = nil, impl.PsWait
		ticks(t, u, ef(impl.EfTick), woken(1), woken(4))
		u.Procs[0].State, u.Procs[0].Until, u.Ready = impl.PsReady, 0, []int{1}
		ticks(t, u, ef(impl.EfTick), woken(4))
	}
	for _, u := range []impl.Unix{empty(), booted(), busy(), crowd(1, 1, 1), family(1, 2)} {
		u.Tick = 1000000
		for k := range u.Procs {
			if u.Procs[k].State == impl.PsSleep {
				u.Procs[k].Until = 1000001
			}
		}
		ticks(t, u)
	}
	ends := family(1, 4, 5, 3, 6)
	ends.Tick = 5
	ticks(t, ends, ef(impl.EfTick))
}

func TestNobodyIsReady(t *testing.T) {
	runs(t, empty())
	still := changed(busy(), func(u *impl.Unix) {
		u.Procs[1].State, u.Procs[1].Until, u.Ready = impl.PsSleep, 40, nil
	})
	runs(t, still)
	for _, state := range []int{2, 3, 4, 5} {
		runs(t, changed(family(1), func(u *impl.Unix) {
			u.Procs[0].State, u.Ready = state, nil
			if state != impl.PsWait {
				u.Procs[0].Until = 5
			}
		}))
	}
}

// TestOnlyTheFirstOneRuns has others ready behind it, who would do something
// else.
func TestOnlyTheFirstOneRuns(t *testing.T) {
	u := crowd(1, 1, 1)
	u.Progs = [][]impl.Ins{ends(), {{Op: impl.InSet, A: 2, B: 8}}, {{Op: impl.InSys, A: 4}}}
	u.Procs[1].Prog, u.Procs[2].Prog = 1, 2
	u.Ready = []int{3, 1, 2}
	runs(t, u, []impl.Eff{{Kind: impl.EfCpu, A: 3, B: 1, L: []int{3, 0, 0, 0}}})
	u.Ready = []int{2, 3, 1}
	runs(t, u, []impl.Eff{{Kind: impl.EfCpu, A: 2, B: 1, L: []int{0, 0, 8, 0}}})
	u.Ready = []int{1, 3, 2}
	runs(t, u, ef(impl.EfDrop, 1), ef(impl.EfPull, 1), ef(impl.EfReap, 1))
}

// TestNotRightNothingComes has a few ways by name; allWrong asks it of each
// way in which a Unix is not right.
func TestNotRightNothingComes(t *testing.T) {
	nothingComes(t, "the zero Unix", impl.Unix{})
	for name, do := range map[string]func(u *impl.Unix){
		"Next 0":                        func(u *impl.Unix) { u.Next = 0 },
		"Tick past MaxTick":             func(u *impl.Unix) { u.Tick = 1000001 },
		"no program":                    func(u *impl.Unix) { u.Progs = nil },
		"a word that is none":           func(u *impl.Unix) { u.Out[0] = math.MaxInt },
		"Pids that fall":                func(u *impl.Unix) { slices.Reverse(u.Procs) },
		"a Parent that is not there":    func(u *impl.Unix) { u.Procs[2].Parent = 3 },
		"a State that is none":          func(u *impl.Unix) { u.Procs[1].State = 7 },
		"a Prog that is not there":      func(u *impl.Unix) { u.Procs[1].Prog = 3 },
		"a Cpu that is not right":       func(u *impl.Unix) { u.Procs[1].Cpu.Regs = nil },
		"a page that is not whole":      func(u *impl.Unix) { u.Procs[1].Mem = u.Procs[1].Mem[:7] },
		"an Fd that is not open":        func(u *impl.Unix) { u.Procs[1].Fds[3] = 3 },
		"a sleep that is over":          func(u *impl.Unix) { u.Procs[2].Until = 5 },
		"a zombie with a page":          func(u *impl.Unix) { u.Procs[5].Mem = make([]int, 4) },
		"Refs too many":                 func(u *impl.Unix) { u.Opens[0].Refs++ },
		"a pipe that no Open is of":     func(u *impl.Unix) { u.Pipes = slices.Insert(u.Pipes, 1, impl.Pipe{Id: 1}) },
		"a file of nine words":          func(u *impl.Unix) { u.Files[0].Data = words(9) },
		"one that is ready is not told": func(u *impl.Unix) { u.Ready = nil },
		"one twice in Ready":            func(u *impl.Unix) { u.Ready = []int{2, 2} },
	} {
		nothingComes(t, name, changed(busy(), do))
	}
}

// awaitsWhatIsGone tells whether a process reads or writes until an Open that
// is not there. That comes about only of a Unix that is right but not Sound,
// in which the last Fd of that Open was another one's: no words of the
// document wake it.
func awaitsWhatIsGone(u impl.Unix) bool {
	return slices.ContainsFunc(u.Procs, func(p impl.Proc) bool {
		isThere := slices.ContainsFunc(u.Opens, func(o impl.Open) bool { return o.Id == p.Until })
		return (p.State == impl.PsRead || p.State == impl.PsWrite) && !isThere
	})
}

// TestTurnedNumbers turns each number and takes out of each list: what is not
// right has no effects, and what is has those that are said.
func TestTurnedNumbers(t *testing.T) {
	t.Parallel()
	for _, from := range []impl.Unix{
		asking(busy(), 1, 1, 0), asking(busy(), 13, 5, 0), asking(busy(), 9, 1, 3), asking(five(), 2, 0, 0), asking(busy(), 7, 2, 0),
		asking(plumbed(5, 6), 8, 0, 0), asking(piped(3), 10, 0, 0), asking(filed(6), 6, 1, 1), asking(crowd(3, 3, 3, 3, 3, 1), 12, 9, 1),
	} {
		eachTurned(t, from, func(u impl.Unix) {
			run, tick := impl.RunEffects(u), impl.TickEffects(u)
			if !unixSaid(u) {
				if len(run) != 0 || len(tick) != 0 {
					t.Fatalf("%+v is not right: %+v, %+v", u, run, tick)
				}
				return
			}
			if !alike(run, runSaid(u)) || !alike(tick, tickSaid(u)) {
				t.Fatalf("RunEffects and TickEffects of %+v:\n%+v\n%+v, not\n%+v\n%+v", u, run, tick, runSaid(u), tickSaid(u))
			}
			for _, l := range [][]impl.Eff{run, tick} {
				if next, every := impl.ApplyAll(u, l); !every || !unixSaid(next) && (soundSaid(u) || !awaitsWhatIsGone(next)) {
					t.Fatalf("%+v of %+v: %v, %+v", l, u, every, next)
				}
			}
		})
	}
}

// dice tells numbers that are the same at each run.
type dice struct{ n uint64 }

func (d *dice) roll(n int) int {
	d.n = d.n*6364136223846793005 + 1442695040888963407
	return int(d.n>>33) % n
}

// order is n numbers, each once.
func (d *dice) order(n int) []int {
	var l []int
	for k := range n {
		l = slices.Insert(l, d.roll(k+1), k)
	}
	return l
}

func (d *dice) edge() int { return edges()[d.roll(len(edges()))] }

// rolled is a program that asks for many calls, mostly with numbers that may
// mean something, some of them with what it was told last, and begins anew.
func (d *dice) rolled() []impl.Ins {
	calls := [][2]int{
		{2, 0}, {2, 0}, {2, 0}, {3, 0}, {3, 0}, {4, 0}, {5, 0}, {6, d.roll(6)}, {6, 1}, {7, d.roll(4)}, {7, 2}, {7, 3},
		{8, 2}, {8, 2}, {8, 3}, {9, 3}, {9, 3}, {9, 3}, {9, 2}, {9, 0}, {10, 0}, {10, 0}, {11, 2}, {12, d.roll(9)},
		{13, d.roll(9)}, {13, 3}, {14, d.roll(6)}, {15, 0}, {16, d.roll(5)}, {17, 0}, {18, 0}, {1, d.roll(3)}, {1, 7},
	}
	p := []impl.Ins{{Op: impl.InSys, A: 10}, {Op: impl.InSys, A: 2}}
	for len(p) < impl.MaxProg-9 {
		call := calls[d.roll(len(calls))]
		if d.roll(5) > 0 {
			p = append(p, impl.Ins{Op: impl.InSet, A: 0, B: call[1]})
		}
		if d.roll(4) == 0 {
			p = append(p, impl.Ins{Op: impl.InSet, A: 1, B: d.roll(4) - 1})
		}
		switch d.roll(14) {
		case 0:
			p = append(p, impl.Ins{Op: impl.InStore, A: 1, B: 3})
		case 1:
			p = append(p, impl.Ins{Op: impl.InZero, A: 0, B: d.roll(impl.MaxProg - 9)})
		case 2:
			p = append(p, comesAndGoes(d.roll(6))...)
		default:
			p = append(p, impl.Ins{Op: impl.InSys, A: call[0]})
		}
	}
	return append(p, impl.Ins{Op: impl.InJump})
}

// comesAndGoes has a file opened, closed and unlinked.
func comesAndGoes(name int) []impl.Ins {
	return []impl.Ins{
		{Op: impl.InSet, A: 0, B: name}, {Op: impl.InSet, A: 1, B: 1}, {Op: impl.InSys, A: 6},
		{Op: impl.InSys, A: 7}, {Op: impl.InSet, A: 0, B: name}, {Op: impl.InSys, A: 14},
	}
}

// goesOnBy tells whether a process is in one of these states.
func goesOnBy(u impl.Unix, states ...int) bool {
	return slices.ContainsFunc(u.Procs, func(p impl.Proc) bool { return slices.Contains(states, p.State) })
}

// walked hands on many Unixes that were come to by many steps.
func walked(t *testing.T, walks int, see func(u impl.Unix)) {
	t.Helper()
	for walk := range walks {
		d := &dice{n: uint64(walk)}
		u, ok := impl.Boot([][]impl.Ins{d.rolled(), d.rolled(), d.rolled(), d.rolled()})
		for range 120 {
			if !ok || !goesOnBy(u, impl.PsReady, impl.PsSleep) {
				break
			}
			of := impl.RunEffects
			if d.roll(6) == 0 || len(u.Ready) == 0 {
				of = impl.TickEffects
			}
			see(u)
			if t.Failed() {
				return
			}
			u, _ = impl.ApplyAll(u, of(u))
		}
	}
}

// TestManySteps holds promise 8.
func TestManySteps(t *testing.T) {
	t.Parallel()
	seen, states := map[int]int{}, map[int]int{}
	unixes, most := 0, impl.Unix{}
	walked(t, 100, func(u impl.Unix) {
		run, tick := ran(t, u), ticked(t, u)
		if !alike(run, runSaid(u)) || !alike(tick, tickSaid(u)) {
			t.Fatalf("RunEffects and TickEffects of %+v:\n%+v\n%+v, not\n%+v\n%+v", u, run, tick, runSaid(u), tickSaid(u))
		}
		comesToRight(t, u, run)
		comesToRight(t, u, tick)
		for _, e := range append(run, tick...) {
			seen[e.Kind]++
			if e.Kind == impl.EfState {
				states[e.B]++
			}
		}
		unixes++
		if len(u.Procs)+len(u.Opens)+len(u.Pipes) > len(most.Procs)+len(most.Opens)+len(most.Pipes) {
			most = u
		}
	})
	if len(seen) != 26 || len(states) != 6 || unixes < 5000 || len(most.Procs) < 5 || len(most.Opens) < 7 || len(most.Pipes) < 2 {
		t.Errorf("not all was come to, of %d: kinds %v, states %v, at most %d, %d, %d", unixes, seen, states, len(most.Procs), len(most.Opens), len(most.Pipes))
	}
}

// TestEachCallOfMany has each call, with many numbers, of Unixes that were
// come to by many steps.
func TestEachCallOfMany(t *testing.T) {
	t.Parallel()
	count, tried := 0, map[int]int{}
	walked(t, 100, func(u impl.Unix) {
		if count++; count%61 != 0 || len(u.Ready) == 0 {
			return
		}
		for sys := 1; sys <= 20; sys++ {
			for _, a := range []int{-1, 0, 1, 2, 3, 4, 5, 6, u.Next - 1, u.Next, 1000000} {
				given := asking(u, sys, a, sys%2)
				got, want := impl.RunEffects(given), runSaid(given)
				if !alike(got, want) {
					t.Fatalf("RunEffects of %+v:\n%+v, not\n%+v", given, got, want)
				}
				comesToRight(t, given, got)
				if len(got) > 1 {
					tried[sys]++
				}
			}
		}
	})
	for _, sys := range []int{1, 2, 3, 5, 6, 7, 8, 9, 10, 11, 12, 13, 14, 16, 17} {
		if tried[sys] == 0 {
			t.Errorf("call %d was refused everywhere: %v", sys, tried)
		}
	}
}

// TestStepsShareNothing has lists that are one where they come in.
func TestStepsShareNothing(t *testing.T) {
	one := withRoom([]int{1, 1, 1, 1})
	for sys := 1; sys <= 20; sys++ {
		u := asking(crowd(1, 1, 1, 1), sys, 1, 1)
		u.Opens = []impl.Open{{Id: 1, Kind: impl.OpOut, Target: 2, Refs: 16}}
		u.Pipes, u.Files = []impl.Pipe{{Id: 2, Data: one}}, []impl.File{{Name: 1, Data: one}, {Name: 5, Data: one}}
		for k := range u.Procs {
			u.Procs[k].Cpu.Regs, u.Procs[k].Mem, u.Procs[k].Fds = one, one, one
		}
		u.Out = one
		was := fresh(u)
		for _, l := range [][]impl.Eff{impl.RunEffects(u), impl.TickEffects(u)} {
			if len(l) == 0 || !sharesNone(l, u, one) || !alike(u, was) || !marked(one) {
				t.Errorf("call %d: %+v of %+v", sys, l, u)
			}
		}
		if !alike(impl.RunEffects(u), runSaid(was)) {
			t.Errorf("call %d: RunEffects of %+v: %+v", sys, u, impl.RunEffects(u))
		}
	}
}

// TestStepsKeepNothing changes what was answered, and asks again.
func TestStepsKeepNothing(t *testing.T) {
	for sys := 1; sys <= 20; sys++ {
		u := asking(five(), sys, 1, 1)
		first := impl.RunEffects(u)
		for k := range first {
			first[k].Kind = 99
			for j := range first[k].L {
				first[k].L[j] = 99
			}
		}
		if again := impl.RunEffects(u); !alike(again, runSaid(u)) || !sharesNone(again, first) {
			t.Errorf("call %d is told of what was answered ahead of it: %+v", sys, again)
		}
	}
}
