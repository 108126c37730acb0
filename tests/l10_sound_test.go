package tests

import (
	"slices"
	"testing"

	"loop.example/g00781/impl"
)

func soundOf(t *testing.T, u impl.Unix) bool {
	t.Helper()
	return answered(t, impl.Sound, u)
}

func stuckOf(t *testing.T, u impl.Unix) bool {
	t.Helper()
	return answered(t, impl.Stuck, u)
}

func heldOf(t *testing.T, u impl.Unix) int {
	t.Helper()
	return answered(t, impl.Held, u)
}

// stuckSaid and heldSaid are Stuck and Held in the document's own words.
func stuckSaid(u impl.Unix) bool {
	return unixSaid(u) && len(u.Procs) > 0 && !goesOnBy(u, 1, 2)
}

func heldSaid(u impl.Unix) int {
	pages := 0
	for _, p := range u.Procs {
		pages += len(p.Mem) / 4
	}
	if !unixSaid(u) {
		return 0
	}
	return pages
}

// holding is what Sound, Stuck and Held answer of one Unix.
type holding struct {
	sound bool
	stuck bool
	held  int
}

// holdingOf asks all three of one copy: what one of them wrote into it would
// be seen as well.
func holdingOf(t *testing.T, u impl.Unix) holding {
	t.Helper()
	return answered(t, func(u impl.Unix) holding { return holding{impl.Sound(u), impl.Stuck(u), impl.Held(u)} }, u)
}

// holdsAsSaid holds all three of a Unix against the document's own words.
func holdsAsSaid(t *testing.T, u impl.Unix) {
	t.Helper()
	got, want := holdingOf(t, u), holding{soundSaid(u), stuckSaid(u), heldSaid(u)}
	if got != want {
		t.Errorf("Sound, Stuck and Held are %+v, not %+v, of %+v", got, want, u)
	}
}

// nothingHolds wants false, false and 0 of a Unix that is not right.
func nothingHolds(t *testing.T, name string, u impl.Unix) {
	t.Helper()
	if got := holdingOf(t, u); got != (holding{}) {
		t.Errorf("%s: Sound, Stuck and Held are %+v of %+v", name, got, u)
	}
}

// staysSound wants what is Sound to be so behind a Run and behind a Tick.
func staysSound(t *testing.T, u impl.Unix) {
	t.Helper()
	holdsAsSaid(t, u)
	if !impl.Sound(u) {
		t.Fatalf("not Sound: %+v", u)
	}
	for act, next := range []impl.Unix{impl.Run(u), impl.Tick(u)} {
		if !impl.Sound(next) || !soundSaid(next) {
			t.Fatalf("act %d of\n%+v is not Sound:\n%+v", act+1, u, next)
		}
	}
}

// staysStuck wants that neither a Run nor a Tick changes what is Stuck, but
// for the time; it goes on up to there and past it.
func staysStuck(t *testing.T, u impl.Unix) {
	t.Helper()
	if !stuckOf(t, u) {
		t.Fatalf("not Stuck: %+v", u)
	}
	sound, held := impl.Sound(u), impl.Held(u)
	for range 4 {
		if got := runOf(t, u); !alike(got, u) {
			t.Fatalf("Run of %+v, which is Stuck: %+v", u, got)
		}
		next := tickOf(t, u)
		want := changed(fresh(u), func(u *impl.Unix) { u.Tick = min(u.Tick+1, 1000000) })
		if !alike(next, want) || len(next.Ready) != 0 || !impl.Stuck(next) || impl.Sound(next) != sound || impl.Held(next) != held {
			t.Fatalf("Tick of %+v, which is Stuck: %+v", u, next)
		}
		u = next
	}
	if got, _ := settleOf(t, u, 50); !impl.Stuck(got) || len(got.Ready) != 0 {
		t.Fatalf("Settle of %+v, which is Stuck: %+v", u, got)
	}
}

// tale is programs in which somebody sleeps: seen is what has to come about on
// the way of one order at least, and out what is printed by each order in which
// all end.
type tale struct {
	name  string
	texts []string
	seen  func(u impl.Unix) bool
	out   []int
}

func isIn(pid int, state int) func(u impl.Unix) bool {
	return func(u impl.Unix) bool {
		p := procWith(&u, pid)
		return p != nil && p.State == state
	}
}

func both(a func(u impl.Unix) bool, b func(u impl.Unix) bool) func(u impl.Unix) bool {
	return func(u impl.Unix) bool { return a(u) && b(u) }
}

// orphaned tells whether process 1 has ended ahead of process 2.
func orphaned(u impl.Unix) bool {
	p := procWith(&u, 2)
	return p != nil && p.Parent == 0 && procWith(&u, 1) == nil
}

// fillsOut writes a word more than a pipe has room for to Fd 3; register 0 is
// what was told of the last one then.
const fillsOut = "set r1 7; set r2 5; set r3 1; more: set r0 3; write; sub r2 r2 r3; zero r2 over; jump more; over: set r3 0;"

// forksOne has the child go on at child, and forksTwo have another one go on at
// killer; tellsPidAndCode prints registers 0 and 1, and ends.
const forksOne = "fork; zero r0 child;"
const forksTwo = "fork; zero r0 child; fork; zero r0 killer;"
const readsIn = "set r0 3; close; set r0 2; read;" + tellsPidAndCode
const writesOut = "set r0 2; close;" + fillsOut + tellsPidAndCode
const killsLater = "killer: set r0 2; close; set r0 3; close; set r0 5; sleep; set r0 2; kill; exit"
const sleepsLong = "child: set r0 500000; sleep; exit\n"

func taleOf(name string, text string, seen func(u impl.Unix) bool, out ...int) tale {
	return tale{name, []string{text}, seen, out}
}

func talesOfKin() []tale {
	waits, ended := isIn(1, impl.PsWait), isIn(2, impl.PsZombie)
	return []tale{
		taleOf("one forks and waits", forksOne+"wait;"+tellsPidAndCode+"child: set r0 5; exit", waits, 2, 5),
		taleOf("a child ends ahead of the wait", forksOne+"set r0 9; sleep; wait;"+tellsPidAndCode+"child: set r0 5; exit", both(ended, isIn(1, impl.PsSleep)), 2, 5),
		taleOf("a child ends while another one goes on", forksTwo+"wait;"+tellsPidAndCode+"child: set r0 5; exit; killer: set r0 9; sleep; exit", both(ended, isIn(3, impl.PsSleep))),
		taleOf("a child faults", forksOne+"wait;"+tellsPidAndCode+"child: jump 40", waits, 2, -1),
		taleOf("a child is killed by another one", forksTwo+"wait;"+tellsPidAndCode+sleepsLong+killsLater, both(waits, isIn(2, impl.PsSleep)), 2, -1),
		taleOf("a child that waits is killed", forksTwo+"wait;"+tellsPidAndCode+"child: fork; zero r0 grand; wait; grand: set r0 20; sleep; exit\n"+killsLater, both(waits, isIn(2, impl.PsWait)), 2, -1),
		taleOf("one waits without a child", "wait;"+tellsPidAndCode, isIn(1, impl.PsReady), -1, 0),
		taleOf("one sleeps", "set r0 3; sleep; time; set r0 0;"+tellsPidAndCode, isIn(1, impl.PsSleep), 0, 0),
		taleOf("two sleep until one tick", "fork; set r0 9; sleep; exit", both(isIn(1, impl.PsSleep), isIn(2, impl.PsSleep))),
		taleOf("a parent has ended", forksOne+"exit; child: set r0 5; sleep; wait;"+tellsPidAndCode, orphaned, -1, 0),
		taleOf("a parent ends ahead of its zombie", forksOne+"set r0 9; sleep; exit; child: exit", ended),
		taleOf("a parent ends while one waits for it", forksOne+"wait;"+tellsPidAndCode+"child: fork; zero r0 grand; set r0 5; sleep; set r0 6; exit; grand: set r0 20; sleep; exit",
			func(u impl.Unix) bool { return waits(u) && isIn(3, impl.PsSleep)(u) && procWith(&u, 3).Parent == 2 }, 2, 6),
	}
}

func talesOfReaders() []tale {
	reads := isIn(1, impl.PsRead)
	return []tale{
		taleOf("one reads ahead of a write", "pipe;"+forksOne+readsIn+"child: set r0 5; sleep; set r0 3; set r1 77; write; exit", reads, 1, 77),
		taleOf("the other end is closed", "pipe;"+forksOne+readsIn+"child: set r0 5; sleep; set r0 3; close; set r0 5; sleep; exit", reads, 0, 3),
		taleOf("the other end is closed twice", "set r0 0; close; pipe; set r0 2; dup;"+forksOne+"set r0 2; close; set r0 3; close; set r0 0; read;"+tellsPidAndCode+"child: set r0 5; sleep; set r0 2; close; set r0 5; sleep; set r0 3; close; set r0 5; sleep; exit",
			func(u impl.Unix) bool { return reads(u) && u.Procs[1].Fds[2] == -1 && u.Procs[1].Fds[3] != -1 }, 0, 2),
		taleOf("who could write ends", "pipe;"+forksOne+readsIn+"child: set r0 5; sleep; exit", reads, 0, 3),
		taleOf("who could write faults", "pipe;"+forksOne+readsIn+"child: set r0 5; sleep; jump 40", reads, 0, 3),
		taleOf("who could write is killed", "pipe;"+forksTwo+readsIn+sleepsLong+killsLater, both(reads, isIn(2, impl.PsSleep)), 0, 3),
		taleOf("who reads is killed", "pipe;"+forksOne+"set r0 9; sleep; set r0 2; kill; wait;"+tellsPidAndCode+"child: set r0 2; read; exit", isIn(2, impl.PsRead), 2, -1),
		taleOf("two read what one writes", "pipe; fork; zero r0 reads; fork; zero r0 reads; set r0 5; sleep; set r0 3; set r1 4; write; set r0 3; write; set r0 3; close; wait; wait; exit\n reads: set r0 3; close; set r0 2; read; set r0 2; read; exit",
			both(isIn(2, impl.PsRead), isIn(3, impl.PsRead))),
		taleOf("a parent ends while its child reads", "pipe;"+forksOne+"set r0 9; sleep; exit; child: "+readsIn, isIn(2, impl.PsRead), 0, 3),
	}
}

func talesOfWriters() []tale {
	writes := isIn(1, impl.PsWrite)
	return []tale{
		taleOf("one writes ahead of a read", "pipe;"+forksOne+writesOut+"child: set r0 3; close; set r0 5; sleep; again: set r0 2; read; zero r0 last; jump again; last: exit", writes, 1, 7),
		taleOf("the other end is closed", "pipe;"+forksOne+writesOut+"child: set r0 5; sleep; set r0 2; close; set r0 5; sleep; exit", writes, -1, 7),
		taleOf("who could read ends", "pipe;"+forksOne+writesOut+"child: set r0 5; sleep; exit", writes, -1, 7),
		taleOf("who could read faults", "pipe;"+forksOne+writesOut+"child: set r0 5; sleep; jump 40", writes, -1, 7),
		taleOf("who could read is killed", "pipe;"+forksTwo+writesOut+sleepsLong+killsLater, both(writes, isIn(2, impl.PsSleep)), -1, 7),
		taleOf("who writes is killed", "pipe;"+forksOne+"set r0 90; sleep; set r0 2; kill; wait;"+tellsPidAndCode+"child: "+fillsOut+"exit", isIn(2, impl.PsWrite), 2, -1),
		{"two write what one reads", []string{
			"pipe; fork; zero r0 writes; fork; zero r0 writes; set r0 3; close; set r0 60; sleep; again: set r0 2; read; zero r0 last; jump again; last: wait; wait; exit\n writes: set r0 1; exec",
			"set r0 2; close;" + fillsOut + "exit",
		}, both(isIn(2, impl.PsWrite), isIn(3, impl.PsWrite)), nil},
	}
}

// isTold plays a tale by many orders: all that is come to is Sound, and stays
// so.
func (c tale) isTold(t *testing.T) {
	t.Helper()
	progs := scripts(t, c.texts...)
	seen, ended := 0, 0
	for _, acts := range orders() {
		u, ok := impl.Boot(progs)
		met := false
		for k := 0; ok && k < len(acts) && len(u.Procs) > 0 && !impl.Stuck(u); k++ {
			staysSound(t, u)
			met = met || c.seen(u)
			u = actOf(u, acts[k])
		}
		holdsAsSaid(t, u)
		if met {
			seen++
		}
		if len(u.Procs) == 0 {
			ended++
		} else if slices.Contains(acts, impl.AcTick) {
			t.Errorf("%s: by %v some do not end: %+v", c.name, acts[:30], u)
		}
		if len(u.Procs) == 0 && c.out != nil && !slices.Equal(u.Out, c.out) {
			t.Errorf("%s: by %v it prints %v, not %v", c.name, acts[:30], u.Out, c.out)
		}
	}
	if seen == 0 || ended == 0 {
		t.Errorf("%s: it came about in %d orders, and all ended in %d", c.name, seen, ended)
	}
}

// TestNothingIsLost holds promise 10: each tale ends by each order, as nobody
// sleeps on behind what was awaited.
func TestNothingIsLost(t *testing.T) {
	t.Parallel()
	for _, c := range slices.Concat(talesOfKin(), talesOfReaders(), talesOfWriters()) {
		c.isTold(t)
	}
}

// TestManyStepsStaySound has programs that ask for anything.
func TestManyStepsStaySound(t *testing.T) {
	t.Parallel()
	met := map[int]int{}
	walked(t, 150, func(u impl.Unix) {
		staysSound(t, u)
		for state := impl.PsReady; state <= impl.PsZombie; state++ {
			if goesOnBy(u, state) {
				met[state]++
			}
		}
	})
	for state := impl.PsReady; state <= impl.PsZombie; state++ {
		if met[state] < 100 {
			t.Errorf("state %d was hardly met: %v", state, met)
		}
	}
}

// TestEachCallStaysSound has each call of what was come to by many steps, and
// of what was made by hand.
func TestEachCallStaysSound(t *testing.T) {
	t.Parallel()
	asksAll := func(u impl.Unix) {
		for sys := 1; sys <= 20; sys++ {
			for _, a := range []int{-1, 0, 1, 2, 3, 4, 5, 6, 7, u.Next - 1} {
				staysSound(t, asking(u, sys, a, sys%2))
			}
		}
		staysSound(t, doing(u, impl.Ins{Op: impl.InLoad, A: 0, B: 1}, 0, -1, 0, 0))
	}
	count, asked := 0, 0
	walked(t, 100, func(u impl.Unix) {
		if count++; count%47 == 0 && len(u.Ready) > 0 && goesOnBy(u, impl.PsWait, impl.PsRead, impl.PsWrite) {
			asked++
			asksAll(u)
		}
	})
	if asked < 20 {
		t.Error("hardly any slept:", asked)
	}
	for _, u := range soundOnes() {
		if len(u.Ready) > 0 {
			asksAll(u)
		}
		staysSound(t, u)
	}
}

// soundOnes are Unixes that were made by hand, all of them Sound.
func soundOnes() []impl.Unix {
	reader := shared(plumbed(), 1, impl.PsRead, 1)
	writer := shared(plumbed(5, 6, 7, 8), 3, impl.PsWrite, 3)
	kin := family(impl.PsReady, impl.PsWait, impl.PsSleep)
	kin.Procs[2].Parent = 2
	return []impl.Unix{
		empty(), booted(), busy(), five(), mirrored(), opened(8), piped(3), filed(6), crowd(3, 3, 3, 3, 3, 1),
		reader, shared(reader, 1, impl.PsRead, 1), shared(reader, 3, impl.PsReady, 0),
		writer, shared(writer, 3, impl.PsWrite, 3), shared(writer, 1, impl.PsReady, 0),
		kin, changed(fresh(kin), func(u *impl.Unix) { u.Procs[1].Parent = 3 }),
		family(impl.PsReady, impl.PsSleep, impl.PsZombie, impl.PsZombie), eachWaits(),
	}
}

// eachWaits are two that wait, each for the other one.
func eachWaits() impl.Unix {
	u := family(impl.PsWait, impl.PsWait)
	u.Procs[0].Parent = 2
	return u
}

// mirrored is busy with its pipes the other way round: the one that Target 0
// means is the full one.
func mirrored() impl.Unix {
	u := busy()
	for k := 1; k <= 4; k++ {
		u.Opens[k].Target = 2 - u.Opens[k].Target
	}
	u.Pipes[0].Data, u.Pipes[1].Data = u.Pipes[1].Data, u.Pipes[0].Data
	return u
}

// allSound wants a Unix to be Sound behind each change, and allLost wants it
// to be right and no longer Sound.
func allSound(t *testing.T, from func() impl.Unix, l []change) {
	t.Helper()
	for _, c := range append(l, change{"nothing", func(u *impl.Unix) {}}) {
		u := changed(from(), c.do)
		if holdsAsSaid(t, u); !soundOf(t, u) {
			t.Errorf("%s: not Sound: %+v", c.name, u)
		}
	}
}

func allLost(t *testing.T, from func() impl.Unix, l []change) {
	t.Helper()
	if !soundOf(t, from()) {
		t.Fatalf("not Sound: %+v", from())
	}
	for _, c := range l {
		u := changed(from(), c.do)
		if holdsAsSaid(t, u); !unixOk(t, u) || !unixSaid(u) || soundOf(t, u) {
			t.Errorf("%s: not right, or Sound: %+v", c.name, u)
		}
	}
}

// takes has a process have an Open more, and waits until that.
func takes(u *impl.Unix, k int, fd int, open int) {
	u.Procs[k].Fds[fd], u.Procs[k].Until = u.Opens[open].Id, u.Opens[open].Id
	u.Opens[open].Refs++
}

func TestSoundOfThoseThatWait(t *testing.T) {
	allLost(t, busy, []change{
		{"no child", func(u *impl.Unix) { u.Procs[1].Parent, u.Procs[3].Parent = 0, 0 }},
		{"only others have children", func(u *impl.Unix) { u.Procs[1].Parent, u.Procs[3].Parent = 7, 2 }},
		{"a child that is a zombie, behind others", func(u *impl.Unix) { u.Procs[5].Parent = 1 }},
		{"one who waits for nobody beside one who does", func(u *impl.Unix) {
			u.Procs[4].State, u.Procs[4].Until = impl.PsWait, 0
		}},
	})
	allSound(t, busy, []change{
		{"one child", func(u *impl.Unix) { u.Procs[1].Parent = 0 }},
		{"another child", func(u *impl.Unix) { u.Procs[3].Parent = 0 }},
		{"another one's zombie", func(u *impl.Unix) { u.Procs[5].Parent = 7 }},
		{"its own child waits for it", func(u *impl.Unix) {
			u.Procs[1].State, u.Procs[0].Parent, u.Procs[5].Parent, u.Ready = impl.PsWait, 2, 7, nil
		}},
	})
	for state := impl.PsReady; state <= impl.PsZombie; state++ {
		one := family(impl.PsWait, state)
		if want := state == impl.PsReady || state == impl.PsSleep; soundOf(t, one) != want || !impl.UnixOk(one) {
			t.Errorf("a child in state %d: %+v", state, one)
		}
	}
	for _, u := range []impl.Unix{
		family(impl.PsWait), family(impl.PsWait, impl.PsZombie), family(impl.PsWait, impl.PsZombie, impl.PsReady),
		family(impl.PsWait, impl.PsReady, impl.PsZombie), family(impl.PsWait, impl.PsSleep, impl.PsZombie, impl.PsReady),
	} {
		if holdsAsSaid(t, u); soundOf(t, u) || !impl.UnixOk(u) {
			t.Errorf("nobody is awaited, or one who has ended: %+v", u)
		}
	}
}

// TestSoundOfThoseThatRead is of process 5, which reads pipe 0.
func TestSoundOfThoseThatRead(t *testing.T) {
	noOut := func(u *impl.Unix) {
		u.Procs[1].Fds[1], u.Opens = -1, slices.Delete(u.Opens, 2, 3)
	}
	allLost(t, busy, []change{
		{"Until is none of its Fds", func(u *impl.Unix) { u.Procs[3].Fds[2], u.Procs[4].Fds[1] = -1, 1 }},
		{"Until is an OpOut that is none of its Fds", func(u *impl.Unix) { u.Procs[3].Until = 2 }},
		{"Until is an OpOut", func(u *impl.Unix) { takes(u, 3, 3, 2) }},
		{"Until is an OpOut of a full pipe", func(u *impl.Unix) { takes(u, 3, 3, 4) }},
		{"Until is an OpIn of a full pipe", func(u *impl.Unix) { takes(u, 3, 3, 3) }},
		{"Until is an OpCon", func(u *impl.Unix) { u.Procs[3].Until = 0 }},
		{"Until is an OpFile", func(u *impl.Unix) { takes(u, 3, 3, 5) }},
		{"Until is an OpFile of the pipe's number", func(u *impl.Unix) {
			takes(u, 3, 3, 5)
			u.Files[0].Name, u.Opens[5].Target = 0, 0
		}},
		{"a word", func(u *impl.Unix) { u.Pipes[0].Data = []int{0} }},
		{"three words", func(u *impl.Unix) { u.Pipes[0].Data = words(3) }},
		{"PipeCap words", func(u *impl.Unix) { u.Pipes[0].Data = words(4) }},
		{"no OpOut", noOut},
		{"no OpOut, but a second OpIn", func(u *impl.Unix) { u.Opens[2].Kind = impl.OpIn }},
		{"no OpOut, but of the other pipe", func(u *impl.Unix) { u.Opens[2].Target = 2 }},
		{"no OpOut, but a file of the pipe's number", func(u *impl.Unix) {
			noOut(u)
			u.Files[0].Name, u.Opens[4].Target = 0, 0
		}},
		{"it writes there", func(u *impl.Unix) { u.Procs[3].State = impl.PsWrite }},
	})
	allSound(t, busy, []change{
		{"it has it twice", func(u *impl.Unix) { u.Procs[3].Fds[3], u.Opens[1].Refs = 1, 2 }},
		{"as its first Fd alone", func(u *impl.Unix) { u.Procs[3].Fds, u.Opens[0].Refs = []int{1, -1, -1, -1}, 4 }},
		{"as its last Fd", func(u *impl.Unix) { u.Procs[3].Fds = []int{0, 0, -1, 1} }},
		{"another one has it, too", func(u *impl.Unix) { u.Procs[4].Fds[1], u.Opens[1].Refs = 1, 2 }},
		{"the OpOut is its own", func(u *impl.Unix) { u.Procs[1].Fds[1], u.Procs[3].Fds[3] = -1, 2 }},
		{"another OpIn of it", func(u *impl.Unix) {
			u.Opens = slices.Insert(u.Opens, 3, impl.Open{Id: 3, Kind: impl.OpIn, Refs: 1})
			u.Procs[1].Fds[3] = 3
		}},
		{"the other OpOut goes", func(u *impl.Unix) {
			u.Procs[2].Fds[0], u.Opens[5] = 7, impl.Open{Id: 7, Kind: impl.OpOut, Refs: 3}
			noOut(u)
		}},
	})
}

// TestSoundOfThoseThatWrite is of process 7, which writes into pipe 0.
func TestSoundOfThoseThatWrite(t *testing.T) {
	noIn := func(u *impl.Unix) {
		u.Procs[1].Fds[2], u.Opens = -1, slices.Delete(u.Opens, 3, 4)
	}
	allLost(t, mirrored, []change{
		{"Until is none of its Fds", func(u *impl.Unix) { u.Procs[4].Fds[3], u.Procs[3].Fds[3] = -1, 6 }},
		{"Until is an OpIn that is none of its Fds", func(u *impl.Unix) { u.Procs[4].Until = 4 }},
		{"Until is an OpIn", func(u *impl.Unix) { takes(u, 4, 2, 3) }},
		{"Until is an OpIn of an empty pipe", func(u *impl.Unix) { takes(u, 4, 2, 1) }},
		{"Until is an OpOut of an empty pipe", func(u *impl.Unix) { takes(u, 4, 2, 2) }},
		{"Until is an OpCon", func(u *impl.Unix) { u.Procs[4].Until = 0 }},
		{"Until is an OpFile", func(u *impl.Unix) { takes(u, 4, 2, 5) }},
		{"Until is an OpFile of the pipe's number", func(u *impl.Unix) {
			takes(u, 4, 2, 5)
			u.Files[0].Name, u.Opens[5].Target = 0, 0
		}},
		{"one word less than PipeCap", func(u *impl.Unix) { u.Pipes[0].Data = words(3) }},
		{"one word", func(u *impl.Unix) { u.Pipes[0].Data = words(1) }},
		{"no word", func(u *impl.Unix) { u.Pipes[0].Data = nil }},
		{"no OpIn", noIn},
		{"no OpIn, but a second OpOut", func(u *impl.Unix) { u.Opens[3].Kind = impl.OpOut }},
		{"no OpIn, but of the other pipe", func(u *impl.Unix) { u.Opens[3].Target = 2 }},
		{"no OpIn, but a file of the pipe's number", func(u *impl.Unix) {
			noIn(u)
			u.Files[0].Name, u.Opens[4].Target = 0, 0
		}},
		{"it reads there", func(u *impl.Unix) { u.Procs[4].State = impl.PsRead }},
	})
	allSound(t, mirrored, []change{
		{"it has it twice", func(u *impl.Unix) { u.Procs[4].Fds[2], u.Opens[4].Refs = 6, 2 }},
		{"as its first Fd alone", func(u *impl.Unix) { u.Procs[4].Fds, u.Opens[0].Refs = []int{6, -1, -1, -1}, 5 }},
		{"another one has it, too", func(u *impl.Unix) { u.Procs[3].Fds[3], u.Opens[4].Refs = 6, 2 }},
		{"the OpIn is its own", func(u *impl.Unix) { u.Procs[1].Fds[2], u.Procs[4].Fds[2] = -1, 4 }},
		{"another OpOut of it", func(u *impl.Unix) {
			u.Opens = slices.Insert(u.Opens, 3, impl.Open{Id: 3, Kind: impl.OpOut, Refs: 1})
			u.Procs[1].Fds[3] = 3
		}},
	})
}

// TestProgramsThatComeToBeStuck are followed for long behind that.
func TestProgramsThatComeToBeStuck(t *testing.T) {
	for name, texts := range map[string][]string{
		"it reads from itself":          {"pipe; read"},
		"two read, and nobody writes":   {"pipe; fork; set r0 2; read"},
		"it writes to itself":           {"pipe; more: set r0 3; write; jump more"},
		"two write, and nobody reads":   {"pipe; fork; more: set r0 3; write; jump more"},
		"a wait for one who waits":      {"fork; zero r0 child; wait; exit; child: fork; zero r0 grand; wait; exit; grand: pipe; read"},
		"a wait for one who reads":      {"pipe; fork; zero r0 child; wait; exit; child: set r0 2; read"},
		"each reads what the other may": {"pipe; fork; zero r0 child; set r0 2; read; child: set r0 2; read"},
		"a zombie beside one who reads": {"fork; zero r0 child; pipe; read; child: exit"},
		"an orphan reads":               {"fork; zero r0 child; exit; child: pipe; read"},
		"who could write waits for it":  {"pipe; fork; zero r0 child; wait; exit; child: set r0 3; close; set r0 2; read; exit"},
		"who sleeps first, and reads":   {"set r0 7; sleep; pipe; read"},
		"another program reads":         {"pipe; set r0 1; exec", "set r0 2; read"},
	} {
		progs, stuck := scripts(t, texts...), 0
		for _, acts := range orders() {
			u, _ := impl.Boot(progs)
			for k := 0; k < len(acts) && !impl.Stuck(u); k++ {
				staysSound(t, u)
				u = actOf(u, acts[k])
			}
			if !impl.Stuck(u) {
				continue
			}
			stuck++
			staysSound(t, u)
			staysStuck(t, u)
			for _, act := range acts[:60] {
				if u = actOf(u, act); !impl.Stuck(u) || len(u.Ready) != 0 {
					t.Fatalf("%s: it is Stuck no longer: %+v", name, u)
				}
			}
		}
		if stuck == 0 {
			t.Errorf("%s: it was Stuck by no order", name)
		}
	}
}

// TestManyThatComeToBeStuck has programs that ask for anything.
func TestManyThatComeToBeStuck(t *testing.T) {
	stuck := 0
	for walk := range 200 {
		d := &dice{n: uint64(3000 + walk)}
		u, _ := impl.Boot([][]impl.Ins{d.rolled(), d.rolled(), d.rolled(), d.rolled()})
		for range 250 {
			if impl.Stuck(u) {
				stuck++
				staysStuck(t, u)
				break
			}
			if goesOnBy(u, impl.PsReady, impl.PsSleep) != (len(u.Procs) > 0) {
				t.Fatalf("Stuck is not told: %+v", u)
			}
			u = actOf(u, 1+d.roll(5)/4)
		}
	}
	if stuck < 20 {
		t.Error("hardly any came to be Stuck:", stuck)
	}
}

// stuckOnes are Stuck; some of them are right alone, and not Sound.
func stuckOnes() []impl.Unix {
	reads := changed(plumbed(), func(u *impl.Unix) { u.Procs[0].State, u.Procs[0].Until, u.Ready = impl.PsRead, 1, nil })
	return []impl.Unix{
		eachWaits(), reads, shared(reads, 3, impl.PsRead, 1), shared(reads, 6, impl.PsWait, 0),
		family(impl.PsWait), family(impl.PsWait, impl.PsZombie), family(impl.PsRead, impl.PsWrite, impl.PsZombie, impl.PsWait),
		changed(busy(), func(u *impl.Unix) {
			u.Procs[1].State, u.Procs[2].State, u.Procs[2].Until, u.Ready = impl.PsWait, impl.PsWait, 0, nil
		}),
	}
}

func TestStuckOfWhatThereMayBe(t *testing.T) {
	for _, u := range stuckOnes() {
		holdsAsSaid(t, u)
		staysStuck(t, u)
		for _, left := range []int{3, 2, 1, 0} {
			late := changed(fresh(u), func(u *impl.Unix) { u.Tick = impl.MaxTick - left })
			holdsAsSaid(t, late)
			staysStuck(t, late)
		}
		for k := range u.Procs {
			if u.Procs[k].State == impl.PsZombie {
				continue
			}
			sleeps := changed(fresh(u), func(u *impl.Unix) { u.Procs[k].State, u.Procs[k].Until = impl.PsSleep, u.Tick+1 })
			ready := changed(fresh(u), func(u *impl.Unix) {
				u.Procs[k].State, u.Procs[k].Until, u.Ready = impl.PsReady, 0, []int{u.Procs[k].Pid}
			})
			for _, goes := range []impl.Unix{sleeps, ready} {
				if holdsAsSaid(t, goes); stuckOf(t, goes) || !impl.UnixOk(goes) {
					t.Errorf("not right, or Stuck: %+v", goes)
				}
			}
		}
	}
	for _, u := range []impl.Unix{empty(), booted(), busy(), five(), crowd(1, 1), opened(8)} {
		if stuckOf(t, u) {
			t.Errorf("Stuck: %+v", u)
		}
	}
}

// TestSleepPastTheEnd is of one who sleeps past the last tick there is: it is
// not Stuck, though nobody wakes it.
func TestSleepPastTheEnd(t *testing.T) {
	u := changed(booted(), func(u *impl.Unix) {
		u.Tick, u.Procs[0].State, u.Procs[0].Until, u.Ready = impl.MaxTick, impl.PsSleep, impl.MaxTick+1, nil
	})
	if holdsAsSaid(t, u); !soundOf(t, u) || stuckOf(t, u) || heldOf(t, u) != 1 {
		t.Errorf("not Sound, or Stuck: %+v", u)
	}
	staysSound(t, u)
}

// TestNobodyIsThere is of no process at all, and of zombies alone, who are not
// right without one who is none.
func TestNobodyIsThere(t *testing.T) {
	for _, u := range []impl.Unix{empty(), changed(filed(6), func(u *impl.Unix) { u.Procs, u.Opens, u.Ready = nil, nil, nil })} {
		if holdsAsSaid(t, u); !soundOf(t, u) || stuckOf(t, u) || heldOf(t, u) != 0 {
			t.Errorf("no process: %+v", u)
		}
		staysSound(t, u)
	}
	for n := 1; n <= 6; n++ {
		for parent := 0; parent <= n; parent++ {
			u := crowd(make([]int, n)...)
			for k := range u.Procs {
				u.Procs[k].State, u.Procs[k].Parent = impl.PsZombie, parent
			}
			u.Ready = nil
			nothingHolds(t, "zombies alone", u)
			holdsAsSaid(t, u)
		}
	}
}

func TestHeldByHand(t *testing.T) {
	for _, c := range []struct {
		u    impl.Unix
		want int
	}{
		{empty(), 0}, {booted(), 1}, {busy(), 8}, {five(), 8}, {mirrored(), 8}, {opened(8), 3}, {crowd(2), 2}, {crowd(3), 3},
		{crowd(1, 2, 3), 6}, {crowd(1, 1, 1, 1, 1, 1), 6}, {crowd(3, 3, 3, 3, 3), 15}, {crowd(3, 3, 3, 3, 3, 1), 16},
		{crowd(1, 3, 3, 3, 3, 3), 16}, {crowd(2, 2, 3, 3, 3, 3), 16}, {family(1, 6, 6, 6, 6, 6), 1}, {family(1, 6, 2, 6, 3), 3},
		{crowd(3, 3, 3, 3, 3, 2), 0}, {crowd(3, 3, 3, 3, 3, 3), 0}, {crowd(4), 0}, {crowd(0), 0}, {impl.Unix{}, 0},
	} {
		if holdsAsSaid(t, c.u); heldOf(t, c.u) != c.want {
			t.Errorf("Held is %d, not %d, of %+v", heldOf(t, c.u), c.want, c.u)
		}
	}
}

// TestHeldStepByStep counts pages while they are taken and given.
func TestHeldStepByStep(t *testing.T) {
	for _, c := range []struct {
		texts []string
		held  []int
	}{
		{[]string{"grow; grow; grow; fork; exit"}, []int{2, 3, 3, 6, 3, 0, 0}},
		{[]string{"fork; zero r0 child; wait; exit; child: grow; exit"}, []int{2, 2, 2, 2, 3, 1, 1, 0}},
		{[]string{"grow; fork; zero r0 child; kill; exit; child: exit"}, []int{2, 4, 4, 2, 0}},
		{[]string{"grow; set r0 1; exec", "fork; jump 0"}, []int{2, 2, 1, 2, 2, 3, 3, 4, 4, 5, 5, 6, 6, 6}},
		{[]string{"grow; grow; more: fork; jump more"}, []int{2, 3, 6, 6, 9, 9, 12, 12, 15, 15, 15, 15, 15}},
		{[]string{"grow; grow; fork; fork; set r0 5; sleep"}, []int{2, 3, 6, 9, 9, 9, 12, 12}},
	} {
		u := begun(t, c.texts...)
		var got []int
		for range c.held {
			u = runOf(t, u)
			got = append(got, heldOf(t, u))
		}
		if !slices.Equal(got, c.held) {
			t.Errorf("of %q Held is %v, not %v", c.texts, got, c.held)
		}
	}
	full := begun(t, "grow; grow; more: fork; zero r0 more; jump more")
	for range 40 {
		full = runOf(t, full)
	}
	if heldOf(t, full) != 15 {
		t.Errorf("of five with all their pages Held is %d: %+v", heldOf(t, full), full)
	}
}

// TestAllThatPlayTellsIsSound has acts among which some are none.
func TestAllThatPlayTellsIsSound(t *testing.T) {
	stuck := 0
	for walk := range 60 {
		d := &dice{n: uint64(7000 + walk)}
		progs := [][]impl.Ins{d.rolled(), d.rolled(), d.rolled(), d.rolled()}[:1+walk%4]
		for _, n := range []int{0, 1, d.roll(300), 300} {
			u, ok := playOf(t, progs, rolledActs(d, n))
			if holdsAsSaid(t, u); !ok || !soundOf(t, u) {
				t.Fatalf("what Play tells is not Sound: %+v, %v", u, ok)
			}
			if impl.Stuck(u) {
				stuck++
			}
		}
		if u, ok := playOf(t, progs, make([]int, 301)); ok || soundOf(t, u) || stuckOf(t, u) || heldOf(t, u) != 0 {
			t.Errorf("what Play refuses is Sound: %+v", u)
		}
	}
	if stuck == 0 {
		t.Error("nobody came to be Stuck")
	}
}

// TestBootsAreSound holds the part of promise 6 that this chapter tells.
func TestBootsAreSound(t *testing.T) {
	for _, progs := range bootsRight() {
		if u, ok := impl.Boot(progs); !ok || !soundOf(t, u) || stuckOf(t, u) || heldOf(t, u) != 1 {
			t.Fatalf("Boot(%v) = %+v, %v is not Sound", progs, u, ok)
		}
	}
}

// TestNotRightNothingHolds has a few by name; allWrong asks it of each way in
// which a Unix is not right.
func TestNotRightNothingHolds(t *testing.T) {
	nothingHolds(t, "the zero Unix", impl.Unix{})
	nothingHolds(t, "twins", twins())
	for _, c := range spoils()[1:] {
		nothingHolds(t, c.name, changed(busy(), c.do))
	}
	for _, from := range append(stuckOnes(), soundOnes()...) {
		nothingHolds(t, "Next 0", changed(fresh(from), func(u *impl.Unix) { u.Next = 0 }))
		nothingHolds(t, "no program", changed(fresh(from), func(u *impl.Unix) { u.Progs = nil }))
		nothingHolds(t, "Ready of nobody", changed(fresh(from), func(u *impl.Unix) { u.Ready = append(u.Ready, 99) }))
	}
}

// TestSoundOfTurnedNumbers turns each number and takes out of each list.
func TestSoundOfTurnedNumbers(t *testing.T) {
	sound, lost, wrong := 0, 0, 0
	for _, from := range append(soundOnes(), stuckOnes()...) {
		eachTurned(t, from, func(u impl.Unix) {
			if impl.Sound(u) != soundSaid(u) || impl.Stuck(u) != stuckSaid(u) || impl.Held(u) != heldSaid(u) {
				holdsAsSaid(t, u)
				t.FailNow()
			}
			switch {
			case impl.Sound(u):
				sound++
				if sound%7 == 0 {
					staysSound(t, u)
				}
			case unixSaid(u):
				lost++
			default:
				wrong++
			}
		})
	}
	if sound < 1000 || lost < 100 || wrong < 1000 {
		t.Errorf("of all that was turned %d are Sound, %d right alone, %d wrong", sound, lost, wrong)
	}
}
