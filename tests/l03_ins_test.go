package tests

import (
	"math"
	"slices"
	"strings"
	"testing"

	"loop.example/g00781/impl"
)

// part is what a kind of instruction may have in A, B or C: the least and
// the greatest number, both 0 where the kind does not name it.
type part struct{ least, most int }

// kinds are, by Op, what an instruction may have in A, B and C.
func kinds() map[int][3]part {
	reg, place := part{0, 3}, part{0, 40}
	return map[int][3]part{
		impl.InSet:   {reg, {-1000000, 1000000}, {}},
		impl.InAdd:   {reg, reg, reg},
		impl.InSub:   {reg, reg, reg},
		impl.InLoad:  {reg, reg, {}},
		impl.InStore: {reg, reg, {}},
		impl.InJump:  {place, {}, {}},
		impl.InZero:  {reg, place, {}},
		impl.InSys:   {{1, 20}, {}, {}},
	}
}

func (p part) holds(n int) bool { return n >= p.least && n <= p.most }

// around are numbers at both ends of what a part may be, and past them.
func (p part) around() []int {
	return []int{p.least, p.least + 1, p.most - 1, p.most, p.least - 1, p.most + 1, 0, 1, -1, math.MinInt, math.MaxInt}
}

func insRight(i impl.Ins) bool {
	parts, ok := kinds()[i.Op]
	return ok && parts[0].holds(i.A) && parts[1].holds(i.B) && parts[2].holds(i.C)
}

// insAround are instructions of every kind, right and wrong ones, with each
// part at its edges.
func insAround() []impl.Ins {
	var l []impl.Ins
	for op := impl.InSet; op <= impl.InSys; op++ {
		parts := kinds()[op]
		for _, a := range parts[0].around() {
			for _, b := range parts[1].around() {
				for _, c := range parts[2].around() {
					l = append(l, impl.Ins{Op: op, A: a, B: b, C: c})
				}
			}
		}
	}
	return l
}

// insRights are right instructions of every kind, each once.
func insRights() []impl.Ins {
	var l []impl.Ins
	seen := map[impl.Ins]int{}
	for _, i := range insAround() {
		if seen[i]++; insRight(i) && seen[i] == 1 {
			l = append(l, i)
		}
	}
	return l
}

// insBytes is an instruction as a text, in the document's own words.
func insBytes(i impl.Ins) string {
	b := i.B
	switch {
	case i.Op == impl.InSet && b >= 0:
		b = 2 * b
	case i.Op == impl.InSet:
		b = 2*(-b) - 1
	}
	return impl.Var(i.Op) + impl.Var(i.A) + impl.Var(b) + impl.Var(i.C)
}

func progBytes(p []impl.Ins) string {
	s := impl.Var(len(p))
	for _, i := range p {
		s += insBytes(i)
	}
	return s
}

// progsRight are right programs: of no instruction, of one of each kind, of
// every length up to MaxProg.
func progsRight() [][]impl.Ins {
	rights := insRights()
	l := [][]impl.Ins{nil, {}}
	for _, i := range rights {
		l = append(l, []impl.Ins{i}, slices.Repeat([]impl.Ins{i}, impl.MaxProg))
	}
	for n := range impl.MaxProg + 1 {
		var p []impl.Ins
		for k := range n {
			p = append(p, rights[(7*n+31*k)%len(rights)])
		}
		l = append(l, p)
	}
	return l
}

func refusesProg(t *testing.T, s string) {
	t.Helper()
	if p, ok := impl.ReadProg(s); ok || len(p) != 0 {
		t.Errorf("ReadProg(%q) = %v, %v, want nothing and false", s, p, ok)
	}
}

func TestInsNumbers(t *testing.T) {
	ops := []int{impl.InSet, impl.InAdd, impl.InSub, impl.InLoad, impl.InStore, impl.InJump, impl.InZero, impl.InSys}
	if !slices.Equal(ops, []int{1, 2, 3, 4, 5, 6, 7, 8}) {
		t.Errorf("the Ops are %v", ops)
	}
	if impl.MaxProg != 40 || impl.MaxWord != 1000000 || impl.Regs != 4 {
		t.Errorf("the limits are %d, %d and %d", impl.MaxProg, impl.MaxWord, impl.Regs)
	}
}

func TestInsOkAtItsEdges(t *testing.T) {
	for _, c := range []struct {
		i    impl.Ins
		want bool
	}{
		{impl.Ins{Op: impl.InSet}, true},
		{impl.Ins{Op: impl.InSet, A: 3, B: 1000000}, true},
		{impl.Ins{Op: impl.InSet, A: 3, B: 1000001}, false},
		{impl.Ins{Op: impl.InSet, A: 0, B: -1000000}, true},
		{impl.Ins{Op: impl.InSet, A: 0, B: -1000001}, false},
		{impl.Ins{Op: impl.InSet, A: -1}, false},
		{impl.Ins{Op: impl.InSet, A: 4}, false},
		{impl.Ins{Op: impl.InAdd}, true},
		{impl.Ins{Op: impl.InAdd, A: 3, B: 3, C: 3}, true},
		{impl.Ins{Op: impl.InAdd, A: 4, B: 3, C: 3}, false},
		{impl.Ins{Op: impl.InAdd, A: 3, B: 4, C: 3}, false},
		{impl.Ins{Op: impl.InAdd, A: 3, B: 3, C: 4}, false},
		{impl.Ins{Op: impl.InSub, A: -1}, false},
		{impl.Ins{Op: impl.InSub, B: -1}, false},
		{impl.Ins{Op: impl.InSub, C: -1}, false},
		{impl.Ins{Op: impl.InLoad, A: 3, B: 3}, true},
		{impl.Ins{Op: impl.InLoad, A: 4}, false},
		{impl.Ins{Op: impl.InLoad, B: 4}, false},
		{impl.Ins{Op: impl.InStore, A: 3, B: 3}, true},
		{impl.Ins{Op: impl.InStore, A: -1}, false},
		{impl.Ins{Op: impl.InStore, B: -1}, false},
		{impl.Ins{Op: impl.InJump}, true},
		{impl.Ins{Op: impl.InJump, A: 40}, true},
		{impl.Ins{Op: impl.InJump, A: 41}, false},
		{impl.Ins{Op: impl.InJump, A: -1}, false},
		{impl.Ins{Op: impl.InZero}, true},
		{impl.Ins{Op: impl.InZero, A: 3, B: 40}, true},
		{impl.Ins{Op: impl.InZero, A: 3, B: 41}, false},
		{impl.Ins{Op: impl.InZero, A: 3, B: -1}, false},
		{impl.Ins{Op: impl.InZero, A: 4, B: 40}, false},
		{impl.Ins{Op: impl.InSys, A: 1}, true},
		{impl.Ins{Op: impl.InSys, A: 20}, true},
		{impl.Ins{Op: impl.InSys, A: 0}, false},
		{impl.Ins{Op: impl.InSys, A: 21}, false},
	} {
		if got := impl.InsOk(c.i); got != c.want {
			t.Errorf("InsOk(%+v) = %v", c.i, got)
		}
	}
	for _, i := range insAround() {
		if got, want := impl.InsOk(i), insRight(i); got != want {
			t.Errorf("InsOk(%+v) = %v", i, got)
		}
	}
}

func TestInsOkWantsZeroWhereNothingIsNamed(t *testing.T) {
	for _, n := range []int{1, 2, -1, 3, 40, math.MinInt, math.MaxInt} {
		for _, i := range []impl.Ins{
			{Op: impl.InSet, A: 1, B: 1, C: n},
			{Op: impl.InLoad, A: 1, B: 1, C: n},
			{Op: impl.InStore, A: 1, B: 1, C: n},
			{Op: impl.InZero, A: 1, B: 1, C: n},
			{Op: impl.InJump, A: 1, B: n},
			{Op: impl.InJump, A: 1, C: n},
			{Op: impl.InJump, A: 1, B: n, C: n},
			{Op: impl.InSys, A: 1, B: n},
			{Op: impl.InSys, A: 1, C: n},
			{Op: impl.InSys, A: 1, B: n, C: n},
		} {
			if impl.InsOk(i) || impl.ProgOk([]impl.Ins{i}) || impl.ShowProg([]impl.Ins{i}) != "" {
				t.Errorf("%+v is taken as right", i)
			}
		}
	}
}

func TestInsOkRefusesAnOpThatIsNone(t *testing.T) {
	for _, op := range []int{0, 9, -1, -8, 10, 128, 257, math.MinInt, math.MaxInt} {
		for _, i := range []impl.Ins{{Op: op}, {Op: op, A: 1}, {Op: op, A: 1, B: 1}, {Op: op, A: 1, B: 1, C: 1}} {
			if impl.InsOk(i) || impl.ProgOk([]impl.Ins{i}) || impl.ShowProg([]impl.Ins{i}) != "" {
				t.Errorf("%+v is taken as right", i)
			}
		}
	}
}

func TestProgOk(t *testing.T) {
	for _, p := range progsRight() {
		if !impl.ProgOk(p) {
			t.Errorf("ProgOk(%v) is false", p)
		}
	}
	for _, i := range insRights() {
		if p := slices.Repeat([]impl.Ins{i}, impl.MaxProg+1); impl.ProgOk(p) || impl.ShowProg(p) != "" {
			t.Errorf("a program of %d instructions is taken as right", len(p))
		}
	}
	wrong := impl.Ins{Op: impl.InSet, A: 4}
	for n := 1; n <= impl.MaxProg; n++ {
		for at := range n {
			p := slices.Repeat([]impl.Ins{{Op: impl.InSet}}, n)
			p[at] = wrong
			if impl.ProgOk(p) || impl.ShowProg(p) != "" {
				t.Errorf("of %d instructions number %d is wrong, and the program is taken as right", n, at)
			}
		}
	}
}

func TestShowProgMakes(t *testing.T) {
	for _, c := range []struct {
		p    []impl.Ins
		want string
	}{
		{nil, "\x00"},
		{[]impl.Ins{}, "\x00"},
		{[]impl.Ins{{Op: impl.InSet}}, "\x01\x01\x00\x00\x00"},
		{[]impl.Ins{{Op: impl.InSet, A: 2, B: 1}}, "\x01\x01\x02\x02\x00"},
		{[]impl.Ins{{Op: impl.InSet, A: 2, B: -1}}, "\x01\x01\x02\x01\x00"},
		{[]impl.Ins{{Op: impl.InSet, B: 63}}, "\x01\x01\x00\x7e\x00"},
		{[]impl.Ins{{Op: impl.InSet, B: -64}}, "\x01\x01\x00\x7f\x00"},
		{[]impl.Ins{{Op: impl.InSet, B: 64}}, "\x01\x01\x00\x80\x01\x00"},
		{[]impl.Ins{{Op: impl.InSet, B: 1000000}}, "\x01\x01\x00\x80\x89\x7a\x00"},
		{[]impl.Ins{{Op: impl.InSet, B: -1000000}}, "\x01\x01\x00\xff\x88\x7a\x00"},
		{[]impl.Ins{{Op: impl.InAdd, A: 1, B: 2, C: 3}}, "\x01\x02\x01\x02\x03"},
		{[]impl.Ins{{Op: impl.InSub, A: 3, B: 2, C: 1}}, "\x01\x03\x03\x02\x01"},
		{[]impl.Ins{{Op: impl.InLoad, A: 3, B: 1}}, "\x01\x04\x03\x01\x00"},
		{[]impl.Ins{{Op: impl.InStore, A: 3, B: 1}}, "\x01\x05\x03\x01\x00"},
		{[]impl.Ins{{Op: impl.InJump, A: 40}}, "\x01\x06\x28\x00\x00"},
		{[]impl.Ins{{Op: impl.InZero, A: 1, B: 40}}, "\x01\x07\x01\x28\x00"},
		{[]impl.Ins{{Op: impl.InSys, A: 20}}, "\x01\x08\x14\x00\x00"},
		{[]impl.Ins{{Op: impl.InSys, A: 4}, {Op: impl.InSet, A: 1, B: -3}}, "\x02\x08\x04\x00\x00\x01\x01\x05\x00"},
	} {
		if got := impl.ShowProg(c.p); got != c.want {
			t.Errorf("ShowProg(%v) = %q, want %q", c.p, got, c.want)
		}
	}
	for _, p := range progsRight() {
		if got, want := impl.ShowProg(p), progBytes(p); got != want {
			t.Errorf("ShowProg(%v) = %q, want %q", p, got, want)
		}
	}
}

func TestReadProgTakesWhatShowProgMakes(t *testing.T) {
	for _, p := range progsRight() {
		s := impl.ShowProg(p)
		if got, ok := impl.ReadProg(s); !ok || !slices.Equal(got, p) {
			t.Errorf("ReadProg(%q) = %v, %v, want %v", s, got, ok, p)
		}
	}
	for b := -1000; b <= 1000; b++ {
		for _, n := range []int{b, 1000 * b, 1000*b - b} {
			p := []impl.Ins{{Op: impl.InSet, A: 1, B: n}}
			if got, ok := impl.ReadProg(impl.ShowProg(p)); !ok || !slices.Equal(got, p) {
				t.Errorf("set of %d is read as %v, %v", n, got, ok)
			}
		}
	}
}

func TestReadProgRefusesWhatEndsEarlyOrGoesOn(t *testing.T) {
	refusesProg(t, "")
	for _, p := range progsRight() {
		s := impl.ShowProg(p)
		for cut := range len(s) {
			refusesProg(t, s[:cut])
		}
		for _, behind := range []string{"\x00", "\x01", "\x80", "\xff", "x", s} {
			refusesProg(t, s+behind)
		}
	}
}

func TestReadProgRefusesANeedlessByte(t *testing.T) {
	for _, p := range [][]impl.Ins{
		nil,
		{{Op: impl.InSet, A: 1, B: -3}, {Op: impl.InSet, B: 150}},
		{{Op: impl.InAdd, A: 1, B: 2, C: 3}, {Op: impl.InJump, A: 40}, {Op: impl.InZero, A: 3, B: 40}, {Op: impl.InSys, A: 20}},
		{{Op: impl.InSet, B: 1000000}, {Op: impl.InSet, B: -1000000}},
	} {
		s := impl.ShowProg(p)
		for at := range len(s) {
			if s[at] < 128 {
				refusesProg(t, s[:at]+string([]byte{s[at] + 128, 0})+s[at+1:])
				refusesProg(t, s[:at]+string([]byte{s[at] + 128, 128, 0})+s[at+1:])
			}
		}
	}
}

func TestReadProgRefusesACountThatIsTooGreat(t *testing.T) {
	one := insBytes(impl.Ins{Op: impl.InSys, A: 4})
	for _, n := range []int{41, 42, 127, 128, 300} {
		refusesProg(t, impl.Var(n)+strings.Repeat(one, n))
	}
	for _, n := range []int{41, 128, 65536, 1 << 31, impl.MaxVar} {
		refusesProg(t, impl.Var(n))
		refusesProg(t, impl.Var(n)+one)
		refusesProg(t, impl.Var(n)+strings.Repeat(one, impl.MaxProg))
	}
	for n := range impl.MaxProg {
		refusesProg(t, impl.Var(n)+strings.Repeat(one, n+1))
		refusesProg(t, impl.Var(n+1)+strings.Repeat(one, n))
	}
}

func TestReadProgRefusesAnInstructionThatIsNotRight(t *testing.T) {
	good := insBytes(impl.Ins{Op: impl.InAdd, A: 1, B: 2, C: 3})
	for _, i := range insAround() {
		if insRight(i) || i.A < 0 || i.B < -impl.MaxWord-1 || i.B < 0 && i.Op != impl.InSet || i.C < 0 || max(i.A, i.B, i.C) > impl.MaxVar {
			continue
		}
		bad := insBytes(i)
		refusesProg(t, "\x01"+bad)
		refusesProg(t, "\x03"+bad+good+good)
		refusesProg(t, "\x03"+good+bad+good)
		refusesProg(t, "\x03"+good+good+bad)
	}
	for _, op := range []int{0, 9, 10, 128, 256, impl.MaxVar} {
		for _, rest := range []string{"\x00\x00\x00", "\x01\x00\x00", "\x01\x01\x00", "\x01\x01\x01"} {
			refusesProg(t, "\x01"+impl.Var(op)+rest)
		}
	}
	for _, b := range []int{2000001, 2000002, 1<<31 - 1, 1 << 32, impl.MaxVar - 1, impl.MaxVar} {
		refusesProg(t, "\x01\x01\x00"+impl.Var(b)+"\x00")
	}
}

func TestReadProgTakesNothingElse(t *testing.T) {
	l := texts("\x00\x01\x02\x03\x08\x14\x28\x80", 6)
	for _, i := range insRights() {
		s := impl.ShowProg([]impl.Ins{i, i})
		for at := range len(s) {
			for c := range 256 {
				l = append(l, withByte(s, at, byte(c)))
			}
			l = append(l, s[:at]+s[at+1:], s[:at]+"\x00"+s[at:], s[:at]+"\x80"+s[at:])
		}
	}
	for _, s := range l {
		p, ok := impl.ReadProg(s)
		if !ok && len(p) != 0 || ok && (!impl.ProgOk(p) || impl.ShowProg(p) != s) {
			t.Fatalf("ReadProg(%q) = %v, %v, of which ShowProg makes %q", s, p, ok, impl.ShowProg(p))
		}
	}
}

func TestProgsAreNotWrittenInto(t *testing.T) {
	for _, p := range progsRight() {
		room := append(slices.Clone(p), slices.Repeat([]impl.Ins{{Op: 77, A: 77, B: 77, C: 77}}, 3)...)
		was := slices.Clone(room)
		given := room[:len(p)]
		impl.ProgOk(given)
		s := impl.ShowProg(given)
		if !slices.Equal(room, was) {
			t.Fatalf("%v became %v", was, room)
		}
		first, _ := impl.ReadProg(s)
		for k := range first {
			first[k] = impl.Ins{}
		}
		if again, ok := impl.ReadProg(s); !ok || !slices.Equal(again, p) {
			t.Fatalf("ReadProg(%q) = %v, %v behind a change of what it answered first", s, again, ok)
		}
	}
}
