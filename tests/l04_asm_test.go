package tests

import (
	"fmt"
	"slices"
	"strings"
	"testing"

	"loop.example/g00781/impl"
)

// insLine is an instruction as a line, in the document's own words.
func insLine(i impl.Ins) string {
	switch i.Op {
	case impl.InSet:
		return fmt.Sprintf("set r%d %d\n", i.A, i.B)
	case impl.InAdd:
		return fmt.Sprintf("add r%d r%d r%d\n", i.A, i.B, i.C)
	case impl.InSub:
		return fmt.Sprintf("sub r%d r%d r%d\n", i.A, i.B, i.C)
	case impl.InLoad:
		return fmt.Sprintf("load r%d r%d\n", i.A, i.B)
	case impl.InStore:
		return fmt.Sprintf("store r%d r%d\n", i.A, i.B)
	case impl.InJump:
		return fmt.Sprintf("jump %d\n", i.A)
	case impl.InZero:
		return fmt.Sprintf("zero r%d %d\n", i.A, i.B)
	case impl.InSys:
		return fmt.Sprintf("sys %d\n", i.A)
	}
	return "none\n"
}

func progLines(p []impl.Ins) string {
	s := ""
	for _, i := range p {
		s += insLine(i)
	}
	return s
}

// rightLines are lines, without their byte 10, one of each kind.
func rightLines() []string {
	return []string{"set r1 -3", "add r0 r1 r2", "sub r3 r2 r1", "load r0 r3", "store r3 r0", "jump 7", "zero r2 5", "sys 17"}
}

func assembles(t *testing.T, text string, want []impl.Ins) {
	t.Helper()
	if p, bad := impl.Asm(text); bad != 0 || !slices.Equal(p, want) {
		t.Errorf("Asm(%q) = %v, %d, want %v", text, p, bad, want)
	}
}

func refusesLine(t *testing.T, text string, line int) {
	t.Helper()
	if p, bad := impl.Asm(text); bad != line || len(p) != 0 {
		t.Errorf("Asm(%q) = %v, %d, want nothing and %d", text, p, bad, line)
	}
}

// refusesEverywhere wants a line refused wherever it stands among right ones,
// with its byte 10 and without.
func refusesEverywhere(t *testing.T, line string) {
	t.Helper()
	refusesLine(t, line, 1)
	refusesLine(t, line+"\n", 1)
	refusesLine(t, line+"\nsys 1\n", 1)
	refusesLine(t, "\n\n"+line, 3)
	refusesLine(t, "sys 1\n"+line+"\nsys 2\n", 2)
	refusesLine(t, "sys 1\n\njump 3\n\n"+line, 5)
	refusesLine(t, line+"\n"+line+"\nnone\n", 1)
}

func TestAsmMakes(t *testing.T) {
	for _, c := range []struct {
		text string
		want []impl.Ins
	}{
		{"", nil},
		{"set r1 -3", []impl.Ins{{Op: 1, A: 1, B: -3}}},
		{"set r0 0\n", []impl.Ins{{Op: 1}}},
		{"add r1 r2 r3\n", []impl.Ins{{Op: 2, A: 1, B: 2, C: 3}}},
		{"sub r3 r1 r0\n", []impl.Ins{{Op: 3, A: 3, B: 1}}},
		{"load r1 r2\n", []impl.Ins{{Op: 4, A: 1, B: 2}}},
		{"store r1 r2\n", []impl.Ins{{Op: 5, A: 1, B: 2}}},
		{"jump 12\n", []impl.Ins{{Op: 6, A: 12}}},
		{"zero r2 12\n", []impl.Ins{{Op: 7, A: 2, B: 12}}},
		{"sys 9\n", []impl.Ins{{Op: 8, A: 9}}},
		{"sys 9\nset r2 5\nsys 9", []impl.Ins{{Op: 8, A: 9}, {Op: 1, A: 2, B: 5}, {Op: 8, A: 9}}},
	} {
		assembles(t, c.text, c.want)
	}
}

func TestListingMakes(t *testing.T) {
	for _, c := range []struct {
		p    []impl.Ins
		want string
	}{
		{nil, ""},
		{[]impl.Ins{}, ""},
		{[]impl.Ins{{Op: 1, A: 1, B: -3}}, "set r1 -3\n"},
		{[]impl.Ins{{Op: 1, A: 3, B: 1000000}}, "set r3 1000000\n"},
		{[]impl.Ins{{Op: 2, A: 1, B: 2, C: 3}}, "add r1 r2 r3\n"},
		{[]impl.Ins{{Op: 3, A: 3, B: 1}}, "sub r3 r1 r0\n"},
		{[]impl.Ins{{Op: 4, A: 1, B: 2}}, "load r1 r2\n"},
		{[]impl.Ins{{Op: 5, A: 1, B: 2}}, "store r1 r2\n"},
		{[]impl.Ins{{Op: 6, A: 40}}, "jump 40\n"},
		{[]impl.Ins{{Op: 7, A: 2, B: 40}}, "zero r2 40\n"},
		{[]impl.Ins{{Op: 8, A: 9}, {Op: 6}}, "sys 9\njump 0\n"},
	} {
		if got := impl.Listing(c.p); got != c.want {
			t.Errorf("Listing(%v) = %q, want %q", c.p, got, c.want)
		}
	}
}

func TestAsmOfListingIsTheProgram(t *testing.T) {
	for _, p := range progsRight() {
		s := impl.Listing(p)
		if want := progLines(p); s != want {
			t.Errorf("Listing(%v) = %q, want %q", p, s, want)
		}
		assembles(t, s, p)
		assembles(t, strings.TrimSuffix(s, "\n"), p)
	}
	for n := -1000; n <= 1000; n++ {
		for _, b := range []int{n, 1000 * n, 999 * n} {
			p := []impl.Ins{{Op: impl.InSet, A: 2, B: b}}
			assembles(t, impl.Listing(p), p)
		}
	}
}

func TestListingOfWhatAsmMakesIsAssembledAsTheSame(t *testing.T) {
	for _, text := range []string{
		"",
		"\n\n\n",
		"set r0 5",
		"\n\nset r0 5\n\n\nsys 4",
		strings.Join(rightLines(), "\n"),
		"\n" + strings.Join(rightLines(), "\n\n") + "\n\n",
		strings.Repeat("\nsys 1\n", impl.MaxProg),
	} {
		p, bad := impl.Asm(text)
		if bad != 0 {
			t.Errorf("Asm(%q) refuses line %d", text, bad)
		}
		assembles(t, impl.Listing(p), p)
	}
}

func TestEmptyLinesCountAndArePassedOver(t *testing.T) {
	for n := range 6 {
		empty := strings.Repeat("\n", n)
		assembles(t, empty, nil)
		for _, line := range rightLines() {
			one, _ := impl.Asm(line)
			three := slices.Concat(one, one, one)
			assembles(t, empty+line, one)
			assembles(t, line+"\n"+empty, one)
			assembles(t, empty+line+"\n"+empty+line+"\n"+empty+line+"\n"+empty, three)
			refusesLine(t, empty+"none", n+1)
			refusesLine(t, empty+line+"\n"+empty+"none\n"+empty, 2*n+2)
			refusesLine(t, line+"\n"+line+"\n"+empty+"none", n+3)
		}
	}
	many := strings.Repeat("\n", 100000)
	assembles(t, many+"sys 1\n"+many, []impl.Ins{{Op: impl.InSys, A: 1}})
	refusesLine(t, many+"none", 100001)
}

func TestAsmRegisters(t *testing.T) {
	for r := range 4 {
		name := "r" + impl.Dec(r)
		assembles(t, "set "+name+" 1", []impl.Ins{{Op: impl.InSet, A: r, B: 1}})
		assembles(t, "zero "+name+" 1", []impl.Ins{{Op: impl.InZero, A: r, B: 1}})
		assembles(t, "load "+name+" r1", []impl.Ins{{Op: impl.InLoad, A: r, B: 1}})
		assembles(t, "store r1 "+name, []impl.Ins{{Op: impl.InStore, A: 1, B: r}})
		assembles(t, "add r1 "+name+" r2", []impl.Ins{{Op: impl.InAdd, A: 1, B: r, C: 2}})
		assembles(t, "sub r1 r2 "+name, []impl.Ins{{Op: impl.InSub, A: 1, B: 2, C: r}})
	}
	for _, name := range []string{
		"r4", "r5", "r9", "r10", "r-1", "r-0", "r00", "r01", "r+1", "r", "rr", "r1r", "rr1", "R1", "1", "0", "1r", "x1", "r1x", "rx",
		"r1\t", "\tr1", "r1\r", "r\x001", "r\x01", "r256", "r4294967296", "r18446744073709551617", "a", "n", "",
	} {
		for _, form := range []string{"set ? 1", "zero ? 1", "add ? r1 r1", "add r1 ? r1", "add r1 r1 ?", "sub ? r1 r1", "sub r1 ? r1", "sub r1 r1 ?", "load ? r1", "load r1 ?", "store ? r1", "store r1 ?"} {
			refusesEverywhere(t, strings.Replace(form, "?", name, 1))
		}
	}
}

func TestAsmNumbersAtTheirEdges(t *testing.T) {
	for _, c := range []struct {
		form        string
		least, most int
		ins         func(n int) impl.Ins
	}{
		{"set r3 ?", -1000000, 1000000, func(n int) impl.Ins { return impl.Ins{Op: impl.InSet, A: 3, B: n} }},
		{"jump ?", 0, 40, func(n int) impl.Ins { return impl.Ins{Op: impl.InJump, A: n} }},
		{"zero r3 ?", 0, 40, func(n int) impl.Ins { return impl.Ins{Op: impl.InZero, A: 3, B: n} }},
		{"sys ?", 1, 20, func(n int) impl.Ins { return impl.Ins{Op: impl.InSys, A: n} }},
	} {
		line := func(n int) string { return strings.Replace(c.form, "?", impl.Dec(n), 1) }
		for _, n := range []int{c.least, c.least + 1, c.most - 1, c.most} {
			assembles(t, line(n), []impl.Ins{c.ins(n)})
			assembles(t, line(n)+"\n", []impl.Ins{c.ins(n)})
		}
		for _, n := range []int{c.least - 1, c.most + 1, -999999999, 999999999, 1000000000, -1000000000, 1 << 32, -1 << 63} {
			refusesEverywhere(t, line(n))
		}
		for _, word := range []string{"", "-", "+", "-0", "+1", "00", "01", "-01", "0x1", "1_0", "1.0", "1e1", "a", "1a", "a1", "r1", "n", "1\t", "\t1", "1\r", "1\x00", "0000000001", "4294967297", "18446744073709551617"} {
			refusesEverywhere(t, strings.Replace(c.form, "?", word, 1))
		}
	}
}

func TestAsmRefusesAWordThatIsNone(t *testing.T) {
	for _, word := range []string{"nop", "none", "Set", "SET", "se", "sett", "xset", "mov", "ad", "adds", "jmp", "jumps", "zeros", "sy", "syss", "1", "8", "r1", "-", "\x00", "\xff", "\r", "\t", ";", "#"} {
		for _, rest := range []string{"", " 1", " r1", " r1 1", " r1 r1", " r1 r1 r1"} {
			refusesEverywhere(t, word+rest)
		}
	}
	for _, line := range rightLines() {
		word, rest, _ := strings.Cut(line, " ")
		for _, other := range []string{strings.ToUpper(word), word + "x", word[1:], word[:len(word)-1], word + "\t", "\t" + word, ""} {
			refusesEverywhere(t, other+" "+rest)
		}
	}
}

func TestAsmRefusesWordsTooFewOrTooMany(t *testing.T) {
	for _, line := range rightLines() {
		words := strings.Split(line, " ")
		for n := 1; n < len(words); n++ {
			refusesEverywhere(t, strings.Join(words[:n], " "))
		}
		for _, more := range []string{" r1", " 1", " 0", " r0", " x", " " + line, " r1 r1", " 1 1 1 1 1", strings.Repeat(" r1", 1000)} {
			refusesEverywhere(t, line+more)
		}
	}
}

func TestAsmRefusesABlankTooMany(t *testing.T) {
	for _, line := range rightLines() {
		refusesEverywhere(t, " "+line)
		refusesEverywhere(t, line+" ")
		refusesEverywhere(t, "  "+line+"  ")
		refusesEverywhere(t, strings.ReplaceAll(line, " ", "  "))
		refusesEverywhere(t, strings.ReplaceAll(line, " ", ""))
		for at := range len(line) {
			if line[at] != ' ' {
				continue
			}
			refusesEverywhere(t, line[:at]+" "+line[at:])
			for _, gap := range []string{"", "\t", ",", ", ", "\x00", "\u00a0"} {
				refusesEverywhere(t, line[:at]+gap+line[at+1:])
			}
		}
	}
	for _, line := range []string{" ", "  ", "   ", "\t", "\r", "\x00", strings.Repeat(" ", 100000)} {
		refusesEverywhere(t, line)
	}
}

func TestAsmEndsLinesByAByteTenAlone(t *testing.T) {
	for _, end := range []string{"\r", "\r\n", "\n\r", "\v", "\f", "\x00", ";", "\u2028", "\u0085"} {
		if p, bad := impl.Asm("sys 1" + end + "sys 2"); bad == 0 || len(p) != 0 {
			t.Errorf("%q ends a line: %v", end, p)
		}
	}
	refusesLine(t, "sys 1\r\nsys 2\n", 1)
	refusesLine(t, "sys 1\n\r\nsys 2\n", 2)
}

func TestAsmTakesMaxProgInstructions(t *testing.T) {
	for _, line := range rightLines() {
		one, _ := impl.Asm(line)
		full := strings.Repeat(line+"\n", 40)
		want := slices.Repeat(one, 40)
		assembles(t, full, want)
		assembles(t, strings.TrimSuffix(full, "\n"), want)
		assembles(t, full+"\n\n\n", want)
		assembles(t, strings.Repeat("\n"+line+"\n", 40), want)
		refusesLine(t, full+line, 41)
		refusesLine(t, full+line+"\n", 41)
		refusesLine(t, full+"none\n", 41)
		refusesLine(t, full+"\n\n"+line+"\n", 43)
		refusesLine(t, strings.Repeat("\n"+line+"\n", 41), 82)
		refusesLine(t, strings.Repeat(line+"\n", 1000), 41)
		refusesLine(t, "none\n"+full+line, 1)
		refusesLine(t, full[:len(full)-len(line)-1]+"none\n"+line, 40)
	}
}

func TestListingOfWhatIsNotRightIsEmpty(t *testing.T) {
	good := impl.Ins{Op: impl.InSys, A: 4}
	for _, i := range append(insAround(), impl.Ins{}, impl.Ins{Op: 9}, impl.Ins{Op: -1}, impl.Ins{Op: 1 << 62}, impl.Ins{Op: impl.InJump, C: 1}, impl.Ins{Op: impl.InSys, A: 1, B: 1}) {
		if insRight(i) {
			continue
		}
		for _, p := range [][]impl.Ins{{i}, {i, good}, {good, i}, {good, i, good}} {
			if s := impl.Listing(p); s != "" {
				t.Errorf("Listing(%v) = %q, want nothing", p, s)
			}
		}
	}
	for _, i := range insRights() {
		for _, n := range []int{41, 42, 100} {
			if s := impl.Listing(slices.Repeat([]impl.Ins{i}, n)); s != "" {
				t.Errorf("a program of %d instructions is listed as %q", n, s)
			}
		}
	}
}

func TestAsmTakesNothingElse(t *testing.T) {
	var l []string
	for _, i := range insRights() {
		line := insLine(i)
		l = append(l, line)
		for at := range len(line) {
			for c := range 256 {
				l = append(l, withByte(line, at, byte(c)))
			}
			l = append(l, line[:at]+line[at+1:], line[:at]+" "+line[at:], line[:at]+"0"+line[at:], line[:at]+"\n"+line[at:])
		}
	}
	for _, text := range append(l, texts("\n r1", 6)...) {
		p, bad := impl.Asm(text)
		if bad != 0 {
			if len(p) != 0 {
				t.Fatalf("Asm(%q) = %v, %d", text, p, bad)
			}
			continue
		}
		want := ""
		for line := range strings.SplitSeq(text, "\n") {
			if line != "" {
				want += line + "\n"
			}
		}
		if !impl.ProgOk(p) || progLines(p) != want || impl.Listing(p) != want {
			t.Fatalf("Asm(%q) = %v, of which Listing makes %q", text, p, impl.Listing(p))
		}
	}
}

func TestListingWritesIntoNothing(t *testing.T) {
	for _, p := range progsRight() {
		room := append(slices.Clone(p), slices.Repeat([]impl.Ins{{Op: 77, A: 77, B: 77, C: 77}}, 3)...)
		was := slices.Clone(room)
		s := impl.Listing(room[:len(p)])
		if !slices.Equal(room, was) {
			t.Fatalf("%v became %v", was, room)
		}
		first, _ := impl.Asm(s)
		for k := range first {
			first[k] = impl.Ins{}
		}
		assembles(t, s, p)
	}
}
