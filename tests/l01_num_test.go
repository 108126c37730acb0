package tests

import (
	"math"
	"strings"
	"testing"

	"loop.example/g00781/impl"
)

// behinds are what may stand behind a number without changing how it is read.
func behinds() []string {
	return []string{"", "\x00", "\x7f", "\x80", "\xff", "z", "0", strings.Repeat("\x80", 9)}
}

// wholes are whole numbers around each power of two, and both ends of int.
func wholes() []int {
	l := []int{math.MinInt, math.MinInt + 1, -1, 0, 1, 300, math.MaxInt - 1, math.MaxInt}
	for b := range 62 {
		p := 1 << (b + 1)
		l = append(l, p-1, p, p+1, -p-1, -p, -p+1)
	}
	return l
}

// texts are all texts of at most n bytes of an alphabet.
func texts(alphabet string, n int) []string {
	all, last := []string{""}, []string{""}
	for range n {
		var next []string
		for _, s := range last {
			for i := range len(alphabet) {
				next = append(next, s+alphabet[i:i+1])
			}
		}
		all, last = append(all, next...), next
	}
	return all
}

func allBytes() string {
	b := make([]byte, 256)
	for i := range b {
		b[i] = byte(i)
	}
	return string(b)
}

func TestFixedMakes(t *testing.T) {
	for _, c := range []struct {
		n, width int
		want     string
	}{
		{0, 1, "\x00"},
		{0, 7, "\x00\x00\x00\x00\x00\x00\x00"},
		{1, 3, "\x00\x00\x01"},
		{255, 1, "\xff"},
		{256, 1, ""},
		{256, 2, "\x01\x00"},
		{65535, 2, "\xff\xff"},
		{65536, 2, ""},
		{0x010203, 3, "\x01\x02\x03"},
		{0x01020304050607, 7, "\x01\x02\x03\x04\x05\x06\x07"},
		{1<<56 - 1, 7, "\xff\xff\xff\xff\xff\xff\xff"},
		{1 << 56, 7, ""},
		{math.MaxInt, 7, ""},
		{-1, 1, ""},
		{-1, 7, ""},
		{math.MinInt, 7, ""},
		{0, 0, ""},
		{1, 0, ""},
		{0, 8, ""},
		{1, 8, ""},
		{0, -1, ""},
		{0, math.MinInt, ""},
		{0, math.MaxInt, ""},
	} {
		if got := impl.Fixed(c.n, c.width); got != c.want {
			t.Errorf("Fixed(%d, %d) = %q, want %q", c.n, c.width, got, c.want)
		}
	}
}

func TestFixedFitsItsWidth(t *testing.T) {
	for width := -1; width <= 9; width++ {
		for _, n := range wholes() {
			fits := width >= 1 && width <= 7 && n >= 0 && n < 1<<(8*width)
			got := impl.Fixed(n, width)
			if !fits {
				if got != "" {
					t.Errorf("Fixed(%d, %d) = %q, want nothing", n, width, got)
				}
				continue
			}
			if len(got) != width {
				t.Errorf("Fixed(%d, %d) = %q, want %d bytes", n, width, got, width)
			}
			for _, behind := range behinds() {
				if m, ok := impl.ReadFixed(got+behind, width); m != n || !ok {
					t.Errorf("ReadFixed(%q, %d) = %d, %v, want %d", got+behind, width, m, ok, n)
				}
			}
		}
	}
}

func TestReadFixed(t *testing.T) {
	for _, c := range []struct {
		s     string
		width int
		want  int
		ok    bool
	}{
		{"\x00", 1, 0, true},
		{"\xff", 1, 255, true},
		{"\x01\x02\x03", 2, 258, true},
		{"\x00\x00\x00\x00\x00\x00\x01\x02", 7, 1, true},
		{"\xff\xff\xff\xff\xff\xff\xff", 7, 1<<56 - 1, true},
		{"", 1, 0, false},
		{"", 0, 0, false},
		{"", -1, 0, false},
		{"\x01", 2, 0, false},
		{"\x01\x02\x03\x04\x05\x06", 7, 0, false},
		{"\x01\x02\x03\x04\x05\x06\x07\x08\x09", 0, 0, false},
		{"\x01\x02\x03\x04\x05\x06\x07\x08\x09", 8, 0, false},
		{"\x01\x02\x03\x04\x05\x06\x07\x08\x09", -1, 0, false},
		{"\x01", math.MinInt, 0, false},
		{"\x01", math.MaxInt, 0, false},
	} {
		if n, ok := impl.ReadFixed(c.s, c.width); n != c.want || ok != c.ok {
			t.Errorf("ReadFixed(%q, %d) = %d, %v, want %d, %v", c.s, c.width, n, ok, c.want, c.ok)
		}
	}
}

func TestReadFixedTakesWhatFixedMakes(t *testing.T) {
	for _, s := range texts(allBytes(), 2)[1:] {
		n, ok := impl.ReadFixed(s, len(s))
		if back := impl.Fixed(n, len(s)); !ok || back != s {
			t.Fatalf("ReadFixed(%q) = %d, %v, of which Fixed makes %q", s, n, ok, back)
		}
	}
}

func TestVarMakes(t *testing.T) {
	for _, c := range []struct {
		n    int
		want string
	}{
		{0, "\x00"},
		{1, "\x01"},
		{127, "\x7f"},
		{128, "\x80\x01"},
		{255, "\xff\x01"},
		{256, "\x80\x02"},
		{300, "\xac\x02"},
		{16383, "\xff\x7f"},
		{16384, "\x80\x80\x01"},
		{1<<42 - 1, "\xff\xff\xff\xff\xff\x7f"},
		{1 << 42, "\x80\x80\x80\x80\x80\x80\x01"},
		{impl.MaxVar - 1, "\xfe\xff\xff\xff\xff\xff\x7f"},
		{impl.MaxVar, "\xff\xff\xff\xff\xff\xff\x7f"},
		{impl.MaxVar + 1, ""},
		{math.MaxInt, ""},
		{-1, ""},
		{-128, ""},
		{math.MinInt, ""},
	} {
		if got := impl.Var(c.n); got != c.want {
			t.Errorf("Var(%d) = %q, want %q", c.n, got, c.want)
		}
	}
}

func TestVarIsReadAsItsNumber(t *testing.T) {
	for _, n := range wholes() {
		s := impl.Var(n)
		if n < 0 || n > impl.MaxVar {
			if s != "" {
				t.Errorf("Var(%d) = %q, want nothing", n, s)
			}
			continue
		}
		if s == "" {
			t.Errorf("Var(%d) is empty", n)
		}
		for _, behind := range behinds() {
			if m, k := impl.ReadVar(s + behind); m != n || k != len(s) {
				t.Errorf("ReadVar(%q) = %d, %d, want %d, %d", s+behind, m, k, n, len(s))
			}
		}
		for cut := range len(s) {
			if m, k := impl.ReadVar(s[:cut]); m != 0 || k != 0 {
				t.Errorf("ReadVar(%q) = %d, %d, though it ends too early", s[:cut], m, k)
			}
		}
	}
}

func TestReadVarRefusesWhatEndsTooEarly(t *testing.T) {
	for k := range 7 {
		for _, c := range []string{"\x80", "\x81", "\xff"} {
			s := strings.Repeat(c, k)
			if n, k := impl.ReadVar(s); n != 0 || k != 0 {
				t.Errorf("ReadVar(%q) = %d, %d, want 0, 0", s, n, k)
			}
		}
	}
}

func TestReadVarRefusesWhateverStandsBehind(t *testing.T) {
	for _, s := range []string{
		"\x80\x00",
		"\xff\x00",
		"\x81\x80\x00",
		"\x80\x80\x00",
		"\xff\xff\xff\xff\xff\xff\x00",
		"\x80\x80\x80\x80\x80\x80\x80",
		"\xff\xff\xff\xff\xff\xff\xff",
		"\xff\xff\xff\xff\xff\xff\xff\x00",
		"\xff\xff\xff\xff\xff\xff\xff\x01",
		"\x80\x80\x80\x80\x80\x80\x80\x80\x80\x01",
		strings.Repeat("\x80", 100) + "\x01",
	} {
		for _, behind := range append(behinds(), "\x01") {
			if n, k := impl.ReadVar(s + behind); n != 0 || k != 0 {
				t.Errorf("ReadVar(%q) = %d, %d, want 0, 0", s+behind, n, k)
			}
		}
	}
}

func TestReadVarTakesWhatVarMakes(t *testing.T) {
	made := map[string]int{}
	for n := range 128 * 128 {
		made[impl.Var(n)] = n
	}
	for _, s := range texts(allBytes(), 2) {
		want, bytes := 0, 0
		for k := 1; k <= len(s); k++ {
			if n, ok := made[s[:k]]; ok {
				want, bytes = n, k
			}
		}
		if n, k := impl.ReadVar(s); n != want || k != bytes {
			t.Fatalf("ReadVar(%q) = %d, %d, want %d, %d", s, n, k, want, bytes)
		}
	}
	for _, s := range texts("\x00\x01\x7f\x80\x81\xff", 8) {
		n, k := impl.ReadVar(s)
		if k != 0 && impl.Var(n) != s[:k] || k == 0 && n != 0 {
			t.Fatalf("ReadVar(%q) = %d, %d, of which Var makes %q", s, n, k, impl.Var(n))
		}
	}
}

func TestHexAndUnhex(t *testing.T) {
	for s, want := range map[string]string{
		"":             "",
		"\x00":         "00",
		"\x0f\xf0":     "0ff0",
		"a\xff":        "61ff",
		"\x9a\xbc\xde": "9abcde",
	} {
		if got := impl.Hex(s); got != want {
			t.Errorf("Hex(%q) = %q, want %q", s, got, want)
		}
		if got, ok := impl.Unhex(want); got != s || !ok {
			t.Errorf("Unhex(%q) = %q, %v, want %q", want, got, ok, s)
		}
	}
	for _, s := range append(texts(allBytes(), 2), allBytes(), strings.Repeat(allBytes(), 9)) {
		if got, ok := impl.Unhex(impl.Hex(s)); got != s || !ok || len(impl.Hex(s)) != 2*len(s) {
			t.Fatalf("Unhex(%q) = %q, %v, want %q", impl.Hex(s), got, ok, s)
		}
	}
}

func TestUnhexTakesWhatHexMakes(t *testing.T) {
	made := map[string]int{}
	for c := range 256 {
		made[impl.Hex(string([]byte{byte(c)}))] = c
	}
	for _, s := range texts(allBytes(), 2)[1:] {
		want, fits := "", false
		if c, ok := made[s]; ok {
			want, fits = string([]byte{byte(c)}), true
		}
		if got, ok := impl.Unhex(s); got != want || ok != fits {
			t.Fatalf("Unhex(%q) = %q, %v, want %q, %v", s, got, ok, want, fits)
		}
	}
	for _, s := range []string{"6F", "6f6F", "FF", "0", "000", "6ff", "6g", "g6", " 6", "6 ", "0x61", "-1", "61 ", "6\xff", "61\x00\x00", "616", "61zz", "zz61"} {
		if got, ok := impl.Unhex(s); got != "" || ok {
			t.Errorf("Unhex(%q) = %q, %v, want nothing", s, got, ok)
		}
	}
}

func TestDecMakes(t *testing.T) {
	for n, want := range map[int]string{
		0:                    "0",
		7:                    "7",
		10:                   "10",
		-1:                   "-1",
		-120:                 "-120",
		999999999:            "999999999",
		1000000000:           "1000000000",
		-1000000000:          "-1000000000",
		impl.MaxVar:          "562949953421311",
		math.MaxInt:          "9223372036854775807",
		math.MinInt:          "-9223372036854775808",
		math.MinInt + 1:      "-9223372036854775807",
		-1000000000000000000: "-1000000000000000000",
	} {
		if got := impl.Dec(n); got != want {
			t.Errorf("Dec(%d) = %q, want %q", n, got, want)
		}
	}
}

func TestDecIsReadAsItsNumber(t *testing.T) {
	numbers := append(wholes(), 999999999, 1000000000, -999999999, -1000000000, 100000000, -100000000)
	for n := range 20001 {
		numbers = append(numbers, n-10000)
	}
	for _, n := range numbers {
		want, fits := n, n >= -999999999 && n <= 999999999
		if !fits {
			want = 0
		}
		if m, ok := impl.ReadDec(impl.Dec(n)); m != want || ok != fits {
			t.Errorf("ReadDec(%q) = %d, %v, want %d, %v", impl.Dec(n), m, ok, want, fits)
		}
	}
}

func TestReadDecRefuses(t *testing.T) {
	for _, s := range []string{
		"", "-", "+", "-0", "+0", "+1", "00", "01", "-01", "-00", "--1", "-+1", "1-", "1+",
		" 1", "1 ", " ", "- 1", "1 2", "1\n", "1\x00", "\x001", "1.0", "1e3", "0x1", "1_0", "a", "1a", "a1", "-a",
		"1000000000", "-1000000000", "0000000001", "0000000000", "999999999 ", "-999999999-",
		"9223372036854775807", "9223372036854775808", "18446744073709551616", "18446744073709551617",
		"\xd9\xa1", "\uff11", strings.Repeat("1", 1000), "1" + strings.Repeat("0", 64),
	} {
		if n, ok := impl.ReadDec(s); n != 0 || ok {
			t.Errorf("ReadDec(%q) = %d, %v, want 0, false", s, n, ok)
		}
	}
}

func TestReadDecTakesWhatDecMakes(t *testing.T) {
	made := map[string]int{}
	for n := range 19999 {
		made[impl.Dec(n-9999)] = n - 9999
	}
	for _, s := range texts("-+019 /:a", 4) {
		want, fits := made[s]
		if n, ok := impl.ReadDec(s); n != want || ok != fits {
			t.Errorf("ReadDec(%q) = %d, %v, want %d, %v", s, n, ok, want, fits)
		}
	}
}
