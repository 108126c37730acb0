package tests

import (
	"strings"
	"testing"

	"loop.example/g00781/impl"
)

// crcBit is the sum bit by bit, in the document's own words.
func crcBit(s string) int {
	c := 4294967295
	for i := range len(s) {
		c ^= int(s[i])
		for range 8 {
			odd := c%2 == 1
			c /= 2
			if odd {
				c ^= 2197175160
			}
		}
	}
	return 4294967295 - c
}

// varied is a text of n bytes in which neighbours are unlike.
func varied(n int) string {
	b := make([]byte, n)
	for i := range b {
		b[i] = byte(i*i + 7*i + i/256)
	}
	return string(b)
}

func withByte(s string, at int, c byte) string { return s[:at] + string([]byte{c}) + s[at+1:] }

func TestCrcKnown(t *testing.T) {
	for _, c := range []struct {
		s    string
		want int
	}{
		{"123456789", 3808858755},
		{"", 0},
		{"\x00", 1383945041},
		{"\xff", 4278190080},
		{"a", 3251651376},
		{"abc", 910901175},
		{"\x00\x00\x00\x00", 1214729159},
		{"\xff\xff\xff\xff", 4294967295},
		{strings.Repeat("\x00", 32), 2324772522},
		{strings.Repeat("\xff", 32), 1655221059},
		{"987654321", 3832272784},
	} {
		if got := impl.Crc(c.s); got != c.want {
			t.Errorf("Crc(%q) = %d, want %d", c.s, got, c.want)
		}
	}
}

func TestCrcIsAsSaid(t *testing.T) {
	l := texts(allBytes(), 2)
	for n := range 70 {
		l = append(l, varied(n), strings.Repeat("\x00", n), strings.Repeat("\xff", n), strings.Repeat("\x00\xff", n))
	}
	l = append(l, allBytes(), varied(4096), varied(100003), strings.Repeat("\x00", 65536), strings.Repeat("\xff", 65537))
	for _, s := range l {
		if got, want := impl.Crc(s), crcBit(s); got != want {
			t.Fatalf("Crc of %d bytes that begin with %q = %d, want %d", len(s), s[:min(len(s), 9)], got, want)
		}
	}
}

func TestCrcIsFrom0To32Bits(t *testing.T) {
	for _, s := range append(texts(allBytes(), 1), varied(1000)) {
		if got := impl.Crc(s); got < 0 || got > 4294967295 {
			t.Errorf("Crc(%q) = %d", s, got)
		}
	}
}

func TestCrcOfOneByteEachUnlike(t *testing.T) {
	seen := map[int]string{}
	for _, s := range texts(allBytes(), 1) {
		c := impl.Crc(s)
		if other, ok := seen[c]; ok {
			t.Errorf("Crc of %q and of %q are both %d", s, other, c)
		}
		seen[c] = s
	}
}

func TestCrcTellsOneByteApart(t *testing.T) {
	for _, s := range []string{"\x00", "a", "123456789", strings.Repeat("\x00", 40), strings.Repeat("\xff", 40), varied(64), varied(300)} {
		for at := range len(s) {
			seen := map[int]int{}
			for c := range 256 {
				sum := impl.Crc(withByte(s, at, byte(c)))
				if other, ok := seen[sum]; ok {
					t.Fatalf("of %q with byte %d as %d and as %d Crc is %d", s, at, c, other, sum)
				}
				seen[sum] = c
			}
		}
	}
}

func TestCrcTellsOneByteOfALongTextApart(t *testing.T) {
	s := varied(50000)
	sum := impl.Crc(s)
	for at := 0; at < len(s); at += 499 {
		for _, turn := range []byte{1, 16, 128, 255} {
			if impl.Crc(withByte(s, at, s[at]^turn)) == sum {
				t.Fatalf("byte %d turned by %d is not told", at, turn)
			}
		}
	}
}

func TestCrcTellsNoughtsAheadAndBehind(t *testing.T) {
	for _, s := range []string{"", "a", "123456789", "\x00", "\xff", allBytes()} {
		seen := map[int]int{}
		for n := range 300 {
			sum := impl.Crc(s + strings.Repeat("\x00", n))
			if other, ok := seen[sum]; ok {
				t.Errorf("of %q Crc is alike with %d and with %d noughts behind", s, other, n)
			}
			seen[sum] = n
		}
		clear(seen)
		for n := range 300 {
			sum := impl.Crc(strings.Repeat("\x00", n) + s)
			if other, ok := seen[sum]; ok {
				t.Errorf("of %q Crc is alike with %d and with %d noughts ahead", s, other, n)
			}
			seen[sum] = n
		}
	}
}

func TestCrcKeepsNothing(t *testing.T) {
	first := impl.Crc("123456789")
	impl.Crc("abc")
	if again := impl.Crc("123456789"); again != first || impl.Crc("") != 0 {
		t.Errorf("Crc is %d at first and %d behind another text", first, again)
	}
}
