package impl

import (
	"strconv"
	"strings"
)

const MaxVar = 562949953421311

const maxFixedWidth = 7
const maxVarBytes = 7
const maxDecDigits = 9

const hexDigits = "0123456789abcdef"

func widthOk(width int) bool { return width >= 1 && width <= maxFixedWidth }

func Fixed(n int, width int) string {
	if !widthOk(width) || n < 0 || n>>(8*width) != 0 {
		return ""
	}
	b := make([]byte, width)
	for i := range width {
		b[width-1-i] = byte(n >> (8 * i))
	}
	return string(b)
}

func ReadFixed(s string, width int) (int, bool) {
	if !widthOk(width) || len(s) < width {
		return 0, false
	}
	n := 0
	for i := range width {
		n = n<<8 | int(s[i])
	}
	return n, true
}

func Var(n int) string {
	if n < 0 || n > MaxVar {
		return ""
	}
	b := make([]byte, 0, maxVarBytes)
	for n >= 128 {
		b = append(b, byte(n%128+128))
		n /= 128
	}
	return string(append(b, byte(n)))
}

func ReadVar(s string) (int, int) {
	n := 0
reading:
	for i := range min(len(s), maxVarBytes) {
		c := int(s[i])
		n += (c % 128) << (7 * i)
		switch {
		case c >= 128:
			// Another byte must follow.
		case c == 0 && i > 0:
			// It adds nothing: Var would have ended one byte ahead of it.
			break reading
		default:
			return n, i + 1
		}
	}
	return 0, 0
}

func Hex(s string) string {
	b := make([]byte, 0, 2*len(s))
	for i := range len(s) {
		b = append(b, hexDigits[s[i]/16], hexDigits[s[i]%16])
	}
	return string(b)
}

func Unhex(s string) (string, bool) {
	if len(s)%2 != 0 {
		return "", false
	}
	b := make([]byte, 0, len(s)/2)
	for i := range len(s) / 2 {
		high := strings.IndexByte(hexDigits, s[2*i])
		low := strings.IndexByte(hexDigits, s[2*i+1])
		if high < 0 || low < 0 {
			return "", false
		}
		b = append(b, byte(16*high+low))
	}
	return string(b), true
}

func Dec(n int) string { return strconv.Itoa(n) }

func ReadDec(s string) (int, bool) {
	digits, below := strings.CutPrefix(s, "-")
	n := 0
reading:
	for i := range len(digits) {
		if i == maxDecDigits || digits[i] < '0' || digits[i] > '9' {
			break reading
		}
		n = 10*n + int(digits[i]-'0')
	}
	if below {
		n = -n
	}
	// A text that was left early, a sign alone, "-0" and needless noughts
	// have in common that Dec makes another text of what was read.
	if Dec(n) != s {
		return 0, false
	}
	return n, true
}
