package impl

import (
	"strconv"
	"strings"
)

const MaxVarint = 562949953421311

// A number of 7 bytes has 56 bits, so it never reaches the sign bit of an int.
const maxFixedWidth = 7

// MaxVarint has 49 bits: 7 groups of 7 bits.
const maxVarintBytes = 7

const maxIntDigits = 9

func EncodeFixed(n int, width int) string {
	if !isFixedWidth(width) || n < 0 || n>>(8*width) != 0 {
		return ""
	}
	encoded := make([]byte, width)
	for i := range encoded {
		encoded[width-1-i] = byte(n >> (8 * i))
	}
	return string(encoded)
}

func DecodeFixed(s string, width int) (int, bool) {
	if !isFixedWidth(width) || len(s) < width {
		return 0, false
	}
	n := 0
	for i := range width {
		n = n<<8 | int(s[i])
	}
	return n, true
}

func isFixedWidth(width int) bool {
	return 1 <= width && width <= maxFixedWidth
}

func EncodeVarint(n int) string {
	if n < 0 || n > MaxVarint {
		return ""
	}
	encoded := make([]byte, 0, maxVarintBytes)
	for n >= 0x80 {
		encoded = append(encoded, byte(n&0x7f|0x80))
		n >>= 7
	}
	return string(append(encoded, byte(n)))
}

func DecodeVarint(s string) (int, int) {
	n := 0
	for i := range min(len(s), maxVarintBytes) {
		n |= int(s[i]&0x7f) << (7 * i)
		if s[i] >= 0x80 {
			continue
		}
		// A last group of zero bits could be left out, so EncodeVarint never writes it.
		if s[i] == 0 && i > 0 {
			return 0, 0
		}
		return n, i + 1
	}
	return 0, 0
}

const hexDigits = "0123456789abcdef"

func EncodeHex(s string) string {
	encoded := make([]byte, 0, 2*len(s))
	for i := range len(s) {
		encoded = append(encoded, hexDigits[s[i]>>4], hexDigits[s[i]&0xf])
	}
	return string(encoded)
}

func DecodeHex(s string) (string, bool) {
	if len(s)%2 != 0 {
		return "", false
	}
	decoded := make([]byte, 0, len(s)/2)
	for i := 0; i < len(s); i += 2 {
		high := strings.IndexByte(hexDigits, s[i])
		low := strings.IndexByte(hexDigits, s[i+1])
		if high < 0 || low < 0 {
			return "", false
		}
		decoded = append(decoded, byte(high<<4|low))
	}
	return string(decoded), true
}

func FormatInt(n int) string {
	return strconv.Itoa(n)
}

func ParseInt(s string) (int, bool) {
	if len(strings.TrimPrefix(s, "-")) > maxIntDigits {
		return 0, false
	}
	n, err := strconv.Atoi(s)
	// Atoi also reads a leading plus, leading zeros and -0, which FormatInt never writes.
	if err != nil || FormatInt(n) != s {
		return 0, false
	}
	return n, true
}
