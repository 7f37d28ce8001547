package tests

import (
	"math"
	"strconv"
	"strings"
	"testing"

	"loop.example/g01919/impl"
)

// stringsOver returns all strings of up to length bytes of the alphabet, the empty string first.
func stringsOver(alphabet string, length int) []string {
	all := []string{""}
	for start := 0; length > 0; length-- {
		end := len(all)
		for _, prefix := range all[start:end] {
			for i := range len(alphabet) {
				all = append(all, prefix+alphabet[i:i+1])
			}
		}
		start = end
	}
	return all
}

// allBytes returns a string of every byte value.
func allBytes() string {
	bytes := make([]byte, 256)
	for i := range bytes {
		bytes[i] = byte(i)
	}
	return string(bytes)
}

// changedStrings returns the string itself and all strings that follow from it by inserting, replacing or removing one byte.
func changedStrings(s string) []string {
	all := []string{s}
	for i := range len(s) + 1 {
		for _, inserted := range stringsOver(allBytes(), 1) {
			all = append(all, s[:i]+inserted+s[i:])
			if i < len(s) {
				all = append(all, s[:i]+inserted+s[i+1:])
			}
		}
	}
	return all
}

// spreadNumbers returns numbers from 0 to limit: those beside each power of two, and some between them.
func spreadNumbers(limit int) []int {
	var numbers []int
	for bit := range 63 {
		power := 1 << bit
		for _, n := range []int{power - 1, power, power + 1, power / 5 * 7, power / 11 * 13} {
			if 0 <= n && n <= limit {
				numbers = append(numbers, n)
			}
		}
	}
	return append(numbers, limit-1, limit)
}

func TestEncodeFixed(t *testing.T) {
	cases := []struct {
		n, width int
		want     string
	}{
		{258, 2, "\x01\x02"},
		{0, 1, "\x00"},
		{0, 7, "\x00\x00\x00\x00\x00\x00\x00"},
		{1, 3, "\x00\x00\x01"},
		{255, 1, "\xff"},
		{256, 1, ""},
		{256, 2, "\x01\x00"},
		{0x01020304050607, 7, "\x01\x02\x03\x04\x05\x06\x07"},
		{1<<56 - 1, 7, "\xff\xff\xff\xff\xff\xff\xff"},
		{1 << 56, 7, ""},
		{math.MaxInt, 7, ""},
		{math.MaxInt, 8, ""},
		{-1, 1, ""},
		{-1, 7, ""},
		{math.MinInt, 7, ""},
		{0, 0, ""},
		{1, 0, ""},
		{0, 8, ""},
		{1, 8, ""},
		{0, -1, ""},
		{0, math.MinInt, ""},
		{0, math.MaxInt, ""},
	}
	for _, c := range cases {
		if got := impl.EncodeFixed(c.n, c.width); got != c.want {
			t.Errorf("EncodeFixed(%d, %d) = %q, want %q", c.n, c.width, got, c.want)
		}
	}
}

func TestFixedLimits(t *testing.T) {
	for width := 1; width <= 7; width++ {
		limit := 1<<(8*width) - 1
		if got := impl.EncodeFixed(limit, width); got != strings.Repeat("\xff", width) {
			t.Errorf("EncodeFixed(%d, %d) = %q", limit, width, got)
		}
		if got := impl.EncodeFixed(limit+1, width); got != "" {
			t.Errorf("EncodeFixed(%d, %d) = %q", limit+1, width, got)
		}
	}
}

func TestDecodeFixed(t *testing.T) {
	cases := []struct {
		s     string
		width int
		want  int
		ok    bool
	}{
		{"\x01\x02", 2, 258, true},
		{"\x01\x02\x03", 2, 258, true},
		{"\x01\x02", 1, 1, true},
		{"\x00", 1, 0, true},
		{"\xff\xff\xff\xff\xff\xff\xff", 7, 1<<56 - 1, true},
		{"\xff\xff\xff\xff\xff\xff\xff\xff", 7, 1<<56 - 1, true},
		{"", 1, 0, false},
		{"a", 2, 0, false},
		{"abcdef", 7, 0, false},
		{"abc", 0, 0, false},
		{"", 0, 0, false},
		{"abc", -1, 0, false},
		{"abc", math.MinInt, 0, false},
		{"abcdefgh", 8, 0, false},
		{"abcdefghijkl", 9, 0, false},
		{"abcdefgh", math.MaxInt, 0, false},
	}
	for _, c := range cases {
		if got, ok := impl.DecodeFixed(c.s, c.width); got != c.want || ok != c.ok {
			t.Errorf("DecodeFixed(%q, %d) = %d, %v, want %d, %v", c.s, c.width, got, ok, c.want, c.ok)
		}
	}
}

func TestFixedInverse(t *testing.T) {
	for width := 1; width <= 7; width++ {
		for _, n := range spreadNumbers(1<<(8*width) - 1) {
			s := impl.EncodeFixed(n, width)
			if len(s) != width {
				t.Fatalf("EncodeFixed(%d, %d) = %q", n, width, s)
			}
			if got, ok := impl.DecodeFixed(s+"\x80", width); got != n || !ok {
				t.Errorf("DecodeFixed(%q, %d) = %d, %v, want %d", s, width, got, ok, n)
			}
		}
	}
	for _, s := range stringsOver("\x00\x01\x7f\x80\xff", 7)[1:] {
		n, ok := impl.DecodeFixed(s, len(s))
		if !ok || impl.EncodeFixed(n, len(s)) != s {
			t.Fatalf("DecodeFixed(%q) = %d, %v", s, n, ok)
		}
	}
}

func TestEncodeVarint(t *testing.T) {
	cases := []struct {
		n    int
		want string
	}{
		{300, "\xac\x02"},
		{0, "\x00"},
		{1, "\x01"},
		{127, "\x7f"},
		{128, "\x80\x01"},
		{16383, "\xff\x7f"},
		{16384, "\x80\x80\x01"},
		{1<<42 - 1, "\xff\xff\xff\xff\xff\x7f"},
		{1 << 42, "\x80\x80\x80\x80\x80\x80\x01"},
		{impl.MaxVarint - 1, "\xfe\xff\xff\xff\xff\xff\x7f"},
		{impl.MaxVarint, "\xff\xff\xff\xff\xff\xff\x7f"},
		{impl.MaxVarint + 1, ""},
		{math.MaxInt, ""},
		{-1, ""},
		{math.MinInt, ""},
	}
	for _, c := range cases {
		if got := impl.EncodeVarint(c.n); got != c.want {
			t.Errorf("EncodeVarint(%d) = %q, want %q", c.n, got, c.want)
		}
	}
	if impl.MaxVarint != 1<<49-1 {
		t.Error("MaxVarint is", impl.MaxVarint)
	}
}

func TestDecodeVarint(t *testing.T) {
	cases := []struct {
		s         string
		n, length int
	}{
		{"\xac\x02", 300, 2},
		{"\xac\x02z", 300, 2},
		{"\x00", 0, 1},
		{"\x00\x00", 0, 1},
		{"\x7f\x80", 127, 1},
		{"\x80\x80\x01", 16384, 3},
		{"\xff\xff\xff\xff\xff\xff\x7f", impl.MaxVarint, 7},
		{"\xff\xff\xff\xff\xff\xff\x7f\xff", impl.MaxVarint, 7},
		{"", 0, 0},
		{"\x80", 0, 0},
		{"\xff\xff\xff\xff\xff\xff", 0, 0},
		{"\x80\x00", 0, 0},
		{"\xac\x82\x00", 0, 0},
		{"\xff\xff\xff\xff\xff\xff\x00", 0, 0},
		{"\x80\x80\x80\x80\x80\x80\x80\x01", 0, 0},
		{"\xff\xff\xff\xff\xff\xff\xff\x00", 0, 0},
		{"\xff\xff\xff\xff\xff\xff\xff\x7f", 0, 0},
		{strings.Repeat("\x80", 9) + "\x01", 0, 0},
		{strings.Repeat("\xff", 100) + "\x01", 0, 0},
	}
	for _, c := range cases {
		if n, length := impl.DecodeVarint(c.s); n != c.n || length != c.length {
			t.Errorf("DecodeVarint(%q) = %d, %d, want %d, %d", c.s, n, length, c.n, c.length)
		}
	}
}

func TestVarintInverse(t *testing.T) {
	for _, n := range spreadNumbers(impl.MaxVarint) {
		s := impl.EncodeVarint(n)
		for _, rest := range []string{"", "\x00", "\x80", "\xff\x01"} {
			if got, length := impl.DecodeVarint(s + rest); got != n || length != len(s) || length == 0 {
				t.Errorf("DecodeVarint(%q) = %d, %d, want %d, %d", s+rest, got, length, n, len(s))
			}
		}
		for cut := range len(s) {
			if got, length := impl.DecodeVarint(s[:cut]); got != 0 || length != 0 {
				t.Errorf("DecodeVarint(%q) = %d, %d", s[:cut], got, length)
			}
		}
	}
}

func checkVarintPrefix(t *testing.T, s string) {
	t.Helper()
	n, length := impl.DecodeVarint(s)
	if length > 0 && impl.EncodeVarint(n) != s[:length] {
		t.Fatalf("DecodeVarint(%q) = %d, %d, which is not its varint", s, n, length)
	}
	if length > 0 {
		return
	}
	// Without a varint, each byte carries on, or the first that does not is a needless zero.
	end := 0
	for end < len(s) && s[end] >= 128 {
		end++
	}
	needless := end > 0 && end < len(s) && s[end] == 0
	if n != 0 || end < len(s) && end < 7 && !needless {
		t.Fatalf("DecodeVarint(%q) = %d, %d", s, n, length)
	}
}

func TestDecodeVarintAcceptsNothingElse(t *testing.T) {
	for _, s := range stringsOver(allBytes(), 2) {
		checkVarintPrefix(t, s)
	}
	for _, s := range stringsOver("\x00\x01\x7f\x80\xff", 8) {
		checkVarintPrefix(t, s)
	}
}

func TestEncodeHex(t *testing.T) {
	cases := []struct{ s, want string }{
		{"", ""},
		{"a\xff", "61ff"},
		{"\x00", "00"},
		{"\x0a\xa0", "0aa0"},
		{"\x01\x23\x45\x67\x89\xab\xcd\xef", "0123456789abcdef"},
		{"\u00e9", "c3a9"},
	}
	for _, c := range cases {
		if got := impl.EncodeHex(c.s); got != c.want {
			t.Errorf("EncodeHex(%q) = %q, want %q", c.s, got, c.want)
		}
		if got, ok := impl.DecodeHex(c.want); got != c.s || !ok {
			t.Errorf("DecodeHex(%q) = %q, %v, want %q", c.want, got, ok, c.s)
		}
	}
}

func TestHexInverse(t *testing.T) {
	all := allBytes()
	encoded := impl.EncodeHex(all)
	if decoded, ok := impl.DecodeHex(encoded); len(encoded) != 512 || decoded != all || !ok {
		t.Errorf("DecodeHex(%q) = %q, %v", encoded, decoded, ok)
	}
	accepted := 0
	for _, s := range stringsOver(all, 2) {
		decoded, ok := impl.DecodeHex(s)
		if ok && impl.EncodeHex(decoded) != s || !ok && decoded != "" {
			t.Fatalf("DecodeHex(%q) = %q, %v", s, decoded, ok)
		}
		if ok {
			accepted++
		}
	}
	if accepted != 257 {
		t.Errorf("%d strings of at most 2 bytes are accepted, want 257", accepted)
	}
}

func TestDecodeHexRejects(t *testing.T) {
	for _, s := range []string{"6", "6F", "F6", "61f", "61fff", "6g", "/0", "0:", "`0", "0G", " 61", "61 ", "61\n", "0x61", "6\x00", "61\xff0", "+1", "\u0661\u0661"} {
		if decoded, ok := impl.DecodeHex(s); decoded != "" || ok {
			t.Errorf("DecodeHex(%q) = %q, %v", s, decoded, ok)
		}
	}
	good := "00112233"
	for i := range len(good) {
		s := good[:i] + "A" + good[i+1:]
		if decoded, ok := impl.DecodeHex(s); decoded != "" || ok {
			t.Errorf("DecodeHex(%q) = %q, %v", s, decoded, ok)
		}
	}
}

func TestFormatInt(t *testing.T) {
	cases := []struct {
		n    int
		want string
	}{
		{0, "0"},
		{7, "7"},
		{-7, "-7"},
		{10, "10"},
		{-120, "-120"},
		{1000000000, "1000000000"},
		{-1000000000, "-1000000000"},
		{math.MaxInt, "9223372036854775807"},
		{math.MinInt, "-9223372036854775808"},
		{math.MinInt + 1, "-9223372036854775807"},
	}
	for _, c := range cases {
		if got := impl.FormatInt(c.n); got != c.want {
			t.Errorf("FormatInt(%d) = %q, want %q", c.n, got, c.want)
		}
	}
}

func TestParseInt(t *testing.T) {
	cases := []struct {
		s    string
		want int
		ok   bool
	}{
		{"0", 0, true},
		{"-7", -7, true},
		{"100", 100, true},
		{"999999999", 999999999, true},
		{"-999999999", -999999999, true},
		{"-99999999", -99999999, true},
		{"1000000000", 0, false},
		{"-1000000000", 0, false},
		{"0000000001", 0, false},
		{"9223372036854775807", 0, false},
		{"-9223372036854775808", 0, false},
		{"18446744073709551617", 0, false},
		{strings.Repeat("9", 1000), 0, false},
	}
	for _, c := range cases {
		if got, ok := impl.ParseInt(c.s); got != c.want || ok != c.ok {
			t.Errorf("ParseInt(%q) = %d, %v, want %d, %v", c.s, got, ok, c.want, c.ok)
		}
	}
}

func TestParseIntRejects(t *testing.T) {
	for _, s := range []string{"", "-", "--", "--1", "-0", "-07", "07", "00", "+1", "+0", "1-", "1-1", " 1", "1 ", "1\n", "1\x00", "\x00", "1.0", "1e2", "1_0", "0x1", "0b1", "a", "\xff", "\u0661", "\uff11", "\u22121", "NaN"} {
		if n, ok := impl.ParseInt(s); n != 0 || ok {
			t.Errorf("ParseInt(%q) = %d, %v", s, n, ok)
		}
	}
}

func TestIntInverse(t *testing.T) {
	numbers := spreadNumbers(999999999)
	for n := range 2000 {
		numbers = append(numbers, n)
	}
	for _, n := range numbers {
		for _, m := range []int{n, -n} {
			if got, ok := impl.ParseInt(impl.FormatInt(m)); got != m || !ok {
				t.Errorf("ParseInt(%q) = %d, %v", impl.FormatInt(m), got, ok)
			}
		}
	}
	accepted := map[string]bool{}
	for n := -99; n <= 999; n++ {
		accepted[strconv.Itoa(n)] = true
	}
	for _, s := range stringsOver("+-0123456789_ x\x00", 3) {
		if n, ok := impl.ParseInt(s); ok != accepted[s] || ok && impl.FormatInt(n) != s || !ok && n != 0 {
			t.Fatalf("ParseInt(%q) = %d, %v", s, n, ok)
		}
	}
}
