package tests

import (
	"math"
	"strconv"
	"testing"

	"loop.example/g01919/impl"
)

// formatOfValue says what FormatValue has to return, computed in another way.
func formatOfValue(v int) string {
	switch {
	case 0 <= v && v <= 9:
		return strconv.Itoa(v)
	case -40 <= v && v <= -1:
		return "n" + strconv.Itoa(-v-1)
	}
	return ""
}

func TestValueLimits(t *testing.T) {
	if impl.MaxConst != 9 || impl.MaxNulls != 40 {
		t.Error("the limits are", impl.MaxConst, "and", impl.MaxNulls)
	}
}

func TestNullValue(t *testing.T) {
	cases := []struct{ k, want int }{
		{0, -1},
		{1, -2},
		{impl.MaxNulls - 1, -40},
		{impl.MaxNulls, -41},
		{-1, 0},
		{-10, 9},
		{math.MaxInt, math.MinInt},
		{math.MinInt, math.MaxInt},
	}
	for _, c := range cases {
		if got := impl.NullValue(c.k); got != c.want {
			t.Errorf("NullValue(%d) = %d, want %d", c.k, got, c.want)
		}
	}
}

func TestIsNull(t *testing.T) {
	for _, v := range []int{-1, -2, -40, -41, -1000, math.MinInt} {
		if !impl.IsNull(v) {
			t.Errorf("IsNull(%d) is false", v)
		}
	}
	for _, v := range []int{0, 1, 9, 10, 40, math.MaxInt} {
		if impl.IsNull(v) {
			t.Errorf("IsNull(%d) is true", v)
		}
	}
}

func TestNullNumber(t *testing.T) {
	for k := range impl.MaxNulls {
		if got, ok := impl.NullNumber(impl.NullValue(k)); got != k || !ok {
			t.Errorf("NullNumber(NullValue(%d)) = %d, %v", k, got, ok)
		}
	}
	for _, v := range []int{0, 1, 9, 10, 39, 40, math.MaxInt, -41, -42, -1000, math.MinInt + 1, math.MinInt} {
		if got, ok := impl.NullNumber(v); got != 0 || ok {
			t.Errorf("NullNumber(%d) = %d, %v", v, got, ok)
		}
	}
}

func TestIsValidValue(t *testing.T) {
	cases := []struct {
		v    int
		want bool
	}{
		{0, true},
		{impl.MaxConst, true},
		{impl.MaxConst + 1, false},
		{math.MaxInt, false},
		{-1, true},
		{-impl.MaxNulls, true},
		{impl.NullValue(impl.MaxNulls - 1), true},
		{impl.NullValue(impl.MaxNulls), false},
		{-impl.MaxNulls - 1, false},
		{math.MinInt, false},
	}
	for _, c := range cases {
		if got := impl.IsValidValue(c.v); got != c.want {
			t.Errorf("IsValidValue(%d) = %v, want %v", c.v, got, c.want)
		}
	}
}

func TestFormatValue(t *testing.T) {
	cases := []struct {
		v    int
		want string
	}{
		{-3, "n2"},
		{0, "0"},
		{9, "9"},
		{10, ""},
		{-1, "n0"},
		{-10, "n9"},
		{-11, "n10"},
		{-40, "n39"},
		{-41, ""},
		{math.MaxInt, ""},
		{math.MinInt, ""},
	}
	for _, c := range cases {
		if got := impl.FormatValue(c.v); got != c.want {
			t.Errorf("FormatValue(%d) = %q, want %q", c.v, got, c.want)
		}
	}
}

func TestValueInverse(t *testing.T) {
	valid := 0
	for v := -300; v <= 300; v++ {
		s := impl.FormatValue(v)
		if want := formatOfValue(v); s != want || impl.IsValidValue(v) != (want != "") {
			t.Errorf("FormatValue(%d) = %q, want %q; IsValidValue is %v", v, s, want, impl.IsValidValue(v))
		}
		if s == "" {
			continue
		}
		valid++
		if got, ok := impl.ParseValue(s); got != v || !ok {
			t.Errorf("ParseValue(%q) = %d, %v, want %d", s, got, ok, v)
		}
	}
	if valid != 50 {
		t.Errorf("%d values are valid, want 50", valid)
	}
}

func TestParseValueRejects(t *testing.T) {
	for _, s := range []string{
		"", "10", "99", "00", "07", "-0", "-1", "-3", "+1", "1n", "1 ", " 1", "1\n", "1\x00", "12345678901",
		"n", "n40", "n41", "n99", "n100", "n999999999", "n1000000000", "n18446744073709551616", "n9223372036854775807", "n-9223372036854775808",
		"n-1", "n-0", "n-10", "n+1", "n00", "n01", "n039", "n 1", " n1", "n1 ", "n1n", "nn1", "nn", "n1\n", "n\x001",
		"N1", "m1", "0n", "x", "\xff", "n\xff", "n\u0661", "\u0661", "n0x1", "n1_0", "n1.0",
	} {
		if v, ok := impl.ParseValue(s); v != 0 || ok {
			t.Errorf("ParseValue(%q) = %d, %v", s, v, ok)
		}
	}
}

func TestParseValueAcceptsNothingElse(t *testing.T) {
	want := map[string]int{}
	for v := -40; v <= 9; v++ {
		want[formatOfValue(v)] = v
	}
	candidates := append(stringsOver(allBytes(), 2), stringsOver("nN+-0123456789 _\x00", 4)...)
	for _, s := range candidates {
		v, ok := impl.ParseValue(s)
		wanted, valid := want[s]
		if v != wanted || ok != valid {
			t.Fatalf("ParseValue(%q) = %d, %v, want %d, %v", s, v, ok, wanted, valid)
		}
	}
}
