package tests

import (
	"math"
	"regexp"
	"slices"
	"strings"
	"testing"

	"loop.example/g01919/impl"
)

// factSchema has a source relation and target relations of each arity, so that a name, an index and an arity are different things.
func factSchema() []impl.Relation {
	return []impl.Relation{{Name: "a", Arity: 2, Source: true}, {Name: "p", Arity: 1}, {Name: "q", Arity: 3}, {Name: "z", Arity: 2}}
}

const valuePattern = `(?:[0-9]|n[0-9]|n[12][0-9]|n3[0-9])`

// factPattern matches the facts over factSchema, written down without the help of the program.
var factPattern = regexp.MustCompile(`\A(?:[az]\(` + valuePattern + `,` + valuePattern + `\)|p\(` + valuePattern + `\)|q\(` + valuePattern + `,` + valuePattern + `,` + valuePattern + `\))\z`)

// invalidSchemas returns schemas that are invalid although each of them has a target relation p of arity 1 at index 1.
func invalidSchemas() [][]impl.Relation {
	p := impl.Relation{Name: "p", Arity: 1}
	return [][]impl.Relation{
		{{Name: "q", Arity: 1}, p},
		{p, p},
		{{Name: "a", Arity: 0}, p},
		{{Name: "a", Arity: impl.MaxArity + 1}, p},
		{{Name: "A", Arity: 1}, p},
		{{Name: "", Arity: 1}, p},
		{{Name: "a", Arity: 1}, p, {Name: "q", Arity: -1}},
		{{Name: "a", Arity: 1}, p, {Name: "q", Arity: 1}, {Name: "r", Arity: 1}, {Name: "s", Arity: 1}, {Name: "t", Arity: 1}, {Name: "u", Arity: 1}},
	}
}

func fact(relation int, values ...int) impl.Fact {
	return impl.Fact{Relation: relation, Values: values}
}

func sameFact(a impl.Fact, b impl.Fact) bool {
	return a.Relation == b.Relation && slices.Equal(a.Values, b.Values)
}

func isZeroFact(f impl.Fact) bool {
	return f.Relation == 0 && len(f.Values) == 0
}

// tuples returns all tuples of length of the values.
func tuples(values []int, length int) [][]int {
	all := [][]int{nil}
	for range length {
		var longer [][]int
		for _, tuple := range all {
			for _, v := range values {
				longer = append(longer, append(slices.Clone(tuple), v))
			}
		}
		all = longer
	}
	return all
}

func allValues() []int {
	var values []int
	for v := -40; v <= 9; v++ {
		values = append(values, v)
	}
	return values
}

// checkParseFact compares ParseFact over factSchema with factPattern.
func checkParseFact(t *testing.T, s string) {
	t.Helper()
	got, ok := impl.ParseFact(factSchema(), s)
	if ok != factPattern.MatchString(s) {
		t.Fatalf("ParseFact(%q) = %v, %v", s, got, ok)
	}
	if !ok && !isZeroFact(got) {
		t.Fatalf("ParseFact(%q) = %v, which is not the zero fact", s, got)
	}
	if ok && (!impl.IsValidFact(factSchema(), got) || impl.FormatFact(factSchema(), got) != s) {
		t.Fatalf("ParseFact(%q) = %v, which is formatted as %q", s, got, impl.FormatFact(factSchema(), got))
	}
}

func TestIsValidFact(t *testing.T) {
	for _, f := range []impl.Fact{
		fact(0, 0, 9), fact(1, 0), fact(1, 9), fact(1, -1), fact(1, -40), fact(2, 1, 1, 1), fact(2, -40, 9, -1), fact(3, -1, -1), fact(3, 0, 0),
	} {
		if !impl.IsValidFact(factSchema(), f) {
			t.Errorf("%v is invalid", f)
		}
	}
	for _, f := range []impl.Fact{
		{}, fact(0), fact(0, 1), fact(0, 1, 2, 3), fact(1), fact(1, 1, 2), fact(2, 1), fact(2, 1, 2), fact(2, 1, 2, 3, 4), fact(3, 1), fact(3, 1, 2, 3),
		fact(4, 1), fact(4, 1, 2), fact(4, 1, 2, 3), fact(-1, 1), fact(-1, 1, 2), fact(-4, 1, 2), fact(math.MaxInt, 1), fact(math.MinInt, 1), fact(4), fact(-1),
		{Relation: 1, Values: make([]int, 10000)},
	} {
		if impl.IsValidFact(factSchema(), f) || impl.FormatFact(factSchema(), f) != "" {
			t.Errorf("%v is valid, or formatted as %q", f, impl.FormatFact(factSchema(), f))
		}
	}
}

// TestOneInvalidValue puts each value near a limit at each place of a fact that is valid otherwise.
func TestOneInvalidValue(t *testing.T) {
	for relation, arity := range []int{2, 1, 3, 2} {
		for place := range arity {
			for _, v := range []int{math.MinInt, math.MinInt + 1, -1000, -42, -41, -40, -39, -1, 0, 1, 8, 9, 10, 11, 1000, math.MaxInt} {
				f := impl.Fact{Relation: relation, Values: make([]int, arity)}
				f.Values[place] = v
				want := -40 <= v && v <= 9
				if impl.IsValidFact(factSchema(), f) != want || (impl.FormatFact(factSchema(), f) != "") != want {
					t.Errorf("IsValidFact(%v) is not %v, or it is formatted as %q", f, want, impl.FormatFact(factSchema(), f))
				}
			}
		}
	}
}

func TestFactsOfInvalidRelations(t *testing.T) {
	for _, relations := range invalidSchemas() {
		f := fact(1, 5)
		if impl.IsValidFact(relations, f) || impl.FormatFact(relations, f) != "" {
			t.Errorf("%v is valid over %v, or formatted as %q", f, relations, impl.FormatFact(relations, f))
		}
		for _, s := range []string{"p(5)", "a()", "()", "(5)", "A(5)", ""} {
			if got, ok := impl.ParseFact(relations, s); !isZeroFact(got) || ok {
				t.Errorf("ParseFact(%v, %q) = %v, %v", relations, s, got, ok)
			}
		}
	}
	for _, relations := range [][]impl.Relation{nil, {}} {
		for _, f := range []impl.Fact{{}, fact(0, 1), fact(-1), fact(-1, 1)} {
			if impl.IsValidFact(relations, f) || impl.FormatFact(relations, f) != "" {
				t.Errorf("%v is valid over the empty schema, or formatted as %q", f, impl.FormatFact(relations, f))
			}
		}
		for _, s := range []string{"", "()", "a(1)", "(1)"} {
			if got, ok := impl.ParseFact(relations, s); !isZeroFact(got) || ok {
				t.Errorf("ParseFact over the empty schema of %q = %v, %v", s, got, ok)
			}
		}
	}
}

// TestNullInSourceFact: only chapter 5 excludes nulls from the source, and it does so for instances.
func TestNullInSourceFact(t *testing.T) {
	for s, f := range map[string]impl.Fact{"a(n0,1)": fact(0, -1, 1), "a(1,n39)": fact(0, 1, -40), "a(n2,n2)": fact(0, -3, -3)} {
		if !impl.IsValidFact(factSchema(), f) || impl.FormatFact(factSchema(), f) != s {
			t.Errorf("%v is invalid, or formatted as %q", f, impl.FormatFact(factSchema(), f))
		}
		if got, ok := impl.ParseFact(factSchema(), s); !sameFact(got, f) || !ok {
			t.Errorf("ParseFact(%q) = %v, %v", s, got, ok)
		}
	}
	if got := impl.NullsOfFact(fact(0, -3, 1)); !slices.Equal(got, []int{2}) {
		t.Errorf("the nulls of the source fact are %v", got)
	}
}

func TestCompareFacts(t *testing.T) {
	// Each fact is less than the next one, and most of them are facts of no schema.
	ascending := []impl.Fact{
		fact(math.MinInt, math.MaxInt), fact(-1), fact(-1, 0), {}, fact(0, math.MinInt), fact(0, -40, 9), fact(0, -3), fact(0, -1, 5), fact(0, 0), fact(0, 0, math.MinInt), fact(0, 0, 0), fact(0, 0, 0, 0), fact(0, 0, 1), fact(0, 1), fact(0, 1, 0), fact(0, 2),
		fact(0, 9, 9, 9, 9, 9), fact(0, 10), fact(0, math.MaxInt), fact(1), fact(1, 0), fact(2, -1), fact(math.MaxInt, math.MinInt), fact(math.MaxInt, math.MaxInt),
	}
	for i, a := range ascending {
		for j, b := range ascending {
			want := 0
			if i < j {
				want = -1
			} else if i > j {
				want = 1
			}
			if got := impl.CompareFacts(a, b); got != want {
				t.Errorf("CompareFacts(%v, %v) = %d, want %d", a, b, got, want)
			}
		}
	}
	if impl.CompareFacts(impl.Fact{}, impl.Fact{Values: []int{}}) != 0 {
		t.Error("nil and empty values differ")
	}
	if impl.CompareFacts(fact(1, 2, 3), fact(1, 2, 3)) != 0 {
		t.Error("equal facts with different slices differ")
	}
}

func TestFactFormat(t *testing.T) {
	for s, f := range map[string]impl.Fact{
		"a(0,9)":         fact(0, 0, 9),
		"p(5)":           fact(1, 5),
		"p(n0)":          fact(1, -1),
		"p(n39)":         fact(1, -40),
		"q(1,n2,n10)":    fact(2, 1, -3, -11),
		"q(n39,n39,n39)": fact(2, -40, -40, -40),
		"z(1,n2)":        fact(3, 1, -3),
	} {
		if got := impl.FormatFact(factSchema(), f); got != s {
			t.Errorf("FormatFact(%v) = %q, want %q", f, got, s)
		}
		if got, ok := impl.ParseFact(factSchema(), s); !sameFact(got, f) || !ok {
			t.Errorf("ParseFact(%q) = %v, %v, want %v", s, got, ok, f)
		}
	}
}

func TestFactInverse(t *testing.T) {
	seen := map[string]bool{}
	for relation, arity := range []int{2, 1, 3, 2} {
		for _, values := range tuples(allValues(), arity) {
			f := impl.Fact{Relation: relation, Values: values}
			s := impl.FormatFact(factSchema(), f)
			seen[s] = true
			if got, ok := impl.ParseFact(factSchema(), s); !sameFact(got, f) || !ok || !factPattern.MatchString(s) {
				t.Fatalf("%v is formatted as %q, which is parsed as %v, %v", f, s, got, ok)
			}
		}
	}
	if len(seen) != 2500+50+125000+2500 {
		t.Errorf("%d different formats", len(seen))
	}
}

// TestFactOfLargestSchema uses every index of a schema of MaxRelations relations.
func TestFactOfLargestSchema(t *testing.T) {
	relations := relationsNamed("bdfhjl")
	for i := range relations {
		f := fact(i, -1-i)
		s := "bdfhjl"[i:i+1] + "(n" + "012345"[i:i+1] + ")"
		if impl.FormatFact(relations, f) != s {
			t.Errorf("FormatFact(%v) = %q, want %q", f, impl.FormatFact(relations, f), s)
		}
		if got, ok := impl.ParseFact(relations, s); !sameFact(got, f) || !ok {
			t.Errorf("ParseFact(%q) = %v, %v", s, got, ok)
		}
	}
	if impl.IsValidFact(relations, fact(impl.MaxRelations, 1)) {
		t.Error("the index beyond the last relation is valid")
	}
}

func TestParseFactRejects(t *testing.T) {
	for _, s := range []string{
		"", "p", "p(", "p)", "p()", "()", "(1)", "(", ")", ",", "p1", "p1)", "p(1", "p((1)", "p(1))", "p((1))", "p()1)", "p)1(", "p[1]", "p{1}", "p(1)p(1)", "p(1)(1)",
		" p(1)", "p (1)", "p( 1)", "p(1 )", "p(1) ", "p(1)\n", "p(1)\x00", "\x00p(1)", "+p(1)", "p1(1)", "pp(1)", "P(1)", "b(1)", "n0(1)",
		"p(10)", "p(-1)", "p(+1)", "p(01)", "p(-0)", "p(n)", "p(n40)", "p(n00)", "p(n-1)", "p(nn1)", "p(N1)", "p(x)", "p(1.)", "p(99999999999999999999)",
		"p(1,)", "p(,1)", "p(,)", "p(1,2)", "p(1;2)", "a(1)", "a(1,2,3)", "a(1,)", "a(,1)", "a(1,,2)", "a(1 2)", "a(1, 2)", "a(1;2)", "a(12)", "a(1.2)", "+a(1,2)", "a2(1,2)",
		"q(1)", "q(1,2)", "q(1,2,)", "q(1,2,3,)", "q(1,2,3,4)", "q(,,)", "q(1,2,,3)", "q(1,2,3,,)", "z(n0)", "z(n0,n40)", "z(n0,10)", "z(\uff11,2)",
		"p(" + strings.Repeat("1", 1000) + ")", "p(" + strings.Repeat("1,", 1000) + "1)", strings.Repeat("p(1) ", 1000), strings.Repeat("(", 1000), strings.Repeat("p(", 1000) + strings.Repeat(")", 1000),
	} {
		if got, ok := impl.ParseFact(factSchema(), s); !isZeroFact(got) || ok {
			t.Errorf("ParseFact(%q) = %v, %v", s, got, ok)
		}
	}
}

func TestParseFactAcceptsNothingElse(t *testing.T) {
	for _, s := range stringsOver(allBytes(), 2) {
		checkParseFact(t, s)
	}
	for _, s := range stringsOver("apn14,()", 6) {
		checkParseFact(t, s)
	}
	for _, valid := range []string{"p(1)", "p(n3)", "p(n39)", "a(1,n2)", "z(n10,0)", "q(0,n1,9)", "q(n39,n0,n20)"} {
		for _, s := range changedStrings(valid) {
			checkParseFact(t, s)
		}
	}
}

func TestNullsOfFact(t *testing.T) {
	cases := []struct {
		fact impl.Fact
		want []int
	}{
		{impl.Fact{}, nil},
		{fact(1, 0), nil},
		{fact(0, 5, 9), nil},
		{fact(1, -1), []int{0}},
		{fact(3, 1, -3), []int{2}},
		{fact(3, -3, -1), []int{0, 2}},
		{fact(3, -1, -1), []int{0}},
		{fact(2, -40, -1, -40), []int{0, 39}},
		{fact(2, -2, 3, -1), []int{0, 1}},
		// The facts from here on are facts of no schema.
		{fact(-7, -1), []int{0}},
		{fact(1, -41), nil},
		{fact(1, math.MinInt, -40, math.MaxInt, -41, 10, -1), []int{0, 39}},
		{fact(99, -5, -4, 3, -4, -1, -5, -2), []int{0, 1, 3, 4}},
	}
	for _, c := range cases {
		if got := impl.NullsOfFact(c.fact); !slices.Equal(got, c.want) {
			t.Errorf("NullsOfFact(%v) = %v, want %v", c.fact, got, c.want)
		}
	}
	long := impl.Fact{}
	for i := range 400 {
		long.Values = append(long.Values, -(i*7)%60)
	}
	want := make([]int, impl.MaxNulls)
	for k := range want {
		want[k] = k
	}
	if got := impl.NullsOfFact(long); !slices.Equal(got, want) {
		t.Errorf("the nulls of a long fact are %v", got)
	}
}

func TestFactsAreNotModified(t *testing.T) {
	backing := []int{-5, -2, -5, -9, 7}
	f := impl.Fact{Relation: 2, Values: backing[:3]}
	relations := factSchema()
	impl.IsValidFact(relations, f)
	impl.CompareFacts(f, f)
	impl.FormatFact(relations, f)
	nulls := impl.NullsOfFact(f)
	if !slices.Equal(backing, []int{-5, -2, -5, -9, 7}) {
		t.Errorf("the argument has become %v", backing)
	}
	nulls[0] = 100
	if !slices.Equal(backing, []int{-5, -2, -5, -9, 7}) || !slices.Equal(impl.NullsOfFact(f), []int{1, 4}) {
		t.Errorf("the nulls share memory with the argument %v", backing)
	}
	first, _ := impl.ParseFact(relations, "z(1,n2)")
	first.Values[0] = 9
	if second, ok := impl.ParseFact(relations, "z(1,n2)"); !ok || !sameFact(second, fact(3, 1, -3)) {
		t.Errorf("a changed result changes the next one: %v", second)
	}
	if !slices.Equal(relations, factSchema()) {
		t.Errorf("the relations have become %v", relations)
	}
}
