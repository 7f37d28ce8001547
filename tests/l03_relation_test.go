package tests

import (
	"math"
	"regexp"
	"slices"
	"strings"
	"testing"

	"loop.example/g01919/impl"
)

var relationsPattern = regexp.MustCompile(`\A(\+?[a-z][1-3]( \+?[a-z][1-3]){0,5})?\z`)

// isRelationsFormat says whether ParseRelations has to accept s, computed in another way.
func isRelationsFormat(s string) bool {
	if !relationsPattern.MatchString(s) {
		return false
	}
	last := rune(0)
	for _, r := range s {
		if r < 'a' {
			continue
		}
		if r <= last {
			return false
		}
		last = r
	}
	return true
}

// schemas returns every schema over the letters, the arities from 1 to MaxArity and both kinds.
func schemas(letters string) [][]impl.Relation {
	all := [][]impl.Relation{nil}
	for i := range len(letters) {
		for _, schema := range all[:len(all):len(all)] {
			for arity := 1; arity <= impl.MaxArity; arity++ {
				for _, source := range []bool{false, true} {
					relation := impl.Relation{Name: letters[i : i+1], Arity: arity, Source: source}
					all = append(all, append(slices.Clone(schema), relation))
				}
			}
		}
	}
	return all
}

// relationsNamed returns target relations of arity 1, one for each letter.
func relationsNamed(letters string) []impl.Relation {
	var relations []impl.Relation
	for i := range len(letters) {
		relations = append(relations, impl.Relation{Name: letters[i : i+1], Arity: 1})
	}
	return relations
}

func checkParseRelations(t *testing.T, s string) {
	t.Helper()
	relations, ok := impl.ParseRelations(s)
	if ok != isRelationsFormat(s) {
		t.Fatalf("ParseRelations(%q) = %v, %v", s, relations, ok)
	}
	if !ok && len(relations) != 0 {
		t.Fatalf("ParseRelations(%q) = %v, which is not empty", s, relations)
	}
	if ok && (!impl.AreValidRelations(relations) || impl.FormatRelations(relations) != s) {
		t.Fatalf("ParseRelations(%q) = %v, which is formatted as %q", s, relations, impl.FormatRelations(relations))
	}
}

func TestRelationLimits(t *testing.T) {
	if impl.MaxRelations != 6 || impl.MaxArity != 3 {
		t.Error("the limits are", impl.MaxRelations, "and", impl.MaxArity)
	}
}

func TestIsValidRelation(t *testing.T) {
	for _, source := range []bool{false, true} {
		for _, name := range stringsOver(allBytes(), 1) {
			for arity := -1; arity <= impl.MaxArity+2; arity++ {
				want := len(name) == 1 && strings.Contains("abcdefghijklmnopqrstuvwxyz", name) && 1 <= arity && arity <= 3
				relation := impl.Relation{Name: name, Arity: arity, Source: source}
				if impl.IsValidRelation(relation) != want {
					t.Errorf("IsValidRelation(%+v) is not %v", relation, want)
				}
			}
		}
	}
	for _, name := range []string{"ab", "aa", "a1", "a ", " a", "+a", "a\x00", "\u00e9", "\u0430", "abcdef"} {
		if impl.IsValidRelation(impl.Relation{Name: name, Arity: 1}) {
			t.Errorf("the name %q is valid", name)
		}
	}
	for _, arity := range []int{math.MinInt, math.MinInt + 1, math.MaxInt, 10, 257} {
		if impl.IsValidRelation(impl.Relation{Name: "a", Arity: arity}) {
			t.Errorf("the arity %d is valid", arity)
		}
	}
}

func TestAreValidRelations(t *testing.T) {
	for _, letters := range []string{"", "a", "z", "az", "abc", "acxz", "abcde", "abcdef", "uvwxyz"} {
		if !impl.AreValidRelations(relationsNamed(letters)) {
			t.Errorf("the relations %q are invalid", letters)
		}
	}
	for _, letters := range []string{"aa", "ba", "aba", "abb", "aab", "acb", "bcdefa", "abcdee", "abcdefg", "abcdefghijklmnopqrstuvwxyz", "aB", "A", " "} {
		relations := relationsNamed(letters)
		if impl.AreValidRelations(relations) || impl.FormatRelations(relations) != "" {
			t.Errorf("the relations %q are valid, or formatted as %q", letters, impl.FormatRelations(relations))
		}
	}
	if !impl.AreValidRelations([]impl.Relation{}) || !impl.AreValidRelations(nil) {
		t.Error("the empty schema is invalid")
	}
}

// TestOneInvalidRelation puts an invalid relation at each place of a schema that is valid otherwise.
func TestOneInvalidRelation(t *testing.T) {
	for length := 1; length <= impl.MaxRelations; length++ {
		for place := range length {
			for _, arity := range []int{0, 4, -1, math.MinInt, math.MaxInt} {
				relations := relationsNamed("abcdef"[:length])
				relations[place].Arity = arity
				if impl.AreValidRelations(relations) || impl.FormatRelations(relations) != "" {
					t.Errorf("%v is valid, or formatted as %q", relations, impl.FormatRelations(relations))
				}
			}
			for _, name := range []string{"", "abcdef"[place:place+1] + "x", "A", "~", "\xff"} {
				relations := relationsNamed("abcdef"[:length])
				relations[place].Name = name
				if impl.AreValidRelations(relations) || impl.FormatRelations(relations) != "" {
					t.Errorf("%v is valid, or formatted as %q", relations, impl.FormatRelations(relations))
				}
			}
		}
	}
}

func TestNamesDecideTheOrder(t *testing.T) {
	relations := []impl.Relation{{Name: "a", Arity: 1}, {Name: "a", Arity: 2, Source: true}}
	if impl.AreValidRelations(relations) {
		t.Error("two relations that differ in all but the name are valid")
	}
	relations = []impl.Relation{{Name: "a", Arity: 3, Source: true}, {Name: "b", Arity: 1}, {Name: "c", Arity: 2, Source: true}}
	if !impl.AreValidRelations(relations) {
		t.Error("arity or kind decides the order")
	}
}

func TestRelationIndex(t *testing.T) {
	valid := []impl.Relation{{Name: "a", Arity: 2, Source: true}, {Name: "p", Arity: 3}, {Name: "q", Arity: 1}}
	// The function says nothing of validity, so any names in any order are searched.
	invalid := []impl.Relation{{Name: "z", Arity: 1}, {Name: "a", Arity: -5}, {}, {Name: "a", Arity: 1}, {Name: "p2"}, {Name: "", Source: true}}
	cases := []struct {
		relations []impl.Relation
		name      string
		want      int
	}{
		{valid, "a", 0},
		{valid, "p", 1},
		{valid, "q", 2},
		{valid, "b", -1},
		{valid, "", -1},
		{valid, "a2", -1},
		{valid, "+a", -1},
		{valid, "A", -1},
		{nil, "a", -1},
		{nil, "", -1},
		{[]impl.Relation{}, "a", -1},
		{invalid, "z", 0},
		{invalid, "a", 1},
		{invalid, "", 2},
		{invalid, "p2", 4},
		{invalid, "p", -1},
		{relationsNamed("abcdefghij"), "j", 9},
	}
	for _, c := range cases {
		if got := impl.RelationIndex(c.relations, c.name); got != c.want {
			t.Errorf("RelationIndex(%v, %q) = %d, want %d", c.relations, c.name, got, c.want)
		}
	}
}

func TestRelationsFormat(t *testing.T) {
	cases := []struct {
		relations []impl.Relation
		want      string
	}{
		{[]impl.Relation{{Name: "a", Arity: 2, Source: true}, {Name: "p", Arity: 3}}, "+a2 p3"},
		{[]impl.Relation{{Name: "a", Arity: 1}}, "a1"},
		{[]impl.Relation{{Name: "z", Arity: 3, Source: true}}, "+z3"},
		{[]impl.Relation{{Name: "a", Arity: 3}, {Name: "z", Arity: 1, Source: true}}, "a3 +z1"},
		{relationsNamed("abcdef"), "a1 b1 c1 d1 e1 f1"},
		{nil, ""},
	}
	for _, c := range cases {
		if got := impl.FormatRelations(c.relations); got != c.want {
			t.Errorf("FormatRelations(%v) = %q, want %q", c.relations, got, c.want)
		}
		if got, ok := impl.ParseRelations(c.want); !slices.Equal(got, c.relations) || !ok {
			t.Errorf("ParseRelations(%q) = %v, %v, want %v", c.want, got, ok, c.relations)
		}
	}
}

func TestEmptySchema(t *testing.T) {
	if impl.FormatRelations(nil) != "" || impl.FormatRelations([]impl.Relation{}) != "" {
		t.Error("the empty schema is not formatted as the empty string")
	}
	if relations, ok := impl.ParseRelations(""); len(relations) != 0 || !ok {
		t.Errorf("ParseRelations of the empty string = %v, %v", relations, ok)
	}
}

func TestRelationsInverse(t *testing.T) {
	seen := map[string]bool{}
	all := append(schemas("akz"), schemas("abyz")...)
	all = append(all, schemas("z")...)
	for _, letters := range []string{"abcdef", "uvwxyz", "bdfhjl"} {
		relations := relationsNamed(letters)
		for i := range relations {
			relations[i].Arity = 1 + i%3
			relations[i].Source = i%2 == 0
		}
		all = append(all, relations)
	}
	for _, relations := range all {
		s := impl.FormatRelations(relations)
		seen[s] = true
		if got, ok := impl.ParseRelations(s); !slices.Equal(got, relations) || !ok {
			t.Fatalf("ParseRelations(%q) = %v, %v, want %v", s, got, ok, relations)
		}
		checkParseRelations(t, s)
	}
	// 7^3 schemas over akz and 7^4 over abyz, of which those over a and z are the same 7^2; and the 3 of six relations.
	if len(seen) != 343+2401-49+3 {
		t.Errorf("%d different formats", len(seen))
	}
}

func TestParseRelationsRejects(t *testing.T) {
	for _, s := range []string{
		"+", "++", "a", "+a", "1", "+1", "a0", "a4", "a9", "a10", "a11", "a01", "a-1", "a+1", "a 1", "a1+", "1a", "ab1", "aa1", "a1b1", "a12",
		" ", "  ", " a1", "a1 ", "a1  b1", "a1 b", "a1 +", "a1 b0", "a1 b1 ", "+ a1", "++a1", "+a1+", "-a1", "a1\n", "a1\tb1", "a1,b1", "a1;", "a1 b1\n", "a1\x00", "\x00", "a\x00",
		"A1", "a1 B1", "\u00e91", "a\u0661", "a\uff11", "\xff1", "a\xff", "`1", "{1",
		"b1 a1", "a1 a1", "a1 a2", "a1 +a1", "+a1 a1", "a1 c1 b1", "a1 b1 b2",
		"a1 b1 c1 d1 e1 f1 g1", "a1 b1 c1 d1 e1 f1 ", "a1 b1 c1 d1 e1 f1 g", "a1 b1 c1 d1 e1 f1  g1", "a1 b1 c1 d1 e1 f1 g1 h1",
		strings.Repeat("a1 ", 1000) + "a1", strings.Repeat(" ", 1000), strings.Repeat("+", 1000), "a" + strings.Repeat("1", 1000),
	} {
		if relations, ok := impl.ParseRelations(s); len(relations) != 0 || ok {
			t.Errorf("ParseRelations(%q) = %v, %v", s, relations, ok)
		}
	}
}

func TestParseRelationsAcceptsNothingElse(t *testing.T) {
	for _, s := range stringsOver(allBytes(), 2) {
		checkParseRelations(t, s)
	}
	for _, s := range stringsOver("+ab 0134", 6) {
		checkParseRelations(t, s)
	}
	for _, valid := range []string{"a1", "+k2", "a1 b2", "+a2 p3", "a1 +b2 c3 +d1 e2 +f3"} {
		for _, s := range changedStrings(valid) {
			checkParseRelations(t, s)
		}
	}
}

func TestRelationsAreNotModified(t *testing.T) {
	spare := impl.Relation{Name: "q", Arity: 2, Source: true}
	backing := append(relationsNamed("abc"), spare)
	relations := backing[:3]
	impl.AreValidRelations(relations)
	impl.RelationIndex(relations, "c")
	impl.FormatRelations(relations)
	if !slices.Equal(relations, relationsNamed("abc")) || backing[3] != spare {
		t.Errorf("the argument has become %v", backing)
	}
	first, _ := impl.ParseRelations("a1 b2")
	first[0].Arity = 3
	if second, ok := impl.ParseRelations("a1 b2"); !ok || second[0].Arity != 1 {
		t.Errorf("a changed result changes the next one: %v", second)
	}
}
