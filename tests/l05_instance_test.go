package tests

import (
	"math"
	"regexp"
	"slices"
	"strconv"
	"strings"
	"testing"

	"loop.example/g01919/impl"
)

// factOfAnySchema takes a fact apart, written down without the help of the program.
var factOfAnySchema = regexp.MustCompile(`\A([a-z])\((` + valuePattern + `(?:,` + valuePattern + `)*)\)\z`)

// isInstanceFormat says whether ParseInstance has to accept s, computed in another way.
func isInstanceFormat(s string) bool {
	schema, list, found := strings.Cut(s, ";")
	if !found || !isRelationsFormat(schema) {
		return false
	}
	if list == "" {
		return true
	}
	var last []int
	parts := strings.Split(list, " ")
	for _, part := range parts {
		key, ok := factKey(schema, part)
		if !ok || slices.Compare(last, key) >= 0 {
			return false
		}
		last = key
	}
	return len(parts) <= 30
}

// factKey returns numbers that order the facts over the schema as CompareFacts does. It fails for what is no fact of an instance.
func factKey(schema string, s string) ([]int, bool) {
	groups := factOfAnySchema.FindStringSubmatch(s)
	if groups == nil {
		return nil, false
	}
	position := strings.Index(schema, groups[1])
	if position < 0 {
		return nil, false
	}
	values := strings.Split(groups[2], ",")
	source := strings.Contains(schema, "+"+groups[1])
	if len(values) != int(schema[position+1]-'0') || source && strings.Contains(groups[2], "n") {
		return nil, false
	}
	key := []int{position}
	for _, value := range values {
		number, err := strconv.Atoi(strings.TrimPrefix(value, "n"))
		if err != nil {
			return nil, false
		}
		if strings.HasPrefix(value, "n") {
			number = -1 - number
		}
		key = append(key, number)
	}
	return key, true
}

// instance returns an instance over factSchema, valid or not.
func instance(facts ...impl.Fact) impl.Instance {
	return impl.Instance{Relations: factSchema(), Facts: facts}
}

// facts returns a number of facts in ascending order; relation 3 of factSchema is a target relation of arity 2.
func facts(count int) []impl.Fact {
	var all []impl.Fact
	for i := range count {
		all = append(all, fact(3, i/10-2, i%10-3))
	}
	return all
}

// instanceFacts returns facts of all relations of factSchema in ascending order.
func instanceFacts() []impl.Fact {
	return []impl.Fact{fact(0, 0, 1), fact(0, 1, 0), fact(1, -40), fact(1, -1), fact(1, 0), fact(2, 0, -1, 9), fact(3, -2, -1), fact(3, 4, -2)}
}

// subset returns an instance of the instanceFacts whose bit is set in chosen.
func subset(chosen int) impl.Instance {
	x := instance()
	for i, f := range instanceFacts() {
		if chosen>>i&1 == 1 {
			x.Facts = append(x.Facts, f)
		}
	}
	return x
}

// sameInstance compares without the help of the program.
func sameInstance(a impl.Instance, b impl.Instance) bool {
	return slices.Equal(a.Relations, b.Relations) && slices.EqualFunc(a.Facts, b.Facts, sameFact)
}

func isZeroInstance(x impl.Instance) bool {
	return len(x.Relations) == 0 && len(x.Facts) == 0
}

func checkInvalidInstance(t *testing.T, x impl.Instance) {
	t.Helper()
	if impl.IsValidInstance(x) {
		t.Errorf("%v is valid", x)
	}
	if got := impl.FormatInstance(x); got != "" {
		t.Errorf("%v is formatted as %q", x, got)
	}
	for _, source := range []bool{false, true} {
		if got := impl.Restrict(x, source); !isZeroInstance(got) {
			t.Errorf("Restrict(%v, %v) = %v", x, source, got)
		}
	}
	for _, f := range append(slices.Clone(x.Facts), fact(1, 7), fact(0, 7, 7), impl.Fact{}) {
		if impl.ContainsFact(x, f) {
			t.Errorf("the invalid instance %v contains %v", x, f)
		}
		if got, ok := impl.InsertFact(x, f); !sameInstance(got, x) || ok {
			t.Errorf("InsertFact(%v, %v) = %v, %v", x, f, got, ok)
		}
		if got, ok := impl.DeleteFact(x, f); !sameInstance(got, x) || ok {
			t.Errorf("DeleteFact(%v, %v) = %v, %v", x, f, got, ok)
		}
	}
}

// checkParseInstance compares ParseInstance with isInstanceFormat.
func checkParseInstance(t *testing.T, s string) {
	t.Helper()
	got, ok := impl.ParseInstance(s)
	if ok != isInstanceFormat(s) {
		t.Fatalf("ParseInstance(%q) = %v, %v", s, got, ok)
	}
	if !ok && !isZeroInstance(got) {
		t.Fatalf("ParseInstance(%q) = %v, which is not the zero instance", s, got)
	}
	if ok && (!impl.IsValidInstance(got) || impl.FormatInstance(got) != s) {
		t.Fatalf("ParseInstance(%q) = %v, which is formatted as %q", s, got, impl.FormatInstance(got))
	}
}

func TestInstanceLimit(t *testing.T) {
	if impl.MaxFacts != 30 {
		t.Error("the limit is", impl.MaxFacts)
	}
	if full := instance(facts(30)...); !impl.IsValidInstance(full) || impl.FormatInstance(full) == "" {
		t.Error("an instance of 30 facts is invalid")
	}
	for _, count := range []int{31, 32, 100} {
		checkInvalidInstance(t, instance(facts(count)...))
	}
}

func TestIsValidInstance(t *testing.T) {
	for _, x := range []impl.Instance{
		{},
		{Relations: []impl.Relation{}, Facts: []impl.Fact{}},
		{Relations: []impl.Relation{{Name: "a", Arity: 1}}},
		instance(),
		instance(instanceFacts()...),
		instance(fact(0, 9, 9)),
		instance(fact(1, -40), fact(1, 9)),
		instance(fact(2, -40, -40, -40), fact(2, -40, -40, -39)),
	} {
		if !impl.IsValidInstance(x) {
			t.Errorf("%v is invalid", x)
		}
	}
	for _, x := range []impl.Instance{
		{Facts: []impl.Fact{{}}},
		{Facts: []impl.Fact{fact(0, 1)}},
		{Facts: []impl.Fact{fact(-1)}},
		instance(fact(1, 1), fact(1, 1)),
		instance(fact(0, 1, 2), fact(0, 1, 2)),
		instance(fact(1, 2), fact(1, 1)),
		instance(fact(1, 1), fact(1, -1)),
		instance(fact(3, 1, 2), fact(0, 1, 2)),
		instance(fact(3, 1, 2), fact(3, 1, 1)),
		instance(fact(1, 1), fact(1, 2), fact(1, 1)),
	} {
		checkInvalidInstance(t, x)
	}
	for _, relations := range invalidSchemas() {
		checkInvalidInstance(t, impl.Instance{Relations: relations})
		checkInvalidInstance(t, impl.Instance{Relations: relations, Facts: []impl.Fact{fact(1, 5)}})
	}
}

// TestNullsInSourceFacts puts nulls at each place of facts of source and of target relations.
func TestNullsInSourceFacts(t *testing.T) {
	for arity := 1; arity <= impl.MaxArity; arity++ {
		for _, source := range []bool{false, true} {
			for _, values := range tuples([]int{-40, -1, 0, 9}, arity) {
				x := impl.Instance{Relations: []impl.Relation{{Name: "a", Arity: 1}, {Name: "p", Arity: arity, Source: source}, {Name: "q", Arity: 1}}}
				f := fact(1, values...)
				valid := !source || slices.Min(values) >= 0
				if got, ok := impl.InsertFact(x, f); ok != valid || !ok && !sameInstance(got, x) {
					t.Errorf("InsertFact(%v, %v) = %v, %v", x, f, got, ok)
				}
				x.Facts = []impl.Fact{fact(0, -5), f, fact(2, -5)}
				if impl.IsValidInstance(x) != valid {
					t.Errorf("IsValidInstance(%v) is not %v", x, valid)
				}
				if !valid {
					checkInvalidInstance(t, x)
				}
			}
		}
	}
}

// TestOneInvalidFact puts a fact that is not valid, but has its place in the order, at each place of an instance.
func TestOneInvalidFact(t *testing.T) {
	for _, f := range []impl.Fact{
		{}, fact(-1), fact(-1, 1), fact(math.MinInt, 1), fact(4), fact(4, 1), fact(4, 1, 2), fact(math.MaxInt, 1, 2),
		fact(0, 1), fact(0, 1, 2, 3), fact(0, 1, 10), fact(0, 1, -1), fact(0, -1, 1), fact(0, -41, 1),
		fact(1), fact(1, 1, 2), fact(1, -41), fact(1, 10), fact(1, math.MinInt), fact(1, math.MaxInt),
		fact(2, 1, 2), fact(2, 1, 2, 3, 4), fact(2, 1, 2, 10), fact(3, 1), fact(3, 1, 2, 3), fact(3, -41, 0), fact(3, 0, -41),
	} {
		all := append(instanceFacts(), f)
		slices.SortFunc(all, impl.CompareFacts)
		checkInvalidInstance(t, instance(all...))
		checkInvalidInstance(t, instance(f))
		for chosen := range 1 << 8 {
			x := subset(chosen)
			if got, ok := impl.InsertFact(x, f); !sameInstance(got, x) || ok {
				t.Fatalf("InsertFact(%v, %v) = %v, %v", x, f, got, ok)
			}
			if got, ok := impl.DeleteFact(x, f); !sameInstance(got, x) || ok {
				t.Fatalf("DeleteFact(%v, %v) = %v, %v", x, f, got, ok)
			}
			if impl.ContainsFact(x, f) {
				t.Fatalf("%v contains %v", x, f)
			}
		}
	}
}

// TestInsertAndDelete compares the functions on sets of facts with bits.
func TestInsertAndDelete(t *testing.T) {
	for chosen := range 1 << 8 {
		x := subset(chosen)
		for i, f := range instanceFacts() {
			contained := chosen>>i&1 == 1
			if impl.ContainsFact(x, f) != contained {
				t.Fatalf("ContainsFact(%v, %v) is not %v", x, f, contained)
			}
			inserted, ok := impl.InsertFact(x, f)
			if ok == contained || !sameInstance(inserted, subset(chosen|1<<i)) {
				t.Fatalf("InsertFact(%v, %v) = %v, %v", x, f, inserted, ok)
			}
			if !impl.IsValidInstance(inserted) || !impl.ContainsFact(inserted, f) {
				t.Fatalf("%v is invalid or does not contain %v", inserted, f)
			}
			deleted, ok := impl.DeleteFact(inserted, f)
			if !ok || !sameInstance(deleted, subset(chosen&^(1<<i))) || impl.ContainsFact(deleted, f) {
				t.Fatalf("DeleteFact(%v, %v) = %v, %v", inserted, f, deleted, ok)
			}
			if !contained && !impl.EqualInstances(deleted, x) {
				t.Fatalf("deleting %v from %v does not restore %v", f, inserted, x)
			}
			deleted, ok = impl.DeleteFact(x, f)
			if ok != contained || !sameInstance(deleted, subset(chosen&^(1<<i))) {
				t.Fatalf("DeleteFact(%v, %v) = %v, %v", x, f, deleted, ok)
			}
		}
	}
}

// TestInsertInAnyOrder builds one instance in many orders.
func TestInsertInAnyOrder(t *testing.T) {
	all := facts(30)
	for _, step := range []int{1, 7, 11, 13, 17, 19, 23, 29} {
		x := instance()
		for i := range all {
			var ok bool
			x, ok = impl.InsertFact(x, all[i*step%30])
			if !ok || len(x.Facts) != i+1 {
				t.Fatalf("fact %d is not inserted into %v", i, x)
			}
		}
		if !sameInstance(x, instance(all...)) {
			t.Errorf("steps of %d give %v", step, x)
		}
	}
}

func TestFullInstance(t *testing.T) {
	full := instance(facts(30)...)
	for _, f := range []impl.Fact{fact(0, 1, 1), fact(1, -1), fact(3, -1, 8), fact(3, 9, 9), full.Facts[0], full.Facts[29], full.Facts[15]} {
		if got, ok := impl.InsertFact(full, f); !sameInstance(got, full) || ok {
			t.Errorf("InsertFact(full, %v) = %v, %v", f, got, ok)
		}
	}
	for i, f := range full.Facts {
		less, ok := impl.DeleteFact(full, f)
		if !ok || !sameInstance(less, instance(slices.Delete(facts(30), i, i+1)...)) {
			t.Fatalf("DeleteFact(full, %v) = %v, %v", f, less, ok)
		}
		if again, ok := impl.InsertFact(less, f); !ok || !sameInstance(again, full) {
			t.Fatalf("InsertFact(%v, %v) = %v, %v", less, f, again, ok)
		}
	}
}

func TestEqualInstances(t *testing.T) {
	all := factSchema()
	different := []impl.Instance{
		{},
		{Relations: all},
		{Relations: all[:3]},
		{Relations: slices.Concat(all[1:], all[:1])},
		{Relations: []impl.Relation{{Name: "a", Arity: 1}}},
		{Relations: []impl.Relation{{Name: "a", Arity: 1, Source: true}}},
		{Relations: []impl.Relation{{Name: "a", Arity: 2}}},
		{Relations: []impl.Relation{{Name: "b", Arity: 1}}},
		{Relations: []impl.Relation{{Name: "", Arity: -1}}},
		{Facts: []impl.Fact{{}}},
		{Facts: []impl.Fact{{}, {}}},
		instance(fact(1, 1)),
		instance(fact(1, 1), fact(1, 1)),
		instance(fact(1, 2)),
		instance(fact(1, 1), fact(1, 2)),
		instance(fact(1, 2), fact(1, 1)),
		instance(fact(1, -1)),
		instance(fact(1, 1, 0)),
		instance(fact(1)),
		instance(fact(3, 1)),
		instance(fact(0, -1, 100)),
		instance(instanceFacts()...),
		instance(facts(31)...),
		{Relations: all[1:], Facts: []impl.Fact{fact(1, 1)}},
	}
	for i, a := range different {
		for j, b := range different {
			if impl.EqualInstances(a, b) != (i == j) {
				t.Errorf("EqualInstances(%v, %v) is not %v", a, b, i == j)
			}
		}
	}
	if !impl.EqualInstances(impl.Instance{}, impl.Instance{Relations: []impl.Relation{}, Facts: []impl.Fact{}}) {
		t.Error("nil and empty slices differ")
	}
	if !impl.EqualInstances(impl.Instance{Facts: []impl.Fact{{}}}, impl.Instance{Facts: []impl.Fact{{Values: []int{}}}}) {
		t.Error("nil and empty values differ")
	}
	if !impl.EqualInstances(instance(instanceFacts()...), instance(instanceFacts()...)) {
		t.Error("equal instances in different memory differ")
	}
}

func TestIsSubset(t *testing.T) {
	for a := range 1 << 8 {
		for b := range 1 << 8 {
			if impl.IsSubset(subset(a), subset(b)) != (a&^b == 0) {
				t.Fatalf("IsSubset(%v, %v) is not %v", subset(a), subset(b), a&^b == 0)
			}
		}
	}
	unsorted := instance(fact(1, 5), fact(9, 9, 9, 9, 9), fact(1, 4), fact(1, 5), fact(-1), fact(0, -1, 2))
	for _, c := range []struct {
		a    []impl.Fact
		want bool
	}{
		{nil, true},
		{[]impl.Fact{fact(1, 4)}, true},
		{[]impl.Fact{fact(1, 5), fact(1, 5), fact(1, 4), fact(1, 5)}, true},
		{[]impl.Fact{fact(-1), fact(9, 9, 9, 9, 9), fact(0, -1, 2)}, true},
		{slices.Repeat([]impl.Fact{fact(1, 4)}, 40), true},
		{[]impl.Fact{{}}, false},
		{[]impl.Fact{fact(1, 3)}, false},
		{[]impl.Fact{fact(1)}, false},
		{[]impl.Fact{fact(1, 4, 4)}, false},
		{[]impl.Fact{fact(2, 4)}, false},
		{[]impl.Fact{fact(1, 5), fact(1, 4), fact(1, 6)}, false},
		{[]impl.Fact{fact(1, 6), fact(1, 5), fact(1, 4)}, false},
	} {
		if got := impl.IsSubset(instance(c.a...), unsorted); got != c.want {
			t.Errorf("IsSubset(%v, %v) = %v", c.a, unsorted, got)
		}
		// The relations do not matter: the facts alone decide.
		if got := impl.IsSubset(impl.Instance{Facts: c.a}, unsorted); got != c.want {
			t.Errorf("IsSubset(%v without relations, %v) = %v", c.a, unsorted, got)
		}
	}
}

func TestNullsOfInstance(t *testing.T) {
	for _, c := range []struct {
		instance impl.Instance
		want     []int
	}{
		{impl.Instance{}, nil},
		{instance(), nil},
		{instance(fact(0, 1, 2), fact(1, 3)), nil},
		{instance(fact(1, -1)), []int{0}},
		{instance(instanceFacts()...), []int{0, 1, 39}},
		{instance(fact(2, -3, -1, -3), fact(3, -3, -3)), []int{0, 2}},
		{instance(fact(1, -40), fact(1, -39), fact(3, -2, -38)), []int{1, 37, 38, 39}},
		// The instances from here on are invalid.
		{instance(fact(0, -5, -4), fact(1, -9), fact(1, -1), fact(1, -9)), []int{0, 3, 4, 8}},
		{instance(fact(1, -41), fact(1, 100), fact(1, math.MinInt), fact(-1, -2), fact(99, -7, -7, -7, -3)), []int{1, 2, 6}},
		{impl.Instance{Facts: []impl.Fact{fact(0, -2), fact(0, -1)}}, []int{0, 1}},
		{instance(slices.Concat(facts(70), []impl.Fact{fact(1, -40)}, facts(70))...), []int{0, 1, 2, 39}},
	} {
		if got := impl.NullsOfInstance(c.instance); !slices.Equal(got, c.want) {
			t.Errorf("NullsOfInstance(%v) = %v, want %v", c.instance, got, c.want)
		}
	}
}

func TestRestrict(t *testing.T) {
	for chosen := range 1 << 8 {
		// Bits 0 and 1 stand for the facts of the only source relation.
		if got := impl.Restrict(subset(chosen), true); !sameInstance(got, subset(chosen&3)) {
			t.Fatalf("Restrict(%v, true) = %v", subset(chosen), got)
		}
		if got := impl.Restrict(subset(chosen), false); !sameInstance(got, subset(chosen&^3)) {
			t.Fatalf("Restrict(%v, false) = %v", subset(chosen), got)
		}
	}
	// Sources and targets alternate, so that the kept facts do not stand together.
	mixed := impl.Instance{Relations: relationsNamed("abcde"), Facts: []impl.Fact{fact(0, 1), fact(1, 1), fact(1, 2), fact(2, -1), fact(3, 0), fact(4, -1), fact(4, 5)}}
	mixed.Relations[1].Source = true
	mixed.Relations[3].Source = true
	for source, want := range map[bool][]impl.Fact{
		true:  {fact(1, 1), fact(1, 2), fact(3, 0)},
		false: {fact(0, 1), fact(2, -1), fact(4, -1), fact(4, 5)},
	} {
		if got := impl.Restrict(mixed, source); !sameInstance(got, impl.Instance{Relations: mixed.Relations, Facts: want}) {
			t.Errorf("Restrict(%v, %v) = %v", mixed, source, got)
		}
	}
	if got := impl.Restrict(impl.Instance{}, true); !isZeroInstance(got) {
		t.Errorf("Restrict of the zero instance is %v", got)
	}
}

func TestInstanceFormat(t *testing.T) {
	example := impl.Instance{
		Relations: []impl.Relation{{Name: "a", Arity: 1, Source: true}, {Name: "p", Arity: 1}},
		Facts:     []impl.Fact{fact(0, 1), fact(1, -1)},
	}
	for s, x := range map[string]impl.Instance{
		"+a1 p1;a(1) p(n0)":                 example,
		"+a1 p1;":                           {Relations: example.Relations},
		"+a1 p1;p(n0)":                      {Relations: example.Relations, Facts: example.Facts[1:]},
		";":                                 {},
		"+a2 p1 q3 z2;":                     instance(),
		"+a2 p1 q3 z2;a(0,9) p(n39) p(n10)": instance(fact(0, 0, 9), fact(1, -40), fact(1, -11)),
		"+a2 p1 q3 z2;a(0,1) a(1,0) p(n39) p(n0) p(0) q(0,n0,9) z(n1,n0) z(4,n1)": instance(instanceFacts()...),
	} {
		if got := impl.FormatInstance(x); got != s {
			t.Errorf("FormatInstance(%v) = %q, want %q", x, got, s)
		}
		if got, ok := impl.ParseInstance(s); !sameInstance(got, x) || !ok {
			t.Errorf("ParseInstance(%q) = %v, %v, want %v", s, got, ok, x)
		}
	}
}

func TestInstanceInverse(t *testing.T) {
	seen := map[string]bool{}
	check := func(x impl.Instance) {
		t.Helper()
		s := impl.FormatInstance(x)
		seen[s] = true
		if got, ok := impl.ParseInstance(s); !sameInstance(got, x) || !ok || !isInstanceFormat(s) {
			t.Fatalf("%v is formatted as %q, which is parsed as %v, %v", x, s, got, ok)
		}
	}
	for chosen := range 1 << 8 {
		check(subset(chosen))
	}
	for _, relations := range schemas("abc") {
		check(impl.Instance{Relations: relations})
	}
	for count := 1; count <= 30; count++ {
		check(instance(facts(count)...))
	}
	if len(seen) != 256+343+30 {
		t.Errorf("%d different formats", len(seen))
	}
}

func TestParseInstanceRejects(t *testing.T) {
	full := impl.FormatInstance(instance(facts(30)...))
	for _, s := range []string{
		"", " ", "a1", "+a1 p1", "a(1)", ";;", "; ", " ;", ";a(1)", ";a1", "a1;;", "a1;;a(1)", "a1:a(1)", "a1,a(1)", "a1 ;a(1)", "a1; a(1)", " a1;a(1)", "a1;a(1) ", "a1;a(1);", "a1;a(1)\n",
		"a1;a(1)  a(2)", "a1;a(1),a(2)", "a1;a(1)a(2)", "a1;a(1);a(2)", "a1;a(1)\ta(2)", "a1;a(2) a(1)", "a1;a(1) a(1)", "a1;a(1) a(n0)", "a1;a(n0) a(n1)", "a1;a(1) a(2) a(1)",
		"+a1;a(n0)", "+a2;a(n0,1)", "+a2;a(1,n39)", "+a1 p1;a(n0) p(n0)", "+a1 p1;p(n0) a(1)", "+a1 p1;a(1) p(n40)", "+a1 p1;a(1) p(10)", "+a1 p1;a(1) q(1)", "+a1 p1;+a(1)", "+a1 p1;a1(1)",
		"a1;b(1)", "a1;(1)", "a1;a()", "a1;a", "a1;a(1", "a1;a(1,2)", "a2;a(1)", "a4;a(1,2,3,4)", "a0;a()", "a1 a1;a(1)", "b1 a1;a(1)", "a1 b1 c1 d1 e1 f1 g1;", "A1;A(1)", "a;", "1;",
		full + " ", full + " z(9,9)", full + " z(9,9) ", full + " z(9,8) z(9,9)", full + ";", full + " " + full,
		strings.Repeat(";", 1000), strings.Repeat(" ", 1000), "a1;" + strings.Repeat("a(1) ", 10000),
	} {
		if got, ok := impl.ParseInstance(s); !isZeroInstance(got) || ok {
			t.Errorf("ParseInstance(%q) = %v, %v", s, got, ok)
		}
	}
}

func TestParseInstanceAcceptsNothingElse(t *testing.T) {
	for _, s := range stringsOver(allBytes(), 2) {
		checkParseInstance(t, s)
	}
	for _, s := range stringsOver("ap1 ;(", 6) {
		checkParseInstance(t, s)
	}
	// Every list of up to three of these words after each of these schemas.
	words := []string{"a(1)", "a(2)", "a(n0)", "p(1)", "p(n0)", "p(n10)", "p(n2)", "p(1,1)", "p(0,n1)", "p(0,1)", "a(1,2)", "a(2,1)", "a", ""}
	for _, schema := range []string{"", "a1", "+a1", "a2", "p1", "p2", "+p1", "+p2", "a1 p1", "+a1 p1", "+a1 p2", "a1 +p1", "+a2 p1", "a2 p2", "+a1 +p2"} {
		checkParseInstance(t, schema)
		checkParseInstance(t, schema+";")
		for _, first := range words {
			checkParseInstance(t, schema+";"+first)
			for _, second := range words {
				checkParseInstance(t, schema+";"+first+" "+second)
				for _, third := range words {
					checkParseInstance(t, schema+";"+first+" "+second+" "+third)
				}
			}
		}
	}
	for _, valid := range []string{";", "a1;", "+a1 p1;a(1) p(n0)", "+a2 p1;a(0,1) a(1,0) p(n9)", "p3;p(1,n2,n39)", "a1;a(n1) a(1) a(3)"} {
		for _, s := range changedStrings(valid) {
			checkParseInstance(t, s)
		}
	}
}

// roomyInstance returns an instance whose slices lie in larger arrays; both the instance and its last fact are followed by other data.
func roomyInstance() impl.Instance {
	x := instance(append(instanceFacts(), fact(77, 7, 7, 7), fact(88, 8))...)
	for i, f := range x.Facts {
		x.Facts[i].Values = append(slices.Clone(f.Values), 66, 55)[:len(f.Values)]
	}
	x.Facts = x.Facts[:8]
	x.Relations = append(x.Relations, impl.Relation{Name: "behind"})[:4]
	return x
}

// wholeMemory returns the instance together with what lies in the unused capacity of its slices.
func wholeMemory(x impl.Instance) impl.Instance {
	whole := impl.Instance{Relations: slices.Clone(x.Relations[:cap(x.Relations)])}
	for _, f := range x.Facts[:cap(x.Facts)] {
		whole.Facts = append(whole.Facts, impl.Fact{Relation: f.Relation, Values: slices.Clone(f.Values[:cap(f.Values)])})
	}
	return whole
}

// overwrite fills all memory of the instance, each slice with other numbers, and says whether each slice has kept its own.
func overwrite(x impl.Instance) bool {
	for i := range x.Relations[:cap(x.Relations)] {
		x.Relations[:cap(x.Relations)][i] = impl.Relation{Name: "overwritten"}
	}
	for i, f := range x.Facts {
		for j := range f.Values[:cap(f.Values)] {
			f.Values[:cap(f.Values)][j] = 1000 + i
		}
	}
	kept := true
	for i, f := range x.Facts {
		for _, v := range f.Values[:cap(f.Values)] {
			kept = kept && v == 1000+i
		}
	}
	for i := range x.Facts[:cap(x.Facts)] {
		x.Facts[:cap(x.Facts)][i] = fact(-1000)
	}
	return kept
}

func TestInstancesShareNoMemory(t *testing.T) {
	invalid := roomyInstance()
	invalid.Facts[0].Values[0] = -1
	for _, x := range []impl.Instance{roomyInstance(), invalid} {
		before := wholeMemory(x)
		for _, f := range []impl.Fact{x.Facts[0], x.Facts[7], fact(0, 0, 0), fact(1, 3), fact(3, 9, 9), fact(0, -1, 1), fact(99)} {
			values := slices.Clone(f.Values)
			impl.ContainsFact(x, f)
			inserted, _ := impl.InsertFact(x, f)
			deleted, _ := impl.DeleteFact(x, f)
			for _, result := range []impl.Instance{inserted, deleted} {
				if !overwrite(result) {
					t.Errorf("two facts of one result share memory, for %v and %v", x, f)
				}
			}
			if !slices.Equal(f.Values, values) || !sameInstance(wholeMemory(x), before) {
				t.Fatalf("after the fact %v the argument has become %v", f, x)
			}
		}
		for _, source := range []bool{false, true} {
			if !overwrite(impl.Restrict(x, source)) {
				t.Errorf("two facts of one result share memory, for %v and %v", x, source)
			}
		}
		for i := range impl.NullsOfInstance(x) {
			impl.NullsOfInstance(x)[i] = 1000
		}
		impl.IsValidInstance(x)
		impl.EqualInstances(x, x)
		impl.IsSubset(x, x)
		impl.FormatInstance(x)
		if !sameInstance(wholeMemory(x), before) {
			t.Fatalf("the argument has become %v", x)
		}
	}
}

// TestInsertedFactIsCopied changes the fact after it has been inserted.
func TestInsertedFactIsCopied(t *testing.T) {
	f := fact(1, 5)
	x, ok := impl.InsertFact(instance(), f)
	f.Values[0] = 6
	if !ok || !sameInstance(x, instance(fact(1, 5))) {
		t.Errorf("the instance has become %v", x)
	}
	s := "+a1 p2;a(1) p(1,2) p(1,3)"
	first, _ := impl.ParseInstance(s)
	if !overwrite(first) {
		t.Error("two facts of a parsed instance share memory")
	}
	if second, ok := impl.ParseInstance(s); !ok || impl.FormatInstance(second) != s {
		t.Errorf("a changed result changes the next one: %v", second)
	}
}
