package tests

import (
	"maps"
	"math"
	"slices"
	"strconv"
	"strings"
	"testing"

	"loop.example/g01919/impl"
)

// substitution returns a substitution, valid or not, from pairs of a null number and a value.
func substitution(pairs ...int) impl.Substitution {
	var s impl.Substitution
	for pair := range slices.Chunk(pairs, 2) {
		s.Nulls = append(s.Nulls, pair[0])
		s.Values = append(s.Values, pair[1])
	}
	return s
}

// substitutions returns all substitutions that replace any of the nulls, which are ascending, by any of the values.
func substitutions(nulls []int, values []int) []impl.Substitution {
	all := []impl.Substitution{{}}
	for _, k := range nulls {
		for _, s := range all {
			for _, v := range values {
				all = append(all, impl.Substitution{Nulls: append(slices.Clone(s.Nulls), k), Values: append(slices.Clone(s.Values), v)})
			}
		}
	}
	return all
}

// someSubstitutions returns all substitutions of the first, the second and the last null by these nulls, by a null that none replaces, and by a constant.
func someSubstitutions() []impl.Substitution {
	return substitutions([]int{0, 1, 39}, []int{-40, -2, -1, -8, 5})
}

// rotation returns the substitution that replaces each null by the one that stands so many places later.
func rotation(places int) impl.Substitution {
	var s impl.Substitution
	for k := range 40 {
		s.Nulls = append(s.Nulls, k)
		s.Values = append(s.Values, -1-(k+places)%40)
	}
	return s
}

func invalidSubstitutions() []impl.Substitution {
	return []impl.Substitution{
		{Nulls: []int{1}},
		{Values: []int{1}},
		{Nulls: []int{0, 1}, Values: []int{5}},
		{Nulls: []int{0}, Values: []int{5, 5}},
		{Nulls: rotation(0).Nulls, Values: rotation(0).Values[1:]},
		{Nulls: rotation(0).Nulls[1:], Values: rotation(0).Values},
		substitution(1, 0, 1, 0),
		substitution(0, 5, 0, 6),
		substitution(1, 5, 0, 5),
		substitution(0, 1, 2, 1, 1, 1),
		substitution(0, 1, 1, 1, 0, 1),
		substitution(-1, 5),
		substitution(-1, 5, 0, 5),
		substitution(40, 5),
		substitution(0, 5, 40, 5),
		substitution(math.MinInt, 5),
		substitution(math.MaxInt, 5),
		substitution(0, 10),
		substitution(0, -41),
		substitution(0, math.MinInt),
		substitution(0, math.MaxInt),
		substitution(0, 5, 1, 10, 2, 5),
		{Nulls: append(rotation(1).Nulls, 40), Values: append(rotation(1).Values, 0)},
		{Nulls: make([]int, 1000), Values: make([]int, 1000)},
	}
}

// sameSubstitution compares without the help of the program.
func sameSubstitution(a impl.Substitution, b impl.Substitution) bool {
	return slices.Equal(a.Nulls, b.Nulls) && slices.Equal(a.Values, b.Values)
}

func isZeroSubstitution(s impl.Substitution) bool {
	return len(s.Nulls) == 0 && len(s.Values) == 0
}

// image returns the value that has to replace v under a valid substitution, computed in another way.
func image(s impl.Substitution, v int) int {
	for i, k := range s.Nulls {
		if v == -1-k {
			return s.Values[i]
		}
	}
	return v
}

// imageOfInstance returns the instance that a valid substitution has to make of a valid one, computed in another way.
func imageOfInstance(s impl.Substitution, x impl.Instance) impl.Instance {
	set := map[[4]int]impl.Fact{}
	for _, f := range x.Facts {
		key := [4]int{f.Relation, -100, -100, -100}
		changed := impl.Fact{Relation: f.Relation}
		for i, v := range f.Values {
			changed.Values = append(changed.Values, image(s, v))
			key[1+i] = image(s, v)
		}
		set[key] = changed
	}
	keys := slices.SortedFunc(maps.Keys(set), func(a [4]int, b [4]int) int {
		return slices.Compare(a[:], b[:])
	})
	changed := impl.Instance{Relations: x.Relations}
	for _, key := range keys {
		changed.Facts = append(changed.Facts, set[key])
	}
	return changed
}

// checkInvalidSubstitution also checks that no function uses a part of the substitution.
func checkInvalidSubstitution(t *testing.T, s impl.Substitution) {
	t.Helper()
	if impl.IsValidSubstitution(s) {
		t.Errorf("%v is valid", s)
	}
	if got := impl.FormatSubstitution(s); got != "" {
		t.Errorf("%v is formatted as %q", s, got)
	}
	for v := -45; v < 15; v++ {
		if got := impl.ApplyToValue(s, v); got != v {
			t.Errorf("ApplyToValue(%v, %d) = %d", s, v, got)
		}
	}
	for _, f := range append(instanceFacts(), fact(1, -41), fact(-9, -1, -2, -3, -4, -5), fact(0)) {
		if got := impl.ApplyToFact(s, f); !sameFact(got, f) {
			t.Errorf("ApplyToFact(%v, %v) = %v", s, f, got)
		}
	}
	for _, x := range []impl.Instance{{}, instance(), instance(fact(0, 1, 2)), instance(instanceFacts()...)} {
		if got, ok := impl.ApplyToInstance(s, x); !isZeroInstance(got) || ok {
			t.Errorf("ApplyToInstance(%v, %v) = %v, %v", s, x, got, ok)
		}
	}
	for _, other := range append([]impl.Substitution{{}, substitution(0, 5), rotation(1)}, invalidSubstitutions()...) {
		if got, ok := impl.Compose(s, other); !isZeroSubstitution(got) || ok {
			t.Errorf("Compose(%v, %v) = %v, %v", s, other, got, ok)
		}
		if got, ok := impl.Compose(other, s); !isZeroSubstitution(got) || ok {
			t.Errorf("Compose(%v, %v) = %v, %v", other, s, got, ok)
		}
	}
}

func TestIsValidSubstitution(t *testing.T) {
	for _, s := range []impl.Substitution{
		{},
		{Nulls: []int{}, Values: []int{}},
		{Nulls: []int{}},
		substitution(0, 0),
		substitution(0, 9),
		substitution(0, -1),
		substitution(0, -40),
		substitution(39, -40),
		substitution(0, 5, 2, -1),
		substitution(0, 5, 1, 5, 39, 5),
		rotation(0),
		rotation(1),
	} {
		if !impl.IsValidSubstitution(s) {
			t.Errorf("%v is invalid", s)
		}
	}
	for _, s := range someSubstitutions() {
		if !impl.IsValidSubstitution(s) {
			t.Errorf("%v is invalid", s)
		}
	}
	for _, s := range invalidSubstitutions() {
		checkInvalidSubstitution(t, s)
	}
}

// TestOneInvalidReplacement spoils one replacement at each place of a substitution of all nulls.
func TestOneInvalidReplacement(t *testing.T) {
	for i := range 40 {
		for _, v := range []int{10, 11, 1 << 32, -41, -42, -1 << 32, math.MaxInt, math.MinInt} {
			s := rotation(3)
			s.Values[i] = v
			checkInvalidSubstitution(t, s)
		}
		for k := -2; k < 42; k++ {
			s := rotation(3)
			s.Nulls[i] = k
			if k != i {
				checkInvalidSubstitution(t, s)
			}
		}
	}
}

func TestApplyToValue(t *testing.T) {
	for _, c := range []struct {
		substitution impl.Substitution
		v            int
		want         int
	}{
		{substitution(0, 5, 2, -1), -3, -1},
		{substitution(0, 5, 2, -1), -2, -2},
		{substitution(0, 5, 2, -1), -1, 5},
		{substitution(0, 5, 2, -1), 0, 0},
		{substitution(0, 5, 2, -1), 2, 2},
		{substitution(0, -2, 1, -1), -1, -2},
		{substitution(0, -2, 1, -1), -2, -1},
		{substitution(0, -1), -1, -1},
		{substitution(39, 0), -40, 0},
		{substitution(39, 0), -39, -39},
		{impl.Substitution{}, -1, -1},
		{impl.Substitution{}, 9, 9},
	} {
		if got := impl.ApplyToValue(c.substitution, c.v); got != c.want {
			t.Errorf("ApplyToValue(%v, %d) = %d, want %d", c.substitution, c.v, got, c.want)
		}
	}
	for _, s := range append(someSubstitutions(), rotation(0), rotation(1), rotation(17), rotation(39)) {
		for _, v := range allValues() {
			if got := impl.ApplyToValue(s, v); got != image(s, v) {
				t.Fatalf("ApplyToValue(%v, %d) = %d, want %d", s, v, got, image(s, v))
			}
		}
		// What is no valid value is not replaced either.
		for _, v := range []int{10, 11, 39, 40, 1 << 40, math.MaxInt, -41, -42, -1 << 40, math.MinInt, math.MinInt + 1} {
			if got := impl.ApplyToValue(s, v); got != v {
				t.Fatalf("ApplyToValue(%v, %d) = %d", s, v, got)
			}
		}
	}
}

func TestApplyToFact(t *testing.T) {
	for _, c := range []struct {
		substitution impl.Substitution
		fact         impl.Fact
		want         impl.Fact
	}{
		{substitution(0, 5, 2, -1), fact(2, -1, 4), fact(2, 5, 4)},
		{substitution(0, 5, 2, -1), fact(1, -3, -3, -1, -3), fact(1, -1, -1, 5, -1)},
		{substitution(0, -2, 1, -1), fact(1, -1, -2), fact(1, -2, -1)},
		{substitution(1, 7), fact(0, 1, -1), fact(0, 1, -1)},
		{impl.Substitution{}, fact(0, -1), fact(0, -1)},
		{impl.Substitution{}, impl.Fact{}, impl.Fact{}},
		// The facts from here on are valid in no schema.
		{substitution(0, 5), impl.Fact{}, impl.Fact{}},
		{substitution(0, 5), fact(-7, -1), fact(-7, 5)},
		{substitution(0, 5), fact(math.MaxInt, -1, -41, 10, math.MinInt), fact(math.MaxInt, 5, -41, 10, math.MinInt)},
		{substitution(39, 1), fact(math.MinInt, slices.Repeat([]int{-40, -41}, 500)...), fact(math.MinInt, slices.Repeat([]int{1, -41}, 500)...)},
	} {
		if got := impl.ApplyToFact(c.substitution, c.fact); !sameFact(got, c.want) {
			t.Errorf("ApplyToFact(%v, %v) = %v, want %v", c.substitution, c.fact, got, c.want)
		}
	}
	for _, s := range someSubstitutions() {
		for _, values := range tuples([]int{-40, -2, -1, 5}, 3) {
			want := fact(3, image(s, values[0]), image(s, values[1]), image(s, values[2]))
			if got := impl.ApplyToFact(s, fact(3, values...)); !sameFact(got, want) {
				t.Fatalf("ApplyToFact(%v, %v) = %v, want %v", s, values, got, want)
			}
		}
	}
}

// TestNullReplacedByConstant replaces each null by each constant.
func TestNullReplacedByConstant(t *testing.T) {
	for k := range 40 {
		for c := range 10 {
			s := substitution(k, c)
			null := -1 - k
			if got := impl.ApplyToValue(s, null); got != c {
				t.Errorf("ApplyToValue(%v, %d) = %d", s, null, got)
			}
			if got := impl.ApplyToFact(s, fact(2, null, c, null)); !sameFact(got, fact(2, c, c, c)) {
				t.Errorf("ApplyToFact(%v, ..) = %v", s, got)
			}
			// The fact with the null falls together with a fact that is already there.
			x := instance(fact(0, c, c), fact(1, null), fact(1, c), fact(3, null, null), fact(3, null, c), fact(3, c, null))
			got, ok := impl.ApplyToInstance(s, x)
			if want := instance(fact(0, c, c), fact(1, c), fact(3, c, c)); !ok || !sameInstance(got, want) {
				t.Errorf("ApplyToInstance(%v, %v) = %v, %v", s, x, got, ok)
			}
			// A constant stays, even if a later substitution replaces the null.
			if got, ok := impl.Compose(s, substitution(k, (c+1)%10)); !ok || !sameSubstitution(got, s) {
				t.Errorf("%v changes to %v, %v", s, got, ok)
			}
			if got, want := impl.FormatSubstitution(s), "n"+strconv.Itoa(k)+"="+strconv.Itoa(c); got != want {
				t.Errorf("FormatSubstitution(%v) = %q, want %q", s, got, want)
			}
		}
	}
}

func TestApplyToInstance(t *testing.T) {
	for _, c := range []struct {
		substitution impl.Substitution
		facts        []impl.Fact
		want         []impl.Fact
	}{
		{impl.Substitution{}, nil, nil},
		{substitution(0, 5), nil, nil},
		{impl.Substitution{}, instanceFacts(), instanceFacts()},
		{rotation(0), instanceFacts(), instanceFacts()},
		{substitution(7, 1), instanceFacts(), instanceFacts()},
		{substitution(0, 5, 2, -1), []impl.Fact{fact(3, -3, 1), fact(3, -1, 1), fact(3, 5, 1)}, []impl.Fact{fact(3, -1, 1), fact(3, 5, 1)}},
		// The order of the facts is turned around.
		{substitution(0, -3, 1, -2, 2, -1), []impl.Fact{fact(3, -3, 1), fact(3, -2, 2), fact(3, -1, 3)}, []impl.Fact{fact(3, -3, 3), fact(3, -2, 2), fact(3, -1, 1)}},
		{substitution(0, 9, 1, 4, 2, 0), []impl.Fact{fact(1, -1), fact(3, -3, -1), fact(3, -2, -2)}, []impl.Fact{fact(1, 9), fact(3, 0, 9), fact(3, 4, 4)}},
		// Facts fall together that did not stand beside each other.
		{substitution(0, -3, 2, -3), []impl.Fact{fact(3, -3, 4), fact(3, -2, 4), fact(3, -1, 4)}, []impl.Fact{fact(3, -3, 4), fact(3, -2, 4)}},
		{substitution(0, -2, 1, -1), []impl.Fact{fact(3, -2, -1), fact(3, -1, -2)}, []impl.Fact{fact(3, -2, -1), fact(3, -1, -2)}},
		{substitution(0, 0, 1, 0, 2, 0), []impl.Fact{fact(1, -3), fact(1, -2), fact(1, -1), fact(1, 0)}, []impl.Fact{fact(1, 0)}},
		// Facts of different relations stay apart.
		{substitution(0, 3), []impl.Fact{fact(0, 3, 3), fact(1, -1), fact(1, 3), fact(2, -1, -1, -1), fact(3, -1, -1)}, []impl.Fact{fact(0, 3, 3), fact(1, 3), fact(2, 3, 3, 3), fact(3, 3, 3)}},
	} {
		if got, ok := impl.ApplyToInstance(c.substitution, instance(c.facts...)); !ok || !sameInstance(got, instance(c.want...)) {
			t.Errorf("ApplyToInstance(%v, %v) = %v, %v, want %v", c.substitution, c.facts, got, ok, c.want)
		}
	}
	if got, ok := impl.ApplyToInstance(substitution(0, 1), impl.Instance{}); !ok || !isZeroInstance(got) {
		t.Errorf("the zero instance becomes %v, %v", got, ok)
	}
}

// TestApplyToInstances compares ApplyToInstance with imageOfInstance.
func TestApplyToInstances(t *testing.T) {
	all := someSubstitutions()
	for chosen := range 1 << 8 {
		for _, s := range all {
			want := imageOfInstance(s, subset(chosen))
			got, ok := impl.ApplyToInstance(s, subset(chosen))
			if !ok || !sameInstance(got, want) || !impl.IsValidInstance(got) {
				t.Fatalf("ApplyToInstance(%v, %v) = %v, %v, want %v", s, subset(chosen), got, ok, want)
			}
		}
	}
}

// TestApplyToFullInstance applies substitutions to the largest number of facts.
func TestApplyToFullInstance(t *testing.T) {
	var all []impl.Fact
	for k := range 30 {
		all = append(all, fact(1, -30+k))
	}
	full := instance(all...)
	for places := range 40 {
		want := imageOfInstance(rotation(places), full)
		if got, ok := impl.ApplyToInstance(rotation(places), full); !ok || !sameInstance(got, want) || len(got.Facts) != 30 {
			t.Errorf("a rotation by %d gives %v, %v, want %v", places, got, ok, want)
		}
	}
	for _, v := range allValues() {
		s := impl.Substitution{Nulls: rotation(0).Nulls, Values: slices.Repeat([]int{v}, 40)}
		if got, ok := impl.ApplyToInstance(s, full); !ok || !sameInstance(got, instance(fact(1, v))) {
			t.Errorf("all nulls become %d: %v, %v", v, got, ok)
		}
	}
	// An instance of 31 facts is invalid, even if the substitution makes fewer of them.
	beyond := instance(append([]impl.Fact{fact(1, -31)}, all...)...)
	if got, ok := impl.ApplyToInstance(substitution(0, -31), beyond); !isZeroInstance(got) || ok {
		t.Errorf("31 facts become %v, %v", got, ok)
	}
}

func TestApplyToInvalidInstance(t *testing.T) {
	invalid := []impl.Instance{
		{Facts: []impl.Fact{{}}},
		instance(fact(1, 1), fact(1, 1)),
		instance(fact(1, -1), fact(1, -2)),
		instance(fact(1, -41)),
		instance(fact(1, 10)),
		instance(fact(1)),
		instance(fact(1, -1, -1)),
		instance(fact(4, -1)),
		instance(fact(-1, -1)),
		instance(facts(31)...),
		// The substitution below would remove the null from this source fact.
		instance(fact(0, -1, 1)),
	}
	for _, relations := range invalidSchemas() {
		invalid = append(invalid, impl.Instance{Relations: relations}, impl.Instance{Relations: relations, Facts: []impl.Fact{fact(1, -1)}})
	}
	for _, x := range invalid {
		for _, s := range []impl.Substitution{{}, substitution(0, 5), substitution(0, 5, 1, 6), rotation(0), {Nulls: []int{1}}} {
			if got, ok := impl.ApplyToInstance(s, x); !isZeroInstance(got) || ok {
				t.Errorf("ApplyToInstance(%v, %v) = %v, %v", s, x, got, ok)
			}
		}
	}
}

func TestCompose(t *testing.T) {
	for _, c := range []struct {
		a    impl.Substitution
		b    impl.Substitution
		want impl.Substitution
	}{
		{impl.Substitution{}, impl.Substitution{}, impl.Substitution{}},
		{substitution(0, 5), impl.Substitution{}, substitution(0, 5)},
		{impl.Substitution{}, substitution(0, 5), substitution(0, 5)},
		{substitution(0, 5, 2, -1), substitution(0, 7, 1, 8), substitution(0, 5, 1, 8, 2, 7)},
		{substitution(0, 7, 1, 8), substitution(0, 5, 2, -1), substitution(0, 7, 1, 8, 2, -1)},
		// A null that returns to itself is replaced by itself.
		{substitution(0, -2), substitution(1, -1), substitution(0, -1, 1, -1)},
		{substitution(0, -2, 1, -1), substitution(0, -2, 1, -1), substitution(0, -1, 1, -2)},
		{substitution(3, -4), impl.Substitution{}, substitution(3, -4)},
		{impl.Substitution{}, substitution(3, -4), substitution(3, -4)},
		// Each of the two is applied once only.
		{substitution(0, -2, 1, -3), impl.Substitution{}, substitution(0, -2, 1, -3)},
		{substitution(0, -2), substitution(1, -3, 2, -4), substitution(0, -3, 1, -3, 2, -4)},
		{substitution(5, 1), substitution(5, 2), substitution(5, 1)},
		{substitution(5, -8), substitution(5, 2), substitution(5, -8)},
		{substitution(39, -1), substitution(0, -40), substitution(0, -40, 39, -40)},
		{substitution(1, 4, 3, 4), substitution(0, 6, 2, 6, 4, 6), substitution(0, 6, 1, 4, 2, 6, 3, 4, 4, 6)},
	} {
		if got, ok := impl.Compose(c.a, c.b); !ok || !sameSubstitution(got, c.want) {
			t.Errorf("Compose(%v, %v) = %v, %v, want %v", c.a, c.b, got, ok, c.want)
		}
	}
}

// TestComposeIsApplicationInTurn applies the composition of any two substitutions to values, facts and instances.
func TestComposeIsApplicationInTurn(t *testing.T) {
	x := instance(instanceFacts()...)
	all := append(someSubstitutions(), rotation(0), rotation(1), rotation(38))
	for _, a := range all {
		afterA, ok := impl.ApplyToInstance(a, x)
		if !ok {
			t.Fatalf("%v is not applied", a)
		}
		for _, b := range all {
			c, ok := impl.Compose(a, b)
			if !ok || !impl.IsValidSubstitution(c) {
				t.Fatalf("Compose(%v, %v) = %v, %v", a, b, c, ok)
			}
			for _, k := range rotation(0).Nulls {
				if slices.Contains(c.Nulls, k) != (slices.Contains(a.Nulls, k) || slices.Contains(b.Nulls, k)) {
					t.Fatalf("Compose(%v, %v) = %v: null %d", a, b, c, k)
				}
			}
			for _, v := range []int{-41, -40, -39, -8, -3, -2, -1, 0, 5, 9, 10} {
				if got, want := impl.ApplyToValue(c, v), image(b, image(a, v)); got != want {
					t.Fatalf("after %v and %v, %d becomes %d, want %d", a, b, v, got, want)
				}
			}
			f := fact(-7, -1, -2, -40, -8, 5, -1)
			if got, want := impl.ApplyToFact(c, f), impl.ApplyToFact(b, impl.ApplyToFact(a, f)); !sameFact(got, want) {
				t.Fatalf("after %v and %v, %v becomes %v, want %v", a, b, f, got, want)
			}
			got, ok := impl.ApplyToInstance(c, x)
			want, _ := impl.ApplyToInstance(b, afterA)
			if !ok || !sameInstance(got, want) {
				t.Fatalf("after %v and %v, %v becomes %v, want %v", a, b, x, got, want)
			}
		}
	}
}

// TestComposeLargest composes substitutions of as many nulls as there are.
func TestComposeLargest(t *testing.T) {
	for first := range 40 {
		for second := range 40 {
			got, ok := impl.Compose(rotation(first), rotation(second))
			if !ok || !sameSubstitution(got, rotation(first+second)) {
				t.Fatalf("rotations by %d and %d give %v, %v", first, second, got, ok)
			}
		}
		// Each of the two replaces the nulls that the other one does not.
		a := impl.Substitution{Nulls: rotation(0).Nulls[:first], Values: slices.Repeat([]int{3}, first)}
		b := impl.Substitution{Nulls: rotation(0).Nulls[first:], Values: slices.Repeat([]int{4}, 40-first)}
		want := impl.Substitution{Nulls: rotation(0).Nulls, Values: slices.Concat(a.Values, b.Values)}
		for _, pair := range [][2]impl.Substitution{{a, b}, {b, a}} {
			if got, ok := impl.Compose(pair[0], pair[1]); !ok || !sameSubstitution(got, want) {
				t.Fatalf("Compose(%v, %v) = %v, %v", pair[0], pair[1], got, ok)
			}
		}
	}
}

func TestEqualSubstitutions(t *testing.T) {
	different := slices.Concat(someSubstitutions(), invalidSubstitutions(), []impl.Substitution{
		rotation(0), rotation(1), substitution(0, 6), substitution(2, 5), substitution(0, 5, 2, 5), substitution(2, 5, 0, 5),
		{Nulls: []int{5}}, {Values: []int{5}}, {Nulls: []int{0, 0}, Values: []int{5}},
	})
	for i, a := range different {
		for j, b := range different {
			if impl.EqualSubstitutions(a, b) != (i == j) {
				t.Fatalf("EqualSubstitutions(%v, %v) is not %v", a, b, i == j)
			}
		}
		copied := impl.Substitution{Nulls: slices.Clone(a.Nulls), Values: slices.Clone(a.Values)}
		if !impl.EqualSubstitutions(a, copied) {
			t.Fatalf("%v differs from its copy", a)
		}
	}
	if !impl.EqualSubstitutions(impl.Substitution{}, impl.Substitution{Nulls: []int{}, Values: []int{}}) {
		t.Error("nil and empty slices differ")
	}
}

func TestFormatSubstitution(t *testing.T) {
	for _, c := range []struct {
		substitution impl.Substitution
		want         string
	}{
		{substitution(0, 5, 2, -1), "n0=5 n2=n0"},
		{impl.Substitution{}, ""},
		{substitution(0, -1), "n0=n0"},
		{substitution(39, -40), "n39=n39"},
		{substitution(0, 0), "n0=0"},
		{substitution(9, 9, 10, -11, 11, -10), "n9=9 n10=n10 n11=n9"},
	} {
		if got := impl.FormatSubstitution(c.substitution); got != c.want {
			t.Errorf("FormatSubstitution(%v) = %q, want %q", c.substitution, got, c.want)
		}
	}
	for _, s := range append(someSubstitutions(), rotation(0), rotation(13)) {
		var want []string
		for i, k := range s.Nulls {
			want = append(want, formatOfValue(-1-k)+"="+formatOfValue(s.Values[i]))
		}
		if got := impl.FormatSubstitution(s); got != strings.Join(want, " ") {
			t.Fatalf("FormatSubstitution(%v) = %q", s, got)
		}
	}
}

// roomySubstitution returns a substitution whose slices are followed by other data.
func roomySubstitution(pairs ...int) impl.Substitution {
	s := substitution(append(pairs, 77, 88, 66, 55)...)
	return impl.Substitution{Nulls: s.Nulls[:len(pairs)/2], Values: s.Values[:len(pairs)/2]}
}

// memoryOfSubstitution returns a copy of the slices together with their unused capacity.
func memoryOfSubstitution(s impl.Substitution) impl.Substitution {
	return impl.Substitution{Nulls: slices.Clone(s.Nulls[:cap(s.Nulls)]), Values: slices.Clone(s.Values[:cap(s.Values)])}
}

func fill(numbers []int, n int) {
	for i := range numbers[:cap(numbers)] {
		numbers[:cap(numbers)][i] = n
	}
}

// overwriteSubstitution fills all memory of the substitution and says whether its two slices are apart.
func overwriteSubstitution(s impl.Substitution) bool {
	fill(s.Nulls, 1000)
	fill(s.Values, 2000)
	return !slices.Contains(s.Nulls[:cap(s.Nulls)], 2000)
}

func TestSubstitutionsShareNoMemory(t *testing.T) {
	different := []impl.Substitution{
		roomySubstitution(),
		roomySubstitution(0, 5, 2, -1),
		roomySubstitution(1, -2, 39, -40),
		roomySubstitution(0, -2, 1, -1),
		roomySubstitution(3, 3, 2, 2),
		roomySubstitution(0, 99),
	}
	for _, a := range different {
		memory := memoryOfSubstitution(a)
		for _, b := range different {
			memoryOfB := memoryOfSubstitution(b)
			if composed, _ := impl.Compose(a, b); !overwriteSubstitution(composed) {
				t.Errorf("the nulls and the values of one result share memory, for %v and %v", a, b)
			}
			impl.EqualSubstitutions(a, b)
			if !sameSubstitution(memoryOfSubstitution(b), memoryOfB) {
				t.Fatalf("the second argument has become %v", b)
			}
		}
		invalid := roomyInstance()
		invalid.Facts[0].Values[0] = -1
		for _, x := range []impl.Instance{roomyInstance(), invalid} {
			before := wholeMemory(x)
			if applied, _ := impl.ApplyToInstance(a, x); !overwrite(applied) {
				t.Errorf("two facts of one result share memory, for %v and %v", a, x)
			}
			for _, f := range x.Facts {
				fill(impl.ApplyToFact(a, f).Values, 1000)
			}
			if !sameInstance(wholeMemory(x), before) {
				t.Fatalf("the instance has become %v", x)
			}
		}
		impl.IsValidSubstitution(a)
		impl.ApplyToValue(a, -1)
		impl.FormatSubstitution(a)
		if !sameSubstitution(memoryOfSubstitution(a), memory) {
			t.Fatalf("the substitution has become %v", a)
		}
	}
}
