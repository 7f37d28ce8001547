package tests

import (
	"math"
	"math/rand"
	"slices"
	"strings"
	"testing"

	"loop.example/g01919/impl"
)

const unbound = impl.MaxConst + 1

// binding returns the binding of each first number of a pair, a variable, to the second one.
func binding(pairs ...int) []int {
	bound := slices.Repeat([]int{unbound}, 5)
	for i := 0; i < len(pairs); i += 2 {
		bound[pairs[i]] = pairs[i+1]
	}
	return bound
}

// graphRule parses a dependency over graphSchema.
func graphRule(t *testing.T, s string) impl.Dependency {
	t.Helper()
	rule, ok := impl.ParseDependency(graph(t, "").Relations, s)
	if !ok {
		t.Fatal("no dependency:", s)
	}
	return rule
}

// graphAtoms parses any number of atoms over graphSchema.
func graphAtoms(t *testing.T, list string) []impl.Atom {
	t.Helper()
	var parsed []impl.Atom
	for _, s := range strings.Fields(list) {
		parsed = append(parsed, graphRule(t, s+">u0").Body...)
	}
	return parsed
}

// instantiated returns the fact of an atom of which all variables are bound.
func instantiated(a impl.Atom, bound []int) impl.Fact {
	f := impl.Fact{Relation: a.Relation}
	for _, term := range a.Terms {
		if term >= 0 {
			f.Values = append(f.Values, bound[term])
		} else {
			f.Values = append(f.Values, -1-term)
		}
	}
	return f
}

// indicesOf returns the indices of the facts of the atoms, or false if one of them is no fact of the instance.
func indicesOf(x impl.Instance, list []impl.Atom, bound []int) ([]int, bool) {
	var indices []int
	for _, a := range list {
		i := slices.IndexFunc(x.Facts, func(f impl.Fact) bool { return sameFact(f, instantiated(a, bound)) })
		if i < 0 {
			return nil, false
		}
		indices = append(indices, i)
	}
	return indices, true
}

// matchesOf returns the matches that agree with the binding, computed in another way than by choosing facts: it tries all values of the instance for all variables that are not bound, and sorts what is left.
func matchesOf(x impl.Instance, list []impl.Atom, bound []int) [][]int {
	var domain []int
	for _, f := range x.Facts {
		domain = append(domain, f.Values...)
	}
	slices.Sort(domain)
	open := slices.DeleteFunc(variablesOf(list), func(variable int) bool { return bound[variable] != unbound })
	type match struct{ bound, indices []int }
	var found []match
	for _, values := range tuples(slices.Compact(domain), len(open)) {
		tried := slices.Clone(bound)
		for i, variable := range open {
			tried[variable] = values[i]
		}
		if indices, ok := indicesOf(x, list, tried); ok {
			found = append(found, match{tried, indices})
		}
	}
	slices.SortFunc(found, func(a match, b match) int { return slices.Compare(a.indices, b.indices) })
	var bindings [][]int
	for _, m := range found {
		bindings = append(bindings, m.bound)
	}
	return bindings
}

func sameBindings(a [][]int, b [][]int) bool {
	return slices.EqualFunc(a, b, slices.Equal)
}

func checkMatches(t *testing.T, x impl.Instance, list []impl.Atom, want [][]int) {
	t.Helper()
	if got := impl.FindMatches(x, list); !sameBindings(got, want) {
		t.Fatalf("FindMatches(%v, %v) = %v, want %v", x, list, got, want)
	}
	if impl.HasExtension(x, list, binding()) != (len(want) > 0) {
		t.Fatalf("HasExtension(%v, %v) of no bound variable is not %v", x, list, len(want) > 0)
	}
}

func TestMatches(t *testing.T) {
	for _, c := range []struct {
		facts string
		atoms string
		want  [][]int
	}{
		{"", "exy", nil},
		{"a(1)", "exy", nil},
		{"a(1)", "ax", [][]int{binding(0, 1)}},
		{"e(0,1) e(0,2)", "exy", [][]int{binding(0, 0, 1, 1), binding(0, 0, 1, 2)}},
		{"e(0,1) e(0,2)", "euv", [][]int{binding(3, 0, 4, 1), binding(3, 0, 4, 2)}},
		{"a(1) e(0,1) t(1,1,1) u(1)", "ux", [][]int{binding(0, 1)}},
		// The order is that of the facts, not that of the values of the variables.
		{"e(0,5) e(1,3) e(2,4)", "eyx", [][]int{binding(0, 5, 1, 0), binding(0, 3, 1, 1), binding(0, 4, 1, 2)}},
		{"u(n0) u(n3) u(0)", "uz", [][]int{binding(2, -4), binding(2, -1), binding(2, 0)}},
		// The order is that of the atoms, not that of the relations.
		{"a(1) a(2) u(1) u(2)", "uy ax", [][]int{binding(0, 1, 1, 1), binding(0, 2, 1, 1), binding(0, 1, 1, 2), binding(0, 2, 1, 2)}},
		{"a(1) a(2) u(1) u(2)", "ax uy", [][]int{binding(0, 1, 1, 1), binding(0, 1, 1, 2), binding(0, 2, 1, 1), binding(0, 2, 1, 2)}},
		// A variable that occurs twice in an atom.
		{"e(0,0) e(0,1) e(1,0) e(n0,n0) e(n0,n1)", "exx", [][]int{binding(0, -1), binding(0, 0)}},
		{"e(0,1) e(1,0)", "exx", nil},
		{"t(0,0,1) t(0,1,0) t(1,0,0) t(n0,n0,n0) t(0,1,2)", "txxy", [][]int{binding(0, -1, 1, -1), binding(0, 0, 1, 1)}},
		{"t(0,0,1) t(0,1,0) t(1,0,0) t(n0,n0,n0) t(0,1,2)", "txyx", [][]int{binding(0, -1, 1, -1), binding(0, 0, 1, 1)}},
		{"t(0,0,1) t(0,1,0) t(1,0,0) t(n0,n0,n0) t(0,1,2)", "tyxx", [][]int{binding(0, -1, 1, -1), binding(0, 0, 1, 1)}},
		{"t(0,0,1) t(0,1,0) t(1,0,0) t(n0,n0,n0) t(0,1,2)", "tvvv", [][]int{binding(4, -1)}},
		{"t(0,0,1) t(0,1,1) t(0,1,0)", "tx1x", [][]int{binding(0, 0)}},
		// A variable that occurs twice in an atom and again in another one.
		{"e(0,0) e(1,1) e(1,2) e(2,2)", "exx exy", [][]int{binding(0, 0, 1, 0), binding(0, 1, 1, 1), binding(0, 1, 1, 2), binding(0, 2, 1, 2)}},
		{"e(0,0) e(1,1) e(1,2) e(2,2)", "exy eyy", [][]int{binding(0, 0, 1, 0), binding(0, 1, 1, 1), binding(0, 1, 1, 2), binding(0, 2, 1, 2)}},
		{"e(0,1) u(0) u(1)", "exy ux uy", [][]int{binding(0, 0, 1, 1)}},
		// Constants, alone and beside variables. The constant 2 of an atom is the same number as the null n2 of a fact.
		{"e(0,1) e(1,0) e(1,1)", "e1x", [][]int{binding(0, 0), binding(0, 1)}},
		{"e(0,1) e(1,0) e(1,1)", "e01", [][]int{binding()}},
		{"e(0,1) e(1,0) e(1,1)", "e00", nil},
		{"e(n2,1)", "e2x", nil},
		{"e(2,n2)", "ex2", nil},
		{"e(2,n2)", "e2x", [][]int{binding(0, -3)}},
		{"u(n9) u(9)", "u9", [][]int{binding()}},
		{"u(n0) u(0)", "u0", [][]int{binding()}},
		// Nulls are equal only to themselves.
		{"e(n0,n1) e(n1,n2)", "exy eyz", [][]int{binding(0, -1, 1, -2, 2, -3)}},
		{"e(n0,0) e(1,n1)", "exy eyz", nil},
		// Atoms can choose the same fact, and without a common variable they choose freely.
		{"e(0,1)", "exy exz", [][]int{binding(0, 0, 1, 1, 2, 1)}},
		{"e(0,1)", "exy ezu exv", [][]int{binding(0, 0, 1, 1, 2, 0, 3, 1, 4, 1)}},
		{"u(0) u(1)", "ux ux ux", [][]int{binding(0, 0), binding(0, 1)}},
		{"u(0) u(1)", "ux u1 uy", [][]int{binding(0, 0, 1, 0), binding(0, 0, 1, 1), binding(0, 1, 1, 0), binding(0, 1, 1, 1)}},
		{"e(0,1) e(1,2) e(2,0)", "exy eyz ezx", [][]int{binding(0, 0, 1, 1, 2, 2), binding(0, 1, 1, 2, 2, 0), binding(0, 2, 1, 0, 2, 1)}},
		{"a(1) e(1,2) t(1,2,3)", "txyz exy ax", [][]int{binding(0, 1, 1, 2, 2, 3)}},
		{"a(2) e(1,2) t(1,2,3)", "txyz exy ax", nil},
		// No atoms have one match, in which no variable is bound.
		{"", "", [][]int{binding()}},
		{"u(0) u(1)", "", [][]int{binding()}},
		// There are no more than three atoms.
		{"u(0)", "ux ux ux ux", nil},
		{"u(0)", "ux ux ux ux ux", nil},
	} {
		t.Run(c.facts+" "+c.atoms, func(t *testing.T) {
			checkMatches(t, graph(t, c.facts), graphAtoms(t, c.atoms), c.want)
		})
	}
}

// smallInstances returns all instances of up to four of these facts.
func smallInstances(t *testing.T) []impl.Instance {
	list := strings.Fields("a(0) e(n0,n0) e(n0,0) e(0,n0) e(0,0) e(0,1) u(n0)")
	var all []impl.Instance
	for chosen := range 1 << len(list) {
		var some []string
		for i, s := range list {
			if chosen>>i&1 == 1 {
				some = append(some, s)
			}
		}
		if len(some) <= 4 {
			all = append(all, graph(t, strings.Join(some, " ")))
		}
	}
	return all
}

// smallAtoms returns all atoms of these terms, of which -1 is the constant 0.
func smallAtoms(terms ...int) []impl.Atom {
	var all []impl.Atom
	for relation, arity := range []int{1, 2, 3, 1} {
		for _, list := range tuples(terms, arity) {
			all = append(all, atom(relation, list...))
		}
	}
	return all
}

func TestAllMatchesOfSmallInstances(t *testing.T) {
	list := smallAtoms(-1, 0, 1)
	for _, x := range smallInstances(t) {
		for _, first := range list {
			checkMatches(t, x, atoms(first), matchesOf(x, atoms(first), binding()))
			for _, second := range list {
				if len(x.Facts) <= 3 {
					checkMatches(t, x, atoms(first, second), matchesOf(x, atoms(first, second), binding()))
				}
			}
		}
	}
}

// randomInstance returns up to the given number of facts of all relations, with values from a list.
func randomInstance(random *rand.Rand, relations []impl.Relation, count int, values []int) impl.Instance {
	x := impl.Instance{Relations: relations}
	for range count {
		relation := random.Intn(len(relations))
		f := impl.Fact{Relation: relation}
		for range relations[relation].Arity {
			v := values[random.Intn(len(values))]
			if relations[relation].Source {
				v = max(v, 0)
			}
			f.Values = append(f.Values, v)
		}
		x, _ = impl.InsertFact(x, f)
	}
	return x
}

func randomAtom(random *rand.Rand, relations []impl.Relation) impl.Atom {
	relation := random.Intn(len(relations))
	a := impl.Atom{Relation: relation}
	for range relations[relation].Arity {
		a.Terms = append(a.Terms, random.Intn(6)-1)
	}
	return a
}

func TestMatchesOfRandomAtoms(t *testing.T) {
	random := rand.New(rand.NewSource(111))
	most := 0
	for range 3000 {
		x := randomInstance(random, dependencySchema(), random.Intn(30), []int{-40, -1, 0, 9})
		var list []impl.Atom
		for range random.Intn(4) {
			list = append(list, randomAtom(random, x.Relations))
		}
		want := matchesOf(x, list, binding())
		checkMatches(t, x, list, want)
		most = max(most, len(want))
	}
	if most < 20 {
		t.Error("there are at most", most, "matches")
	}
}

// TestManyMatches has as many matches as there can be: 30 facts for each of three atoms.
func TestManyMatches(t *testing.T) {
	x := graph(t, "")
	for v := -20; v < 10; v++ {
		x.Facts = append(x.Facts, fact(3, v))
	}
	got := impl.FindMatches(x, graphAtoms(t, "uu ux uz"))
	if len(got) != 27000 {
		t.Fatal("the number of matches is", len(got))
	}
	for i, match := range got {
		if !slices.Equal(match, binding(3, i/900-20, 0, i/30%30-20, 2, i%30-20)) {
			t.Fatalf("match %d is %v", i, match)
		}
	}
	if !impl.HasExtension(x, graphAtoms(t, "ux uy uz"), binding(0, 9, 1, 9, 2, 9)) {
		t.Error("the last match is not found")
	}
}

// badMatchArguments returns instances and atoms of which one or the other is invalid, although there would be matches.
func badMatchArguments(t *testing.T) ([]impl.Instance, [][]impl.Atom) {
	x := graph(t, "e(0,0) u(0)")
	var instances []impl.Instance
	var lists [][]impl.Atom
	add := func(x impl.Instance, list ...impl.Atom) {
		instances, lists = append(instances, x), append(lists, list)
	}
	for _, facts := range [][]impl.Fact{
		{fact(1, 0, 0), fact(1, 0, 0)},
		{fact(3, 0), fact(1, 0, 0)},
		{fact(0, -1), fact(1, 0, 0)},
		{fact(1, 0, 0), fact(3, 10)},
		{fact(1, 0, 0), fact(3, -41)},
		{fact(1, 0, 0), fact(3, 0, 0)},
		{fact(1, 0, 0), fact(4, 0)},
		{fact(-1, 0), fact(1, 0, 0)},
	} {
		add(impl.Instance{Relations: x.Relations, Facts: facts}, atom(1, 0, 0))
		add(impl.Instance{Relations: x.Relations, Facts: facts})
	}
	for _, relations := range invalidSchemas() {
		add(impl.Instance{Relations: relations, Facts: []impl.Fact{fact(1, 0)}}, atom(1, 0))
		add(impl.Instance{Relations: relations})
	}
	add(instance(facts(31)...), atom(3, 0, 1))
	for _, a := range []impl.Atom{
		atom(1), atom(1, 0), atom(1, 0, 1, 2), atom(3, 0, 1), atom(-1, 0), atom(4, 0), atom(math.MaxInt, 0),
		atom(3, 5), atom(1, 0, 5), atom(3, -11), atom(1, -11, 0), atom(3, math.MaxInt), atom(3, math.MinInt),
	} {
		add(x, a)
		add(x, a, atom(1, 0, 0))
		add(x, atom(1, 0, 0), a)
		// The other atoms have no match, so that nothing but the check meets the invalid one.
		add(x, atom(0, 0), atom(2, 0, 1, 2), a)
	}
	add(x, make([]impl.Atom, 100000)...)
	return instances, lists
}

func TestNoMatchesOfInvalidArguments(t *testing.T) {
	instances, lists := badMatchArguments(t)
	for i, x := range instances {
		if got := impl.FindMatches(x, lists[i]); len(got) != 0 {
			t.Errorf("FindMatches(%v, %v) = %v", x, lists[i], got)
		}
		for _, bound := range [][]int{binding(), binding(0, 0), binding(0, 0, 1, 0), binding(4, 10), nil} {
			if impl.HasExtension(x, lists[i], bound) {
				t.Errorf("HasExtension(%v, %v, %v)", x, lists[i], bound)
			}
		}
	}
	// The empty schema is valid.
	checkMatches(t, impl.Instance{}, nil, [][]int{binding()})
	checkMatches(t, impl.Instance{}, atoms(atom(0, 0)), nil)
}

func TestHasExtension(t *testing.T) {
	for _, c := range []struct {
		facts string
		atoms string
		bound []int
		want  bool
	}{
		{"e(0,1)", "exy", binding(0, 0), true},
		{"e(0,1)", "exy", binding(1, 1), true},
		{"e(0,1)", "exy", binding(0, 0, 1, 1), true},
		{"e(0,1)", "exy", binding(0, 1), false},
		{"e(0,1)", "exy", binding(0, 0, 1, 0), false},
		{"e(0,1) e(1,0)", "exy", binding(0, 0, 1, 0), false},
		{"e(n0,1)", "exy", binding(0, -1), true},
		{"e(n0,1)", "exy", binding(0, 0), false},
		// A variable that occurs twice, bound or not.
		{"e(0,1) e(1,0)", "exx", binding(), false},
		{"e(0,1) e(1,1)", "exx", binding(0, 0), false},
		{"e(0,1) e(1,1)", "exx", binding(0, 1), true},
		{"e(0,1) e(1,2)", "exy eyz", binding(0, 0, 2, 2), true},
		{"e(0,1) e(1,2)", "exy eyz", binding(0, 0, 2, 1), false},
		{"e(0,1) e(0,2) e(2,3)", "exy eyz", binding(0, 0), true},
		{"e(0,1) e(0,2) e(2,3) u(3)", "exy eyz uz", binding(0, 0, 1, 2), true},
		{"e(0,1) e(0,2) e(2,3) u(2)", "exy eyz uz", binding(0, 0), false},
		// What is bound beside the variables of the atoms does not matter.
		{"e(0,1)", "exy", binding(2, 5, 3, -7, 4, 0), true},
		{"e(0,1)", "e01", binding(0, 5, 1, 5), true},
		{"", "", binding(), true},
		{"", "", binding(0, 1, 1, 2, 2, 3, 3, 4, 4, 5), true},
		{"e(0,1)", "exy", binding(2, 11, 3, -41, 4, math.MinInt), true},
		// No value of an instance is one of these, but all of them mean that the variable is bound.
		{"e(0,1)", "exy", binding(0, 11), false},
		{"e(0,1)", "exy", binding(0, -41), false},
		{"e(0,1)", "exy", binding(1, math.MaxInt), false},
		{"e(0,1)", "exy", binding(1, math.MinInt), false},
		{"e(0,1)", "exy", nil, false},
		{"e(0,1)", "exy", []int{}, false},
		{"e(0,1)", "exy", []int{0, 1}, false},
		{"e(0,1)", "exy", []int{0, 1, 10, 10}, false},
		{"e(0,1)", "exy", []int{0, 1, 10, 10, 10, 10}, false},
		{"e(0,1)", "exy", slices.Repeat([]int{10}, 1000), false},
		{"e(0,1)", "e01", []int{10, 10, 10, 10}, false},
		{"", "", nil, false},
		{"", "", []int{10, 10, 10, 10, 10, 10}, false},
		{"u(0)", "ux ux ux", binding(0, 0), true},
		{"u(0)", "ux ux ux ux", binding(0, 0), false},
	} {
		if got := impl.HasExtension(graph(t, c.facts), graphAtoms(t, c.atoms), c.bound); got != c.want {
			t.Errorf("HasExtension(%s, %s, %v) = %v", c.facts, c.atoms, c.bound, got)
		}
	}
}

func TestAllExtensionsOfSmallInstances(t *testing.T) {
	random := rand.New(rand.NewSource(112))
	bindings := tuples([]int{unbound, -1, 0, 1}, 2)
	list := smallAtoms(-1, 0, 1)
	for _, x := range smallInstances(t) {
		for _, first := range list {
			chosen := atoms(first, list[random.Intn(len(list))])
			for _, pair := range bindings {
				bound := binding(0, pair[0], 1, pair[1], 4, 0)
				if impl.HasExtension(x, chosen, bound) != (len(matchesOf(x, chosen, bound)) > 0) {
					t.Fatalf("HasExtension(%v, %v, %v) is wrong", x, chosen, bound)
				}
			}
		}
	}
}

func TestInstantiate(t *testing.T) {
	for _, c := range []struct {
		atom  impl.Atom
		bound []int
		want  impl.Fact
	}{
		{atom(2, 1, -6), []int{0, -2}, fact(2, -2, 5)},
		{atom(0, 0, 1), binding(0, 3, 1, 4), fact(0, 3, 4)},
		{atom(0, 1, 0), binding(0, 3, 1, 4), fact(0, 4, 3)},
		{atom(0, 0, 0), []int{-40}, fact(0, -40, -40)},
		{atom(0, -1, -10), nil, fact(0, 0, 9)},
		{atom(5, 4), binding(4, 9), fact(5, 9)},
		// The unbound and the invalid values are not those of the atom.
		{atom(1, 2), []int{10, math.MaxInt, 7, -41}, fact(1, 7)},
		// Neither the relation nor the number of terms matters.
		{atom(-7), nil, fact(-7)},
		{atom(99, 0, 0, 0, 0, 0), []int{1}, fact(99, 1, 1, 1, 1, 1)},
		{atom(0, 7), []int{0, 1, 2, 3, 4, 5, 6, -8}, fact(0, -8)},
		{impl.Atom{}, nil, impl.Fact{}},
	} {
		if got, ok := impl.Instantiate(c.atom, c.bound); !sameFact(got, c.want) || !ok {
			t.Errorf("Instantiate(%v, %v) = %v, %v", c.atom, c.bound, got, ok)
		}
	}
}

// TestInstantiateOneTerm puts each term near a limit at each place, with bindings of all lengths near that of a binding and with all values near a limit.
func TestInstantiateOneTerm(t *testing.T) {
	for _, term := range []int{math.MinInt, math.MinInt + 1, -1 << 32, -42, -12, -11, -10, -9, -2, -1, 0, 1, 2, 3, 4, 5, 6, 9, 10, 11, 1 << 32, math.MaxInt} {
		for length := range 8 {
			for _, v := range []int{math.MinInt, -1 << 32, -42, -41, -40, -39, -10, -1, 0, 1, 8, 9, 10, 11, 1 << 32, math.MaxInt} {
				value, known := v, 0 <= term && term < length && -40 <= v && v <= 9
				if -10 <= term && term < 0 {
					value, known = -1-term, true
				}
				for place := range 3 {
					a := atom(3, -5, -6, -7)
					a.Terms[place] = term
					want := fact(3, 4, 5, 6)
					want.Values[place] = value
					got, ok := impl.Instantiate(a, slices.Repeat([]int{v}, length))
					if ok != known || known && !sameFact(got, want) || !known && !isZeroFact(got) {
						t.Fatalf("Instantiate(%v, %d values %d) = %v, %v", a, length, v, got, ok)
					}
				}
			}
		}
	}
}

// isTrigger and isActive say what IsTrigger and IsActiveTrigger have to return for valid instances and dependencies.
func isTrigger(x impl.Instance, rule impl.Dependency, bound []int) bool {
	for variable, v := range bound {
		if (v != unbound) != slices.Contains(variablesOf(rule.Body), variable) {
			return false
		}
	}
	_, contained := indicesOf(x, rule.Body, bound)
	return contained
}

func isActive(x impl.Instance, rule impl.Dependency, bound []int) bool {
	if rule.IsEGD {
		return isTrigger(x, rule, bound) && bound[rule.LeftVar] != bound[rule.RightVar]
	}
	return isTrigger(x, rule, bound) && len(matchesOf(x, rule.Head, bound)) == 0
}

// checkTriggers compares the triggers of a valid instance and a valid dependency with all bindings of these values, and returns how many are active and how many are not.
func checkTriggers(t *testing.T, x impl.Instance, rule impl.Dependency, values []int) (int, int) {
	t.Helper()
	triggers := 0
	for _, bound := range tuples(append([]int{unbound}, values...), 5) {
		want := isTrigger(x, rule, bound)
		if impl.IsTrigger(x, rule, bound) != want {
			t.Fatalf("IsTrigger(%v, %v, %v) is not %v", x, rule, bound, want)
		}
		active := want && isActive(x, rule, bound)
		if impl.IsActiveTrigger(x, rule, bound) != active {
			t.Fatalf("IsActiveTrigger(%v, %v, %v) is not %v", x, rule, bound, active)
		}
		if want {
			triggers++
		}
	}
	matches := impl.FindMatches(x, rule.Body)
	if len(matches) != triggers {
		t.Fatalf("%v has %d matches and %d triggers in %v", rule, len(matches), triggers, x)
	}
	var active [][]int
	for _, bound := range matches {
		if isActive(x, rule, bound) {
			active = append(active, bound)
		}
	}
	if got := impl.ActiveTriggers(x, rule); !sameBindings(got, active) {
		t.Fatalf("ActiveTriggers(%v, %v) = %v, want %v", x, rule, got, active)
	}
	return len(active), len(matches) - len(active)
}

func TestTriggersOfValidDependencies(t *testing.T) {
	random := rand.New(rand.NewSource(113))
	values := []int{-1, 0, 9}
	active, inactive := 0, 0
	for _, rule := range validDependencies() {
		ruleTriggers := 0
		for range 30 {
			found, others := checkTriggers(t, randomInstance(random, dependencySchema(), 2+random.Intn(24), values), rule, values)
			active += found
			inactive += others
			ruleTriggers += found + others
		}
		if ruleTriggers == 0 {
			t.Errorf("%v has no triggers", rule)
		}
	}
	if active < 500 || inactive < 500 {
		t.Errorf("there are %d active triggers and %d others", active, inactive)
	}
}

func TestTriggersOfSmallInstances(t *testing.T) {
	for _, s := range []string{
		"exx>ux", "exy>exx", "exy>eyx", "exy>exz", "exx>exy uy", "ax>exy eyx", "uy>eyy", "e0x>ux", "ex0>uz", "exy eyz>exz", "exy uy>eyv evx",
		"exy=xy", "exy exz=yz", "exx uy=xy", "e0x ux>u0", "ux uy=xy",
	} {
		for _, x := range smallInstances(t) {
			checkTriggers(t, x, graphRule(t, s), []int{-1, 0, 1})
		}
	}
}

func TestActiveTriggers(t *testing.T) {
	for _, c := range []struct {
		facts  string
		rule   string
		active [][]int
	}{
		{"a(0) a(1) u(0)", "ax>ux", [][]int{binding(0, 1)}},
		{"a(0) a(1) e(0,5) e(n0,1)", "ax>exy", [][]int{binding(0, 1)}},
		// The variable y of Head stands for one value in both atoms.
		{"a(0) a(1) e(0,2) e(1,2) e(1,3) u(3)", "ax>exy uy", [][]int{binding(0, 0)}},
		{"a(0) a(1) e(0,n0) e(1,n1) u(n1)", "ax>exy uy", [][]int{binding(0, 0)}},
		// A variable that occurs twice in an atom of Head, or of Body.
		{"a(0) a(1) e(0,1) e(1,1)", "ax>exx", [][]int{binding(0, 0)}},
		{"a(0) e(0,1) e(1,0)", "ax>eyy", [][]int{binding(0, 0)}},
		{"a(0) e(0,1) e(n5,n5)", "ax>eyy", nil},
		{"e(0,0) e(0,1) e(n0,n0) e(1,1) u(1)", "exx>ux", [][]int{binding(0, -1), binding(0, 0)}},
		{"t(n0,n0,0) t(0,0,n0) t(0,1,2)", "txxy=xy", [][]int{binding(0, -1, 1, 0), binding(0, 0, 1, -1)}},
		// A variable of Body that is not in Head, and one of Head that is not in Body.
		{"e(0,1) e(1,0) e(2,0) u(0)", "exy>uy", [][]int{binding(0, 0, 1, 1)}},
		{"e(0,1) e(1,0)", "exy>uz", [][]int{binding(0, 0, 1, 1), binding(0, 1, 1, 0)}},
		{"e(0,1) e(1,0) u(n7)", "exy>uz", nil},
		// Constants.
		{"a(0) a(1) u(3)", "ax>u3", nil},
		{"a(0) a(1) u(n3)", "ax>u3", [][]int{binding(0, 0), binding(0, 1)}},
		{"a(0) a(1)", "a1>u1", [][]int{binding()}},
		{"a(0)", "a1>u1", nil},
		// Equalities, also of nulls with nulls and with constants.
		{"e(0,1) e(0,2) e(1,3)", "exy exz=yz", [][]int{binding(0, 0, 1, 1, 2, 2), binding(0, 0, 1, 2, 2, 1)}},
		{"e(n0,n0) e(n0,n1) e(n1,0) e(0,0)", "exy=xy", [][]int{binding(0, -2, 1, 0), binding(0, -1, 1, -2)}},
		{"e(0,0) e(n1,n1)", "exy=xy", nil},
		{"", "exy=xy", nil},
		{"", "exy>uy", nil},
	} {
		x, rule := graph(t, c.facts), graphRule(t, c.rule)
		if got := impl.ActiveTriggers(x, rule); !sameBindings(got, c.active) {
			t.Errorf("ActiveTriggers(%s, %s) = %v", c.facts, c.rule, got)
		}
		for _, bound := range impl.FindMatches(x, rule.Body) {
			if !impl.IsTrigger(x, rule, bound) {
				t.Errorf("%v is no trigger of %s in %s", bound, c.rule, c.facts)
			}
			active := slices.ContainsFunc(c.active, func(b []int) bool { return slices.Equal(b, bound) })
			if impl.IsActiveTrigger(x, rule, bound) != active {
				t.Errorf("IsActiveTrigger(%s, %s, %v) is not %v", c.facts, c.rule, bound, active)
			}
		}
	}
}

// TestEstablishedTriggers adds the instantiated Head for each active trigger, with new nulls for the variables that Body does not bind: the trigger is then active no more.
func TestEstablishedTriggers(t *testing.T) {
	random := rand.New(rand.NewSource(114))
	established := 0
	for range 300 {
		x := randomInstance(random, dependencySchema(), 8, []int{-1, 0, 9})
		for _, rule := range validDependencies() {
			if rule.IsEGD {
				continue
			}
			for _, bound := range impl.ActiveTriggers(x, rule) {
				extended := slices.Clone(bound)
				for i, v := range extended {
					if v == unbound {
						extended[i] = -10 - i
					}
				}
				larger := x
				for _, a := range rule.Head {
					f, ok := impl.Instantiate(a, extended)
					if !ok || !sameFact(f, instantiated(a, extended)) {
						t.Fatalf("Instantiate(%v, %v) = %v, %v", a, extended, f, ok)
					}
					larger, _ = impl.InsertFact(larger, f)
				}
				if !impl.IsActiveTrigger(x, rule, bound) || !impl.IsTrigger(larger, rule, bound) || impl.IsActiveTrigger(larger, rule, bound) {
					t.Fatalf("%v is not established for %v in %v", rule, bound, larger)
				}
				established++
			}
		}
	}
	if established < 1000 {
		t.Error("only", established, "triggers are established")
	}
}

// checkNoTrigger checks arguments of which one is invalid.
func checkNoTrigger(t *testing.T, x impl.Instance, rule impl.Dependency, bound []int) {
	t.Helper()
	if impl.IsTrigger(x, rule, bound) || impl.IsActiveTrigger(x, rule, bound) {
		t.Errorf("%v is a trigger of %v in %v", bound, rule, x)
	}
}

func TestBindingsThatAreNoTriggers(t *testing.T) {
	x := graph(t, "e(0,1) e(n0,2)")
	rule := graphRule(t, "exy>uz")
	if !impl.IsActiveTrigger(x, rule, binding(0, 0, 1, 1)) || !impl.IsActiveTrigger(x, rule, binding(0, -1, 1, 2)) {
		t.Error("the triggers of", rule, "are not active in", x)
	}
	for _, bound := range [][]int{
		// Other values, too few variables, and too many.
		binding(0, 1, 1, 0), binding(0, 0, 1, 2), binding(0, 0, 1, 11), binding(0, -41, 1, 1), binding(0, math.MinInt, 1, math.MaxInt),
		binding(), binding(0, 0), binding(1, 1), binding(0, 0, 2, 1), binding(2, 0, 3, 1),
		binding(0, 0, 1, 1, 2, 0), binding(0, 0, 1, 1, 4, -1), binding(0, 0, 1, 1, 2, 11), binding(0, 0, 1, 1, 3, -41), binding(0, 0, 1, 1, 4, math.MinInt),
		// Other lengths.
		nil, {}, {0}, {0, 1}, {0, 1, 10}, {0, 1, 10, 10}, {0, 1, 10, 10, 10, 10}, {0, 1, 10, 10, 10, 0}, {10, 0, 1, 10, 10, 10}, slices.Repeat([]int{0}, 1000),
	} {
		checkNoTrigger(t, x, rule, bound)
	}
	ground := graphRule(t, "e01>u0")
	for _, bound := range [][]int{nil, {}, {10}, {10, 10, 10, 10}, {10, 10, 10, 10, 10, 10}, binding(0, 0), binding(4, 11)} {
		checkNoTrigger(t, x, ground, bound)
	}
	if !impl.IsActiveTrigger(x, ground, binding()) {
		t.Error("the match without variables is no active trigger")
	}
}

func TestNoTriggersOfInvalidArguments(t *testing.T) {
	relations := dependencySchema()
	x := impl.Instance{Relations: relations, Facts: []impl.Fact{
		fact(0, 0, 1), fact(0, 0, 2), fact(1, 0, 1), fact(1, 0, 2), fact(3, 0), fact(3, 1), fact(5, 0), fact(5, 1),
	}}
	bindings := tuples([]int{unbound, 0, 1}, 5)
	for _, rule := range invalidDependencies() {
		for _, bound := range bindings {
			checkNoTrigger(t, x, rule, bound)
		}
		if got := impl.ActiveTriggers(x, rule); len(got) != 0 {
			t.Errorf("ActiveTriggers(%v, %v) = %v", x, rule, got)
		}
	}
	// Each of the instances is invalid in another way, and none in what the dependency speaks of.
	rules := []impl.Dependency{tgd(atoms(atom(1, 0, 1)), atoms(atom(0, 1, 0))), egd(atoms(atom(1, 0, 1)), 0, 1)}
	for _, facts := range [][]impl.Fact{
		slices.Concat(x.Facts[:4], x.Facts[3:]),
		{x.Facts[3], x.Facts[2]},
		{x.Facts[2], fact(5, -1)},
		{x.Facts[2], fact(5, 10)},
		{x.Facts[2], fact(5, 0, 1)},
		{x.Facts[2], fact(6, 0)},
	} {
		invalid := impl.Instance{Relations: relations, Facts: facts}
		for _, rule := range rules {
			for _, bound := range [][]int{binding(0, 0, 1, 1), binding(0, 0, 1, 2)} {
				checkNoTrigger(t, invalid, rule, bound)
			}
			if got := impl.ActiveTriggers(invalid, rule); len(got) != 0 {
				t.Errorf("ActiveTriggers(%v, %v) = %v", invalid, rule, got)
			}
		}
	}
	for _, relations := range invalidSchemas() {
		invalid := impl.Instance{Relations: relations, Facts: []impl.Fact{fact(1, 0), fact(1, 1)}}
		for _, rule := range []impl.Dependency{egd(atoms(atom(1, 0), atom(1, 1)), 0, 1), tgd(atoms(atom(1, 0)), atoms(atom(1, 1)))} {
			checkNoTrigger(t, invalid, rule, binding(0, 0))
			checkNoTrigger(t, invalid, rule, binding(0, 0, 1, 1))
			if got := impl.ActiveTriggers(invalid, rule); len(got) != 0 {
				t.Errorf("ActiveTriggers(%v, %v) = %v", invalid, rule, got)
			}
		}
	}
}

func TestMatchesShareNoMemory(t *testing.T) {
	x := roomyInstance()
	before := wholeMemory(x)
	// The relations of factSchema are a, p, q and z, of the arities 2, 1, 3 and 2.
	for _, original := range []impl.Dependency{
		tgd(atoms(atom(0, 0, 1), atom(1, 2)), atoms(atom(3, 0, 2))),
		tgd(atoms(atom(3, 0, 1)), atoms(atom(1, 1))),
		egd(atoms(atom(1, 0), atom(1, 1)), 0, 1),
	} {
		rule := copiedDependency(original, 3)
		memory := memoryOfDependency(rule)
		want := matchesOf(x, original.Body, binding())
		for range 2 {
			matches := impl.FindMatches(x, rule.Body)
			active := impl.ActiveTriggers(x, rule)
			if !sameBindings(matches, want) || len(active) == 0 {
				t.Fatalf("%v has the matches %v and the active triggers %v", rule, matches, active)
			}
			for _, found := range want {
				bound := append(slices.Clone(found), 44, 55)[:5]
				kept := slices.Clone(bound[:cap(bound)])
				impl.HasExtension(x, rule.Head, bound)
				impl.IsTrigger(x, rule, bound)
				impl.IsActiveTrigger(x, rule, bound)
				for _, a := range rule.Body {
					f, _ := impl.Instantiate(a, bound)
					fill(f.Values, 1000)
				}
				if !slices.Equal(bound[:cap(bound)], kept) {
					t.Fatalf("the binding has become %v", bound[:cap(bound)])
				}
			}
			if !overwriteClasses(matches) || !overwriteClasses(active) {
				t.Errorf("two bindings of one result share memory, for %v", rule)
			}
		}
		if !slices.Equal(memoryOfDependency(rule), memory) || !sameInstance(wholeMemory(x), before) {
			t.Fatalf("the arguments have become %v and %v", rule, x)
		}
	}
}
