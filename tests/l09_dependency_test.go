package tests

import (
	"math"
	"slices"
	"testing"

	"loop.example/g01919/impl"
)

// dependencySchema has source relations that are neither the first ones nor together, and relations of each arity on both sides.
func dependencySchema() []impl.Relation {
	return []impl.Relation{
		{Name: "a", Arity: 2},
		{Name: "b", Arity: 2, Source: true},
		{Name: "p", Arity: 3},
		{Name: "q", Arity: 1},
		{Name: "r", Arity: 3, Source: true},
		{Name: "s", Arity: 1, Source: true},
	}
}

func atom(relation int, terms ...int) impl.Atom {
	return impl.Atom{Relation: relation, Terms: terms}
}

func atoms(list ...impl.Atom) []impl.Atom {
	return list
}

func tgd(body []impl.Atom, head []impl.Atom) impl.Dependency {
	return impl.Dependency{Body: body, Head: head}
}

func egd(body []impl.Atom, left int, right int) impl.Dependency {
	return impl.Dependency{Body: body, IsEGD: true, LeftVar: left, RightVar: right}
}

// validDependencies returns different valid dependencies over dependencySchema.
func validDependencies() []impl.Dependency {
	return []impl.Dependency{
		// The examples of chapter 10, with b for the source relation.
		tgd(atoms(atom(1, 0, 1)), atoms(atom(0, 0, 2), atom(0, 2, 1))),
		egd(atoms(atom(0, 0, 1), atom(0, 0, 2)), 1, 2),
		// Frontier variables only, existential variables only, both, and neither.
		tgd(atoms(atom(1, 0, 1)), atoms(atom(0, 1, 0))),
		tgd(atoms(atom(1, 0, 1)), atoms(atom(0, 2, 3))),
		tgd(atoms(atom(1, 4, 4)), atoms(atom(2, 0, 4, 0))),
		tgd(atoms(atom(1, 0, 1)), atoms(atom(3, -1))),
		// No variables of Body, or none at all.
		tgd(atoms(atom(5, -10)), atoms(atom(3, 4))),
		tgd(atoms(atom(5, -1)), atoms(atom(3, -10))),
		// Bodies of the target, of both sides, and of the same atom twice.
		tgd(atoms(atom(3, 0)), atoms(atom(3, 1))),
		tgd(atoms(atom(3, 0)), atoms(atom(3, 0))),
		tgd(atoms(atom(1, 0, 1), atom(0, 1, 2)), atoms(atom(2, 0, 1, 2))),
		tgd(atoms(atom(0, 1, 2), atom(1, 0, 1)), atoms(atom(2, 0, 1, 2))),
		tgd(atoms(atom(5, 0), atom(5, 0)), atoms(atom(3, 0), atom(3, 0))),
		tgd(atoms(atom(4, 0, 1, 2), atom(4, 2, 3, 4)), atoms(atom(2, 4, 3, 2), atom(2, 2, 1, 0))),
		// Equalities in one atom, between two atoms, of source facts, and beside constants.
		egd(atoms(atom(0, 0, 1)), 0, 1),
		egd(atoms(atom(0, 1, 0)), 0, 1),
		egd(atoms(atom(0, 3, 4)), 3, 4),
		egd(atoms(atom(3, 0), atom(3, 4)), 0, 4),
		egd(atoms(atom(3, 4), atom(3, 0)), 0, 4),
		egd(atoms(atom(1, 0, 1)), 0, 1),
		egd(atoms(atom(4, 2, -10, 1), atom(2, -1, 1, 1)), 1, 2),
	}
}

// with returns a copy of the dependency with one change.
func with(dependency impl.Dependency, change func(*impl.Dependency)) impl.Dependency {
	dependency.Body = slices.Clone(dependency.Body)
	dependency.Head = slices.Clone(dependency.Head)
	change(&dependency)
	return dependency
}

func checkValidDependency(t *testing.T, dependency impl.Dependency, want bool) {
	t.Helper()
	if impl.IsValidDependency(dependencySchema(), dependency) != want {
		t.Errorf("IsValidDependency(%v) is not %v", dependency, want)
	}
	if impl.AreValidDependencies(dependencySchema(), []impl.Dependency{dependency}) != want {
		t.Errorf("AreValidDependencies of %v alone is not %v", dependency, want)
	}
}

func TestDependencyLimits(t *testing.T) {
	if impl.MaxVars != 5 || impl.MaxBodyAtoms != 2 || impl.MaxDependencies != 5 {
		t.Error("the limits are", impl.MaxVars, impl.MaxBodyAtoms, impl.MaxDependencies)
	}
}

// TestIsValidAtom tries all relations and numbers of terms, also those that do not fit.
func TestIsValidAtom(t *testing.T) {
	arities := map[int]int{0: 2, 1: 2, 2: 3, 3: 1, 4: 3, 5: 1}
	for _, relation := range []int{math.MinInt, -1 << 32, -7, -6, -2, -1, 0, 1, 2, 3, 4, 5, 6, 7, 1 << 32, math.MaxInt} {
		for count := range 8 {
			arity, found := arities[relation]
			want := found && arity == count
			if impl.IsValidAtom(dependencySchema(), impl.Atom{Relation: relation, Terms: make([]int, count)}) != want {
				t.Errorf("IsValidAtom of relation %d with %d terms is not %v", relation, count, want)
			}
		}
	}
	if impl.IsValidAtom(dependencySchema(), impl.Atom{}) {
		t.Error("the zero atom is valid")
	}
	if impl.IsValidAtom(dependencySchema(), impl.Atom{Relation: 3, Terms: make([]int, 100000)}) {
		t.Error("an atom with 100000 terms is valid")
	}
}

// TestOneInvalidTerm puts each term near a limit at each place of an atom that is valid otherwise.
func TestOneInvalidTerm(t *testing.T) {
	for relation, arity := range []int{2, 2, 3, 1, 3, 1} {
		for place := range arity {
			for _, term := range []int{math.MinInt, math.MinInt + 1, -1 << 32, -41, -40, -12, -11, -10, -9, -2, -1, 0, 1, 2, 3, 4, 5, 6, 9, 10, 1 << 32, math.MaxInt} {
				terms := make([]int, arity)
				terms[place] = term
				want := -10 <= term && term <= 4
				if impl.IsValidAtom(dependencySchema(), atom(relation, terms...)) != want {
					t.Errorf("IsValidAtom of relation %d with the terms %v is not %v", relation, terms, want)
				}
				body := atoms(atom(relation, terms...))
				checkValidDependency(t, tgd(body, atoms(atom(3, 0))), want)
				checkValidDependency(t, tgd(append(atoms(atom(1, 0, 1)), body...), atoms(atom(3, 0))), want)
				isTarget := relation == 0 || relation == 2 || relation == 3
				checkValidDependency(t, tgd(atoms(atom(1, 0, 1)), body), want && isTarget)
				checkValidDependency(t, tgd(atoms(atom(1, 0, 1)), append(atoms(atom(3, 0)), body...)), want && isTarget)
				checkValidDependency(t, egd(append(body, atom(1, 0, 1)), 0, 1), want)
			}
		}
	}
}

func TestDependenciesOfInvalidRelations(t *testing.T) {
	for _, relations := range append(invalidSchemas(), nil, []impl.Relation{}) {
		if impl.IsValidAtom(relations, atom(1, 0)) || impl.IsValidAtom(relations, atom(1)) || impl.IsValidAtom(relations, atom(0)) {
			t.Errorf("an atom is valid over %v", relations)
		}
		for _, dependency := range []impl.Dependency{
			{},
			tgd(atoms(atom(1, 0)), atoms(atom(1, 0))),
			tgd(atoms(atom(1, 0)), atoms(atom(1, 1))),
			egd(atoms(atom(1, 0), atom(1, 1)), 0, 1),
		} {
			if impl.IsValidDependency(relations, dependency) || impl.AreValidDependencies(relations, []impl.Dependency{dependency}) {
				t.Errorf("%v is valid over %v", dependency, relations)
			}
		}
		// Without dependencies, only the relations decide, and the empty schema is valid.
		want := len(relations) == 0
		if impl.AreValidDependencies(relations, nil) != want || impl.AreValidDependencies(relations, []impl.Dependency{}) != want {
			t.Errorf("AreValidDependencies(%v) of no dependencies is not %v", relations, want)
		}
	}
}

func TestValidDependencies(t *testing.T) {
	for _, dependency := range validDependencies() {
		checkValidDependency(t, dependency, true)
		for _, term := range []int{math.MinInt, -2, -1, 1, 5, math.MaxInt} {
			changed := with(dependency, func(d *impl.Dependency) { d.LeftVar += term })
			checkValidDependency(t, changed, dependency.IsEGD && slices.Contains(variablesOf(dependency.Body), changed.LeftVar) && changed.LeftVar < changed.RightVar)
			changed = with(dependency, func(d *impl.Dependency) { d.RightVar += term })
			checkValidDependency(t, changed, dependency.IsEGD && slices.Contains(variablesOf(dependency.Body), changed.RightVar) && changed.LeftVar < changed.RightVar)
		}
		checkValidDependency(t, with(dependency, func(d *impl.Dependency) { d.Body = nil }), false)
		checkValidDependency(t, with(dependency, func(d *impl.Dependency) { d.Body = atoms() }), false)
		checkValidDependency(t, with(dependency, func(d *impl.Dependency) { d.Body = slices.Repeat(d.Body, 3) }), false)
		checkValidDependency(t, with(dependency, func(d *impl.Dependency) { d.IsEGD = !d.IsEGD }), false)
		checkValidDependency(t, with(dependency, func(d *impl.Dependency) { d.Head = atoms() }), dependency.IsEGD)
		checkValidDependency(t, with(dependency, func(d *impl.Dependency) { d.Head = slices.Repeat(atoms(atom(3, 0)), 2) }), !dependency.IsEGD)
		checkValidDependency(t, with(dependency, func(d *impl.Dependency) { d.Head = slices.Repeat(atoms(atom(3, 0)), 3) }), false)
	}
}

// invalidDependencies returns dependencies that are invalid over dependencySchema.
func invalidDependencies() []impl.Dependency {
	return []impl.Dependency{
		{},
		{IsEGD: true},
		{IsEGD: true, LeftVar: 0, RightVar: 1},
		// Heads of the source, alone and beside an atom of the target.
		tgd(atoms(atom(1, 0, 1)), atoms(atom(1, 0, 1))),
		tgd(atoms(atom(1, 0, 1)), atoms(atom(5, 0))),
		tgd(atoms(atom(1, 0, 1)), atoms(atom(4, 0, 1, 2))),
		tgd(atoms(atom(1, 0, 1)), atoms(atom(3, 0), atom(5, 0))),
		tgd(atoms(atom(1, 0, 1)), atoms(atom(5, 0), atom(3, 0))),
		tgd(atoms(atom(3, 0)), atoms(atom(1, 0, 1))),
		// Too many atoms.
		tgd(atoms(atom(3, 0), atom(3, 1), atom(3, 2)), atoms(atom(3, 0))),
		tgd(atoms(atom(3, 0)), atoms(atom(3, 0), atom(3, 1), atom(3, 2))),
		egd(atoms(atom(3, 0), atom(3, 1), atom(3, 2)), 0, 1),
		tgd(make([]impl.Atom, 100000), make([]impl.Atom, 100000)),
		// An equality that is none, or of variables that are not in Body.
		egd(atoms(atom(0, 0, 1)), 1, 0),
		egd(atoms(atom(0, 0, 1)), 0, 0),
		egd(atoms(atom(0, 0, 1)), 1, 1),
		egd(atoms(atom(0, 0, 1)), 0, 2),
		egd(atoms(atom(0, 1, 2)), 0, 1),
		egd(atoms(atom(0, 0, 4)), 3, 4),
		egd(atoms(atom(0, 0, 3)), 3, 4),
		egd(atoms(atom(3, 0)), 0, 1),
		egd(atoms(atom(0, -1, 0)), -1, 0),
		egd(atoms(atom(0, -2, -1)), -2, -1),
		egd(atoms(atom(0, -1, 0)), 0, 1),
		egd(atoms(atom(0, 4, 5)), 4, 5),
		egd(atoms(atom(0, 5, 6)), 5, 6),
		egd(atoms(atom(0, 0, 1)), math.MinInt, math.MaxInt),
		// The equality of a TGD, and the head of an EGD.
		{Body: atoms(atom(0, 0, 1)), Head: atoms(atom(0, 1, 0)), LeftVar: 0, RightVar: 1},
		{Body: atoms(atom(0, 0, 1)), Head: atoms(atom(0, 1, 0)), LeftVar: 1, RightVar: 0},
		{Body: atoms(atom(0, 0, 1)), Head: atoms(atom(0, 1, 0)), LeftVar: 1, RightVar: 1},
		{Body: atoms(atom(0, 0, 1)), LeftVar: 0, RightVar: 1},
		{Body: atoms(atom(0, 0, 1)), Head: atoms(atom(0, 1, 0)), IsEGD: true, LeftVar: 0, RightVar: 1},
		{Body: atoms(atom(0, 0, 1)), Head: make([]impl.Atom, 1), IsEGD: true, LeftVar: 0, RightVar: 1},
		// The variables of an EGD occur in its head only.
		{Body: atoms(atom(3, 0)), Head: atoms(atom(3, 1)), IsEGD: true, LeftVar: 0, RightVar: 1},
	}
}

func TestInvalidDependencies(t *testing.T) {
	for _, dependency := range invalidDependencies() {
		checkValidDependency(t, dependency, false)
	}
}

// knownAtom is an atom over dependencySchema together with what the tests know of it.
type knownAtom struct {
	atom      impl.Atom
	valid     bool
	source    bool
	variables []int
}

// knownSides returns all lists of up to two known atoms, and some of three.
func knownSides() [][]knownAtom {
	known := []knownAtom{
		{atom(0, 0, 1), true, false, []int{0, 1}},
		{atom(3, 4), true, false, []int{4}},
		{atom(2, -10, 2, -1), true, false, []int{2}},
		{atom(1, 1, 0), true, true, []int{0, 1}},
		{atom(5, -1), true, true, nil},
		{atom(0, 0, 5), false, false, nil},
		{atom(3, 0, 1), false, false, nil},
		{atom(6, 0, 1), false, false, nil},
	}
	sides := [][]knownAtom{nil}
	for _, first := range known {
		sides = append(sides, []knownAtom{first}, []knownAtom{known[0], known[1], first})
		for _, second := range known {
			sides = append(sides, []knownAtom{first, second})
		}
	}
	return sides
}

// holdsForAll says whether the side has one or two atoms and all of them meet the condition.
func holdsForAll(side []knownAtom, condition func(knownAtom) bool) bool {
	for _, known := range side {
		if !condition(known) {
			return false
		}
	}
	return len(side) == 1 || len(side) == 2
}

func atomsOf(side []knownAtom) []impl.Atom {
	var list []impl.Atom
	for _, known := range side {
		list = append(list, known.atom)
	}
	return list
}

// TestAllSmallDependencies compares IsValidDependency with what is known of the atoms.
func TestAllSmallDependencies(t *testing.T) {
	isValid := func(known knownAtom) bool { return known.valid }
	isTarget := func(known knownAtom) bool { return known.valid && !known.source }
	var valid [2]int
	for _, body := range knownSides() {
		var variables []int
		for _, known := range body {
			variables = append(variables, known.variables...)
		}
		for _, head := range knownSides() {
			for _, pair := range tuples([]int{-1, 0, 1, 2, 4}, 2) {
				rule := impl.Dependency{Body: atomsOf(body), Head: atomsOf(head), LeftVar: pair[0], RightVar: pair[1]}
				wantTGD := holdsForAll(body, isValid) && holdsForAll(head, isTarget) && pair[0] == 0 && pair[1] == 0
				if impl.IsValidDependency(dependencySchema(), rule) != wantTGD {
					t.Fatalf("IsValidDependency(%v) is not %v", rule, wantTGD)
				}
				rule.IsEGD = true
				wantEGD := holdsForAll(body, isValid) && len(head) == 0 && pair[0] < pair[1] && slices.Contains(variables, pair[0]) && slices.Contains(variables, pair[1])
				if impl.IsValidDependency(dependencySchema(), rule) != wantEGD {
					t.Fatalf("IsValidDependency(%v) is not %v", rule, wantEGD)
				}
				if wantTGD {
					valid[0]++
				}
				if wantEGD {
					valid[1]++
				}
			}
		}
	}
	// There are 5 and 25 valid bodies, and 3 and 9 valid heads.
	if valid[0] != 30*12 || valid[1] == 0 {
		t.Error("the numbers of valid dependencies are", valid)
	}
}

func TestAreValidDependencies(t *testing.T) {
	valid := validDependencies()
	for count := range 12 {
		for _, list := range [][]impl.Dependency{valid[:count], slices.Repeat(valid[:1], count), slices.Repeat(valid[1:2], count)} {
			if impl.AreValidDependencies(dependencySchema(), list) != (count <= 5) {
				t.Errorf("AreValidDependencies of %d dependencies is not %v", count, count <= 5)
			}
		}
	}
	for count := range 6 {
		for place := range count {
			for _, invalid := range []impl.Dependency{{}, egd(atoms(atom(0, 0, 1)), 1, 0), tgd(atoms(atom(3, 0)), atoms(atom(5, 0)))} {
				list := slices.Clone(valid[:count])
				list[place] = invalid
				if impl.AreValidDependencies(dependencySchema(), list) {
					t.Errorf("%v are valid", list)
				}
			}
		}
	}
	for _, relations := range [][]impl.Relation{dependencySchema(), dependencySchema()[1:2]} {
		if !impl.AreValidDependencies(relations, nil) || !impl.AreValidDependencies(relations, []impl.Dependency{}) {
			t.Errorf("no dependencies are invalid over %v", relations)
		}
	}
	if impl.AreValidDependencies(dependencySchema(), make([]impl.Dependency, 100000)) {
		t.Error("100000 dependencies are valid")
	}
}

// variablesOf returns what Variables has to return, computed in another way.
func variablesOf(list []impl.Atom) []int {
	found := map[int]bool{}
	for _, a := range list {
		for _, term := range a.Terms {
			if term >= 0 {
				found[term] = true
			}
		}
	}
	var variables []int
	for v := range found {
		variables = append(variables, v)
	}
	slices.Sort(variables)
	return variables
}

func TestVariables(t *testing.T) {
	for _, c := range []struct {
		atoms []impl.Atom
		want  []int
	}{
		{nil, nil},
		{atoms(), nil},
		{make([]impl.Atom, 3), nil},
		{atoms(atom(0, 0, 1)), []int{0, 1}},
		{atoms(atom(0, 1, 0)), []int{0, 1}},
		{atoms(atom(0, 3, 3)), []int{3}},
		{atoms(atom(3, -1)), nil},
		{atoms(atom(2, -10, 4, -1)), []int{4}},
		{atoms(atom(0, 2, 4), atom(0, 4, 0)), []int{0, 2, 4}},
		{atoms(atom(0, 0, 1), atom(0, 0, 1)), []int{0, 1}},
		{atoms(atom(2, 4, 3, 2), atom(2, 2, 1, 0)), []int{0, 1, 2, 3, 4}},
		// Any atoms are accepted: of any relation, with any terms, and in any number.
		{atoms(atom(-1, 5), atom(math.MaxInt, 3, 4), atom(math.MinInt)), []int{3, 4, 5}},
		{atoms(atom(0, math.MaxInt, -11, math.MinInt, 5, 0)), []int{0, 5, math.MaxInt}},
		{atoms(atom(0, 9, 8, 7, 6, 5, 4, 3, 2, 1, 0), atom(0, 1<<32, 10, 9)), []int{0, 1, 2, 3, 4, 5, 6, 7, 8, 9, 10, 1 << 32}},
		{slices.Repeat(atoms(atom(0, 7, 1), atom(3, 7)), 1000), []int{1, 7}},
	} {
		if got := impl.Variables(c.atoms); !slices.Equal(got, c.want) {
			t.Errorf("Variables(%v) = %v, want %v", c.atoms, got, c.want)
		}
	}
	for _, terms := range tuples([]int{-11, -1, 0, 1, 3, 4, 5}, 4) {
		for split := range 5 {
			list := atoms(atom(0, terms[:split]...), atom(1, terms[split:]...))
			if got := impl.Variables(list); !slices.Equal(got, variablesOf(list)) {
				t.Fatalf("Variables(%v) = %v, want %v", list, got, variablesOf(list))
			}
		}
	}
}

func checkHeadVariables(t *testing.T, dependency impl.Dependency, existential []int, frontier []int) {
	t.Helper()
	if got := impl.ExistentialVariables(dependency); !slices.Equal(got, existential) {
		t.Fatalf("ExistentialVariables(%v) = %v, want %v", dependency, got, existential)
	}
	if got := impl.FrontierVariables(dependency); !slices.Equal(got, frontier) {
		t.Fatalf("FrontierVariables(%v) = %v, want %v", dependency, got, frontier)
	}
}

func TestHeadVariables(t *testing.T) {
	for _, c := range []struct {
		dependency  impl.Dependency
		existential []int
		frontier    []int
	}{
		{tgd(atoms(atom(1, 0, 1)), atoms(atom(0, 0, 2), atom(0, 2, 1))), []int{2}, []int{0, 1}},
		{tgd(atoms(atom(1, 0, 1)), atoms(atom(0, 1, 0))), nil, []int{0, 1}},
		// A variable of Body that is not in Head is neither.
		{tgd(atoms(atom(1, 0, 1)), atoms(atom(3, 1))), nil, []int{1}},
		{tgd(atoms(atom(1, 0, 1)), atoms(atom(0, 3, 2))), []int{2, 3}, nil},
		{tgd(atoms(atom(1, 0, 1)), atoms(atom(3, -1))), nil, nil},
		{tgd(atoms(atom(5, -1)), atoms(atom(3, 0))), []int{0}, nil},
		// An existential variable may be less than those of Body, and occur in both atoms.
		{tgd(atoms(atom(1, 4, 4)), atoms(atom(2, 0, 4, 0))), []int{0}, []int{4}},
		{tgd(atoms(atom(1, 2, 4)), atoms(atom(0, 3, 2), atom(2, 1, 3, 0))), []int{0, 1, 3}, []int{2}},
		{tgd(atoms(atom(5, 3), atom(5, 1)), atoms(atom(2, 4, 3, 2), atom(2, 2, 1, 0))), []int{0, 2, 4}, []int{1, 3}},
		{tgd(atoms(atom(1, -1, -2)), atoms(atom(0, -1, 0))), []int{0}, nil},
		// An EGD has no variables of Head; its equality is not a part of Head.
		{egd(atoms(atom(0, 0, 1)), 0, 1), nil, nil},
		{impl.Dependency{LeftVar: 1, RightVar: 2}, nil, nil},
		// Invalid dependencies have variables too.
		{impl.Dependency{}, nil, nil},
		{tgd(nil, atoms(atom(-1, 7, 0, 7))), []int{0, 7}, nil},
		{tgd(atoms(atom(9, 7, 0)), nil), nil, nil},
		{tgd(atoms(atom(9, math.MaxInt, -11, 6)), atoms(atom(1, 5, 6, math.MaxInt, math.MinInt, -11))), []int{5}, []int{6, math.MaxInt}},
		{tgd(atoms(atom(1, 0), atom(1, 1), atom(1, 2)), atoms(atom(1, 2), atom(1, 1), atom(1, 5))), []int{5}, []int{1, 2}},
		{impl.Dependency{Body: atoms(atom(3, 0)), Head: atoms(atom(0, 0, 1)), IsEGD: true, LeftVar: 0, RightVar: 1}, []int{1}, []int{0}},
	} {
		checkHeadVariables(t, c.dependency, c.existential, c.frontier)
	}
}

// TestAllSmallHeadVariables compares each variable with what its occurrences say.
func TestAllSmallHeadVariables(t *testing.T) {
	sides := tuples([]int{-2, 0, 1, 3, 6}, 3)
	for _, body := range sides {
		for _, head := range sides {
			var existential, frontier []int
			for v := range 7 {
				if slices.Contains(head, v) && slices.Contains(body, v) {
					frontier = append(frontier, v)
				} else if slices.Contains(head, v) {
					existential = append(existential, v)
				}
			}
			checkHeadVariables(t, tgd(atoms(atom(2, body...)), atoms(atom(2, head...))), existential, frontier)
			checkHeadVariables(t, tgd(atoms(atom(0, body[:2]...), atom(3, body[2])), atoms(atom(3, head[0]), atom(0, head[1:]...))), existential, frontier)
		}
	}
}

// TestManyHeadVariables gives both sides more variables than a dependency has.
func TestManyHeadVariables(t *testing.T) {
	var body, head impl.Atom
	var existential, frontier []int
	for v := range 100000 {
		if v%2 == 0 {
			body.Terms = append(body.Terms, v)
		}
		if v%3 == 0 {
			head.Terms = append(head.Terms, 99999-v, 99999-v)
		}
	}
	for v := range 100000 {
		if v%3 == 0 && v%2 == 0 {
			frontier = append(frontier, v)
		} else if v%3 == 0 {
			existential = append(existential, v)
		}
	}
	checkHeadVariables(t, tgd(atoms(body), atoms(head)), existential, frontier)
}

func TestEqualDependencies(t *testing.T) {
	different := append(validDependencies(),
		impl.Dependency{},
		impl.Dependency{IsEGD: true},
		impl.Dependency{LeftVar: 1},
		impl.Dependency{RightVar: 1},
		impl.Dependency{LeftVar: math.MinInt, RightVar: math.MaxInt},
		tgd(atoms(atom(0)), nil),
		tgd(nil, atoms(atom(0))),
		tgd(atoms(atom(0), atom(0)), nil),
		tgd(nil, atoms(atom(0), atom(0))),
		tgd(atoms(atom(0)), atoms(atom(0))),
		tgd(atoms(atom(-1)), nil),
		tgd(atoms(atom(0, 1), atom(0)), nil),
		tgd(atoms(atom(0), atom(0, 1)), nil),
		tgd(atoms(atom(0, 1)), nil),
		tgd(atoms(atom(1, 0)), nil),
		tgd(atoms(atom(0, 0, 1)), nil),
		tgd(atoms(atom(0, 1, 0)), nil),
		tgd(atoms(atom(0, 0, 0)), nil),
		tgd(atoms(atom(0, 0)), nil),
		tgd(nil, atoms(atom(0, 0))),
		tgd(nil, atoms(atom(0, math.MinInt))),
		// One field differs from that of a valid dependency.
		with(validDependencies()[0], func(d *impl.Dependency) { d.LeftVar = 1 }),
		with(validDependencies()[0], func(d *impl.Dependency) { d.RightVar = 1 }),
		with(validDependencies()[0], func(d *impl.Dependency) { d.IsEGD = true }),
		with(validDependencies()[0], func(d *impl.Dependency) { slices.Reverse(d.Head) }),
		with(validDependencies()[0], func(d *impl.Dependency) { d.Head = d.Head[:1] }),
		with(validDependencies()[0], func(d *impl.Dependency) { d.Body[0].Relation = 0 }),
		with(validDependencies()[0], func(d *impl.Dependency) { d.Head[1].Relation = 1 }),
		with(validDependencies()[0], func(d *impl.Dependency) { d.Head[1] = atom(0, 2, 2) }),
		with(validDependencies()[1], func(d *impl.Dependency) { d.IsEGD = false }),
		with(validDependencies()[1], func(d *impl.Dependency) { slices.Reverse(d.Body) }),
		with(validDependencies()[1], func(d *impl.Dependency) { d.Body[1] = atom(0, 0, 3) }),
	)
	for i, a := range different {
		for j, b := range different {
			if impl.EqualDependencies(a, b) != (i == j) {
				t.Errorf("EqualDependencies(%v, %v) is not %v", a, b, i == j)
			}
		}
		if copied := copiedDependency(a, 0); !impl.EqualDependencies(a, copied) || !impl.EqualDependencies(copied, a) {
			t.Errorf("%v differs from its copy", a)
		}
	}
	if !impl.EqualDependencies(tgd(nil, atoms(atom(1))), tgd(atoms(), atoms(impl.Atom{Relation: 1, Terms: []int{}}))) {
		t.Error("nil and empty slices differ")
	}
}

// copiedDependency returns a copy of which each slice is followed by other data.
func copiedDependency(dependency impl.Dependency, spare int) impl.Dependency {
	copyAtoms := func(list []impl.Atom) []impl.Atom {
		var copied []impl.Atom
		for _, a := range list {
			terms := append(slices.Clone(a.Terms), slices.Repeat([]int{77}, spare)...)
			copied = append(copied, atom(a.Relation, terms[:len(a.Terms)]...))
		}
		copied = append(copied, slices.Repeat(atoms(atom(88, 88)), spare)...)
		return copied[:len(list)]
	}
	dependency.Body = copyAtoms(dependency.Body)
	dependency.Head = copyAtoms(dependency.Head)
	return dependency
}

// memoryOfDependency lists all that the dependency holds, also behind the ends of its slices.
func memoryOfDependency(dependency impl.Dependency) []int {
	memory := []int{dependency.LeftVar, dependency.RightVar}
	for _, list := range [][]impl.Atom{dependency.Body, dependency.Head} {
		memory = append(memory, len(list))
		for _, a := range list[:cap(list)] {
			memory = append(memory, a.Relation, len(a.Terms))
			memory = append(memory, a.Terms[:cap(a.Terms)]...)
		}
	}
	return memory
}

func TestDependenciesShareNoMemory(t *testing.T) {
	for _, original := range append(validDependencies(), tgd(atoms(atom(9, 7, 6)), atoms(atom(9, 6, 5, 4, -50))), tgd(nil, atoms(atom(0, 3))), impl.Dependency{}) {
		dependency := copiedDependency(original, 4)
		relations := append(dependencySchema(), impl.Relation{Name: "z", Arity: 1})[:6]
		before := memoryOfDependency(dependency)
		for range 2 {
			for _, list := range [][]int{impl.Variables(dependency.Body), impl.Variables(dependency.Head), impl.ExistentialVariables(dependency), impl.FrontierVariables(dependency)} {
				fill(list, 1000)
			}
			for _, a := range slices.Concat(dependency.Body, dependency.Head) {
				impl.IsValidAtom(relations, a)
			}
			impl.IsValidDependency(relations, dependency)
			impl.AreValidDependencies(relations, []impl.Dependency{dependency, dependency})
			if !impl.EqualDependencies(dependency, original) {
				t.Fatalf("%v differs from its copy %v", original, dependency)
			}
		}
		if !slices.Equal(memoryOfDependency(dependency), before) || !slices.Equal(relations[:7], append(dependencySchema(), impl.Relation{Name: "z", Arity: 1})) {
			t.Fatalf("%v has become %v", before, memoryOfDependency(dependency))
		}
		// A result is not kept for the next call.
		if got := impl.Variables(dependency.Body); !slices.Equal(got, variablesOf(original.Body)) {
			t.Fatalf("Variables(%v) = %v after a change of an earlier result", dependency.Body, got)
		}
	}
}
