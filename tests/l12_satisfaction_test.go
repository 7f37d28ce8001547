package tests

import (
	"math/rand"
	"slices"
	"strings"
	"testing"

	"loop.example/g01919/impl"
)

// graphRules parses a list of dependencies over graphSchema.
func graphRules(t *testing.T, list string) []impl.Dependency {
	t.Helper()
	rules, ok := impl.ParseDependencies(graph(t, "").Relations, list)
	if !ok {
		t.Fatal("no dependencies:", list)
	}
	return rules
}

// A violation is what FirstViolation returns. It is the zero value if there is none.
type violation struct {
	index int
	bound []int
	found bool
}

// firstViolation says what FirstViolation has to return for a valid instance and valid dependencies.
func firstViolation(x impl.Instance, rules []impl.Dependency) violation {
	for i, rule := range rules {
		for _, bound := range matchesOf(x, rule.Body, binding()) {
			if isActive(x, rule, bound) {
				return violation{i, bound, true}
			}
		}
	}
	return violation{}
}

// checkSatisfaction checks a valid instance and valid dependencies.
func checkSatisfaction(t *testing.T, x impl.Instance, rules []impl.Dependency, want violation) {
	t.Helper()
	if i, bound, ok := impl.FirstViolation(x, rules); i != want.index || !slices.Equal(bound, want.bound) || ok != want.found {
		t.Fatalf("FirstViolation(%v, %v) = %v, %v, %v, want %v", x, rules, i, bound, ok, want)
	}
	if impl.Satisfies(x, rules) == want.found {
		t.Fatalf("Satisfies(%v, %v) is not %v", x, rules, !want.found)
	}
	if impl.IsSolution(x, x, rules) == want.found {
		t.Fatalf("IsSolution(%v, %v) is not %v", x, rules, !want.found)
	}
}

func TestFirstViolation(t *testing.T) {
	none := violation{}
	for _, c := range []struct {
		facts string
		rules string
		want  violation
	}{
		{"", "", none},
		{"a(0) e(0,n0)", "", none},
		{"", "ax>ux;exy=xy", none},
		// Dependencies without existential variables: with the same variables on both sides, with fewer, with a constant, and without any.
		{"a(0)", "ax>ux", violation{0, binding(0, 0), true}},
		{"a(0) u(0)", "ax>ux", none},
		{"a(0) u(1)", "ax>ux", violation{0, binding(0, 0), true}},
		{"a(0) u(n0)", "ax>ux", violation{0, binding(0, 0), true}},
		{"e(n0,n1) u(n1)", "exy>ux", violation{0, binding(0, -1, 1, -2), true}},
		{"e(n0,n1) u(n0)", "exy>ux", none},
		{"e(0,1)", "exy>eyx", violation{0, binding(0, 0, 1, 1), true}},
		{"e(0,1) e(1,0) e(n0,n0)", "exy>eyx", none},
		{"e(0,1) e(1,2)", "exy eyz>exz", violation{0, binding(0, 0, 1, 1, 2, 2), true}},
		{"e(0,1) e(0,2) e(1,2)", "exy eyz>exz", none},
		{"a(0) e(0,1)", "ax>ex1", none},
		{"a(0) e(0,n1)", "ax>ex1", violation{0, binding(0, 0), true}},
		{"a(0)", "ax>ux u1", violation{0, binding(0, 0), true}},
		{"a(0) u(0)", "ax>ux u1", violation{0, binding(0, 0), true}},
		{"a(0) u(0) u(1)", "ax>ux u1", none},
		{"a(0)", "a0>u1", violation{0, binding(), true}},
		{"a(0) u(1)", "a0>u1", none},
		{"a(1)", "a0>u1", none},
		{"u(0)", "ux>ux", none},
		// Dependencies with existential variables.
		{"a(0)", "ax>exy", violation{0, binding(0, 0), true}},
		{"a(0) e(1,0)", "ax>exy", violation{0, binding(0, 0), true}},
		{"a(0) e(0,n3)", "ax>exy", none},
		{"a(0) e(0,7)", "ax>exy", none},
		{"a(0) e(0,7) u(8)", "ax>exy uy", violation{0, binding(0, 0), true}},
		{"a(0) e(0,7) e(0,8) u(8)", "ax>exy uy", none},
		{"a(0) u(n0)", "ax>uz", none},
		{"a(0)", "a0>uz", violation{0, binding(), true}},
		// Equalities.
		{"e(0,1) e(1,1) e(2,1)", "exy exz=yz", none},
		{"e(0,1) e(0,2)", "exy exz=yz", violation{0, binding(0, 0, 1, 1, 2, 2), true}},
		{"e(0,1) e(0,n0)", "exy exz=yz", violation{0, binding(0, 0, 1, -1, 2, 1), true}},
		{"e(0,0) e(n0,n0)", "exy=xy", none},
		{"e(0,0) e(n0,n1)", "exy=xy", violation{0, binding(0, -1, 1, -2), true}},
		{"u(n0) u(n1)", "ux uy=xy", violation{0, binding(0, -2, 1, -1), true}},
		{"u(n0)", "ux uy=xy", none},
		// The first dependency that is violated counts, whatever the facts are that violate it.
		{"a(0) u(0)", "ax>ux;ax>exy", violation{1, binding(0, 0), true}},
		{"a(0) u(0)", "ax>exy;ax>ux", violation{0, binding(0, 0), true}},
		{"a(1) e(1,1) u(2)", "ux>exy;ax>ux", violation{0, binding(0, 2), true}},
		{"a(1) e(1,1) u(2)", "ax>ux;ux>exy", violation{0, binding(0, 1), true}},
		{"a(1) e(1,1) u(2)", "ax>exx;exy=xy;ux>exy;ax>ux", violation{2, binding(0, 2), true}},
		{"a(1) e(1,1) u(2)", "ax>exx;exy=xy;ax>uy;exy>eyx;ux>exy", violation{4, binding(0, 2), true}},
		{"a(1) e(1,1) u(2)", "ax>exx;exy=xy;ax>uy;exy>eyx;exy>uz", none},
		{"e(0,1)", "exy>eyx;exy>eyx", violation{0, binding(0, 0, 1, 1), true}},
		// Its first active trigger counts, which need not be its first trigger.
		{"a(0) a(1) a(2) u(0)", "ax>ux", violation{0, binding(0, 1), true}},
		{"a(0) a(1) a(2) u(0) u(1)", "ax>ux", violation{0, binding(0, 2), true}},
		{"e(0,0) e(0,5) e(1,3)", "eyx>exy", violation{0, binding(0, 5, 1, 0), true}},
		{"u(n0) u(n3) u(0)", "ux>exx", violation{0, binding(0, -4), true}},
		{"a(0) a(1) u(0) u(1)", "uy ax>eyx", violation{0, binding(0, 0, 1, 0), true}},
		{"a(0) a(1) e(0,0) u(0) u(1)", "uy ax>eyx", violation{0, binding(0, 1, 1, 0), true}},
		{"a(0) a(1) e(0,0) u(0) u(1)", "ax uy>eyx", violation{0, binding(0, 0, 1, 1), true}},
	} {
		t.Run(c.facts+" "+c.rules, func(t *testing.T) {
			checkSatisfaction(t, graph(t, c.facts), graphRules(t, c.rules), c.want)
		})
	}
}

// TestPropertiesOfGraphs compares dependencies with what they say about the edges of a graph, for all graphs with three nodes.
func TestPropertiesOfGraphs(t *testing.T) {
	nodes := []int{-1, 0, 1}
	var edge [3][3]bool
	all := func(condition func(x int) bool) bool { return condition(0) && condition(1) && condition(2) }
	some := func(condition func(x int) bool) bool { return condition(0) || condition(1) || condition(2) }
	allTriples := func(condition func(x, y, z int) bool) bool {
		return all(func(x int) bool {
			return all(func(y int) bool {
				return all(func(z int) bool { return condition(x, y, z) })
			})
		})
	}
	properties := map[string]func() bool{
		"exy>eyx": func() bool {
			return allTriples(func(x, y, _ int) bool { return !edge[x][y] || edge[y][x] })
		},
		"exy eyz>exz": func() bool {
			return allTriples(func(x, y, z int) bool { return !edge[x][y] || !edge[y][z] || edge[x][z] })
		},
		"exy>exx": func() bool {
			return allTriples(func(x, y, _ int) bool { return !edge[x][y] || edge[x][x] })
		},
		"exy>eyz": func() bool {
			return allTriples(func(x, y, _ int) bool {
				return !edge[x][y] || some(func(z int) bool { return edge[y][z] })
			})
		},
		"exy exz>eyu ezu": func() bool {
			return allTriples(func(x, y, z int) bool {
				return !edge[x][y] || !edge[x][z] || some(func(u int) bool { return edge[y][u] && edge[z][u] })
			})
		},
		"exy>ezz": func() bool {
			return allTriples(func(x, y, _ int) bool {
				return !edge[x][y] || some(func(z int) bool { return edge[z][z] })
			})
		},
		"exx>ex1": func() bool { return all(func(x int) bool { return !edge[x][x] || edge[x][2] }) },
		"e01>e10": func() bool { return !edge[1][2] || edge[2][1] },
		"exy exz=yz": func() bool {
			return allTriples(func(x, y, z int) bool { return !edge[x][y] || !edge[x][z] || y == z })
		},
		"exy eyx=xy": func() bool {
			return allTriples(func(x, y, _ int) bool { return !edge[x][y] || !edge[y][x] || x == y })
		},
		"exy=xy": func() bool {
			return allTriples(func(x, y, _ int) bool { return !edge[x][y] || x == y })
		},
	}
	satisfied := map[string]int{}
	for chosen := range 1 << 9 {
		x := graph(t, "")
		for i := range 9 {
			edge[i/3][i%3] = chosen>>i&1 == 1
			if edge[i/3][i%3] {
				x, _ = impl.InsertFact(x, fact(1, nodes[i/3], nodes[i%3]))
			}
		}
		for s, property := range properties {
			if impl.Satisfies(x, graphRules(t, s)) != property() {
				t.Fatalf("Satisfies(%v, %s) is not %v", x, s, property())
			}
			if property() {
				satisfied[s]++
			}
		}
	}
	for s := range properties {
		if satisfied[s] < 8 || satisfied[s] > 500 {
			t.Errorf("%s holds in %d graphs", s, satisfied[s])
		}
	}
}

func TestViolationsOfSmallInstances(t *testing.T) {
	var rules []impl.Dependency
	for _, s := range strings.Split("exx>ux;exy>eyx;exy>exz;exx>exy uy;ax>exy eyx;uy>eyy;e0x>ux;ax>u0;exy eyz>exz;exy=xy;exy exz=yz;ux ey0=xy", ";") {
		rules = append(rules, graphRule(t, s))
	}
	for _, x := range smallInstances(t) {
		checkSatisfaction(t, x, nil, violation{})
		for _, first := range rules {
			alone := firstViolation(x, []impl.Dependency{first})
			checkSatisfaction(t, x, []impl.Dependency{first}, alone)
			for _, second := range rules {
				list := []impl.Dependency{first, second}
				want := alone
				if !alone.found {
					want = firstViolation(x, list)
				}
				checkSatisfaction(t, x, list, want)
			}
		}
	}
}

// TestSatisfactionOfRandomInstances compares with all bindings, not only with those of matches: the dependencies are satisfied exactly if none of them is an active trigger.
func TestSatisfactionOfRandomInstances(t *testing.T) {
	random := rand.New(rand.NewSource(121))
	values := []int{-1, 0, 9}
	bindings := tuples(append([]int{unbound}, values...), 5)
	rules := validDependencies()
	satisfied := 0
	var violated [5]int
	for range 600 {
		x := randomInstance(random, dependencySchema(), random.Intn(12), values)
		var list []impl.Dependency
		for range random.Intn(6) {
			list = append(list, rules[random.Intn(len(rules))])
		}
		want := firstViolation(x, list)
		checkSatisfaction(t, x, list, want)
		active := slices.ContainsFunc(list, func(rule impl.Dependency) bool {
			return slices.ContainsFunc(bindings, func(bound []int) bool { return impl.IsActiveTrigger(x, rule, bound) })
		})
		if active != want.found {
			t.Fatalf("%v has active triggers of %v: %v", x, list, active)
		}
		if active {
			violated[want.index]++
		} else {
			satisfied++
		}
	}
	if satisfied < 100 || slices.Min(violated[:]) < 3 {
		t.Errorf("%d lists are satisfied, and the first violation is at the indices %v", satisfied, violated)
	}
}

func TestSatisfactionOfFullInstance(t *testing.T) {
	x := graph(t, "")
	for v := range 10 {
		x.Facts = append(x.Facts, fact(0, v))
	}
	for v := range 10 {
		x.Facts = append(x.Facts, fact(1, 9, v))
	}
	for v := range 10 {
		x.Facts = append(x.Facts, fact(3, v))
	}
	checkSatisfaction(t, x, graphRules(t, "ax>ux;exy>e9y;exy euz>exz euy;ax uy>uz exy;exy uz=xy"), violation{3, binding(0, 0, 1, 0), true})
	checkSatisfaction(t, x, graphRules(t, "ax>ux;exy>e9y;exy euz>exz euy;ax uy>ezx euy;ax uy>uz"), violation{})
}

// checkUnsatisfied checks an invalid instance or invalid dependencies.
func checkUnsatisfied(t *testing.T, x impl.Instance, rules []impl.Dependency) {
	t.Helper()
	if i, bound, ok := impl.FirstViolation(x, rules); i != 0 || len(bound) != 0 || ok {
		t.Errorf("FirstViolation(%v, %v) = %v, %v, %v", x, rules, i, bound, ok)
	}
	if impl.Satisfies(x, rules) {
		t.Errorf("Satisfies(%v, %v)", x, rules)
	}
	for _, source := range []impl.Instance{x, {}, {Relations: x.Relations}} {
		if impl.IsSolution(source, x, rules) {
			t.Errorf("IsSolution(%v, %v, %v)", source, x, rules)
		}
	}
}

func TestInvalidDependenciesAreNotSatisfied(t *testing.T) {
	x := impl.Instance{Relations: dependencySchema(), Facts: []impl.Fact{fact(0, 0, 1), fact(1, 0, 1), fact(3, 0), fact(5, 0)}}
	violated := tgd(atoms(atom(1, 0, 1)), atoms(atom(2, 0, 1, 1)))
	satisfied := tgd(atoms(atom(1, 0, 1)), atoms(atom(0, 0, 2)))
	checkSatisfaction(t, x, []impl.Dependency{satisfied, violated}, violation{1, binding(0, 0, 1, 1), true})
	for _, invalid := range invalidDependencies() {
		for _, list := range [][]impl.Dependency{
			{invalid},
			{satisfied, invalid},
			{invalid, satisfied},
			{violated, invalid},
			{invalid, violated},
			{violated, satisfied, violated, satisfied, invalid},
			{invalid, invalid},
		} {
			checkUnsatisfied(t, x, list)
			checkUnsatisfied(t, impl.Instance{Relations: x.Relations}, list)
		}
	}
	// At most five dependencies are valid.
	for _, rule := range []impl.Dependency{satisfied, violated} {
		checkUnsatisfied(t, x, slices.Repeat([]impl.Dependency{rule}, 6))
		checkUnsatisfied(t, x, slices.Repeat([]impl.Dependency{rule}, 1000))
		checkUnsatisfied(t, impl.Instance{Relations: x.Relations}, slices.Repeat([]impl.Dependency{rule}, 6))
	}
	checkSatisfaction(t, x, slices.Repeat([]impl.Dependency{satisfied}, 5), violation{})
	checkSatisfaction(t, x, append(slices.Repeat([]impl.Dependency{satisfied}, 4), violated), violation{4, binding(0, 0, 1, 1), true})
	// The dependencies are valid over other relations only.
	checkUnsatisfied(t, impl.Instance{}, []impl.Dependency{satisfied})
	checkUnsatisfied(t, graph(t, "u(0)"), []impl.Dependency{satisfied})
	checkSatisfaction(t, impl.Instance{}, nil, violation{})
}

// invalidInstances returns instances without nulls, in which one thing or another is invalid, and which all but the last ones have the relations of dependencySchema.
func invalidInstances() []impl.Instance {
	var all []impl.Instance
	for _, facts := range [][]impl.Fact{
		{fact(0, 0, 1), fact(0, 0, 1), fact(5, 0)},
		{fact(0, 0, 1), fact(5, 0), fact(5, 0)},
		{fact(0, 0, 1), fact(5, 0), fact(3, 0)},
		{fact(0, 1, 0), fact(0, 0, 1)},
		{fact(0, 0, 1), fact(3, 10)},
		{fact(0, 0, 1), fact(5, 10)},
		{fact(0, 0, 1), fact(5, 0, 1)},
		{fact(0, 0, 1), fact(5)},
		{fact(0, 0, 1), fact(6, 0)},
		{fact(-1, 0), fact(0, 0, 1)},
	} {
		all = append(all, impl.Instance{Relations: dependencySchema(), Facts: facts})
	}
	var many []impl.Fact
	for i := range 31 {
		many = append(many, fact(0, i/10, i%10))
	}
	all = append(all, impl.Instance{Relations: dependencySchema(), Facts: many})
	for _, relations := range invalidSchemas() {
		all = append(all, impl.Instance{Relations: relations}, impl.Instance{Relations: relations, Facts: []impl.Fact{fact(1, 0)}})
	}
	return all
}

func TestInvalidInstancesSatisfyNothing(t *testing.T) {
	for _, x := range invalidInstances() {
		checkUnsatisfied(t, x, nil)
		for _, rule := range validDependencies() {
			checkUnsatisfied(t, x, []impl.Dependency{rule})
		}
		// Over p, the relation that every invalid schema has at index 1.
		checkUnsatisfied(t, x, []impl.Dependency{tgd(atoms(atom(1, 0)), atoms(atom(1, 1)))})
	}
	// Nulls where only the source is invalid, or where their numbers are.
	for _, f := range []impl.Fact{fact(5, -1), fact(1, 0, -1), fact(3, -41)} {
		x := impl.Instance{Relations: dependencySchema(), Facts: []impl.Fact{f}}
		checkUnsatisfied(t, x, nil)
		checkUnsatisfied(t, x, validDependencies()[:5])
	}
}

func TestIsSolution(t *testing.T) {
	for _, c := range []struct {
		source string
		facts  string
		rules  string
		want   bool
	}{
		{"", "", "", true},
		{"a(0)", "a(0)", "", true},
		{"a(0)", "a(0)", "ax>ux", false},
		{"a(0)", "a(0) u(0)", "ax>ux", true},
		{"a(0)", "a(0) u(0) u(5) e(n0,n1)", "ax>ux", true},
		{"a(0)", "a(0) u(1)", "ax>ux", false},
		// The source facts of the solution are those of the source, neither more nor fewer.
		{"a(0)", "", "ax>ux", false},
		{"a(0)", "u(0)", "ax>ux", false},
		{"", "a(0) u(0)", "ax>ux", false},
		{"a(0) a(1)", "a(0) u(0)", "ax>ux", false},
		{"a(0)", "a(0) a(1) u(0) u(1)", "ax>ux", false},
		{"a(0)", "a(1) u(1)", "ax>ux", false},
		{"", "u(0)", "ax>ux", true},
		// The target facts of the source do not count, and it need not satisfy the dependencies.
		{"a(0) u(1) e(n0,n0)", "a(0) u(0)", "ax>ux", true},
		{"a(0) u(0)", "a(0)", "ax>ux", false},
		{"e(0,1)", "", "exy=xy", true},
		{"", "e(0,1)", "exy=xy", false},
		{"u(0)", "u(1)", "", true},
		// Existential variables and equalities.
		{"a(0)", "a(0) e(0,n0)", "ax>exy;exy exz=yz", true},
		{"a(0)", "a(0) e(0,n0) e(0,n1)", "ax>exy;exy exz=yz", false},
		{"a(0)", "a(0) e(0,7)", "ax>exy;exy exz=yz", true},
		{"a(0) a(1)", "a(0) a(1) e(0,n0) e(1,n0)", "ax>exy;exy exz=yz", true},
		{"a(0) a(1)", "a(0) a(1)", "ax ay=xy", false},
		{"a(0)", "a(0)", "ax ay=xy", true},
	} {
		if got := impl.IsSolution(graph(t, c.source), graph(t, c.facts), graphRules(t, c.rules)); got != c.want {
			t.Errorf("IsSolution(%s, %s, %s) = %v", c.source, c.facts, c.rules, got)
		}
	}
}

func TestAllSmallSolutions(t *testing.T) {
	list := strings.Fields("a(0) a(1) e(0,n0) u(0) u(1)")
	some := func(chosen int) impl.Instance {
		var facts []string
		for i, s := range list {
			if chosen>>i&1 == 1 {
				facts = append(facts, s)
			}
		}
		return graph(t, strings.Join(facts, " "))
	}
	for _, s := range []string{"", "ax>ux", "ax>exy;ux>exy", "ux uy=xy", "ax>exy;exy>ux;ax ay=xy"} {
		rules := graphRules(t, s)
		for chosen := range 1 << 5 {
			x := some(chosen)
			satisfied := !firstViolation(x, rules).found
			for other := range 1 << 5 {
				// Bits 0 and 1 stand for the source facts.
				want := satisfied && chosen&3 == other&3
				if impl.IsSolution(some(other), x, rules) != want {
					t.Fatalf("IsSolution(%v, %v, %s) is not %v", some(other), x, s, want)
				}
			}
		}
	}
}

// TestSolutionsOverOtherRelations has a source with the same facts and other relations, also ones of which there are no facts.
func TestSolutionsOverOtherRelations(t *testing.T) {
	parse := func(s string) impl.Instance {
		x, ok := impl.ParseInstance(s)
		if !ok {
			t.Fatal("no instance:", s)
		}
		return x
	}
	x := parse("+a1 e2 t3 u1;a(0)")
	if !impl.IsSolution(parse("+a1 e2 t3 u1;a(0)"), x, nil) {
		t.Error("the instance is no solution of itself")
	}
	for _, s := range []string{
		"+a1 e2 t3;a(0)", "+a1 e2 t3 u1 v1;a(0)", "+a1 e2 t3 v1;a(0)", "+a1 e2 t3 u2;a(0)", "+a1 e2 t3 +u1;a(0)", "+a1 +e2 t3 u1;a(0)", "+a1;a(0)",
		"a1 e2 t3 u1;a(0)", "+b1 e2 t3 u1;b(0)", ";",
	} {
		other := parse(s)
		if impl.IsSolution(other, x, nil) || impl.IsSolution(x, other, nil) {
			t.Errorf("%v and %v are solutions of each other", other, x)
		}
		if !impl.IsSolution(other, other, nil) {
			t.Errorf("%v is no solution of itself", other)
		}
	}
	// Without source facts, the relations count too.
	if impl.IsSolution(parse("+a1 u1;"), parse("+a1 u2;"), nil) || impl.IsSolution(parse(";"), parse("+a1;"), nil) || impl.IsSolution(parse("+a1;"), parse(";"), nil) {
		t.Error("an instance is a solution over other relations")
	}
}

func TestInvalidSourcesHaveNoSolutions(t *testing.T) {
	for _, source := range invalidInstances() {
		// Its source facts as far as they are valid, and no facts at all, over its relations and over none.
		x := impl.Instance{Relations: source.Relations}
		for _, f := range source.Facts {
			if inserted, ok := impl.InsertFact(x, f); ok && x.Relations[f.Relation].Source {
				x = inserted
			}
		}
		for _, other := range []impl.Instance{x, {Relations: source.Relations}, {}, source} {
			if impl.IsSolution(source, other, nil) {
				t.Errorf("%v is a solution of %v", other, source)
			}
		}
	}
}

// checkGround compares IsGround with the values of a valid instance.
func checkGround(t *testing.T, x impl.Instance) {
	t.Helper()
	want := true
	for _, f := range x.Facts {
		want = want && slices.Min(f.Values) >= 0
	}
	if !impl.IsValidInstance(x) || impl.IsGround(x) != want {
		t.Fatalf("IsGround(%v) is not %v", x, want)
	}
}

func TestIsGround(t *testing.T) {
	for list, want := range map[string]bool{
		"":                           true,
		"a(0)":                       true,
		"u(0)":                       true,
		"u(n0)":                      false,
		"u(n39)":                     false,
		"e(9,9)":                     true,
		"e(0,n0)":                    false,
		"e(n0,0)":                    false,
		"a(0) e(0,0) t(1,2,3) u(9)":  true,
		"a(0) e(0,0) t(1,2,n3) u(9)": false,
		"a(0) e(0,0) u(n9)":          false,
		"a(0) e(n0,0) u(9)":          false,
	} {
		if got := impl.IsGround(graph(t, list)); got != want {
			t.Errorf("IsGround(%s) = %v", list, got)
		}
	}
	if !impl.IsGround(impl.Instance{}) {
		t.Error("the zero instance is not ground")
	}
	for chosen := range 1 << 8 {
		checkGround(t, subset(chosen))
	}
	for _, values := range tuples([]int{-40, -1, 0, 9}, 3) {
		checkGround(t, instance(fact(0, 0, 0), fact(2, values...), fact(3, 1, 1)))
	}
	// Thirty facts, of which at most one has a null.
	x := instance()
	for i := range 30 {
		x.Facts = append(x.Facts, fact(3, i/10, i%10))
	}
	checkGround(t, x)
	checkGround(t, instance(slices.Concat([]impl.Fact{fact(3, 0, -1)}, x.Facts[1:])...))
	checkGround(t, instance(slices.Concat(x.Facts[1:], []impl.Fact{fact(3, 3, -40)})...))
	for _, invalid := range invalidInstances() {
		if impl.IsGround(invalid) {
			t.Errorf("the invalid instance %v is ground", invalid)
		}
	}
}

// containsFact does not rely on ContainsFact.
func containsFact(x impl.Instance, f impl.Fact) bool {
	return slices.ContainsFunc(x.Facts, func(other impl.Fact) bool { return sameFact(other, f) })
}

// checkRestrictions checks that every fact belongs to exactly one of the restrictions, and that the restriction to the source is what IsSolution compares.
func checkRestrictions(t *testing.T, x impl.Instance) {
	t.Helper()
	source, target := impl.Restrict(x, true), impl.Restrict(x, false)
	if len(source.Facts)+len(target.Facts) != len(x.Facts) {
		t.Fatalf("%v is restricted to %v and %v", x, source, target)
	}
	whole := impl.Instance{Relations: x.Relations}
	for _, f := range x.Facts {
		isSource := x.Relations[f.Relation].Source
		if containsFact(source, f) != isSource || containsFact(target, f) == isSource {
			t.Fatalf("%v of %v is restricted to %v and %v", f, x, source, target)
		}
		whole, _ = impl.InsertFact(whole, f)
	}
	if !sameInstance(whole, x) || !impl.IsSubset(source, x) || !impl.IsSubset(target, x) {
		t.Fatalf("%v is not made of %v and %v", x, source, target)
	}
	if !impl.IsSolution(x, x, nil) || !impl.IsSolution(x, source, nil) || !impl.IsSolution(source, x, nil) {
		t.Fatalf("%v and %v have different source facts", x, source)
	}
	if impl.IsSolution(target, x, nil) != (len(source.Facts) == 0) || impl.IsSolution(x, target, nil) != (len(source.Facts) == 0) {
		t.Fatalf("%v and %v have the same source facts", x, target)
	}
}

// TestRestrictionsOfInsertedFacts inserts facts of all relations: each is contained in the one restriction, and deleting it restores both.
func TestRestrictionsOfInsertedFacts(t *testing.T) {
	random := rand.New(rand.NewSource(122))
	var inserted [2]int
	for range 1000 {
		x := randomInstance(random, dependencySchema(), random.Intn(12), []int{-1, 0, 9})
		checkRestrictions(t, x)
		one := randomInstance(random, dependencySchema(), 1, []int{-1, 0, 9})
		f := one.Facts[0]
		larger, ok := impl.InsertFact(x, f)
		if !ok {
			continue
		}
		checkRestrictions(t, larger)
		isSource := x.Relations[f.Relation].Source
		if !containsFact(impl.Restrict(larger, isSource), f) || containsFact(impl.Restrict(larger, !isSource), f) {
			t.Fatalf("the inserted %v is in the wrong restriction of %v", f, larger)
		}
		if impl.IsSolution(x, larger, nil) == isSource || impl.IsSolution(larger, x, nil) == isSource {
			t.Fatalf("%v is a solution of %v, or not, because of the other restriction", larger, x)
		}
		restored, ok := impl.DeleteFact(larger, f)
		if !ok || !sameInstance(restored, x) {
			t.Fatalf("deleting %v from %v gives %v", f, larger, restored)
		}
		for _, source := range []bool{true, false} {
			if !sameInstance(impl.Restrict(restored, source), impl.Restrict(x, source)) {
				t.Fatalf("the restriction of %v is not restored", x)
			}
		}
		if isSource {
			inserted[1]++
		} else {
			inserted[0]++
		}
	}
	if slices.Min(inserted[:]) < 200 {
		t.Error("the numbers of inserted target and source facts are", inserted)
	}
}

func TestSatisfactionSharesNoMemory(t *testing.T) {
	x, source := roomyInstance(), roomyInstance()
	before := wholeMemory(x)
	// The relations of factSchema are a, p, q and z, of the arities 2, 1, 3 and 2. Only the first dependency is satisfied.
	originals := []impl.Dependency{
		tgd(atoms(atom(0, 0, 1)), atoms(atom(1, 3))),
		tgd(atoms(atom(0, 0, 1), atom(1, 2)), atoms(atom(3, 0, 2))),
		egd(atoms(atom(1, 0), atom(1, 1)), 0, 1),
	}
	list := make([]impl.Dependency, 0, 4)
	for _, original := range originals {
		list = append(list, copiedDependency(original, 3))
	}
	// What stands behind the list is no part of it.
	list = append(list, impl.Dependency{IsEGD: true, LeftVar: 99})[:3]
	memory := func() []int {
		var all []int
		for _, rule := range list[:cap(list)] {
			all = append(all, memoryOfDependency(rule)...)
		}
		return all
	}
	kept := memory()
	want := firstViolation(x, originals)
	if !want.found || want.index != 1 {
		t.Fatal("the first violation is", want)
	}
	for range 2 {
		checkSatisfaction(t, x, list, want)
		_, bound, _ := impl.FirstViolation(x, list)
		fill(bound, 1000)
		if impl.IsSolution(source, x, list) || !impl.IsSolution(source, x, list[:1]) || impl.IsGround(x) {
			t.Error("the roomy instance is a solution, or ground")
		}
	}
	if !slices.Equal(memory(), kept) || !sameInstance(wholeMemory(x), before) || !sameInstance(wholeMemory(source), before) {
		t.Errorf("the arguments have become %v, %v and %v", x, source, list)
	}
}
