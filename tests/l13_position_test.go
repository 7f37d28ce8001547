package tests

import (
	"math"
	"math/rand"
	"slices"
	"strconv"
	"strings"
	"testing"

	"loop.example/g01919/impl"
)

// columns returns the relation and the column of each position, in order.
func columns(relations []impl.Relation) [][2]int {
	var list [][2]int
	for i, relation := range relations {
		for index := range relation.Arity {
			list = append(list, [2]int{i, index})
		}
	}
	return list
}

// hugeNumbers returns numbers that are no index of anything, also if some of their bits are lost.
func hugeNumbers() []int {
	return []int{math.MinInt, math.MinInt + 1, -1 << 32, -1, 1 << 31, 1 << 32, 1<<32 + 1, math.MaxInt - 1, math.MaxInt}
}

// checkPositions compares the positions of valid relations with their columns.
func checkPositions(t *testing.T, relations []impl.Relation) {
	t.Helper()
	list := columns(relations)
	if got := impl.PositionCount(relations); got != len(list) {
		t.Fatalf("PositionCount(%v) = %d, want %d", relations, got, len(list))
	}
	for relation := -2; relation < len(relations)+3; relation++ {
		for index := -2; index < 6; index++ {
			// Index returns -1 if there is no such column, as the document asks.
			if got, want := impl.PositionIndex(relations, relation, index), slices.Index(list, [2]int{relation, index}); got != want {
				t.Fatalf("PositionIndex(%v, %d, %d) = %d, want %d", relations, relation, index, got, want)
			}
		}
	}
	for position := -3; position < len(list)+8; position++ {
		want := ""
		if 0 <= position && position < len(list) {
			want = relations[list[position][0]].Name + strconv.Itoa(list[position][1])
		}
		if got := impl.FormatPosition(relations, position); got != want {
			t.Fatalf("FormatPosition(%v, %d) = %q, want %q", relations, position, got, want)
		}
	}
}

func TestPositions(t *testing.T) {
	for _, relations := range schemas("abc") {
		checkPositions(t, relations)
	}
	checkPositions(t, []impl.Relation{})
	checkPositions(t, factSchema())
	checkPositions(t, dependencySchema())
	relations := relationsNamed("abuxyz")
	for i := range relations {
		relations[i].Arity = 3
	}
	checkPositions(t, relations)
	if got := impl.PositionIndex(relations, 5, 2); got != 17 {
		t.Errorf("the last of %v has the position %d", relations, got)
	}
	for _, n := range hugeNumbers() {
		if impl.PositionIndex(relations, n, 0) != -1 || impl.PositionIndex(relations, 0, n) != -1 || impl.PositionIndex(relations, n, n) != -1 {
			t.Errorf("there is a position of relation or column %d", n)
		}
		if got := impl.FormatPosition(relations, n); got != "" {
			t.Errorf("position %d is formatted as %q", n, got)
		}
	}
}

// TestPositionFormatsAreUnique finds each format once and no position without one.
func TestPositionFormatsAreUnique(t *testing.T) {
	for _, relations := range append(schemas("xyz"), dependencySchema()) {
		seen := map[string]bool{"": true}
		for position := range impl.PositionCount(relations) {
			s := impl.FormatPosition(relations, position)
			if seen[s] {
				t.Fatalf("%q is the format of two positions of %v, or of none", s, relations)
			}
			seen[s] = true
			if relation := impl.RelationIndex(relations, s[:1]); impl.PositionIndex(relations, relation, int(s[1]-'0')) != position {
				t.Fatalf("%q is the format of position %d of %v", s, position, relations)
			}
		}
	}
}

func TestPositionsOfInvalidRelations(t *testing.T) {
	huge := []impl.Relation{{Name: "a", Arity: 1}, {Name: "p", Arity: math.MaxInt}}
	negative := []impl.Relation{{Name: "a", Arity: math.MinInt}, {Name: "p", Arity: 1}}
	for _, relations := range append(invalidSchemas(), huge, negative) {
		if got := impl.PositionCount(relations); got != 0 {
			t.Errorf("PositionCount(%v) = %d", relations, got)
		}
		for _, n := range append(hugeNumbers(), 0, 1, 2, 3) {
			if got := impl.FormatPosition(relations, n); got != "" {
				t.Errorf("FormatPosition(%v, %d) = %q", relations, n, got)
			}
			for _, index := range []int{math.MinInt, -1, 0, 1, math.MaxInt} {
				if got := impl.PositionIndex(relations, n, index); got != -1 {
					t.Errorf("PositionIndex(%v, %d, %d) = %d", relations, n, index, got)
				}
			}
		}
	}
}

// formatEdges writes an ordinary edge with > and a special one with *.
func formatEdges(relations []impl.Relation, edges []impl.PositionEdge) string {
	names := make([]string, 0)
	for _, column := range columns(relations) {
		names = append(names, relations[column[0]].Name+strconv.Itoa(column[1]))
	}
	var formatted []string
	for _, edge := range edges {
		sign := ">"
		if edge.Special {
			sign = "*"
		}
		formatted = append(formatted, names[edge.From]+sign+names[edge.To])
	}
	return strings.Join(formatted, " ")
}

// An occurrence is an atom, a column of it and the variable there.
type occurrence [3]int

func occurrences(list []impl.Atom) []occurrence {
	var found []occurrence
	for i, a := range list {
		for index, term := range a.Terms {
			if term >= 0 {
				found = append(found, occurrence{i, index, term})
			}
		}
	}
	return found
}

// positionEdges says what PositionGraph has to return for valid dependencies: it pairs all occurrences in both sides and sorts the pairs by what their order depends on.
func positionEdges(relations []impl.Relation, rules []impl.Dependency) []impl.PositionEdge {
	positions := columns(relations)
	type pair struct {
		order []int
		edge  impl.PositionEdge
	}
	var pairs []pair
	for i, rule := range rules {
		for _, to := range occurrences(rule.Head) {
			for _, from := range occurrences(rule.Body) {
				special := !slices.Contains(variablesOf(rule.Body), to[2])
				if !slices.Contains(variablesOf(rule.Head), from[2]) || !special && from[2] != to[2] {
					continue
				}
				existential := -1
				if special {
					existential = to[2]
				}
				pairs = append(pairs, pair{
					[]int{i, from[2], from[0], from[1], existential, to[0], to[1]},
					impl.PositionEdge{
						From:    slices.Index(positions, [2]int{rule.Body[from[0]].Relation, from[1]}),
						To:      slices.Index(positions, [2]int{rule.Head[to[0]].Relation, to[1]}),
						Special: special,
					},
				})
			}
		}
	}
	slices.SortFunc(pairs, func(a pair, b pair) int { return slices.Compare(a.order, b.order) })
	var edges []impl.PositionEdge
	seen := map[impl.PositionEdge]bool{}
	for _, p := range pairs {
		if !seen[p.edge] {
			edges = append(edges, p.edge)
		}
		seen[p.edge] = true
	}
	return edges
}

func checkGraph(t *testing.T, relations []impl.Relation, rules []impl.Dependency, want []impl.PositionEdge) {
	t.Helper()
	if got := impl.PositionGraph(relations, rules); !slices.Equal(got, want) {
		t.Fatalf("PositionGraph(%v, %v) = %v, want %v", relations, rules, got, want)
	}
}

func TestPositionGraph(t *testing.T) {
	for _, c := range []struct {
		rules string
		want  string
	}{
		{"", ""},
		{"ax>ux", "a0>u0"},
		{"exy>eyx", "e0>e1 e1>e0"},
		{"exy>exy", "e0>e0 e1>e1"},
		{"exy eyz>exz", "e0>e0 e1>e1"},
		// One special edge for each position of an existential variable, from each position of a frontier variable.
		{"ax>exy", "a0>e0 a0*e1"},
		{"ax>eyx", "a0>e1 a0*e0"},
		{"exy>eyz", "e1>e0 e1*e1"},
		{"exy>txzu", "e0>t0 e0*t1 e0*t2"},
		{"exy>txyz", "e0>t0 e0*t2 e1>t1 e1*t2"},
		{"ax>txyy", "a0>t0 a0*t1 a0*t2"},
		// Without frontier variables there are no edges, whatever else the sides contain.
		{"ax>uy", ""},
		{"ax>u0", ""},
		{"a0>uy", ""},
		{"a0>u1", ""},
		{"exy exz>euv uv", ""},
		{"ux>ey1 uz", ""},
		{"ax>uy;ux>ey1 uz;a0>tzzz", ""},
		{"ax>uy;ux>ux;a0>uz", "u0>u0"},
		// A dependency has no edges from the variables of Body that Head does not contain.
		{"exy>ux", "e0>u0"},
		{"exy>uy", "e1>u0"},
		{"txyz>eyu", "t1>e0 t1*e1"},
		// Nor has an equality.
		{"exy=xy", ""},
		{"exy exz=yz;ux uy=xy", ""},
		{"exy exz=yz;ax>ux;exy=xy", "a0>u0"},
		// Constants have no edges.
		{"e0x>ex1", "e1>e0"},
		{"e00>e00", ""},
		{"tx1y>e1y uz", "t2>e1 t2*u0"},
		// A variable that occurs more than once, on either side.
		{"exx>ux", "e0>u0 e1>u0"},
		{"ax>exx", "a0>e0 a0>e1"},
		{"exx>exx", "e0>e0 e0>e1 e1>e0 e1>e1"},
		{"exx>txyx", "e0>t0 e0>t2 e0*t1 e1>t0 e1>t2 e1*t1"},
		{"exy uy>ey0 uy", "e1>e0 e1>u0 u0>e0 u0>u0"},
		// All occurrences of x come before those of y, and the existential variables come after all ordinary edges of a position.
		{"eyx>txyz", "e1>t0 e1*t2 e0>t1 e0*t2"},
		{"uy ux>exy", "u0>e0 u0>e1"},
		{"uy ax>exy", "a0>e0 u0>e1"},
		{"txyz>tzyx", "t0>t2 t1>t1 t2>t0"},
		{"ux>ezx eux", "u0>e1 u0*e0"},
		{"uu>tzyu exu", "u0>t2 u0>e1 u0*e0 u0*t1 u0*t0"},
		{"uu>exu tzyu", "u0>e1 u0>t2 u0*e0 u0*t1 u0*t0"},
		{"ax>tzyx uz", "a0>t2 a0*t1 a0*t0 a0*u0"},
		{"txyz ezx>txuv uy", "t0>t0 t0*t1 t0*t2 e1>t0 e1*t1 e1*t2 t1>u0 t1*t1 t1*t2"},
		// Each edge stands where it occurs first; an ordinary edge and a special one are different edges.
		{"ax>ux;ax>ux", "a0>u0"},
		{"ax>exy;ax>ex0;ax>exz", "a0>e0 a0*e1"},
		{"ax>exy;ax>eyx", "a0>e0 a0*e1 a0>e1 a0*e0"},
		{"ax>eyx;ax>exy", "a0>e1 a0*e0 a0>e0 a0*e1"},
		{"ax>exy eyx", "a0>e0 a0>e1 a0*e1 a0*e0"},
		{"ax>eyx exy", "a0>e1 a0>e0 a0*e0 a0*e1"},
		{"ux uy>exz ezy", "u0>e0 u0*e1 u0*e0 u0>e1"},
		{"exy exz>exy exz", "e0>e0 e1>e1"},
		{"ux ux>ux ux", "u0>u0"},
		{"ax>ux;ux>exy;exy>uy;exy eyz>exz;exy=xy", "a0>u0 u0>e0 u0*e1 e1>u0 e0>e0 e1>e1"},
	} {
		relations, rules := graph(t, "").Relations, graphRules(t, c.rules)
		if got := formatEdges(relations, impl.PositionGraph(relations, rules)); got != c.want {
			t.Errorf("the edges of %s are %s, want %s", c.rules, got, c.want)
		}
		checkGraph(t, relations, rules, positionEdges(relations, rules))
	}
}

func TestGraphsOfValidDependencies(t *testing.T) {
	relations := dependencySchema()
	for _, first := range validDependencies() {
		checkGraph(t, relations, []impl.Dependency{first}, positionEdges(relations, []impl.Dependency{first}))
		for _, second := range validDependencies() {
			list := []impl.Dependency{first, second, first}
			checkGraph(t, relations, list, positionEdges(relations, list))
		}
	}
	checkGraph(t, relations, nil, nil)
	checkGraph(t, nil, nil, nil)
}

// randomDependency returns a valid dependency over relations with a target relation.
func randomDependency(random *rand.Rand, relations []impl.Relation) impl.Dependency {
	for {
		rule := impl.Dependency{IsEGD: random.Intn(6) == 0}
		for range 1 + random.Intn(2) {
			rule.Body = append(rule.Body, randomAtom(random, relations))
		}
		for range 1 + random.Intn(2) {
			rule.Head = append(rule.Head, randomAtom(random, relations))
		}
		if rule.IsEGD {
			rule.Head, rule.LeftVar, rule.RightVar = nil, random.Intn(4), 1+random.Intn(4)
		}
		if impl.IsValidDependency(relations, rule) {
			return rule
		}
	}
}

func TestGraphsOfRandomDependencies(t *testing.T) {
	random := rand.New(rand.NewSource(131))
	all := slices.DeleteFunc(schemas("cdx"), func(relations []impl.Relation) bool {
		return !slices.ContainsFunc(relations, func(relation impl.Relation) bool { return !relation.Source && relation.Arity > 1 })
	})
	most, without := 0, 0
	for range 20000 {
		relations := all[random.Intn(len(all))]
		if random.Intn(2) == 0 {
			relations = dependencySchema()
		}
		var rules []impl.Dependency
		for range random.Intn(6) {
			rules = append(rules, randomDependency(random, relations))
		}
		want := positionEdges(relations, rules)
		checkGraph(t, relations, rules, want)
		most = max(most, len(want))
		if len(rules) > 0 && len(want) == 0 {
			without++
		}
	}
	if most < 20 || without < 100 {
		t.Errorf("there are at most %d edges, and none for %d lists", most, without)
	}
}

func TestGraphsOfInvalidDependencies(t *testing.T) {
	relations := dependencySchema()
	valid := validDependencies()[0]
	for _, invalid := range invalidDependencies() {
		for _, list := range [][]impl.Dependency{{invalid}, {valid, invalid}, {invalid, valid}, {valid, valid, valid, valid, invalid}} {
			checkGraph(t, relations, list, nil)
		}
	}
	checkGraph(t, relations, slices.Repeat([]impl.Dependency{valid}, 5), positionEdges(relations, []impl.Dependency{valid}))
	checkGraph(t, relations, slices.Repeat([]impl.Dependency{valid}, 6), nil)
	checkGraph(t, relations, slices.Repeat([]impl.Dependency{valid}, 1000), nil)
	// The dependencies are valid over other relations only.
	checkGraph(t, nil, []impl.Dependency{valid}, nil)
	checkGraph(t, factSchema(), []impl.Dependency{valid}, nil)
	p := []impl.Dependency{tgd(atoms(atom(1, 0)), atoms(atom(1, 0)))}
	for _, invalid := range invalidSchemas() {
		checkGraph(t, invalid, p, nil)
		checkGraph(t, invalid, nil, nil)
	}
	checkGraph(t, factSchema(), p, []impl.PositionEdge{{From: 2, To: 2}})
}

// reachedFrom returns the positions that can be reached, and follows one edge at a time.
func reachedFrom(edges []impl.PositionEdge, positions int, from int) map[int]bool {
	reached := map[int]bool{from: true}
	for waiting := []int{from}; len(waiting) > 0; waiting = waiting[1:] {
		for _, edge := range edges {
			if edge.From == waiting[0] && 0 <= edge.To && edge.To < positions && !reached[edge.To] {
				reached[edge.To] = true
				waiting = append(waiting, edge.To)
			}
		}
	}
	return reached
}

// checkReachable compares all pairs of positions, and some that are out of range.
func checkReachable(t *testing.T, positions int, edges []impl.PositionEdge) {
	t.Helper()
	for from := -2; from < positions+2; from++ {
		isFrom := 0 <= from && from < positions
		reached := reachedFrom(edges, positions, from)
		for to := -2; to < positions+2; to++ {
			want := isFrom && 0 <= to && to < positions && reached[to]
			if impl.IsReachable(positions, edges, from, to) != want {
				t.Fatalf("IsReachable(%d, %v, %d, %d) is not %v", positions, edges, from, to, want)
			}
		}
	}
}

// TestAllSmallReachability tries all graphs with three positions, ordinary and special edges among them, also with fewer positions.
func TestAllSmallReachability(t *testing.T) {
	for chosen := range 1 << 9 {
		var edges []impl.PositionEdge
		for i := range 9 {
			if chosen>>i&1 == 1 {
				edges = append(edges, impl.PositionEdge{From: i / 3, To: i % 3, Special: (chosen+i)%2 == 0})
			}
		}
		for positions := range 5 {
			checkReachable(t, positions, edges)
		}
		slices.Reverse(edges)
		checkReachable(t, 3, edges)
	}
}

func TestReachabilityOfRandomGraphs(t *testing.T) {
	random := rand.New(rand.NewSource(132))
	for range 300 {
		positions := random.Intn(31)
		var edges []impl.PositionEdge
		for range random.Intn(60) {
			// Some edges have positions out of range.
			edges = append(edges, impl.PositionEdge{From: random.Intn(positions+5) - 2, To: random.Intn(positions+5) - 2, Special: random.Intn(2) == 0})
		}
		checkReachable(t, positions, edges)
	}
}

// TestReachabilityFollowsEdges reaches the second of two positions exactly if there is an edge to it from one that is reached.
func TestReachabilityFollowsEdges(t *testing.T) {
	relations := dependencySchema()
	for i, first := range validDependencies() {
		for _, second := range validDependencies()[i:] {
			edges := impl.PositionGraph(relations, []impl.Dependency{first, second})
			count := impl.PositionCount(relations)
			checkReachable(t, count, edges)
			for from := range count {
				for to := range count {
					want := from == to || slices.ContainsFunc(edges, func(edge impl.PositionEdge) bool {
						return edge.To == to && impl.IsReachable(count, edges, from, edge.From)
					})
					if impl.IsReachable(count, edges, from, to) != want {
						t.Fatalf("IsReachable(%d, %v, %d, %d) is not %v", count, edges, from, to, want)
					}
				}
			}
		}
	}
}

func TestReachabilityIsReflexive(t *testing.T) {
	for positions := range 31 {
		for position := range positions {
			if !impl.IsReachable(positions, nil, position, position) {
				t.Errorf("position %d of %d does not reach itself", position, positions)
			}
		}
		checkReachable(t, positions, nil)
	}
}

// TestLongPaths has paths that pass through all positions, with the edges in both orders.
func TestLongPaths(t *testing.T) {
	var forward, backward []impl.PositionEdge
	for i := range 29 {
		forward = append(forward, impl.PositionEdge{From: i, To: i + 1, Special: true})
		backward = append(backward, impl.PositionEdge{From: i + 1, To: i})
	}
	for _, edges := range [][]impl.PositionEdge{forward, backward} {
		checkReachable(t, 30, edges)
		checkReachable(t, 29, edges)
		slices.Reverse(edges)
		checkReachable(t, 30, edges)
		checkReachable(t, 30, append(edges, impl.PositionEdge{From: 29, To: 0}, impl.PositionEdge{From: 0, To: 29}))
	}
	if !impl.IsReachable(30, forward, 0, 29) || impl.IsReachable(30, forward, 29, 0) || !impl.IsReachable(30, backward, 29, 0) || impl.IsReachable(30, backward, 0, 29) {
		t.Error("a path is not reachable from its first position to its last one only")
	}
}

func TestReachabilityOutOfRange(t *testing.T) {
	for _, n := range append(hugeNumbers(), 31, 32, 33, 64, 100) {
		for _, position := range []int{-1, 0, 1, 29, 30, n - 1, n} {
			if impl.IsReachable(n, nil, position, position) || impl.IsReachable(n, []impl.PositionEdge{{From: position, To: position}}, position, position) {
				t.Errorf("position %d of %d reaches itself", position, n)
			}
		}
		// The edges at such a position are ignored, also the part of a path that leads through it.
		edges := []impl.PositionEdge{{From: 0, To: n}, {From: n, To: 1}, {From: n, To: n}, {From: 1, To: 2}, {From: 2, To: n, Special: true}, {From: n, To: 0, Special: true}}
		checkReachable(t, 3, edges)
		checkReachable(t, 30, edges)
		if impl.IsReachable(3, edges, 0, 1) || impl.IsReachable(3, edges, 0, n) || impl.IsReachable(3, edges, n, 1) || impl.IsReachable(3, edges, n, n) || !impl.IsReachable(3, edges, 1, 2) {
			t.Errorf("a path leads through position %d of 3", n)
		}
	}
	if impl.IsReachable(0, nil, 0, 0) || impl.IsReachable(30, nil, 30, 30) || impl.IsReachable(31, nil, 0, 0) || !impl.IsReachable(30, nil, 29, 29) {
		t.Error("the limits of IsReachable")
	}
}

func TestManyEdges(t *testing.T) {
	edges := slices.Repeat([]impl.PositionEdge{{From: 7, To: 8}, {From: 30, To: 9}, {From: -1, To: 9}}, 100000)
	edges = append(edges, impl.PositionEdge{From: 8, To: 9})
	if !impl.IsReachable(10, edges, 7, 9) || impl.IsReachable(9, edges, 7, 9) || impl.IsReachable(10, edges, 9, 7) {
		t.Error("the last edge is ignored, or others are not")
	}
}

func TestPositionsShareNoMemory(t *testing.T) {
	behind := impl.Relation{Name: "behind"}
	relations := append(dependencySchema(), behind)[:6]
	// What stands behind the list is no part of it.
	list := []impl.Dependency{copiedDependency(validDependencies()[0], 3), copiedDependency(validDependencies()[13], 3), {IsEGD: true, LeftVar: 99}}[:2]
	memory := func() []int {
		var all []int
		for _, rule := range list[:cap(list)] {
			all = append(all, memoryOfDependency(rule)...)
		}
		return all
	}
	kept := memory()
	want := positionEdges(relations, []impl.Dependency{validDependencies()[0], validDependencies()[13]})
	edges := append(slices.Clone(want), impl.PositionEdge{From: 99, To: 98, Special: true})[:len(want)]
	for range 2 {
		checkGraph(t, relations, list, want)
		got := impl.PositionGraph(relations, list)
		for i := range got[:cap(got)] {
			got[:cap(got)][i] = impl.PositionEdge{From: 1000, To: 1000}
		}
		checkPositions(t, relations)
		checkReachable(t, impl.PositionCount(relations), edges)
	}
	if !slices.Equal(memory(), kept) || !slices.Equal(relations[:7], append(dependencySchema(), behind)) {
		t.Errorf("the arguments have become %v and %v", relations, list)
	}
	if !slices.Equal(edges[:len(want)+1], append(slices.Clone(want), impl.PositionEdge{From: 99, To: 98, Special: true})) {
		t.Errorf("the edges have become %v", edges)
	}
}
