package tests

import (
	"math/rand"
	"slices"
	"strconv"
	"testing"

	"loop.example/g01919/impl"
)

// A termination is what chapter 14 says of valid dependencies. There are no ranks if a special edge is on a cycle.
type termination struct {
	cyclic bool
	edge   impl.PositionEdge
	ranks  []int
}

// behindSpecialEdges returns the positions that can be reached from the end of a special edge that starts at one of the given positions.
func behindSpecialEdges(edges []impl.PositionEdge, positions int, starts map[int]bool) map[int]bool {
	behind := map[int]bool{}
	for _, edge := range edges {
		if edge.Special && starts[edge.From] {
			for position := range reachedFrom(edges, positions, edge.To) {
				behind[position] = true
			}
		}
	}
	return behind
}

// terminationOf finds the positions behind one special edge, behind two, and so on. This never ends exactly if a special edge is on a cycle.
func terminationOf(edges []impl.PositionEdge, positions int) termination {
	ranks := make([]int, positions)
	behind := map[int]bool{}
	for position := range positions {
		behind[position] = true
	}
	for rank := 1; len(behind) > 0 && rank <= positions+1; rank++ {
		behind = behindSpecialEdges(edges, positions, behind)
		for position := range behind {
			ranks[position] = rank
		}
	}
	if len(behind) == 0 {
		return termination{ranks: ranks}
	}
	first := slices.IndexFunc(edges, func(edge impl.PositionEdge) bool {
		return edge.Special && reachedFrom(edges, positions, edge.To)[edge.From]
	})
	return termination{cyclic: true, edge: edges[first]}
}

func formatTermination(relations []impl.Relation, want termination) string {
	if !want.cyclic {
		return "ok"
	}
	var names []string
	for _, column := range columns(relations) {
		names = append(names, relations[column[0]].Name+strconv.Itoa(column[1]))
	}
	return names[want.edge.From] + ">" + names[want.edge.To]
}

// checkTermination calls all functions of the chapter for valid dependencies.
func checkTermination(t *testing.T, relations []impl.Relation, rules []impl.Dependency, want termination) {
	t.Helper()
	if edge, cyclic := impl.SpecialCycleEdge(relations, rules); edge != want.edge || cyclic != want.cyclic {
		t.Fatalf("SpecialCycleEdge(%v, %v) = %v, %v, want %v, %v", relations, rules, edge, cyclic, want.edge, want.cyclic)
	}
	if got := impl.IsWeaklyAcyclic(relations, rules); got == want.cyclic {
		t.Fatalf("IsWeaklyAcyclic(%v, %v) = %v", relations, rules, got)
	}
	if ranks, ok := impl.PositionRanks(relations, rules); !slices.Equal(ranks, want.ranks) || ok == want.cyclic {
		t.Fatalf("PositionRanks(%v, %v) = %v, %v, want %v, %v", relations, rules, ranks, ok, want.ranks, !want.cyclic)
	}
	for position := -2; position < len(columns(relations))+3; position++ {
		rank := -1
		if 0 <= position && position < len(want.ranks) {
			rank = want.ranks[position]
		}
		if got := impl.PositionRank(relations, rules, position); got != rank {
			t.Fatalf("PositionRank(%v, %v, %d) = %d, want %d", relations, rules, position, got, rank)
		}
	}
	if got, format := impl.FormatTermination(relations, rules), formatTermination(relations, want); got != format {
		t.Fatalf("FormatTermination(%v, %v) = %q, want %q", relations, rules, got, format)
	}
}

// checkRules compares with the graph of the positions that the tests make.
func checkRules(t *testing.T, relations []impl.Relation, rules []impl.Dependency) termination {
	t.Helper()
	want := terminationOf(positionEdges(relations, rules), len(columns(relations)))
	checkTermination(t, relations, rules, want)
	return want
}

// ranksFrom reads one digit for each position.
func ranksFrom(digits string) []int {
	var ranks []int
	for _, digit := range []byte(digits) {
		ranks = append(ranks, int(digit-'0'))
	}
	return ranks
}

func TestWeaklyAcyclicDependencies(t *testing.T) {
	for _, c := range []struct {
		rules string
		// The ranks of a0, e0, e1, t0, t1, t2 and u0.
		ranks string
	}{
		{"", "0000000"},
		{"ax>ux", "0000000"},
		{"ax>exy", "0010000"},
		{"ax>eyx", "0100000"},
		{"ux>txyz", "0000110"},
		// A special edge between the columns of one relation is no cycle by itself.
		{"exy>exz", "0010000"},
		{"exy>ezy", "0100000"},
		{"txyz>tuvz", "0001100"},
		// Without frontier variables there is no special edge that could be on a cycle.
		{"ux>uy", "0000000"},
		{"exy>euv", "0000000"},
		{"u0>ux uy", "0000000"},
		// Equalities have no edges.
		{"exy exz=yz", "0000000"},
		{"exy exz=yz;ax>exy;exy=xy", "0010000"},
		// Cycles of ordinary edges change no rank, but pass the greatest one on to all their positions.
		{"exy>eyx", "0000000"},
		{"exx>exx", "0000000"},
		{"exy eyz>exz", "0000000"},
		{"exy eyz>exz;ax>exy", "0010000"},
		{"exy>eyx;ax>exy", "0110000"},
		{"txyz>tyzx;ax>txxy", "0001110"},
		// Special edges that lead out of a cycle, or into one.
		{"exy>eyx;exy>tx0z", "0000010"},
		{"exy>eyx;ax>exy;exy>tx0z", "0111020"},
		{"txyz>tyzx;ax>txxy;tx00>exy", "0121110"},
		// Each special edge of a path counts, and the order of the dependencies does not.
		{"ax>exy;exy>uy;ux>txyz", "0011221"},
		{"ux>txyz;exy>uy;ax>exy", "0011221"},
		{"ux>txyy;txyz>eyu", "0120110"},
		{"txyz>eyu;ux>txyy", "0120110"},
		// The other paths have fewer special edges, whether they are longer or come first.
		{"ax>ux;ax>exy;exy>uy", "0010001"},
		{"ax>exy;exy>uy;ax>ux", "0010001"},
		{"ax>tx0y;ax>exx;exx>ex0;e0x>t00x", "0000010"},
		{"ux uy>exz ezy", "0110000"},
		{"ax>ux;ax>exy;exy>tyz0;txyz>uy", "0011202"},
		// A special edge is at the beginning of a path through the other positions.
		{"ax>exy;eyx>tx00;tx00>t0x0;t0x0>t00x;t00x>ux", "0011111"},
		{"t00x>ux;t0x0>t00x;tx00>t0x0;eyx>tx00;ax>exy", "0011111"},
		// It is at the end.
		{"ax>e0x;e0x>ex0;ex0>tx00;tx00>t0x0;t0x0>t0xy", "0000010"},
		{"t0x0>t0xy;tx00>t0x0;ex0>tx00;e0x>ex0;ax>e0x", "0000010"},
	} {
		relations, rules := graph(t, "").Relations, graphRules(t, c.rules)
		checkTermination(t, relations, rules, termination{ranks: ranksFrom(c.ranks)})
		checkRules(t, relations, rules)
	}
}

func TestSpecialCycles(t *testing.T) {
	for _, c := range []struct {
		rules string
		// The special edge, as formatEdges writes it.
		edge string
	}{
		// A special self-loop, alone, beside an ordinary one, and after other edges.
		{"exy>eyz", "e1*e1"},
		{"exy>ezx", "e0*e0"},
		{"ux>ux uy", "u0*u0"},
		{"ux>uy ux", "u0*u0"},
		{"ux>ux;ux>ux uy", "u0*u0"},
		{"ax>exy;exy>tyz0;txyz>ux;exy>eyz", "e1*e1"},
		// Equalities do not break it.
		{"exy exz=yz;exy>eyz", "e1*e1"},
		// Cycles with ordinary edges, before the special one and behind it.
		{"exx>exy", "e0*e1"},
		{"exy>eyx;exy>exz", "e0*e1"},
		{"exy>exz;exy>eyx", "e0*e1"},
		{"ux>exz;exy>uy", "u0*e1"},
		{"exy>uy;ux>exz", "u0*e1"},
		{"e0x>ex0;ex0>t0xy;t00x>ux;ux>e0x", "e0*t2"},
		{"ux>e0x;t00x>ux;ex0>t0xy;e0x>ex0", "e0*t2"},
		// Cycles of special edges only.
		{"exy>tyz0;txyz>eyu", "e1*t1"},
		{"txyz>eyu;exy>tyz0", "t1*e1"},
		// A special edge that is on no cycle comes first, in another dependency or in the same one.
		{"ax>exy;exy>uy;ux>exz", "u0*e1"},
		{"exy>tyzz;txyz>ezu", "e1*t2"},
		{"txyz>tzuv", "t2*t2"},
		{"ax>tyxz;txyz>tyzu", "t1*t2"},
		// Several edges are on cycles. What counts is the dependency, then the variable, then the place, but not the position.
		{"exy>eyz;txyz>tyzu", "e1*e1"},
		{"txyz>tyzu;exy>eyz", "t1*t2"},
		{"eyx>exu eyv", "e1*e1"},
		{"exy>exu eyv", "e0*e1"},
		{"txxx>tyzx tzyx", "t0*t0"},
	} {
		relations, rules := graph(t, "").Relations, graphRules(t, c.rules)
		want := checkRules(t, relations, rules)
		if got := formatEdges(relations, []impl.PositionEdge{want.edge}); got != c.edge {
			t.Errorf("the first special edge on a cycle of %s is %s, want %s", c.rules, got, c.edge)
		}
	}
}

// TestGreatestRanks has as many special edges on a path as there can be dependencies.
func TestGreatestRanks(t *testing.T) {
	relations, _ := impl.ParseRelations("+a1 b2 c2 d2 e2 f2")
	rules, ok := impl.ParseDependencies(relations, "ax>bxy;bxy>cyz;cxy>dyz;dxy>eyz;exy>fyz")
	if !ok {
		t.Fatal("no dependencies")
	}
	want := termination{ranks: []int{0, 0, 1, 1, 2, 2, 3, 3, 4, 4, 5}}
	checkTermination(t, relations, rules, want)
	slices.Reverse(rules)
	checkTermination(t, relations, rules, want)
	rules[0] = tgd(atoms(atom(5, 0, 1)), atoms(atom(1, 1, 2)))
	checkTermination(t, relations, rules, checkRules(t, relations, rules))
	if got := impl.FormatTermination(relations, rules); got != "ok" {
		t.Errorf("without a special edge of e, there is a cycle through %s", got)
	}
	rules[4] = tgd(atoms(atom(4, 0, 1)), atoms(atom(5, 1, 2)))
	checkTermination(t, relations, rules, termination{cyclic: true, edge: impl.PositionEdge{From: 10, To: 2, Special: true}})
}

// smallRules returns one dependency for each graph that a dependency with one atom on each side has over the relations.
func smallRules(relations []impl.Relation) []impl.Dependency {
	var list []impl.Atom
	for relation := range relations {
		for _, terms := range tuples([]int{-1, 0, 1, 2}, relations[relation].Arity) {
			list = append(list, impl.Atom{Relation: relation, Terms: terms})
		}
	}
	var rules []impl.Dependency
	seen := map[string]bool{}
	for _, body := range list {
		for _, head := range list {
			rule := tgd(atoms(body), atoms(head))
			s := formatEdges(relations, positionEdges(relations, []impl.Dependency{rule}))
			if impl.IsValidDependency(relations, rule) && !seen[s] {
				rules = append(rules, rule)
			}
			seen[s] = true
		}
	}
	return rules
}

// TestAllSmallGraphs tries all pairs of the small graphs of dependencies, and all three of some.
func TestAllSmallGraphs(t *testing.T) {
	relations := []impl.Relation{{Name: "p", Arity: 2}, {Name: "q", Arity: 1}}
	rules := smallRules(relations)
	count := map[bool]int{}
	for i, first := range rules {
		for j, second := range rules {
			count[checkRules(t, relations, []impl.Dependency{first, second}).cyclic]++
			for _, third := range rules[:min(i, j)] {
				count[checkRules(t, relations, []impl.Dependency{first, second, third}).cyclic]++
			}
		}
	}
	if count[false] < 500 || count[true] < 500 {
		t.Errorf("of the small lists, %d are weakly acyclic and %d are not", count[false], count[true])
	}
}

func TestTerminationOfValidDependencies(t *testing.T) {
	relations := dependencySchema()
	for _, first := range validDependencies() {
		checkRules(t, relations, []impl.Dependency{first})
		for _, second := range validDependencies() {
			checkRules(t, relations, []impl.Dependency{first, second, first})
		}
	}
	checkTermination(t, relations, nil, termination{ranks: make([]int, len(columns(relations)))})
	checkTermination(t, nil, nil, termination{})
	checkTermination(t, []impl.Relation{}, []impl.Dependency{}, termination{})
}

func TestTerminationOfRandomDependencies(t *testing.T) {
	random := rand.New(rand.NewSource(141))
	found := map[string]int{}
	for range 12000 {
		relations := dependencySchema()
		if random.Intn(2) == 0 {
			relations = graph(t, "").Relations
		}
		var rules []impl.Dependency
		for range random.Intn(6) {
			rules = append(rules, randomDependency(random, relations))
		}
		want := checkRules(t, relations, rules)
		if want.cyclic && want.edge.From == want.edge.To {
			found["a special self-loop"]++
		} else if want.cyclic {
			found["another cycle"]++
		} else {
			found["rank "+strconv.Itoa(slices.Max(want.ranks))]++
		}
	}
	for _, s := range []string{"a special self-loop", "another cycle", "rank 0", "rank 1", "rank 2", "rank 3"} {
		if found[s] < 10 {
			t.Errorf("%s is found %d times only: %v", s, found[s], found)
		}
	}
}

// TestRanksFollowEdges says what ranks are without paths: they grow along the edges, and each comes from one edge.
func TestRanksFollowEdges(t *testing.T) {
	random := rand.New(rand.NewSource(142))
	relations := graph(t, "").Relations
	for range 3000 {
		var rules []impl.Dependency
		for range random.Intn(6) {
			rules = append(rules, randomDependency(random, relations))
		}
		ranks, ok := impl.PositionRanks(relations, rules)
		edges := impl.PositionGraph(relations, rules)
		for _, edge := range edges {
			if ok && (ranks[edge.To] < ranks[edge.From] || edge.Special && ranks[edge.To] == ranks[edge.From]) {
				t.Fatalf("the ranks of %v are %v, although there is the edge %v", rules, ranks, edge)
			}
		}
		for position, rank := range ranks {
			comesFrom := func(edge impl.PositionEdge) bool {
				return edge.Special && ranks[edge.From] == rank-1 && impl.IsReachable(len(ranks), edges, edge.To, position)
			}
			if rank < 0 || rank > 0 && !slices.ContainsFunc(edges, comesFrom) {
				t.Fatalf("the ranks of %v are %v, but position %d is behind no special edge for that", rules, ranks, position)
			}
		}
	}
}

// checkNoTermination calls all functions of the chapter for invalid dependencies.
func checkNoTermination(t *testing.T, relations []impl.Relation, rules []impl.Dependency) {
	t.Helper()
	if edge, cyclic := impl.SpecialCycleEdge(relations, rules); edge != (impl.PositionEdge{}) || cyclic {
		t.Errorf("SpecialCycleEdge(%v, %v) = %v, %v", relations, rules, edge, cyclic)
	}
	if impl.IsWeaklyAcyclic(relations, rules) {
		t.Errorf("IsWeaklyAcyclic(%v, %v)", relations, rules)
	}
	if ranks, ok := impl.PositionRanks(relations, rules); len(ranks) != 0 || ok {
		t.Errorf("PositionRanks(%v, %v) = %v, %v", relations, rules, ranks, ok)
	}
	for _, position := range append(hugeNumbers(), 0, 1, 2) {
		if got := impl.PositionRank(relations, rules, position); got != -1 {
			t.Errorf("PositionRank(%v, %v, %d) = %d", relations, rules, position, got)
		}
	}
	if got := impl.FormatTermination(relations, rules); got != "" {
		t.Errorf("FormatTermination(%v, %v) = %q", relations, rules, got)
	}
}

func TestTerminationOfInvalidDependencies(t *testing.T) {
	relations := dependencySchema()
	valid := validDependencies()[0]
	cyclic := tgd(atoms(atom(0, 0, 1)), atoms(atom(0, 1, 2)))
	for _, invalid := range invalidDependencies() {
		checkNoTermination(t, relations, []impl.Dependency{invalid})
		checkNoTermination(t, relations, []impl.Dependency{valid, invalid})
		checkNoTermination(t, relations, []impl.Dependency{cyclic, cyclic, cyclic, cyclic, invalid})
	}
	for _, rule := range []impl.Dependency{valid, cyclic} {
		checkRules(t, relations, slices.Repeat([]impl.Dependency{rule}, 5))
		checkNoTermination(t, relations, slices.Repeat([]impl.Dependency{rule}, 6))
		checkNoTermination(t, nil, []impl.Dependency{rule})
	}
	p := tgd(atoms(atom(1, 0)), atoms(atom(1, 0), atom(1, 1)))
	for _, invalid := range invalidSchemas() {
		checkNoTermination(t, invalid, nil)
		checkNoTermination(t, invalid, []impl.Dependency{p})
	}
	checkTermination(t, factSchema(), []impl.Dependency{p}, termination{cyclic: true, edge: impl.PositionEdge{From: 2, To: 2, Special: true}})
	checkNoTermination(t, factSchema(), []impl.Dependency{p, valid})
}

func TestRanksOfOtherPositions(t *testing.T) {
	relations, rules := graph(t, "").Relations, graphRules(t, "ax>exy")
	for _, position := range append(hugeNumbers(), 7, 8, 18, 30) {
		for _, list := range [][]impl.Dependency{nil, rules, graphRules(t, "exy>eyz")} {
			if got := impl.PositionRank(relations, list, position); got != -1 {
				t.Errorf("the rank of position %d of 7 is %d", position, got)
			}
		}
	}
	if got := impl.PositionRank(nil, nil, 0); got != -1 {
		t.Errorf("the rank of a position of no relations is %d", got)
	}
}

func TestTerminationSharesNoMemory(t *testing.T) {
	behind := impl.Relation{Name: "behind"}
	for _, i := range []int{0, 13} {
		relations := append(dependencySchema(), behind)[:6]
		// What stands behind the list is no part of it.
		list := []impl.Dependency{copiedDependency(validDependencies()[i], 3), copiedDependency(validDependencies()[2], 3), {IsEGD: true, LeftVar: 99}}[:2]
		memory := func() []int {
			var all []int
			for _, rule := range list[:cap(list)] {
				all = append(all, memoryOfDependency(rule)...)
			}
			return all
		}
		kept := memory()
		for range 2 {
			checkRules(t, relations, list)
			ranks, _ := impl.PositionRanks(relations, list)
			for i := range ranks[:cap(ranks)] {
				ranks[:cap(ranks)][i] = 1000
			}
		}
		if !slices.Equal(memory(), kept) || !slices.Equal(relations[:7], append(dependencySchema(), behind)) {
			t.Errorf("the arguments have become %v and %v", relations, list)
		}
	}
}
