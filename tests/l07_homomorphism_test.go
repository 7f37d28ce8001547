package tests

import (
	"maps"
	"math/rand"
	"slices"
	"strconv"
	"strings"
	"testing"

	"loop.example/g01919/impl"
)

const graphSchema = "+a1 e2 t3 u1"

// graph returns the instance with these facts, which are given in any order.
func graph(t *testing.T, list string) impl.Instance {
	t.Helper()
	x, ok := impl.ParseInstance(graphSchema + ";")
	for _, s := range strings.Fields(list) {
		f, isFact := impl.ParseFact(x.Relations, s)
		inserted, isNew := impl.InsertFact(x, f)
		x, ok = inserted, ok && isFact && isNew
	}
	if !ok {
		t.Fatal("no facts:", list)
	}
	return x
}

// edges returns the facts of e from and to these nulls, with the first number at each of the two ends.
func edges(first int, pairs ...[2]int) string {
	var list []string
	for _, pair := range pairs {
		list = append(list, "e(n"+strconv.Itoa(first+pair[0])+",n"+strconv.Itoa(first+pair[1])+")")
	}
	return strings.Join(list, " ")
}

func clique(size int) [][2]int {
	var pairs [][2]int
	for i := range size {
		for j := range size {
			if i != j {
				pairs = append(pairs, [2]int{i, j})
			}
		}
	}
	return pairs
}

// tournament returns the edges from each number to the larger ones.
func tournament(size int) [][2]int {
	return slices.DeleteFunc(clique(size), func(pair [2]int) bool {
		return pair[0] > pair[1]
	})
}

func path(length int) [][2]int {
	var pairs [][2]int
	for i := range length {
		pairs = append(pairs, [2]int{i, i + 1})
	}
	return pairs
}

func cycle(length int) [][2]int {
	return append(path(length-1), [2]int{length - 1, 0})
}

func bothWays(pairs [][2]int) [][2]int {
	both := slices.Clone(pairs)
	for _, pair := range pairs {
		both = append(both, [2]int{pair[1], pair[0]})
	}
	return both
}

// becomes extends the replacements, a map from nulls, so that one fact becomes another one, and says whether that is possible.
func becomes(replaced map[int]int, f impl.Fact, image impl.Fact) bool {
	if f.Relation != image.Relation || len(f.Values) != len(image.Values) {
		return false
	}
	for i, v := range f.Values {
		old, found := replaced[v]
		if v >= 0 {
			old, found = v, true
		}
		if found && old != image.Values[i] {
			return false
		}
		replaced[v] = image.Values[i]
	}
	return true
}

// homomorphisms returns the first ones up to the limit: it tries all images of the first fact, for each of them those of the second one, and so on.
func homomorphisms(from impl.Instance, to impl.Instance, limit int) []impl.Substitution {
	var found []impl.Substitution
	var extend func(i int, replaced map[int]int)
	extend = func(i int, replaced map[int]int) {
		if i == len(from.Facts) {
			var s impl.Substitution
			for _, v := range slices.Backward(slices.Sorted(maps.Keys(replaced))) {
				if v < 0 {
					s.Nulls = append(s.Nulls, -1-v)
					s.Values = append(s.Values, replaced[v])
				}
			}
			found = append(found, s)
			return
		}
		for _, image := range to.Facts {
			extended := maps.Clone(replaced)
			if len(found) < limit && becomes(extended, from.Facts[i], image) {
				extend(i+1, extended)
			}
		}
	}
	extend(0, map[int]int{})
	return found
}

// checkHomomorphisms compares the search with the homomorphisms that there are, of which at least the first 100 are given.
func checkHomomorphisms(t *testing.T, from impl.Instance, to impl.Instance, want []impl.Substitution) {
	t.Helper()
	got := impl.FindHomomorphisms(from, to)
	if !slices.EqualFunc(got, want[:min(len(want), 100)], sameSubstitution) {
		t.Fatalf("FindHomomorphisms(%v, %v) = %v, want %v", from, to, got, want)
	}
	first, ok := impl.FindHomomorphism(from, to)
	if ok != (len(want) > 0) || !ok && !isZeroSubstitution(first) || ok && !sameSubstitution(first, want[0]) {
		t.Fatalf("FindHomomorphism(%v, %v) = %v, %v, want the first of %v", from, to, first, ok, want)
	}
	if impl.HasHomomorphism(from, to) != ok {
		t.Fatalf("HasHomomorphism(%v, %v) is not %v", from, to, ok)
	}
	for _, s := range got {
		if !impl.IsHomomorphism(from, to, s) {
			t.Fatalf("%v is no homomorphism from %v to %v", s, from, to)
		}
	}
}

func checkNoHomomorphism(t *testing.T, from impl.Instance, to impl.Instance) {
	t.Helper()
	checkHomomorphisms(t, from, to, nil)
	if impl.AreHomEquivalent(from, to) || impl.AreHomEquivalent(to, from) {
		t.Fatalf("%v and %v are equivalent", from, to)
	}
}

func formatSubstitutions(list []impl.Substitution) string {
	var formatted []string
	for _, s := range list {
		formatted = append(formatted, impl.FormatSubstitution(s))
	}
	return strings.Join(formatted, "; ")
}

func TestHomomorphismsInOrder(t *testing.T) {
	for _, c := range []struct {
		from string
		to   string
		want string
	}{
		{"e(n1,n0) t(n0,n0,2)", "e(0,1) e(0,3) t(1,1,4) t(3,3,2)", "n0=3 n1=0"},
		{"e(n0,n1)", "e(0,1) e(0,3) u(7)", "n0=0 n1=1; n0=0 n1=3"},
		// Facts with nulls come before facts with constants, and larger nulls before smaller ones.
		{"u(n0)", "u(0) u(9) u(n0) u(n39)", "n0=n39; n0=n0; n0=0; n0=9"},
		// The image of the fact of n1 comes first, because it is fact 0.
		{"u(n0) u(n1)", "u(3) u(4)", "n0=3 n1=3; n0=4 n1=3; n0=3 n1=4; n0=4 n1=4"},
		// Fact 0 is that of e, although n5 and n0 also occur in facts of t.
		{"e(n5,n0) t(n0,n5,n5)", "e(1,2) e(2,1) t(1,2,2) t(2,1,1)", "n0=2 n5=1; n0=1 n5=2"},
		{"e(n0,n0)", "e(1,2) e(2,2) e(3,1) e(3,3)", "n0=2; n0=3"},
		{"t(n0,n1,n0)", "t(1,1,2) t(1,2,1) t(2,1,1) t(2,2,2)", "n0=1 n1=2; n0=2 n1=2"},
		{"e(n0,n1) e(n1,n2)", "e(1,2) e(2,3) e(3,3)", "n0=1 n1=2 n2=3; n0=2 n1=3 n2=3; n0=3 n1=3 n2=3"},
		// Different nulls may become the same value, and a null may become another null or itself.
		{"e(n0,n1)", "e(n1,n1) e(n1,n0) e(n0,n1)", "n0=n1 n1=n1; n0=n1 n1=n0; n0=n0 n1=n1"},
		{"a(1) e(1,n3) u(n3)", "a(0) a(1) e(0,4) e(1,5) e(1,6) u(4) u(6)", "n3=6"},
		// The images of the nulls are those after the choice of an image of their fact.
		{"u(n0)", "u(0) u(1)", "n0=0; n0=1"},
		{"e(n1,n0)", "e(0,1) e(1,0)", "n0=1 n1=0; n0=0 n1=1"},
	} {
		got := impl.FindHomomorphisms(graph(t, c.from), graph(t, c.to))
		if formatSubstitutions(got) != c.want {
			t.Errorf("from %s to %s there are %s, want %s", c.from, c.to, formatSubstitutions(got), c.want)
		}
		checkHomomorphisms(t, graph(t, c.from), graph(t, c.to), homomorphisms(graph(t, c.from), graph(t, c.to), 101))
	}
}

// TestWithoutNulls finds the empty substitution exactly if the facts are a subset.
func TestWithoutNulls(t *testing.T) {
	all := "a(0) a(1) e(0,1) t(2,2,2) u(9)"
	for _, c := range []struct {
		from string
		to   string
		want bool
	}{
		{"", "", true},
		{"", all, true},
		{"", "u(n0)", true},
		{all, all, true},
		{"a(1) u(9)", all, true},
		{"e(0,1)", "e(0,1) e(n0,n1)", true},
		{"u(9)", "", false},
		{all, "a(0) a(1) e(0,1) t(2,2,2)", false},
		{"e(1,0)", all, false},
		{"a(2)", all, false},
		{"u(0)", "u(1)", false},
		{"u(0)", "u(n0)", false},
	} {
		if !c.want {
			checkHomomorphisms(t, graph(t, c.from), graph(t, c.to), nil)
			continue
		}
		checkHomomorphisms(t, graph(t, c.from), graph(t, c.to), []impl.Substitution{{}})
	}
	checkHomomorphisms(t, impl.Instance{}, impl.Instance{}, []impl.Substitution{{}})
}

func TestInstancesWithoutHomomorphism(t *testing.T) {
	for _, c := range []struct {
		from string
		to   string
	}{
		{"u(n0)", ""},
		{"u(n0)", "a(1) e(1,1) t(1,1,1)"},
		{"a(1) u(n0)", "u(n0)"},
		{"a(1) u(n0)", "a(2) u(n0)"},
		{"u(1)", "u(n0) u(0) u(2)"},
		{"e(1,n0)", "e(0,1) e(n1,n0)"},
		{"e(n0,n0)", "e(0,1) e(1,0) e(n0,n1)"},
		{"t(n0,n0,n1)", "t(0,1,0) t(0,1,1) t(1,0,0) t(n0,n1,n0)"},
		{"t(n0,n1,n0)", "t(0,0,1) t(0,1,1)"},
		{"t(n0,n1,n1)", "t(0,0,1) t(0,1,0)"},
		{"e(n0,n1) u(n0)", "e(0,1) u(1)"},
		{"e(n0,n1) e(n1,n0)", "e(0,1) e(1,2) e(2,0)"},
		{"e(n0,n1) u(n0) t(n1,n1,n1)", "e(0,1) e(1,2) u(0) u(1) t(2,2,3) t(0,0,0)"},
		// Three of the four facts, which form a ring, say that two nulls are different: each fact alone can hold, but not all of them.
		{"e(n2,n3) e(n0,n1) t(n3,n0,1) t(n1,n2,0)", "e(0,1) e(1,0) t(0,0,0) t(0,1,1) t(1,0,1) t(1,1,0)"},
		{edges(0, cycle(3)...), edges(0, bothWays(path(10))...)},
		{edges(0, cycle(30)...), edges(0, tournament(8)...)},
		{edges(0, bothWays(cycle(3))...), edges(0, bothWays(cycle(5))...)},
		{edges(0, bothWays(cycle(13))...), edges(0, bothWays(cycle(15))...)},
		{edges(0, cycle(9)...), edges(0, cycle(29)...)},
		{edges(0, clique(4)...), edges(0, clique(3)...)},
		{edges(0, clique(6)...), edges(0, clique(5)...)},
		{edges(0, tournament(8)...), edges(0, tournament(7)...)},
		{edges(0, tournament(8)...), edges(0, clique(6)...)},
		{edges(0, path(30)...), edges(0, path(29)...)},
		// The facts of larger nulls come first: each of them has many images, and the last facts have none together.
		{edges(0, cycle(3)...) + " " + edges(3, path(27)...), edges(0, bothWays(path(15))...)},
		{edges(0, cycle(3)...) + " " + edges(3, [2]int{1, 0}, [2]int{3, 2}, [2]int{5, 4}, [2]int{7, 6}, [2]int{9, 8}, [2]int{11, 10}, [2]int{13, 12},
			[2]int{15, 14}, [2]int{17, 16}, [2]int{19, 18}, [2]int{21, 20}, [2]int{23, 22}, [2]int{25, 24}, [2]int{27, 26}, [2]int{29, 28}), edges(0, bothWays(path(15))...)},
		{edges(0, bothWays(cycle(3))...) + " " + edges(3, tournament(7)...), edges(0, tournament(7)...) + " " + edges(8, bothWays(path(4))...)},
		{edges(0, path(29)...) + " u(n0)", edges(0, bothWays(path(14))...) + " t(1,1,1)"},
		// The fact of u leaves one image of n0, and the others then need a directed triangle of 2 and 3.
		{"e(n3,n1) e(n2,n3) e(n1,n2) e(n0,n3) e(n0,n2) e(n0,n1) u(n0)", "e(1,2) e(1,3) e(2,3) e(3,2) e(4,5) e(4,6) e(4,7) e(5,6) e(6,7) e(7,5) u(1)"},
	} {
		checkNoHomomorphism(t, graph(t, c.from), graph(t, c.to))
	}
}

// TestLargeInstances finds homomorphisms that are known, in instances in which it would take too long to try all images.
func TestLargeInstances(t *testing.T) {
	identity := graph(t, edges(0, cycle(29)...))
	same, ok := impl.FindHomomorphism(identity, identity)
	if !ok || len(impl.FindHomomorphisms(identity, identity)) != 29 || !impl.IsHomomorphism(identity, identity, same) {
		t.Error("a cycle has one homomorphism to itself for each of its edges, not", impl.FindHomomorphisms(identity, identity))
	}
	for _, c := range []struct {
		from  string
		to    string
		count int
	}{
		{edges(0, cycle(30)...), edges(7, cycle(15)...), 15},
		{edges(0, cycle(28)...), edges(7, cycle(30)...), 0},
		{edges(0, tournament(7)...), edges(30, tournament(8)...), 8},
		{edges(0, tournament(6)...), edges(30, tournament(8)...), 28},
		{edges(0, clique(3)...), edges(10, clique(4)...), 24},
		{edges(0, clique(6)...), edges(10, clique(6)...), 100},
		{edges(0, bothWays(cycle(15))...), edges(20, bothWays(cycle(13))...), 100},
		{edges(0, path(29)...) + " u(n0)", edges(0, cycle(29)...) + " u(n7)", 1},
		{edges(0, path(29)...) + " u(n29)", edges(0, path(29)...) + " u(n29)", 1},
		{edges(0, path(30)...), edges(0, clique(5)...), 100},
	} {
		got := impl.FindHomomorphisms(graph(t, c.from), graph(t, c.to))
		if len(got) != c.count || impl.HasHomomorphism(graph(t, c.from), graph(t, c.to)) != (c.count > 0) {
			t.Errorf("from %s to %s there are %d, want %d", c.from, c.to, len(got), c.count)
		}
		for i, s := range got {
			if !impl.IsHomomorphism(graph(t, c.from), graph(t, c.to), s) || slices.ContainsFunc(got[:i], func(other impl.Substitution) bool { return sameSubstitution(other, s) }) {
				t.Errorf("from %s to %s, %v is no homomorphism or found twice", c.from, c.to, s)
			}
		}
	}
}

// TestFirstHundred has instances with nearly as many homomorphisms as are returned.
func TestFirstHundred(t *testing.T) {
	numbers := func(relation string, count int, repeated int) string {
		var list []string
		for v := range count {
			list = append(list, relation+"("+strings.Join(slices.Repeat([]string{strconv.Itoa(v)}, repeated), ",")+")")
		}
		return strings.Join(list, " ")
	}
	for _, c := range []struct {
		from  string
		to    string
		count int
	}{
		{"u(n0) e(n1,n1)", numbers("u", 9, 1) + " u(n0) u(n1) " + numbers("e", 9, 2), 99},
		{"u(n0) u(n1)", numbers("u", 10, 1), 100},
		{"u(n0) e(n1,n1)", numbers("u", 10, 1) + " u(n0) u(n1) u(n2) " + numbers("e", 8, 2), 104},
		{"u(n0) u(n1) u(n39)", numbers("u", 10, 1), 1000},
	} {
		want := homomorphisms(graph(t, c.from), graph(t, c.to), 1001)
		if len(want) != c.count {
			t.Fatalf("from %s to %s there are %d", c.from, c.to, len(want))
		}
		checkHomomorphisms(t, graph(t, c.from), graph(t, c.to), want)
	}
	// As many nulls as there are, each of which has as many images as there can be.
	var nulls []string
	for k := range 38 {
		nulls = append(nulls, "n"+strconv.Itoa(k))
	}
	var many []string
	for triple := range slices.Chunk(nulls, 3) {
		many = append(many, "t("+strings.Join(append(triple, "n38", "n39")[:3], ",")+")")
	}
	all := edges(0, tournament(8)...) + " t(1,1,1) t(2,2,2)"
	checkHomomorphisms(t, graph(t, strings.Join(many, " ")), graph(t, all), homomorphisms(graph(t, strings.Join(many, " ")), graph(t, all), 100))
}

// smallGraphs returns all instances of at most so many of these facts of two nulls and a constant.
func smallGraphs(t *testing.T, size int) []impl.Instance {
	all := []impl.Instance{graph(t, "")}
	for _, s := range []string{"a(0)", "e(n1,n1)", "e(n1,n0)", "e(n1,0)", "e(n0,n1)", "e(n0,n0)", "e(n0,0)", "e(0,n1)", "e(0,n0)", "e(0,0)"} {
		f, _ := impl.ParseFact(all[0].Relations, s)
		for _, x := range all {
			if larger, ok := impl.InsertFact(x, f); ok && len(x.Facts) < size {
				all = append(all, larger)
			}
		}
	}
	return all
}

// TestSmallHomomorphisms compares all pairs of small instances with a search that leaves nothing out.
func TestSmallHomomorphisms(t *testing.T) {
	graphs := smallGraphs(t, 3)
	exists := map[[2]int]bool{}
	for i, from := range graphs {
		for j, to := range graphs {
			want := homomorphisms(from, to, 101)
			checkHomomorphisms(t, from, to, want)
			exists[[2]int{i, j}] = len(want) > 0
		}
	}
	for i, a := range graphs {
		for j, b := range graphs {
			if got, want := impl.AreHomEquivalent(a, b), exists[[2]int{i, j}] && exists[[2]int{j, i}]; got != want {
				t.Fatalf("AreHomEquivalent(%v, %v) = %v", a, b, got)
			}
		}
	}
}

// TestIsHomomorphismDefinition compares all substitutions of up to three nulls with the definition.
func TestIsHomomorphismDefinition(t *testing.T) {
	graphs := smallGraphs(t, 2)
	for _, from := range graphs {
		nulls := impl.NullsOfInstance(from)
		for _, to := range graphs {
			for _, s := range substitutions([]int{0, 1, 2}, []int{-2, -1, 0}) {
				want := slices.Equal(s.Nulls, nulls)
				for _, f := range imageOfInstance(s, from).Facts {
					want = want && slices.ContainsFunc(to.Facts, func(other impl.Fact) bool { return sameFact(other, f) })
				}
				if got := impl.IsHomomorphism(from, to, s); got != want {
					t.Fatalf("IsHomomorphism(%v, %v, %v) = %v", from, to, s, got)
				}
			}
		}
	}
}

func TestIsHomomorphism(t *testing.T) {
	from := graph(t, "a(1) e(1,n2) t(n2,n2,n0)")
	to := graph(t, "a(0) a(1) e(1,1) e(1,n2) t(1,1,5) t(1,1,n0) t(n2,n2,1)")
	for _, c := range []struct {
		substitution impl.Substitution
		want         bool
	}{
		{substitution(0, 5, 2, 1), true},
		{substitution(0, -1, 2, 1), true},
		{substitution(0, 1, 2, -3), true},
		{substitution(0, 5, 2, -3), false},
		{substitution(0, 1, 2, 1), false},
		{substitution(0, 5, 2, 5), false},
		// The nulls are not exactly those of the first instance.
		{substitution(2, 1), false},
		{substitution(0, 5), false},
		{substitution(), false},
		{substitution(0, 5, 1, 1, 2, 1), false},
		{substitution(0, 5, 2, 1, 39, 1), false},
		{substitution(0, -1, 1, 1), false},
		// These substitutions are invalid.
		{substitution(2, 1, 0, 5), false},
		{substitution(0, 5, 2, 1, 2, 1), false},
		{impl.Substitution{Nulls: []int{0, 2}, Values: []int{5, 1, 1}}, false},
		{impl.Substitution{Nulls: []int{0, 2}, Values: []int{5}}, false},
		{impl.Substitution{Nulls: []int{0, 2}}, false},
	} {
		if got := impl.IsHomomorphism(from, to, c.substitution); got != c.want {
			t.Errorf("IsHomomorphism(.., %v) = %v", c.substitution, got)
		}
	}
	for _, s := range invalidSubstitutions() {
		for _, x := range []impl.Instance{from, to, graph(t, ""), graph(t, "u(n0)"), graph(t, "e(n0,n1)")} {
			if impl.IsHomomorphism(x, x, s) || impl.IsHomomorphism(x, to, s) {
				t.Errorf("%v is a homomorphism from %v", s, x)
			}
		}
	}
	// Nulls that stay are replaced by themselves; the empty substitution does not replace them.
	if !impl.IsHomomorphism(to, to, substitution(0, -1, 2, -3)) || impl.IsHomomorphism(to, to, impl.Substitution{}) {
		t.Error("the identity")
	}
	if !impl.IsHomomorphism(impl.Instance{}, impl.Instance{}, impl.Substitution{}) || impl.IsHomomorphism(impl.Instance{}, impl.Instance{}, substitution(0, 5)) {
		t.Error("the zero instance")
	}
}

// randomGraph returns an instance of so many facts at most, of some nulls and constants.
func randomGraph(random *rand.Rand, x impl.Instance, facts int, nulls int, constants int) impl.Instance {
	for range facts {
		relation := random.Intn(len(x.Relations))
		f := impl.Fact{Relation: relation}
		for range x.Relations[relation].Arity {
			v := random.Intn(nulls+constants) - nulls
			if x.Relations[relation].Source {
				v = random.Intn(constants)
			}
			f.Values = append(f.Values, v)
		}
		x, _ = impl.InsertFact(x, f)
	}
	return x
}

// TestRandomHomomorphisms compares instances of up to eight facts with a search that leaves nothing out.
func TestRandomHomomorphisms(t *testing.T) {
	random := rand.New(rand.NewSource(7))
	found := 0
	for range 20000 {
		from := randomGraph(random, graph(t, ""), random.Intn(9), 1+random.Intn(5), 1+random.Intn(2))
		to := randomGraph(random, graph(t, ""), random.Intn(16), random.Intn(3), 1+random.Intn(3))
		want := homomorphisms(from, to, 101)
		checkHomomorphisms(t, from, to, want)
		if len(want) > 0 && len(from.Facts) > 2 {
			found++
		}
	}
	if found < 1000 {
		t.Error("only", found, "pairs have a homomorphism")
	}
}

// TestSumsOfNulls reads e(x,y) as x+y=1 and t(x,y,z) as x+y+z=1, modulo a number: each fact alone leaves all values of a null, so that many nulls together decide.
func TestSumsOfNulls(t *testing.T) {
	random := rand.New(rand.NewSource(7))
	for modulus := 2; modulus <= 4; modulus++ {
		to := graph(t, "")
		for x := range modulus {
			to, _ = impl.InsertFact(to, fact(1, x, (1+modulus-x)%modulus))
			for y := range modulus {
				to, _ = impl.InsertFact(to, fact(2, x, y, (1+2*modulus-x-y)%modulus))
			}
		}
		solved := [2]int{}
		for range 2000 {
			from := graph(t, "")
			for range 4 + random.Intn(5) {
				values := random.Perm(7)
				f := fact(1+random.Intn(2), -1-values[0], -1-values[1])
				if f.Relation == 2 {
					f.Values = append(f.Values, -1-values[2])
				}
				if random.Intn(8) == 0 {
					f.Values[0] = random.Intn(modulus)
				}
				from, _ = impl.InsertFact(from, f)
			}
			want := homomorphisms(from, to, 101)
			checkHomomorphisms(t, from, to, want)
			solved[min(len(want), 1)]++
		}
		if min(solved[0], solved[1]) < 100 {
			t.Error("too many instances are alike:", solved)
		}
	}
}

// TestComposedHomomorphisms checks that the composition of homomorphisms is one.
func TestComposedHomomorphisms(t *testing.T) {
	graphs := smallGraphs(t, 2)
	for _, a := range graphs {
		for _, b := range graphs {
			for _, first := range impl.FindHomomorphisms(a, b) {
				image, ok := impl.ApplyToInstance(first, a)
				if !ok || !impl.IsSubset(image, b) || !impl.HasHomomorphism(a, image) {
					t.Fatalf("%v leads from %v to %v, not into %v", first, a, image, b)
				}
				for _, c := range graphs {
					for _, second := range impl.FindHomomorphisms(b, c) {
						composed, ok := impl.Compose(first, second)
						direct, isApplied := impl.ApplyToInstance(composed, a)
						inTurn, _ := impl.ApplyToInstance(second, image)
						// The composition also replaces the nulls that only the second instance has.
						var restricted impl.Substitution
						for _, k := range impl.NullsOfInstance(a) {
							restricted.Nulls = append(restricted.Nulls, k)
							restricted.Values = append(restricted.Values, impl.ApplyToValue(composed, -1-k))
						}
						if !ok || !isApplied || !sameInstance(direct, inTurn) || !impl.IsHomomorphism(a, c, restricted) || !impl.HasHomomorphism(a, c) {
							t.Fatalf("%v and %v lead from %v to %v and %v, and their composition to %v", first, second, a, b, c, direct)
						}
					}
				}
			}
		}
	}
}

func TestAreHomEquivalent(t *testing.T) {
	for _, c := range []struct {
		a    string
		b    string
		want bool
	}{
		{"", "", true},
		{"e(n3,n3) e(n0,n1)", "e(n5,n5)", true},
		{"u(n0) u(1)", "u(1)", true},
		{"u(n0) u(n1) u(n2)", "u(n39)", true},
		{"a(1) u(n0)", "a(1) u(n1)", true},
		{edges(0, bothWays(cycle(14))...), edges(3, [2]int{0, 1}, [2]int{1, 0}), true},
		{edges(0, cycle(3)...) + " " + edges(3, cycle(6)...) + " " + edges(9, cycle(9)...), edges(4, cycle(3)...), true},
		{"u(n0)", "", false},
		{"u(n0)", "u(1)", false},
		{"u(1)", "u(2)", false},
		{"a(1)", "a(1) a(2)", false},
		{edges(0, path(3)...), edges(0, path(2)...), false},
		{edges(0, bothWays(cycle(5))...), edges(0, bothWays(cycle(7))...), false},
	} {
		a, b := graph(t, c.a), graph(t, c.b)
		if impl.AreHomEquivalent(a, b) != c.want || impl.AreHomEquivalent(b, a) != c.want {
			t.Errorf("%s and %s: equivalence is not %v", c.a, c.b, c.want)
		}
	}
}

// checkIncomparable checks that nothing is found between two instances, although the first one has no nulls or those of the substitution.
func checkIncomparable(t *testing.T, from impl.Instance, to impl.Instance, s impl.Substitution) {
	t.Helper()
	checkNoHomomorphism(t, from, to)
	if impl.IsHomomorphism(from, to, s) {
		t.Errorf("%v is a homomorphism from %v to %v", s, from, to)
	}
}

func TestHomomorphismsOfDifferentRelations(t *testing.T) {
	parsed := func(s string) impl.Instance {
		x, ok := impl.ParseInstance(s)
		if !ok {
			t.Fatal(s)
		}
		return x
	}
	for _, relations := range []string{"", "p1", "+p1 q2", "p2 q2", "p1 q3", "p1 q2 r1", "o1 p1 q2", "o1 q2", "p1 r2", "p1 +q2"} {
		for _, facts := range []string{"", "p(1)"} {
			other, ok := impl.ParseInstance(relations + ";" + facts)
			if ok {
				checkIncomparable(t, parsed("p1 q2;"+facts), other, impl.Substitution{})
				checkIncomparable(t, other, parsed("p1 q2;"+facts), impl.Substitution{})
			}
		}
	}
	checkIncomparable(t, parsed("p1 q2;p(n0)"), parsed("p1 r2;p(n0)"), substitution(0, -1))
	checkIncomparable(t, parsed("p1;p(n0)"), parsed("p1 r2;p(n0)"), substitution(0, -1))
	checkIncomparable(t, parsed("p1 r2;p(n0)"), parsed("p1;p(n0)"), substitution(0, -1))
	checkIncomparable(t, parsed("p1;p(n0)"), parsed("q1;q(n0)"), substitution(0, -1))
}

func TestHomomorphismsOfInvalidInstances(t *testing.T) {
	valid := instance(fact(0, 1, 2), fact(1, -1))
	invalid := []impl.Instance{
		{Facts: valid.Facts},
		instance(fact(1, -1), fact(0, 1, 2)),
		instance(fact(1, -1), fact(1, -1)),
		instance(fact(0, 1, -1), fact(1, -1)),
		instance(fact(1, -1), fact(1, 10)),
		instance(fact(1, -41), fact(1, -1)),
		instance(fact(1, -1, -1)),
		instance(fact(1, -1), fact(2, 1)),
		instance(fact(1, -1), fact(3, 1, 2, 3)),
		instance(fact(1, -1), fact(1)),
		instance(fact(-1, 1), fact(1, -1)),
		instance(fact(1, -1), fact(4, 1)),
		instance(facts(31)...),
		instance(facts(100)...),
	}
	for _, relations := range invalidSchemas() {
		invalid = append(invalid, impl.Instance{Relations: relations}, impl.Instance{Relations: relations, Facts: []impl.Fact{fact(1, -1)}})
	}
	for _, x := range invalid {
		sameRelations := impl.Instance{Relations: x.Relations}
		for _, s := range []impl.Substitution{{}, substitution(0, -1), substitution(0, 1)} {
			checkIncomparable(t, x, x, s)
			for _, y := range []impl.Instance{valid, sameRelations, instance(), {}} {
				checkIncomparable(t, x, y, s)
				checkIncomparable(t, y, x, s)
			}
		}
	}
}

func TestHomomorphismsShareNoMemory(t *testing.T) {
	from, to := roomyInstance(), roomyInstance()
	invalid := roomyInstance()
	invalid.Facts[0].Values[0] = -1
	for _, pair := range [][2]impl.Instance{{from, to}, {from, from}, {invalid, to}, {from, invalid}} {
		beforeFrom, beforeTo := wholeMemory(pair[0]), wholeMemory(pair[1])
		if first, _ := impl.FindHomomorphism(pair[0], pair[1]); !overwriteSubstitution(first) {
			t.Error("the nulls and the values of one substitution share memory")
		}
		impl.HasHomomorphism(pair[0], pair[1])
		impl.AreHomEquivalent(pair[0], pair[1])
		s := roomySubstitution(0, -1, 1, -2)
		memory := memoryOfSubstitution(s)
		impl.IsHomomorphism(pair[0], pair[1], s)
		for i := range impl.FindHomomorphisms(pair[0], pair[1]) {
			// Only one of them is overwritten each time.
			found, again := impl.FindHomomorphisms(pair[0], pair[1]), impl.FindHomomorphisms(pair[0], pair[1])
			if !overwriteSubstitution(found[i]) {
				t.Error("the nulls and the values of one substitution share memory")
			}
			for j := range found {
				if j != i && !sameSubstitution(found[j], again[j]) {
					t.Fatal("two substitutions share memory")
				}
			}
		}
		if !sameInstance(wholeMemory(pair[0]), beforeFrom) || !sameInstance(wholeMemory(pair[1]), beforeTo) || !sameSubstitution(memoryOfSubstitution(s), memory) {
			t.Fatal("an argument has changed")
		}
	}
	if len(impl.FindHomomorphisms(from, to)) == 0 {
		t.Error("nothing was found that could share memory")
	}
	for i := range impl.FindHomomorphisms(graph(t, "e(n0,n1)"), graph(t, "e(0,1) e(1,2) e(n1,n2)")) {
		found := impl.FindHomomorphisms(graph(t, "e(n0,n1)"), graph(t, "e(0,1) e(1,2) e(n1,n2)"))
		overwriteSubstitution(found[i])
		for j := range found {
			if j != i && slices.Contains(slices.Concat(found[j].Nulls, found[j].Values), 1000) {
				t.Fatal("two substitutions share memory")
			}
		}
	}
}
