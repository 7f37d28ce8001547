package tests

import (
	"math"
	"math/rand"
	"slices"
	"testing"

	"loop.example/g01919/impl"
)

// unionFind returns a structure, valid or not, of these representatives.
func unionFind(representatives ...int) impl.UnionFind {
	return impl.UnionFind{Representatives: representatives}
}

// validUnionFinds returns all valid structures of n nulls in which any of the constants represent nulls.
func validUnionFinds(n int, constants ...int) []impl.UnionFind {
	all := []impl.UnionFind{{}}
	for k := range n {
		var longer []impl.UnionFind
		for _, uf := range all {
			choices := append([]int{-1 - k}, constants...)
			for earlier := range k {
				if uf.Representatives[earlier] == -1-earlier {
					choices = append(choices, -1-earlier)
				}
			}
			for _, v := range choices {
				longer = append(longer, unionFind(append(slices.Clone(uf.Representatives), v)...))
			}
		}
		all = longer
	}
	return all
}

// someUnionFinds returns all valid structures of up to four nulls and three constants.
func someUnionFinds() []impl.UnionFind {
	var all []impl.UnionFind
	for n := range 5 {
		all = append(all, validUnionFinds(n, 0, 5, 9)...)
	}
	return all
}

// allAlone returns the representatives of nulls that represent themselves.
func allAlone(n int) []int {
	var representatives []int
	for k := range n {
		representatives = append(representatives, -1-k)
	}
	return representatives
}

func invalidUnionFinds() []impl.UnionFind {
	all := []impl.UnionFind{
		unionFind(-2, -2),
		unionFind(-2, -1),
		unionFind(-2),
		unionFind(-1, -1, -2),
		unionFind(5, -1),
		unionFind(-1, 5, -2),
		unionFind(-1, -2, -4, -4),
		unionFind(-1, -2, -4),
		unionFind(10),
		unionFind(-1, 10),
		unionFind(-1, -2, math.MaxInt),
		unionFind(-41),
		unionFind(-1, -41),
		unionFind(math.MinInt),
		unionFind(-1, math.MinInt),
		unionFind(allAlone(41)...),
		unionFind(slices.Repeat([]int{-1}, 41)...),
		unionFind(slices.Repeat([]int{5}, 41)...),
		unionFind(make([]int, 1000)...),
	}
	for k := range 40 {
		for _, v := range []int{10, 11, 1 << 32, -41, -42, -1 << 32, math.MaxInt, math.MinInt} {
			uf := unionFind(allAlone(40)...)
			uf.Representatives[k] = v
			all = append(all, uf)
		}
		for later := k + 1; later < 40; later++ {
			uf := unionFind(allAlone(40)...)
			uf.Representatives[k] = -1 - later
			all = append(all, uf)
		}
	}
	return all
}

// isValidUnionFind says what IsValidUnionFind has to return, computed in another way.
func isValidUnionFind(uf impl.UnionFind) bool {
	for k, v := range uf.Representatives {
		isConstant := slices.Contains([]int{0, 1, 2, 3, 4, 5, 6, 7, 8, 9}, v)
		isEarlierNull := slices.Contains(allAlone(k+1), v) && uf.Representatives[-1-v] == v
		if !isConstant && !isEarlierNull {
			return false
		}
	}
	return len(uf.Representatives) <= 40
}

// sameUnionFind compares without the help of the program.
func sameUnionFind(a impl.UnionFind, b impl.UnionFind) bool {
	return slices.Equal(a.Representatives, b.Representatives)
}

// connected returns all values that a sequence of equalities makes equal to v.
func connected(equalities [][2]int, v int) []int {
	values := []int{v}
	for i := 0; i < len(values); i++ {
		for _, e := range equalities {
			for side := range e {
				if e[side] == values[i] && !slices.Contains(values, e[1-side]) {
					values = append(values, e[1-side])
				}
			}
		}
	}
	return values
}

// constantsIn returns the constants among the values.
func constantsIn(values []int) []int {
	return slices.DeleteFunc(slices.Clone(values), func(v int) bool { return v < 0 })
}

// representativeOf returns the value that represents v after a sequence of equalities, which must not make two constants equal.
func representativeOf(equalities [][2]int, v int) int {
	values := connected(equalities, v)
	if constants := constantsIn(values); len(constants) > 0 {
		return constants[0]
	}
	smallest := 0
	for !slices.Contains(values, -1-smallest) {
		smallest++
	}
	return -1 - smallest
}

// found returns the representative of v in a valid structure, computed in another way.
func found(uf impl.UnionFind, v int) int {
	for k, representative := range uf.Representatives {
		if v == -1-k {
			return representative
		}
	}
	return v
}

// united returns what Union has to return, computed in another way.
func united(uf impl.UnionFind, a int, b int) (impl.UnionFind, int) {
	members := append(allAlone(len(uf.Representatives)), 0, 1, 2, 3, 4, 5, 6, 7, 8, 9)
	if !isValidUnionFind(uf) || !slices.Contains(members, a) || !slices.Contains(members, b) {
		return uf, impl.UnionFailed
	}
	if found(uf, a) == found(uf, b) {
		return uf, impl.UnionUnchanged
	}
	equalities := [][2]int{{a, b}}
	for k, v := range uf.Representatives {
		equalities = append(equalities, [2]int{-1 - k, v})
	}
	if len(constantsIn(connected(equalities, a))) > 1 {
		return uf, impl.UnionFailed
	}
	var result impl.UnionFind
	for k := range uf.Representatives {
		result.Representatives = append(result.Representatives, representativeOf(equalities, -1-k))
	}
	return result, impl.UnionDone
}

func checkUnion(t *testing.T, uf impl.UnionFind, a int, b int) {
	t.Helper()
	want, wantCode := united(uf, a, b)
	if got, code := impl.Union(uf, a, b); code != wantCode || !sameUnionFind(got, want) {
		t.Fatalf("Union(%v, %d, %d) = %v, %d, want %v, %d", uf, a, b, got, code, want, wantCode)
	}
}

func TestUnionCodes(t *testing.T) {
	if impl.UnionUnchanged != 0 || impl.UnionDone != 1 || impl.UnionFailed != 2 {
		t.Error("the codes are", impl.UnionUnchanged, impl.UnionDone, impl.UnionFailed)
	}
}

func TestNewUnionFind(t *testing.T) {
	for n := range 41 {
		uf := impl.NewUnionFind(n)
		if !slices.Equal(uf.Representatives, allAlone(n)) || !impl.IsValidUnionFind(uf) {
			t.Errorf("NewUnionFind(%d) = %v", n, uf)
		}
	}
	for _, n := range []int{-1, -2, -40, math.MinInt, 41, 42, 1 << 40, math.MaxInt} {
		uf := impl.NewUnionFind(n)
		if len(uf.Representatives) != 0 || !impl.IsValidUnionFind(uf) {
			t.Errorf("NewUnionFind(%d) = %v", n, uf)
		}
	}
}

func TestIsValidUnionFind(t *testing.T) {
	for _, uf := range append(someUnionFinds(),
		unionFind([]int{}...),
		unionFind(allAlone(40)...),
		unionFind(slices.Repeat([]int{-1}, 40)...),
		unionFind(slices.Repeat([]int{0}, 40)...),
		unionFind(slices.Repeat([]int{9}, 40)...),
		unionFind(append(allAlone(39), -39)...),
		unionFind(append(allAlone(39), 9)...),
		unionFind(append(slices.Repeat([]int{3}, 39), -40)...),
	) {
		if !impl.IsValidUnionFind(uf) {
			t.Errorf("%v is invalid", uf)
		}
	}
	for _, uf := range invalidUnionFinds() {
		if impl.IsValidUnionFind(uf) {
			t.Errorf("%v is valid", uf)
		}
	}
}

// TestIsValidSmallUnionFind compares all structures of up to four nulls with isValidUnionFind.
func TestIsValidSmallUnionFind(t *testing.T) {
	for n := range 5 {
		valid := 0
		for _, representatives := range tuples([]int{-41, -5, -4, -3, -2, -1, 0, 5, 9, 10}, n) {
			uf := unionFind(representatives...)
			want := isValidUnionFind(uf)
			if impl.IsValidUnionFind(uf) != want {
				t.Fatalf("IsValidUnionFind(%v) is not %v", uf, want)
			}
			if want {
				valid++
			}
		}
		if valid != len(validUnionFinds(n, 0, 5, 9)) {
			t.Errorf("%d structures of %d nulls are valid", valid, n)
		}
	}
}

func TestFind(t *testing.T) {
	for _, c := range []struct {
		uf   impl.UnionFind
		v    int
		want int
	}{
		{unionFind(-1, 5, -1, 5), -1, -1},
		{unionFind(-1, 5, -1, 5), -2, 5},
		{unionFind(-1, 5, -1, 5), -3, -1},
		{unionFind(-1, 5, -1, 5), -4, 5},
		{unionFind(-1, 5, -1, 5), -5, -5},
		{unionFind(-1, 5, -1, 5), 0, 0},
		{unionFind(-1, 5, -1, 5), 1, 1},
		{unionFind(-1, 5, -1, 5), 5, 5},
		{unionFind(0), -1, 0},
		{impl.UnionFind{}, -1, -1},
		{impl.UnionFind{}, 7, 7},
		{unionFind(slices.Repeat([]int{-1}, 40)...), -40, -1},
		{unionFind(slices.Repeat([]int{9}, 40)...), -40, 9},
		{unionFind(slices.Repeat([]int{9}, 40)...), -41, -41},
	} {
		if got := impl.Find(c.uf, c.v); got != c.want {
			t.Errorf("Find(%v, %d) = %d, want %d", c.uf, c.v, got, c.want)
		}
	}
	for _, uf := range someUnionFinds() {
		for _, v := range allValues() {
			if got := impl.Find(uf, v); got != found(uf, v) {
				t.Fatalf("Find(%v, %d) = %d, want %d", uf, v, got, found(uf, v))
			}
		}
		for _, v := range []int{10, 11, 40, math.MaxInt, -41, -42, math.MinInt, math.MinInt + 1} {
			if got := impl.Find(uf, v); got != v {
				t.Fatalf("Find(%v, %d) = %d", uf, v, got)
			}
		}
	}
}

func TestUnion(t *testing.T) {
	for _, c := range []struct {
		uf   impl.UnionFind
		a    int
		b    int
		want impl.UnionFind
		code int
	}{
		{unionFind(-1, -2), -1, -2, unionFind(-1, -1), impl.UnionDone},
		{unionFind(-1, -2), -2, -1, unionFind(-1, -1), impl.UnionDone},
		{unionFind(-1, -2), -2, 0, unionFind(-1, 0), impl.UnionDone},
		{unionFind(-1, -2), 0, -2, unionFind(-1, 0), impl.UnionDone},
		{unionFind(-1, -2), 9, -1, unionFind(9, -2), impl.UnionDone},
		{unionFind(-1, -2), -1, -1, unionFind(-1, -2), impl.UnionUnchanged},
		{unionFind(-1, -2), 3, 3, unionFind(-1, -2), impl.UnionUnchanged},
		{unionFind(-1, -1), -2, -1, unionFind(-1, -1), impl.UnionUnchanged},
		{unionFind(-1, 4, 4), -2, 4, unionFind(-1, 4, 4), impl.UnionUnchanged},
		{unionFind(-1, 4, 4), -2, -3, unionFind(-1, 4, 4), impl.UnionUnchanged},
		{impl.UnionFind{}, 3, 3, impl.UnionFind{}, impl.UnionUnchanged},
		{impl.UnionFind{}, 3, 4, impl.UnionFind{}, impl.UnionFailed},
		{impl.UnionFind{}, -1, -1, impl.UnionFind{}, impl.UnionFailed},
		{impl.UnionFind{}, -1, 3, impl.UnionFind{}, impl.UnionFailed},
		// All members of both sets change, and no others.
		{unionFind(-1, -2, -2, -1, -5), -4, -3, unionFind(-1, -1, -1, -1, -5), impl.UnionDone},
		{unionFind(-1, -2, -2, -1, -5), -3, 7, unionFind(-1, 7, 7, -1, -5), impl.UnionDone},
		{unionFind(-1, 7, 7, -1, -5), -3, -4, unionFind(7, 7, 7, 7, -5), impl.UnionDone},
		{unionFind(-1, 7, 6, -1, -5), -2, -3, unionFind(-1, 7, 6, -1, -5), impl.UnionFailed},
		{unionFind(-1, -2), -3, -1, unionFind(-1, -2), impl.UnionFailed},
		{unionFind(-1, -2), -1, -3, unionFind(-1, -2), impl.UnionFailed},
		{unionFind(-1, -2), -3, -3, unionFind(-1, -2), impl.UnionFailed},
		{unionFind(-1, -2), 10, -1, unionFind(-1, -2), impl.UnionFailed},
		{unionFind(-1, -2), -1, 10, unionFind(-1, -2), impl.UnionFailed},
		{unionFind(-1, -2), 10, 10, unionFind(-1, -2), impl.UnionFailed},
		{unionFind(-1, -2), math.MaxInt, math.MaxInt, unionFind(-1, -2), impl.UnionFailed},
		{unionFind(-1, -2), math.MinInt, math.MinInt, unionFind(-1, -2), impl.UnionFailed},
		{unionFind(allAlone(40)...), -40, -39, unionFind(append(allAlone(39), -39)...), impl.UnionDone},
		{unionFind(allAlone(40)...), -40, -41, unionFind(allAlone(40)...), impl.UnionFailed},
		{unionFind(allAlone(40)...), -41, -41, unionFind(allAlone(40)...), impl.UnionFailed},
		{unionFind(slices.Repeat([]int{-1}, 40)...), -40, 0, unionFind(slices.Repeat([]int{0}, 40)...), impl.UnionDone},
	} {
		if got, code := impl.Union(c.uf, c.a, c.b); code != c.code || !sameUnionFind(got, c.want) {
			t.Errorf("Union(%v, %d, %d) = %v, %d, want %v, %d", c.uf, c.a, c.b, got, code, c.want, c.code)
		}
	}
}

// TestUnionOfTwoDifferentConstants meets the constants themselves, nulls that they represent, and one of each.
func TestUnionOfTwoDifferentConstants(t *testing.T) {
	for first := range 10 {
		for second := range 10 {
			uf := unionFind(-1, first, second, -1, first, second)
			for _, a := range []int{first, -2, -5} {
				for _, b := range []int{second, -3, -6} {
					want := impl.UnionFailed
					if first == second {
						want = impl.UnionUnchanged
					}
					if got, code := impl.Union(uf, a, b); code != want || !sameUnionFind(got, uf) {
						t.Errorf("Union(%v, %d, %d) = %v, %d", uf, a, b, got, code)
					}
					if got, code := impl.Union(uf, b, a); code != want || !sameUnionFind(got, uf) {
						t.Errorf("Union(%v, %d, %d) = %v, %d", uf, b, a, got, code)
					}
				}
			}
			// A failed union leaves no trace: the other constant is still apart.
			failed, _ := impl.Union(uf, -2, -3)
			done, code := impl.Union(failed, -1, -3)
			if want := unionFind(second, first, second, second, first, second); code != impl.UnionDone || !sameUnionFind(done, want) {
				t.Errorf("after a union of %d and %d, the next one gives %v, %d", first, second, done, code)
			}
		}
	}
}

// TestAllSmallUnions compares Union with united for all small structures and all pairs of values.
func TestAllSmallUnions(t *testing.T) {
	values := []int{math.MinInt, -41, -40, -6, -5, -4, -3, -2, -1, 0, 1, 5, 9, 10, 40, math.MaxInt}
	for _, uf := range someUnionFinds() {
		for _, pair := range tuples(values, 2) {
			checkUnion(t, uf, pair[0], pair[1])
			if got, _ := impl.Union(uf, pair[0], pair[1]); !impl.IsValidUnionFind(got) {
				t.Fatalf("Union(%v, %d, %d) = %v", uf, pair[0], pair[1], got)
			}
		}
	}
}

// TestUnionOfEachPair unites any two values of the largest structure.
func TestUnionOfEachPair(t *testing.T) {
	apart := unionFind(allAlone(40)...)
	var pairs impl.UnionFind
	for k := range 40 {
		pairs.Representatives = append(pairs.Representatives, -1-k/2*2)
	}
	for _, a := range allValues() {
		for _, b := range allValues() {
			checkUnion(t, apart, a, b)
			checkUnion(t, pairs, a, b)
		}
	}
}

// TestUnionKeepsAllEqualities compares random sequences of unions with the values that their equalities connect.
func TestUnionKeepsAllEqualities(t *testing.T) {
	random := rand.New(rand.NewSource(8))
	var codes [3]int
	for range 300 {
		n := random.Intn(41)
		constants := random.Intn(11)
		if n+constants == 0 {
			continue
		}
		uf := impl.NewUnionFind(n)
		var kept [][2]int
		for range 60 {
			e := [2]int{random.Intn(n+constants) - n, random.Intn(n+constants) - n}
			next, code := impl.Union(uf, e[0], e[1])
			connections := append(slices.Clone(kept), e)
			want := impl.UnionDone
			if len(constantsIn(connected(connections, e[0]))) > 1 {
				want = impl.UnionFailed
			} else if slices.Contains(connected(kept, e[0]), e[1]) {
				want = impl.UnionUnchanged
			}
			if code != want {
				t.Fatalf("after %v, Union(%v, %d, %d) has the code %d, want %d", kept, uf, e[0], e[1], code, want)
			}
			codes[code]++
			if code != impl.UnionFailed {
				kept = connections
			}
			uf = next
			if len(uf.Representatives) != n || !impl.IsValidUnionFind(uf) {
				t.Fatalf("after %v, the structure is %v", kept, uf)
			}
			for v := -n; v < 10; v++ {
				if got := impl.Find(uf, v); got != representativeOf(kept, v) {
					t.Fatalf("after %v, Find(%v, %d) = %d, want %d", kept, uf, v, got, representativeOf(kept, v))
				}
			}
		}
	}
	if codes[0] < 1000 || codes[1] < 1000 || codes[2] < 1000 {
		t.Error("the unions have the codes", codes)
	}
}

// TestUnionInAnyOrder shuffles equalities that hold together.
func TestUnionInAnyOrder(t *testing.T) {
	random := rand.New(rand.NewSource(80))
	for range 200 {
		var equalities [][2]int
		uf := impl.NewUnionFind(40)
		for range 45 {
			e := [2]int{-1 - random.Intn(40), random.Intn(43) - 40}
			next, code := impl.Union(uf, e[0], e[1])
			if code != impl.UnionFailed {
				equalities = append(equalities, e)
			}
			uf = next
		}
		for range 5 {
			other := impl.NewUnionFind(40)
			random.Shuffle(len(equalities), func(i int, j int) {
				equalities[i], equalities[j] = equalities[j], equalities[i]
			})
			for _, e := range equalities {
				side := random.Intn(2)
				next, code := impl.Union(other, e[side], e[1-side])
				if code == impl.UnionFailed {
					t.Fatalf("Union(%v, %d, %d) fails after a part of %v", other, e[side], e[1-side], equalities)
				}
				other = next
			}
			if !sameUnionFind(other, uf) {
				t.Fatalf("%v gives %v and %v", equalities, uf, other)
			}
		}
	}
}

func TestUnionSubstitution(t *testing.T) {
	for _, c := range []struct {
		uf   impl.UnionFind
		want impl.Substitution
	}{
		{impl.UnionFind{}, impl.Substitution{}},
		{unionFind(-1, -2, -3), impl.Substitution{}},
		{unionFind(allAlone(40)...), impl.Substitution{}},
		{unionFind(-1, 5, -1, 5), substitution(1, 5, 2, -1, 3, 5)},
		{unionFind(0, -2, -2, 9), substitution(0, 0, 2, -2, 3, 9)},
		{unionFind(append(allAlone(39), -1)...), substitution(39, -1)},
		{unionFind(slices.Repeat([]int{9}, 40)...), impl.Substitution{Nulls: rotation(0).Nulls, Values: slices.Repeat([]int{9}, 40)}},
	} {
		if got := impl.UnionSubstitution(c.uf); !sameSubstitution(got, c.want) {
			t.Errorf("UnionSubstitution(%v) = %v, want %v", c.uf, got, c.want)
		}
	}
	for _, uf := range someUnionFinds() {
		var want impl.Substitution
		for k, v := range uf.Representatives {
			if v != -1-k {
				want.Nulls = append(want.Nulls, k)
				want.Values = append(want.Values, v)
			}
		}
		got := impl.UnionSubstitution(uf)
		if !sameSubstitution(got, want) || !impl.IsValidSubstitution(got) {
			t.Fatalf("UnionSubstitution(%v) = %v, want %v", uf, got, want)
		}
		for _, v := range append(allValues(), 10, -41, math.MaxInt, math.MinInt) {
			if image := impl.ApplyToValue(got, v); image != impl.Find(uf, v) {
				t.Fatalf("%v replaces %d by %d, but Find(%v, %d) = %d", got, v, image, uf, v, impl.Find(uf, v))
			}
		}
		// A representative represents itself, so that applying the substitution again changes nothing.
		if twice, ok := impl.Compose(got, got); !ok || !sameSubstitution(twice, got) {
			t.Fatalf("%v, applied twice, is %v", got, twice)
		}
	}
}

// classesOf returns what EquivalenceClasses has to return for a valid structure, computed in another way.
func classesOf(uf impl.UnionFind) [][]int {
	members := map[int][]int{}
	for k, v := range uf.Representatives {
		members[v] = append(members[v], k)
	}
	var classes [][]int
	for v, class := range members {
		if v >= 0 || len(class) >= 2 {
			classes = append(classes, class)
		}
	}
	slices.SortFunc(classes, slices.Compare)
	return classes
}

func sameClasses(a [][]int, b [][]int) bool {
	return slices.EqualFunc(a, b, slices.Equal)
}

func TestEquivalenceClasses(t *testing.T) {
	for _, c := range []struct {
		uf   impl.UnionFind
		want [][]int
	}{
		{impl.UnionFind{}, nil},
		{unionFind(-1), nil},
		{unionFind(allAlone(40)...), nil},
		{unionFind(5), [][]int{{0}}},
		{unionFind(0, 0), [][]int{{0, 1}}},
		{unionFind(0, 1), [][]int{{0}, {1}}},
		{unionFind(-1, 5), [][]int{{1}}},
		{unionFind(-1, -1), [][]int{{0, 1}}},
		{unionFind(-1, -2, -1), [][]int{{0, 2}}},
		// The order is neither that of the representatives nor that of the lengths.
		{unionFind(-1, -2, 9, -2, -1, 0, 9, 5), [][]int{{0, 4}, {1, 3}, {2, 6}, {5}, {7}}},
		{unionFind(9, -2, 0, -2, -2), [][]int{{0}, {1, 3, 4}, {2}}},
		{unionFind(append(allAlone(39), 9)...), [][]int{{39}}},
		{unionFind(append(allAlone(39), -39)...), [][]int{{38, 39}}},
		{unionFind(slices.Repeat([]int{-1}, 40)...), [][]int{rotation(0).Nulls}},
		{unionFind(slices.Repeat([]int{0}, 40)...), [][]int{rotation(0).Nulls}},
	} {
		if got := impl.EquivalenceClasses(c.uf); !sameClasses(got, c.want) {
			t.Errorf("EquivalenceClasses(%v) = %v, want %v", c.uf, got, c.want)
		}
	}
	for _, uf := range append(someUnionFinds(), validUnionFinds(6, 3)...) {
		if got := impl.EquivalenceClasses(uf); !sameClasses(got, classesOf(uf)) {
			t.Fatalf("EquivalenceClasses(%v) = %v, want %v", uf, got, classesOf(uf))
		}
	}
}

// TestLargeEquivalenceClasses distributes all nulls over the constants and a few nulls.
func TestLargeEquivalenceClasses(t *testing.T) {
	random := rand.New(rand.NewSource(81))
	for range 500 {
		uf := impl.NewUnionFind(40)
		for range random.Intn(60) {
			uf, _ = impl.Union(uf, -1-random.Intn(40), random.Intn(50)-40)
		}
		if got := impl.EquivalenceClasses(uf); !sameClasses(got, classesOf(uf)) {
			t.Fatalf("EquivalenceClasses(%v) = %v, want %v", uf, got, classesOf(uf))
		}
	}
}

func TestInvalidUnionFinds(t *testing.T) {
	for _, uf := range invalidUnionFinds() {
		for v := -45; v < 15; v++ {
			if got := impl.Find(uf, v); got != v {
				t.Fatalf("Find(%v, %d) = %d", uf, v, got)
			}
		}
		for _, pair := range tuples([]int{-41, -40, -3, -2, -1, 0, 5, 10}, 2) {
			if got, code := impl.Union(uf, pair[0], pair[1]); code != impl.UnionFailed || !sameUnionFind(got, uf) {
				t.Fatalf("Union(%v, %d, %d) = %v, %d", uf, pair[0], pair[1], got, code)
			}
		}
		if got := impl.UnionSubstitution(uf); !isZeroSubstitution(got) {
			t.Fatalf("UnionSubstitution(%v) = %v", uf, got)
		}
		if got := impl.EquivalenceClasses(uf); len(got) != 0 {
			t.Fatalf("EquivalenceClasses(%v) = %v", uf, got)
		}
	}
}

func TestEqualUnionFinds(t *testing.T) {
	different := slices.Concat(someUnionFinds(), invalidUnionFinds()[:19], []impl.UnionFind{
		unionFind(allAlone(39)...), unionFind(allAlone(40)...), unionFind(0, 0, 0, 0, 0), unionFind(10, 10), unionFind(-1, -2, 10),
	})
	for i, a := range different {
		for j, b := range different {
			if impl.EqualUnionFinds(a, b) != (i == j) {
				t.Fatalf("EqualUnionFinds(%v, %v) is not %v", a, b, i == j)
			}
		}
		if !impl.EqualUnionFinds(a, unionFind(slices.Clone(a.Representatives)...)) {
			t.Fatalf("%v differs from its copy", a)
		}
	}
	if !impl.EqualUnionFinds(impl.UnionFind{}, impl.UnionFind{Representatives: []int{}}) {
		t.Error("nil and empty slices differ")
	}
}

// overwriteClasses fills all memory of the classes and says whether no two of them share any.
func overwriteClasses(classes [][]int) bool {
	for i, class := range classes {
		fill(class, 1000+i)
	}
	for i, class := range classes {
		for _, n := range class[:cap(class)] {
			if n != 1000+i {
				return false
			}
		}
	}
	return true
}

func TestUnionFindsShareNoMemory(t *testing.T) {
	for _, uf := range append(someUnionFinds(), unionFind(-1, -1, -3, -3, 5, 5, 6, 6), unionFind(-2, -2), unionFind(10, 0)) {
		n := len(uf.Representatives)
		// The representatives are followed by other data.
		memory := append(slices.Clone(uf.Representatives), 77, 88, 66, 55)
		before := slices.Clone(memory)
		roomy := unionFind(memory[:n]...)
		for _, pair := range tuples([]int{-9, -3, -2, -1, 5, 10}, 2) {
			result, _ := impl.Union(roomy, pair[0], pair[1])
			fill(result.Representatives, 1000)
		}
		if !overwriteSubstitution(impl.UnionSubstitution(roomy)) {
			t.Fatalf("the nulls and the values of one result share memory, for %v", uf)
		}
		if !overwriteClasses(impl.EquivalenceClasses(roomy)) {
			t.Fatalf("two classes share memory, for %v", uf)
		}
		impl.IsValidUnionFind(roomy)
		impl.Find(roomy, -1)
		impl.EqualUnionFinds(roomy, roomy)
		if !slices.Equal(memory, before) {
			t.Fatalf("%v has become %v", before, memory)
		}
	}
	// A result is not kept for the next call.
	fill(impl.NewUnionFind(40).Representatives, 1000)
	if uf := impl.NewUnionFind(40); !slices.Equal(uf.Representatives, allAlone(40)) {
		t.Errorf("NewUnionFind(40) = %v after a change of an earlier result", uf)
	}
}
