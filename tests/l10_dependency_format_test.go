package tests

import (
	"math"
	"regexp"
	"slices"
	"strings"
	"testing"

	"loop.example/g01919/impl"
)

// termNames holds the names of the valid terms, the least one (-10) first.
const termNames = "9876543210xyzuv"

// bodyPattern and headPattern match the sides over dependencySchema, written down without the help of the program.
const bodyPattern = `(?:[ab]T{2}|[pr]T{3}|[qs]T)(?: (?:[ab]T{2}|[pr]T{3}|[qs]T))?`
const headPattern = `(?:aT{2}|pT{3}|qT)(?: (?:aT{2}|pT{3}|qT))?`

var tgdPattern = regexp.MustCompile(strings.ReplaceAll(`\A`+bodyPattern+`>`+headPattern+`\z`, "T", "[0-9xyzuv]"))
var egdPattern = regexp.MustCompile(strings.ReplaceAll(`\A(`+bodyPattern+`)=([xyzuv])([xyzuv])\z`, "T", "[0-9xyzuv]"))

// isDependencyFormat says whether ParseDependency over dependencySchema has to accept s, computed in another way.
func isDependencyFormat(s string) bool {
	if groups := egdPattern.FindStringSubmatch(s); groups != nil {
		body, left, right := groups[1], groups[2], groups[3]
		// No relation of the schema has the name of a variable.
		return strings.Index("xyzuv", left) < strings.Index("xyzuv", right) && strings.Contains(body, left) && strings.Contains(body, right)
	}
	return tgdPattern.MatchString(s)
}

// isDependenciesFormat says the same of ParseDependencies.
func isDependenciesFormat(s string) bool {
	parts := strings.Split(s, ";")
	return s == "" || len(parts) <= 5 && !slices.ContainsFunc(parts, func(part string) bool { return !isDependencyFormat(part) })
}

// formatsOfValid returns the formats of the validDependencies, in their order.
func formatsOfValid() []string {
	return []string{
		"bxy>axz azy",
		"axy axz=yz",
		"bxy>ayx",
		"bxy>azu",
		"bvv>pxvx",
		"bxy>q0",
		"s9>qv",
		"s0>q9",
		"qx>qy",
		"qx>qx",
		"bxy ayz>pxyz",
		"ayz bxy>pxyz",
		"sx sx>qx qx",
		"rxyz rzuv>pvuz pzyx",
		"axy=xy",
		"ayx=xy",
		"auv=uv",
		"qx qv=xv",
		"qv qx=xv",
		"bxy=xy",
		"rz9y p0yy=yz",
	}
}

// sameDependency compares without the help of the program.
func sameDependency(a impl.Dependency, b impl.Dependency) bool {
	same := func(a impl.Atom, b impl.Atom) bool {
		return a.Relation == b.Relation && slices.Equal(a.Terms, b.Terms)
	}
	sameEquality := a.IsEGD == b.IsEGD && a.LeftVar == b.LeftVar && a.RightVar == b.RightVar
	return sameEquality && slices.EqualFunc(a.Body, b.Body, same) && slices.EqualFunc(a.Head, b.Head, same)
}

func isZeroDependency(dependency impl.Dependency) bool {
	return sameDependency(dependency, impl.Dependency{})
}

func checkNoDependencyFormat(t *testing.T, relations []impl.Relation, dependency impl.Dependency) {
	t.Helper()
	if got := impl.FormatDependency(relations, dependency); got != "" {
		t.Errorf("%v is formatted as %q over %v", dependency, got, relations)
	}
	for _, list := range [][]impl.Dependency{{dependency}, {dependency, dependency}, {validDependencies()[0], dependency}, {dependency, validDependencies()[1]}} {
		if got := impl.FormatDependencies(relations, list); got != "" {
			t.Errorf("%v are formatted as %q over %v", list, got, relations)
		}
	}
}

func checkNotParsed(t *testing.T, relations []impl.Relation, s string) {
	t.Helper()
	if got, ok := impl.ParseDependency(relations, s); !isZeroDependency(got) || ok {
		t.Errorf("ParseDependency(%v, %q) = %v, %v", relations, s, got, ok)
	}
	for _, list := range []string{s + ";", ";" + s, s + ";" + s, "qx>qx;" + s, s + ";qx>qx"} {
		if got, ok := impl.ParseDependencies(relations, list); len(got) != 0 || ok {
			t.Errorf("ParseDependencies(%v, %q) = %v, %v", relations, list, got, ok)
		}
	}
	if s == "" {
		return
	}
	if got, ok := impl.ParseDependencies(relations, s); len(got) != 0 || ok {
		t.Errorf("ParseDependencies(%v, %q) = %v, %v", relations, s, got, ok)
	}
}

// checkParseDependency compares ParseDependency and ParseDependencies over dependencySchema with the patterns.
func checkParseDependency(t *testing.T, s string) {
	t.Helper()
	relations := dependencySchema()
	got, ok := impl.ParseDependency(relations, s)
	if ok != isDependencyFormat(s) {
		t.Fatalf("ParseDependency(%q) = %v, %v", s, got, ok)
	}
	if !ok && !isZeroDependency(got) {
		t.Fatalf("ParseDependency(%q) = %v, which is not the zero dependency", s, got)
	}
	if ok && (!impl.IsValidDependency(relations, got) || impl.FormatDependency(relations, got) != s) {
		t.Fatalf("ParseDependency(%q) = %v, which is formatted as %q", s, got, impl.FormatDependency(relations, got))
	}
	list, ok := impl.ParseDependencies(relations, s)
	if ok != isDependenciesFormat(s) || !ok && len(list) != 0 {
		t.Fatalf("ParseDependencies(%q) = %v, %v", s, list, ok)
	}
	if ok && (!impl.AreValidDependencies(relations, list) || impl.FormatDependencies(relations, list) != s) {
		t.Fatalf("ParseDependencies(%q) = %v, which is formatted as %q", s, list, impl.FormatDependencies(relations, list))
	}
}

func TestFormatTerm(t *testing.T) {
	for term := -300; term <= 300; term++ {
		want := ""
		if -10 <= term && term <= 4 {
			want = termNames[term+10 : term+11]
		}
		if got := impl.FormatTerm(term); got != want {
			t.Errorf("FormatTerm(%d) = %q, want %q", term, got, want)
		}
	}
	for _, term := range []int{math.MinInt, math.MinInt + 1, -1 << 32, -1<<32 - 1, 1 << 32, 1<<32 + 4, math.MaxInt - 1, math.MaxInt} {
		if got := impl.FormatTerm(term); got != "" {
			t.Errorf("FormatTerm(%d) = %q", term, got)
		}
	}
}

func TestFormatAtom(t *testing.T) {
	var terms []int
	for term := -11; term <= 5; term++ {
		terms = append(terms, term)
	}
	for relation, arity := range []int{2, 2, 3, 1, 3, 1} {
		for _, tuple := range tuples(terms, arity) {
			want := "abpqrs"[relation : relation+1]
			for _, term := range tuple {
				if want == "" || term < -10 || term > 4 {
					want = ""
					break
				}
				want += termNames[term+10 : term+11]
			}
			if got := impl.FormatAtom(dependencySchema(), atom(relation, tuple...)); got != want {
				t.Fatalf("FormatAtom of relation %d with the terms %v = %q, want %q", relation, tuple, got, want)
			}
		}
	}
	for _, a := range []impl.Atom{{}, atom(0, 1), atom(0, 1, 2, 3), atom(2, 1, 2), atom(3), atom(3, 1, 2), atom(6, 1), atom(-1), atom(-1, 1), atom(math.MaxInt, 1), atom(math.MinInt, 1), atom(3, make([]int, 10000)...)} {
		if got := impl.FormatAtom(dependencySchema(), a); got != "" {
			t.Errorf("FormatAtom(%v) = %q", a, got)
		}
	}
	// The example of the document.
	if got := impl.FormatAtom([]impl.Relation{{Name: "a", Arity: 2, Source: true}, {Name: "p", Arity: 2}}, atom(1, 0, 2)); got != "pxz" {
		t.Errorf("the atom of p is formatted as %q", got)
	}
}

func TestDependencyFormat(t *testing.T) {
	formats := formatsOfValid()
	for i, dependency := range validDependencies() {
		s := formats[i]
		if got := impl.FormatDependency(dependencySchema(), dependency); got != s {
			t.Errorf("FormatDependency(%v) = %q, want %q", dependency, got, s)
		}
		if got, ok := impl.ParseDependency(dependencySchema(), s); !sameDependency(got, dependency) || !ok {
			t.Errorf("ParseDependency(%q) = %v, %v, want %v", s, got, ok, dependency)
		}
		if got := impl.FormatDependencies(dependencySchema(), []impl.Dependency{dependency}); got != s {
			t.Errorf("FormatDependencies of %v alone = %q, want %q", dependency, got, s)
		}
		if got, ok := impl.ParseDependencies(dependencySchema(), s); len(got) != 1 || !sameDependency(got[0], dependency) || !ok {
			t.Errorf("ParseDependencies(%q) = %v, %v, want %v", s, got, ok, dependency)
		}
	}
}

// TestDependencyFormatExamples has the examples of the document over a schema in which they are valid.
func TestDependencyFormatExamples(t *testing.T) {
	relations := []impl.Relation{{Name: "a", Arity: 2, Source: true}, {Name: "p", Arity: 2}, {Name: "q", Arity: 2}}
	for s, dependency := range map[string]impl.Dependency{
		"axy>pxz qzy": tgd(atoms(atom(0, 0, 1)), atoms(atom(1, 0, 2), atom(2, 2, 1))),
		"pxy pxz=yz":  egd(atoms(atom(1, 0, 1), atom(1, 0, 2)), 1, 2),
	} {
		if got := impl.FormatDependency(relations, dependency); got != s {
			t.Errorf("FormatDependency(%v) = %q, want %q", dependency, got, s)
		}
		if got, ok := impl.ParseDependency(relations, s); !sameDependency(got, dependency) || !ok {
			t.Errorf("ParseDependency(%q) = %v, %v, want %v", s, got, ok, dependency)
		}
	}
}

// TestHeadVariableNotInBody: such a variable is existential in a TGD, but no variable of an EGD.
func TestHeadVariableNotInBody(t *testing.T) {
	for s, dependency := range map[string]impl.Dependency{
		"sx>qy":           tgd(atoms(atom(5, 0)), atoms(atom(3, 1))),
		"sv>qx":           tgd(atoms(atom(5, 4)), atoms(atom(3, 0))),
		"s0>qx":           tgd(atoms(atom(5, -1)), atoms(atom(3, 0))),
		"s0>qx q0":        tgd(atoms(atom(5, -1)), atoms(atom(3, 0), atom(3, -1))),
		"bxy>pxzy":        tgd(atoms(atom(1, 0, 1)), atoms(atom(2, 0, 2, 1))),
		"bxx>pyzu qv":     tgd(atoms(atom(1, 0, 0)), atoms(atom(2, 1, 2, 3), atom(3, 4))),
		"byu bzz>axv av1": tgd(atoms(atom(1, 1, 3), atom(1, 2, 2)), atoms(atom(0, 0, 4), atom(0, 4, -2))),
	} {
		if got := impl.FormatDependency(dependencySchema(), dependency); got != s {
			t.Errorf("FormatDependency(%v) = %q, want %q", dependency, got, s)
		}
		if got, ok := impl.ParseDependency(dependencySchema(), s); !sameDependency(got, dependency) || !ok {
			t.Errorf("ParseDependency(%q) = %v, %v, want %v", s, got, ok, dependency)
		}
	}
	for _, s := range []string{"axy=xz", "axy=yz", "ayz=xy", "axx=xy", "a00=xy", "ax0=xy", "qx qy=xz", "qx=xy", "pyzu=xv"} {
		checkNotParsed(t, dependencySchema(), s)
	}
}

func TestInvalidDependenciesHaveNoFormat(t *testing.T) {
	for _, dependency := range invalidDependencies() {
		checkNoDependencyFormat(t, dependencySchema(), dependency)
	}
	for _, term := range []int{math.MinInt, -11, 5, math.MaxInt} {
		checkNoDependencyFormat(t, dependencySchema(), tgd(atoms(atom(3, term)), atoms(atom(3, 0))))
		checkNoDependencyFormat(t, dependencySchema(), tgd(atoms(atom(3, 0)), atoms(atom(3, term))))
		checkNoDependencyFormat(t, dependencySchema(), egd(atoms(atom(2, 0, 1, term)), 0, 1))
	}
	for _, a := range []impl.Atom{{}, atom(-1, 0), atom(6, 0), atom(3), atom(3, 0, 0)} {
		checkNoDependencyFormat(t, dependencySchema(), tgd(atoms(a), atoms(atom(3, 0))))
		checkNoDependencyFormat(t, dependencySchema(), tgd(atoms(atom(3, 0)), atoms(atom(3, 0), a)))
	}
}

func TestDependencyFormatOverInvalidRelations(t *testing.T) {
	for _, relations := range invalidSchemas() {
		if got := impl.FormatAtom(relations, atom(1, 0)); got != "" {
			t.Errorf("an atom is formatted as %q over %v", got, relations)
		}
		checkNoDependencyFormat(t, relations, impl.Dependency{})
		checkNoDependencyFormat(t, relations, tgd(atoms(atom(1, 0)), atoms(atom(1, 1))))
		checkNoDependencyFormat(t, relations, egd(atoms(atom(1, 0), atom(1, 1)), 0, 1))
		for _, s := range []string{"", ";", "px>px", "px>py", "px py=xy", "p0>p0", ">", "=", "=xy", "x>x", "px>px;px>px"} {
			checkNotParsed(t, relations, s)
		}
		if got, ok := impl.ParseDependencies(relations, ""); len(got) != 0 || ok {
			t.Errorf("ParseDependencies of the empty string over %v = %v, %v", relations, got, ok)
		}
		if got := impl.FormatDependencies(relations, nil); got != "" {
			t.Errorf("no dependencies are formatted as %q over %v", got, relations)
		}
	}
	for _, relations := range [][]impl.Relation{nil, {}} {
		if got := impl.FormatAtom(relations, atom(0)); got != "" {
			t.Errorf("an atom is formatted as %q over the empty schema", got)
		}
		checkNoDependencyFormat(t, relations, impl.Dependency{})
		checkNoDependencyFormat(t, relations, tgd(atoms(atom(0)), atoms(atom(0))))
		for _, s := range []string{"", ";", ">", "=", "=xy", "a>a", "x>x", "ax>ax", "axy=xy"} {
			checkNotParsed(t, relations, s)
		}
	}
}

// TestNoDependencies: the empty string is the format of no dependencies, but of no dependency.
func TestNoDependencies(t *testing.T) {
	for _, relations := range [][]impl.Relation{nil, {}, dependencySchema(), dependencySchema()[1:2], relationsNamed("abcdef")} {
		for _, none := range [][]impl.Dependency{nil, {}} {
			if got := impl.FormatDependencies(relations, none); got != "" {
				t.Errorf("no dependencies are formatted as %q over %v", got, relations)
			}
		}
		if got, ok := impl.ParseDependencies(relations, ""); len(got) != 0 || !ok {
			t.Errorf("ParseDependencies of the empty string over %v = %v, %v", relations, got, ok)
		}
		if got, ok := impl.ParseDependency(relations, ""); !isZeroDependency(got) || ok {
			t.Errorf("ParseDependency of the empty string over %v = %v, %v", relations, got, ok)
		}
	}
}

// TestRelationsNamedLikeVariables: only its place says whether a letter is a relation or a variable.
func TestRelationsNamedLikeVariables(t *testing.T) {
	relations := []impl.Relation{{Name: "u", Arity: 1}, {Name: "v", Arity: 1, Source: true}, {Name: "x", Arity: 2}, {Name: "y", Arity: 2}, {Name: "z", Arity: 3}}
	for s, dependency := range map[string]impl.Dependency{
		"vv>uu":         tgd(atoms(atom(1, 4)), atoms(atom(0, 3))),
		"vx>xxx yyy":    tgd(atoms(atom(1, 0)), atoms(atom(2, 0, 0), atom(3, 1, 1))),
		"xxy xxz=yz":    egd(atoms(atom(2, 0, 1), atom(2, 0, 2)), 1, 2),
		"zuvx yzy>z9zx": tgd(atoms(atom(4, 3, 4, 0), atom(3, 2, 1)), atoms(atom(4, -10, 2, 0))),
		"xyy yxx=xy":    egd(atoms(atom(2, 1, 1), atom(3, 0, 0)), 0, 1),
		"zzzz uz>uz uz": tgd(atoms(atom(4, 2, 2, 2), atom(0, 2)), atoms(atom(0, 2), atom(0, 2))),
		"yuv>zvux":      tgd(atoms(atom(3, 3, 4)), atoms(atom(4, 4, 3, 0))),
		"ux uy=xy":      egd(atoms(atom(0, 0), atom(0, 1)), 0, 1),
		"vv>zuvx zvux":  tgd(atoms(atom(1, 4)), atoms(atom(4, 3, 4, 0), atom(4, 4, 3, 0))),
		"v0>u0":         tgd(atoms(atom(1, -1)), atoms(atom(0, -1))),
	} {
		if got := impl.FormatDependency(relations, dependency); got != s {
			t.Errorf("FormatDependency(%v) = %q, want %q", dependency, got, s)
		}
		if got, ok := impl.ParseDependency(relations, s); !sameDependency(got, dependency) || !ok {
			t.Errorf("ParseDependency(%q) = %v, %v, want %v", s, got, ok, dependency)
		}
	}
	// The name of the relation of the body is no variable of the equality.
	for _, s := range []string{"xyz=xy", "yxx=xy", "uv=uv", "ux vx=xv"} {
		checkNotParsed(t, relations, s)
	}
}

// TestDependencyInverse formats dependencies with all terms at every place.
func TestDependencyInverse(t *testing.T) {
	seen := map[string]bool{}
	check := func(dependency impl.Dependency) {
		s := impl.FormatDependency(dependencySchema(), dependency)
		seen[s] = true
		if got, ok := impl.ParseDependency(dependencySchema(), s); !sameDependency(got, dependency) || !ok || !isDependencyFormat(s) {
			t.Fatalf("%v is formatted as %q, which is parsed as %v, %v", dependency, s, got, ok)
		}
	}
	var terms []int
	for term := -10; term <= 4; term++ {
		terms = append(terms, term)
	}
	equalities := 0
	for _, four := range tuples([]int{-10, -1, 0, 1, 2, 3, 4}, 4) {
		for _, pair := range tuples([]int{0, 1, 2, 3, 4}, 2) {
			if pair[0] < pair[1] && slices.Contains(four, pair[0]) && slices.Contains(four, pair[1]) {
				check(egd(atoms(atom(0, four[:2]...), atom(1, four[2:]...)), pair[0], pair[1]))
				check(egd(atoms(atom(5, four[0]), atom(2, four[1:]...)), pair[0], pair[1]))
				equalities += 2
			}
		}
	}
	for _, three := range tuples(terms, 3) {
		check(tgd(atoms(atom(4, three...)), atoms(atom(3, 0))))
		check(tgd(atoms(atom(1, three[:2]...)), atoms(atom(3, three[2]))))
		check(tgd(atoms(atom(5, three[0])), atoms(atom(0, three[1:]...))))
		check(tgd(atoms(atom(5, -1)), atoms(atom(2, three...))))
		check(tgd(atoms(atom(3, three[0]), atom(5, three[1])), atoms(atom(3, three[2]), atom(3, three[0]))))
	}
	if len(seen) != equalities+5*15*15*15 {
		t.Errorf("%d different formats, among them those of %d equalities", len(seen), equalities)
	}
}

func TestParseDependencyRejects(t *testing.T) {
	for _, s := range []string{
		"", ">", "=", "=xy", ">qx", ">=", "=>", "qx", "qx>", "qx=", "qx ", " ", "  ", ";", "qx;", ";qx>qx", "qx>qx;", "qx>qx;qx",
		// No single separator between atoms, or one that separates nothing.
		"qx >qx", " qx>qx", "qx> qx", "qx>qx ", "qx qx >qx", "qx  qx>qx", "qx>qx  qx", "qxqx>qx", "qx>qxqx", "qx,qx>qx", "qx\tqx>qx", "qx>qx\n", "qx>qx\x00", "axy =xy", " axy=xy", "axy= xy", "axy=x y", "axy=xy ",
		// Too many or too few atoms.
		"qx qx qx>qx", "qx>qx qx qx", "qx qy qz=xy", ">qx qx", "qx qx>", "=xz",
		// No or wrong signs.
		"qx<qx", "qx-qx", "qx->qx", "qx>>qx", "qx>qx>qx", "qx>=qx", "axy==xy", "axy=xy=xy", "axy=xy>qx", "qx>axy=xy", "axy>xy", "axy=", "axy=x", "axy=xyz", "axy=x=y", "axyxy", "axy xy",
		// Terms that are none, and wrong numbers of them.
		"qw>qx", "qx>qw", "qX>qx", "qa>qx", "q>qx", "qx>q", "q-1>qx", "q10>qx", "q+1>qx", "q->qx", "qx>q-", "qx>q10", "qn0>qx", "qx>qn0", "qxy>qx", "qx>qxy", "ax>qx", "axyz>qx", "qx>ax", "qx>axyz", "pxy>qx", "pxyzu>qx", "a(x,y)>qx", "ax,y>qx", "q\x00>qx", "q\xff>qx", "q\u00e9>qx", "q\uff11>qx",
		// Relations that are none, or not of the target.
		"cx>qx", "qx>cx", "Qx>qx", "x>qx", "0>qx", "+bxy>qx", "b2xy>qx", "qx>bxy", "qx>sx", "qx>rxyz", "qx>qx sx", "qx>sx qx", "+sx>qx", " >qx", "\x00x>qx", "\u00e9x>qx",
		// Equalities that are none.
		"axy=yx", "axy=xx", "axy=yy", "axy=01", "axy=x0", "axy=0x", "ax0=0x", "a01=01", "a01=10", "axy=xw", "axy=wx", "axy=XY", "axy=qx", "axy=xz", "qx qy=yx", "bxy=yx",
		strings.Repeat("qx ", 1000) + ">qx", "q" + strings.Repeat("x", 1000) + ">qx", "qx>q" + strings.Repeat("x", 1000), strings.Repeat("qx>", 1000) + "qx", strings.Repeat(" ", 1000), strings.Repeat(">", 1000), strings.Repeat("=", 1000), "axy=" + strings.Repeat("xy", 1000),
	} {
		checkNotParsed(t, dependencySchema(), s)
	}
}

func TestParseDependencyAcceptsNothingElse(t *testing.T) {
	for _, s := range stringsOver(allBytes(), 2) {
		checkParseDependency(t, s)
	}
	for _, s := range stringsOver("qsx0 >=", 6) {
		checkParseDependency(t, s)
	}
	for _, s := range stringsOver("xyzv0 =", 6) {
		checkParseDependency(t, "a"+s)
		checkParseDependency(t, "axz"+s)
	}
	for _, s := range stringsOver("abpqxv ", 6) {
		checkParseDependency(t, "sx>"+s)
	}
	for _, s := range stringsOver("qsx;>", 7) {
		checkParseDependency(t, "qx>q"+s)
	}
}

// TestParseChangedDependency inserts, replaces and removes single bytes of valid formats.
func TestParseChangedDependency(t *testing.T) {
	formats := append(formatsOfValid(), strings.Join(formatsOfValid()[:3], ";"), strings.Join(formatsOfValid()[:5], ";"))
	for _, valid := range formats {
		for _, s := range changedStrings(valid) {
			checkParseDependency(t, s)
		}
	}
}

// TestDependenciesFormat formats and parses lists of up to two more dependencies than a list may have.
func TestDependenciesFormat(t *testing.T) {
	valid, formats := validDependencies(), formatsOfValid()
	for count := 1; count <= 7; count++ {
		for start := range len(valid) - count + 1 {
			for _, repeated := range []bool{false, true} {
				list, parts := valid[start:start+count], formats[start:start+count]
				if repeated {
					list, parts = slices.Repeat(valid[start:start+1], count), slices.Repeat(formats[start:start+1], count)
				}
				s := strings.Join(parts, ";")
				got, ok := impl.ParseDependencies(dependencySchema(), s)
				if count > 5 {
					if len(got) != 0 || ok || impl.FormatDependencies(dependencySchema(), list) != "" {
						t.Fatalf("%d dependencies are formatted as %q, or parsed as %v, %v", count, impl.FormatDependencies(dependencySchema(), list), got, ok)
					}
					continue
				}
				if !slices.EqualFunc(got, list, sameDependency) || !ok {
					t.Fatalf("ParseDependencies(%q) = %v, %v, want %v", s, got, ok, list)
				}
				if impl.FormatDependencies(dependencySchema(), list) != s {
					t.Fatalf("FormatDependencies(%v) = %q, want %q", list, impl.FormatDependencies(dependencySchema(), list), s)
				}
			}
		}
	}
}

// TestOneInvalidDependency puts a dependency that is none at each place of a list.
func TestOneInvalidDependency(t *testing.T) {
	for count := 1; count <= 5; count++ {
		for place := range count {
			for _, invalid := range []string{"", " ", "qx", "qx>", ">qx", "qx>sx", "axy=yx", "qx>qx ", " qx>qx", "qx>qw", "cx>qx"} {
				parts := slices.Clone(formatsOfValid()[:count])
				parts[place] = invalid
				s := strings.Join(parts, ";")
				if got, ok := impl.ParseDependencies(dependencySchema(), s); s != "" && (len(got) != 0 || ok) {
					t.Errorf("ParseDependencies(%q) = %v, %v", s, got, ok)
				}
			}
			for _, invalid := range invalidDependencies() {
				list := slices.Clone(validDependencies()[:count])
				list[place] = invalid
				if got := impl.FormatDependencies(dependencySchema(), list); got != "" {
					t.Errorf("FormatDependencies(%v) = %q", list, got)
				}
			}
		}
	}
	for _, s := range []string{";;", "qx>qx;;qx>qx", "qx>qx; qx>qx", "qx>qx ;qx>qx", "qx>qx,qx>qx", "qx>qx:qx>qx", "qx>qx\nqx>qx", strings.Repeat("qx>qx;", 5), strings.Repeat(";", 1000), strings.Repeat("qx>qx;", 1000) + "qx>qx"} {
		if got, ok := impl.ParseDependencies(dependencySchema(), s); len(got) != 0 || ok {
			t.Errorf("ParseDependencies(%q) = %v, %v", s, got, ok)
		}
	}
}

// overwriteDependencies fills the memory of each slice in turn, and says whether this changes no other one.
func overwriteDependencies(list []impl.Dependency) bool {
	var terms [][]int
	var sides [][]impl.Atom
	for _, dependency := range list {
		for _, side := range [][]impl.Atom{dependency.Body, dependency.Head} {
			sides = append(sides, slices.Clip(side))
			for _, a := range side {
				terms = append(terms, a.Terms)
			}
			for i := range side[:cap(side)] {
				side[:cap(side)][i] = atom(len(sides), len(sides))
			}
		}
	}
	for i, numbers := range terms {
		fill(numbers, 1000+i)
	}
	for i, numbers := range terms {
		if slices.Min(numbers) != 1000+i || slices.Max(numbers) != 1000+i {
			return false
		}
	}
	for i, side := range sides {
		for _, a := range side {
			if a.Relation != i+1 || !slices.Equal(a.Terms, []int{i + 1}) {
				return false
			}
		}
	}
	return true
}

func TestParsedDependenciesShareNoMemory(t *testing.T) {
	relations := append(dependencySchema(), impl.Relation{Name: "z", Arity: 1})[:6]
	for start := range len(validDependencies()) - 4 {
		valid := validDependencies()[start : start+5]
		s := strings.Join(formatsOfValid()[start:start+5], ";")
		for range 2 {
			// A result that is overwritten is not that of the next call.
			list, ok := impl.ParseDependencies(relations, s)
			if !ok || !slices.EqualFunc(list, valid, sameDependency) || !overwriteDependencies(list) {
				t.Fatalf("ParseDependencies(%q) returns %v, or slices that share memory", s, list)
			}
			one, ok := impl.ParseDependency(relations, formatsOfValid()[start])
			if !ok || !sameDependency(one, valid[0]) || !overwriteDependencies([]impl.Dependency{one}) {
				t.Fatalf("ParseDependency(%q) returns %v, or slices that share memory", formatsOfValid()[start], one)
			}
		}
	}
	if !slices.Equal(relations[:7], append(dependencySchema(), impl.Relation{Name: "z", Arity: 1})) {
		t.Errorf("the relations have become %v", relations[:7])
	}
}

func TestFormattedDependenciesAreNotModified(t *testing.T) {
	relations := append(dependencySchema(), impl.Relation{Name: "z", Arity: 1})[:6]
	for i, original := range append(validDependencies(), invalidDependencies()...) {
		dependency := copiedDependency(original, 4)
		before := memoryOfDependency(dependency)
		list := []impl.Dependency{dependency, original, {LeftVar: 7}}[:2]
		for _, a := range slices.Concat(dependency.Body, dependency.Head) {
			impl.FormatAtom(relations, a)
		}
		for range 2 {
			want := ""
			if i < len(formatsOfValid()) {
				want = formatsOfValid()[i]
			}
			if got := impl.FormatDependency(relations, dependency); got != want {
				t.Fatalf("FormatDependency(%v) = %q, want %q", dependency, got, want)
			}
			impl.FormatDependencies(relations, list)
		}
		if !slices.Equal(memoryOfDependency(dependency), before) || !slices.Equal(relations[:7], append(dependencySchema(), impl.Relation{Name: "z", Arity: 1})) {
			t.Fatalf("%v has become %v", before, memoryOfDependency(dependency))
		}
		if !sameDependency(list[:3][2], impl.Dependency{LeftVar: 7}) {
			t.Fatalf("the dependency behind the list has become %v", list[:3][2])
		}
	}
}
