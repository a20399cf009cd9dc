package tests

import (
	"fmt"
	"slices"
	"testing"

	"loop.example/g01100/impl"
)

// plainFaults has all lists {i, k} with i <= k for which a tableau is not symplectic, in lexicographic
// order.
func plainFaults(x impl.Tableau) [][]int64 {
	var faults [][]int64
	for i, b := range x.B {
		for k, c := range x.B {
			if i <= k && remainder(b*x.A[i][k]+c*x.A[k][i]-b*c) != 0 {
				faults = append(faults, []int64{int64(i), int64(k)})
			}
		}
	}
	return faults
}

func plainIsSymmetric(x impl.Tableau) bool {
	last := len(x.B) - 1
	for i := range x.B {
		for k, b := range x.B {
			if remainder(x.A[i][k]+x.A[last-i][last-k]-b) != 0 {
				return false
			}
		}
	}
	return true
}

// wantSymplectic checks IsSymplectic and SymplecticFault for a tableau.
func wantSymplectic(t *testing.T, x impl.Tableau) {
	t.Helper()
	faults := plainFaults(x)
	is, code := impl.IsSymplectic(x)
	wantTruth(t, fmt.Sprintf("IsSymplectic(%v)", x), is, code, len(faults) == 0)
	fault, code := impl.SymplecticFault(x)
	if len(faults) == 0 {
		wantNone(t, fmt.Sprintf("SymplecticFault(%v)", x), fault, code, impl.ErrNotFound)
	} else {
		wantList(t, fmt.Sprintf("SymplecticFault(%v)", x), fault, code, faults[0])
	}
}

// wantSymmetric checks IsSymmetric for a tableau.
func wantSymmetric(t *testing.T, x impl.Tableau, want bool) {
	t.Helper()
	is, code := impl.IsSymmetric(x)
	wantTruth(t, fmt.Sprintf("IsSymmetric(%v)", x), is, code, want)
}

// symplectic draws a symplectic tableau with a list B. Of a(i, k) and a(k, i), one decides about the
// other one, unless B has 0 for the stage of its row: then it may be any number.
func (d *drawer) symplectic(b []int64) impl.Tableau {
	x := impl.Tableau{A: d.matrix(len(b), len(b)), B: b}
	for i := range b {
		for k := range i {
			if b[i] != 0 {
				x.A[i][k] = fraction(b[i]*b[k]-b[k]*x.A[k][i], b[i])
			} else if b[k] != 0 {
				x.A[k][i] = 0
			}
		}
		if b[i] != 0 {
			x.A[i][i] = fraction(b[i], 2)
		}
	}
	return x
}

// consistent draws numbers with the sum 1.
func (d *drawer) consistent(length int) []int64 {
	list := d.list(length)
	list[0] = 1
	for _, b := range list[1:] {
		list[0] = remainder(list[0] - b)
	}
	return list
}

// symmetric draws a symmetric tableau.
func (d *drawer) symmetric(stages int) impl.Tableau {
	x, last := d.tableau(stages), stages-1
	for k, b := range x.B {
		x.B[last-k] = b
	}
	for i := range x.B {
		for k, b := range x.B {
			x.A[last-i][last-k] = remainder(b - x.A[i][k])
		}
	}
	if stages%2 == 1 {
		x.A[last/2][last/2] = fraction(x.B[last/2], 2)
	}
	return x
}

// jumped takes steps of the sizes g, 1 - 2 g and g, which raises the order p, 2 or 4, of a symmetric
// tableau.
func jumped(x impl.Tableau, p int64) impl.Tableau {
	root, _ := impl.RootNumber(2, p+1)
	g := fraction(1, 2-root)
	outer, inner := plainMultiple(x, g), plainMultiple(x, remainder(1-2*g))
	return plainComposed(plainComposed(outer, inner), outer)
}

// symplecticTableaus has one stage to MaxStages stages, with 0 in B and without. Some have high orders.
func symplecticTableaus() []impl.Tableau {
	draw := drawer(150)
	gauss, middle := namedCases()[1].tableau, tableauOf("1/2", "1")
	list := []impl.Tableau{gauss, middle, jumped(middle, 2), jumped(gauss, 4), plainComposed(gauss, plainMultiple(middle, 3)), plainReordered(gauss, []int64{1, 0})}
	for stages := 1; stages <= impl.MaxStages; stages++ {
		list = append(list, everyStage(stages, 0), draw.symplectic(draw.list(stages)), draw.symplectic(draw.consistent(stages)), draw.symplectic(make([]int64, stages)))
		for range 3 {
			list = append(list, draw.symplectic(draw.drawn(stages)))
		}
	}
	return list
}

// symmetricTableaus has one stage to MaxStages stages. Some are symplectic as well.
func symmetricTableaus() []impl.Tableau {
	draw := drawer(151)
	gauss, middle := namedCases()[1].tableau, tableauOf("1/2", "1")
	lobatto, trapezoid := namedCases()[5].tableau, namedCases()[11].tableau
	list := []impl.Tableau{gauss, middle, lobatto, trapezoid, jumped(middle, 2), jumped(gauss, 4), jumped(trapezoid, 2)}
	for stages := 1; stages <= impl.MaxStages; stages++ {
		list = append(list, everyStage(stages, 0), draw.symmetric(stages), draw.symmetric(stages))
		if stages <= impl.MaxStages/2 {
			x, y := draw.tableau(stages), draw.symplectic(draw.drawn(stages))
			list = append(list, plainComposed(x, plainAdjoint(x)), plainComposed(y, plainAdjoint(y)))
		}
	}
	return list
}

// TestSymplecticExamples writes out what holds for the tableaus with names, and for some others.
func TestSymplecticExamples(t *testing.T) {
	for _, named := range namedCases() {
		fault, code := impl.SymplecticFault(named.tableau)
		switch named.name {
		case "gauss", "middle":
			wantNone(t, "SymplecticFault "+named.name, fault, code, impl.ErrNotFound)
		case "midpoint":
			wantList(t, "SymplecticFault midpoint", fault, code, []int64{0, 1})
		default:
			wantList(t, "SymplecticFault "+named.name, fault, code, []int64{0, 0})
		}
		is, code := impl.IsSymplectic(named.tableau)
		wantTruth(t, "IsSymplectic "+named.name, is, code, slices.Contains([]string{"gauss", "middle"}, named.name))
		is, code = impl.IsSymmetric(named.tableau)
		wantTruth(t, "IsSymmetric "+named.name, is, code, slices.Contains([]string{"gauss", "lobatto", "middle", "trapezoid"}, named.name))
	}
	for _, c := range []struct {
		x           impl.Tableau
		fault       []int64
		isSymmetric bool
	}{
		{tableauOf("1/2", "1"), nil, true}, {tableauOf("1", "2"), nil, true}, {tableauOf("0", "0"), nil, true}, {tableauOf("5", "0"), nil, false}, {tableauOf("5", "1"), []int64{0, 0}, false},
		{tableauOf("1/6 0", "1/3 1/3", "1/3 2/3"), nil, false}, {tableauOf("1/4 0", "1/2 1/4", "1/2 1/2"), nil, true}, {tableauOf("1/4 1/2", "0 1/4", "1/2 1/2"), nil, true},
		{tableauOf("1/4 1", "0 1/4", "1/2 1/2"), []int64{0, 1}, false}, {tableauOf("1/4 0", "1/2 0", "1/2 1/2"), []int64{1, 1}, false}, {tableauOf("0 0", "1/2 1/2", "1/2 1/2"), []int64{0, 0}, true},
		{tableauOf("1/4 1/4", "1/4 1/4", "1/2 1/2"), nil, true}, {tableauOf("0 0", "0 0", "0 0"), nil, true}, {tableauOf("1 2", "-2 -1", "0 0"), nil, true}, {tableauOf("1 2", "2 1", "0 0"), nil, false},
		{tableauOf("1/2 0", "7 9", "1 0"), nil, false}, {tableauOf("1/2 1", "7 9", "1 0"), []int64{0, 1}, false}, {tableauOf("9 7", "0 1/2", "0 1"), nil, false}, {tableauOf("9 7", "1 1/2", "0 1"), []int64{0, 1}, false},
	} {
		fault, code := impl.SymplecticFault(c.x)
		if c.fault == nil {
			wantNone(t, fmt.Sprintf("SymplecticFault(%v)", c.x), fault, code, impl.ErrNotFound)
		} else {
			wantList(t, fmt.Sprintf("SymplecticFault(%v)", c.x), fault, code, c.fault)
		}
		is, code := impl.IsSymplectic(c.x)
		wantTruth(t, fmt.Sprintf("IsSymplectic(%v)", c.x), is, code, c.fault == nil)
		wantSymmetric(t, c.x, c.isSymmetric)
	}
}

// TestSymplecticOrSymmetric has tableaus of all kinds: those that are both, one of both and neither.
func TestSymplecticOrSymmetric(t *testing.T) {
	var seen [2][2]int
	for _, x := range slices.Concat(symplecticTableaus(), symmetricTableaus(), manyTableaus(), assumedTableaus()) {
		wantSymplectic(t, x)
		wantSymmetric(t, x, plainIsSymmetric(x))
		symplectic, symmetric := 0, 0
		if len(plainFaults(x)) == 0 {
			symplectic = 1
		}
		if plainIsSymmetric(x) {
			symmetric = 1
		}
		seen[symplectic][symmetric]++
	}
	if min(seen[0][0], seen[0][1], seen[1][0], seen[1][1]) < 20 {
		t.Errorf("tableaus of the four kinds are looked at %v times", seen)
	}
	for _, x := range symplecticTableaus() {
		if faults := plainFaults(x); len(faults) != 0 {
			t.Errorf("%v has the faults %v", x, faults)
		}
	}
	for _, x := range symmetricTableaus() {
		if !plainIsSymmetric(x) {
			t.Errorf("%v is not symmetric", x)
		}
	}
}

// TestSymplecticOneStage has all nodes: only half of the number of B meets the conditions, but if that
// is 0, any one is symplectic.
func TestSymplecticOneStage(t *testing.T) {
	for a := range int64(impl.Prime) {
		for _, b := range []int64{0, 1, 2, 5003, impl.Prime - 1} {
			x := impl.Tableau{A: [][]int64{{a}}, B: []int64{b}}
			isHalf := 2*a%prime == b
			is, code := impl.IsSymplectic(x)
			wantTruth(t, fmt.Sprintf("IsSymplectic(%v)", x), is, code, isHalf || b == 0)
			wantSymmetric(t, x, isHalf)
			fault, code := impl.SymplecticFault(x)
			if isHalf || b == 0 {
				wantNone(t, fmt.Sprintf("SymplecticFault(%v)", x), fault, code, impl.ErrNotFound)
			} else {
				wantList(t, fmt.Sprintf("SymplecticFault(%v)", x), fault, code, []int64{0, 0})
			}
		}
	}
}

// TestSymplecticFault holds what promise 12 says of faults: changing one number of A of a symplectic
// tableau makes the only fault at its stages, on the diagonal or off it, and changing two makes two, of
// which the lexicographically first one is told.
func TestSymplecticFault(t *testing.T) {
	draw := drawer(152)
	for stages := 1; stages <= impl.MaxStages; stages++ {
		x := draw.symplectic(slices.Repeat([]int64{1 + draw.below(impl.Prime-1)}, stages))
		wrong := func(y impl.Tableau, i int, k int) impl.Tableau {
			return altered(y, i, k, remainder(y.A[i][k]+1+draw.below(impl.Prime-1)))
		}
		for first := range stages * stages {
			i, k := first/stages, first%stages
			one := wrong(x, i, k)
			want := []int64{int64(min(i, k)), int64(max(i, k))}
			fault, code := impl.SymplecticFault(one)
			wantList(t, fmt.Sprintf("SymplecticFault(%v)", one), fault, code, want)
			wantSymplectic(t, one)
			for second := range stages * stages {
				j, l := second/stages, second%stages
				other := []int64{int64(min(j, l)), int64(max(j, l))}
				if slices.Equal(other, want) {
					continue
				}
				two := wrong(one, j, l)
				fault, code := impl.SymplecticFault(two)
				wantList(t, fmt.Sprintf("SymplecticFault(%v)", two), fault, code, slices.MinFunc([][]int64{want, other}, slices.Compare))
			}
		}
	}
	for _, x := range symplecticTableaus() {
		for i := range x.B {
			for k := range x.B {
				wantSymplectic(t, altered(x, i, k, draw.below(impl.Prime)))
			}
			wantSymplectic(t, altered(x, len(x.B), i, draw.below(impl.Prime)))
		}
	}
}

// TestIsSymmetric changes each number of symmetric tableaus, which makes them others, and compares with
// adjoints.
func TestIsSymmetric(t *testing.T) {
	for _, x := range symmetricTableaus() {
		wantSymmetric(t, x, true)
		for i, row := range rowsOf(x) {
			for k, a := range row {
				wantSymmetric(t, altered(x, i, k, (a+1)%prime), false)
				wantSymmetric(t, altered(x, i, k, (a+5000)%prime), false)
			}
		}
	}
	for _, x := range append(manyTableaus(), symmetricTableaus()...) {
		wantSymmetric(t, x, sameTableau(x, kept(impl.AdjointTableau(x))))
	}
}

// TestSymplecticKept composes, inverts, adjoins, scales and reorders symplectic tableaus, which leaves
// them symplectic; and composing a tableau with its adjoint makes it symmetric.
func TestSymplecticKept(t *testing.T) {
	draw := drawer(153)
	want := func(call string, x impl.Tableau, code int64) {
		t.Helper()
		is, more := impl.IsSymplectic(x)
		if code != impl.ErrNone {
			t.Errorf("%s has the code %d", call, code)
		}
		wantTruth(t, fmt.Sprintf("IsSymplectic(%v), by %s", x, call), is, more, true)
	}
	list := symplecticTableaus()
	for _, x := range list {
		inverse, code := impl.InverseTableau(x)
		want("inverting", inverse, code)
		adjoint, code := impl.AdjointTableau(x)
		want("adjoining", adjoint, code)
		scaled, code := impl.ScaleTableau(x, draw.below(impl.Prime))
		want("scaling", scaled, code)
		turned, code := impl.PermuteStages(x, draw.order(len(x.B)))
		want("reordering", turned, code)
		reduced, code := impl.ReduceTableau(x)
		want("reducing", reduced, code)
		for _, y := range list {
			if len(x.B)+len(y.B) <= impl.MaxStages {
				both, code := impl.ComposeTableaus(x, y)
				want("composing", both, code)
			}
		}
	}
	for _, x := range fewStages(impl.MaxStages / 2) {
		wantSymmetric(t, kept(impl.ComposeTableaus(x, kept(impl.AdjointTableau(x)))), true)
	}
}

// characterOf is CharacterOf for what is known to be a tableau.
func characterOf(x impl.Tableau) []int64 { return must(impl.CharacterOf(x)) }

// wantSymplecticTo checks SymplecticTo for a character, and HamiltonianTo for its logarithm, which have
// the same result.
func wantSymplecticTo(t *testing.T, call string, a []int64, want int64) {
	t.Helper()
	n, code := impl.SymplecticTo(a)
	wantNumber(t, "SymplecticTo "+call, n, code, want)
	b, code := impl.LogMap(a)
	if code != impl.ErrNone {
		t.Errorf("LogMap of %s has the code %d", call, code)
	}
	n, code = impl.HamiltonianTo(b)
	wantNumber(t, "HamiltonianTo the logarithm of "+call, n, code, want)
}

// TestSymplecticCharacters holds the first part of promise 28: symplectic tableaus have symplectic
// characters, with Hamiltonian logarithms.
func TestSymplecticCharacters(t *testing.T) {
	for _, x := range symplecticTableaus() {
		wantSymplecticTo(t, fmt.Sprintf("the character of %v", x), characterOf(x), impl.MaxOrder)
	}
	// Tableaus that are not symplectic can have such characters, if what is wrong is not needed.
	for _, x := range []impl.Tableau{padded(tableauOf("1/2", "1"), 7, 9), tableauOf("1 -1/2", "0 1/2", "0 1"), tableauOf("0 0", "0 0", "1 -1")} {
		wantSymplecticTo(t, fmt.Sprintf("the character of %v", x), characterOf(x), impl.MaxOrder)
	}
	is, code := impl.IsSymplectic(tableauOf("0 0", "0 0", "1 -1"))
	wantTruth(t, "IsSymplectic(0 0;0 0|1 -1)", is, code, false)
}

// TestSymplecticGroup holds the second part of promise 28: symplectic characters are a group.
func TestSymplecticGroup(t *testing.T) {
	draw := drawer(154)
	list := symplecticCharacters()
	for i, a := range list {
		wantSymplecticTo(t, fmt.Sprintf("the inverse of %v", a), must(impl.InverseMap(a)), impl.MaxOrder)
		for _, b := range [][]int64{a, list[(i+1)%len(list)], list[draw.below(int64(len(list)))]} {
			wantSymplecticTo(t, fmt.Sprintf("the convolution of %v and %v", a, b), must(impl.Convolve(a, b)), impl.MaxOrder)
		}
		k := draw.below(200) - 100
		wantSymplecticTo(t, fmt.Sprintf("the power of %v with %d", a, k), must(impl.PowerOfMap(a, k)), impl.MaxOrder)
		wantSymplecticTo(t, fmt.Sprintf("the third root of %v", a), must(impl.RootOfMap(a, 3)), impl.MaxOrder)
		wantSymplecticTo(t, fmt.Sprintf("%v, scaled", a), must(impl.ScaleMap(a, draw.below(impl.Prime))), impl.MaxOrder)
	}
}

// TestHamiltonianExponentials holds the rest of promise 28 about symplectic characters: they are the
// exponentials of Hamiltonian maps, whose brackets are Hamiltonian.
func TestHamiltonianExponentials(t *testing.T) {
	draw := drawer(155)
	for range 20 {
		b, c := plainHamiltonian(draw.drawn(impl.FreeNumbers)), plainHamiltonian(draw.drawn(impl.FreeNumbers))
		for call, other := range map[string][]int64{
			"sum": plainSum(b, 5, c), "bracket": must(impl.BracketOf(b, c)), "logarithm of the product": must(impl.LogOfProduct(b, c)),
		} {
			n, code := impl.HamiltonianTo(other)
			wantNumber(t, fmt.Sprintf("HamiltonianTo the %s of %v and %v", call, b, c), n, code, impl.MaxOrder)
		}
		wantSymplecticTo(t, fmt.Sprintf("the exponential of %v", b), must(impl.ExpMap(b)), impl.MaxOrder)
		wantSymplecticTo(t, fmt.Sprintf("the flow of %v", b), must(impl.FlowMap(b, draw.below(impl.Prime))), impl.MaxOrder)
	}
	for _, a := range append(someCharacters(), partlySymplectic()...) {
		wantSymplecticTo(t, fmt.Sprint(a), a, plainSymplecticTo(a))
	}
}

// TestSymmetricCharacters holds the last part of promise 28: characters of symmetric tableaus are their
// own adjoints, as those of other ones are not.
func TestSymmetricCharacters(t *testing.T) {
	adjointOf := func(a []int64) []int64 { return must(impl.InverseMap(must(impl.ScaleMap(a, impl.Prime-1)))) }
	for _, x := range symmetricTableaus() {
		a, code := impl.CharacterOf(x)
		wantList(t, fmt.Sprintf("the character of %v", x), a, code, adjointOf(a))
		if order, code := impl.OrderOf(x); order%2 != 0 || code != impl.ErrNone {
			t.Errorf("OrderOf(%v) = %d, code %d", x, order, code)
		}
	}
	for _, name := range []string{"euler", "heun", "implicit", "kutta", "midpoint", "radau", "ralston", "runge"} {
		x := kept(impl.NamedTableau(name))
		if a := characterOf(x); slices.Equal(a, adjointOf(a)) {
			t.Errorf("the character of %s is symmetric", name)
		}
	}
}

// TestSymplecticTableausInvalid has structs that are no tableaus, some of which would be symplectic or
// symmetric.
func TestSymplecticTableausInvalid(t *testing.T) {
	list := append(notTableaus(), impl.Tableau{A: [][]int64{{1}}, B: []int64{2 + impl.Prime}}, impl.Tableau{A: [][]int64{{-1}}, B: []int64{-2}}, impl.Tableau{A: [][]int64{{impl.Prime}}, B: []int64{0}})
	for _, x := range list {
		is, code := impl.IsSymplectic(x)
		wantNoTruth(t, fmt.Sprintf("IsSymplectic(%v)", x), is, code, impl.ErrInvalid)
		fault, code := impl.SymplecticFault(x)
		wantNone(t, fmt.Sprintf("SymplecticFault(%v)", x), fault, code, impl.ErrInvalid)
		is, code = impl.IsSymmetric(x)
		wantNoTruth(t, fmt.Sprintf("IsSymmetric(%v)", x), is, code, impl.ErrInvalid)
	}
}

// TestSymplecticTableausMemory checks that tableaus stay as they are, and that faults are new memory.
func TestSymplecticTableausMemory(t *testing.T) {
	draw := drawer(156)
	for stages := 1; stages <= impl.MaxStages; stages++ {
		for _, x := range []impl.Tableau{draw.tableau(stages), everyStage(stages, 1), draw.symplectic(draw.list(stages)), draw.symmetric(stages)} {
			rows := guarded(rowsOf(x))
			y := impl.Tableau{A: rows[:stages], B: rows[stages]}
			impl.IsSymplectic(y)
			impl.IsSymmetric(y)
			first, second := must(impl.SymplecticFault(y)), must(impl.SymplecticFault(y))
			wantApart(t, "SymplecticFault", append(slices.Clone(rows), first, second)...)
			rows = guarded(rowsOf(x))
			y = impl.Tableau{A: rows[:stages], B: rows[stages]}
			impl.SymplecticFault(y)
			impl.IsSymplectic(y)
			impl.IsSymmetric(y)
			wantUntouched(t, "a function of symplectic tableaus", rows, rowsOf(x))
		}
	}
}
