package tests

import (
	"fmt"
	"slices"
	"sync"
	"testing"

	"loop.example/g01100/impl"
)

// A plainSkeleton has the pieces that are left of a tree without some of its edges, and 1 divided by
// the density of the tree that the pieces make as nodes.
type plainSkeleton struct {
	pieces [][]int64
	weight int64
}

// skeletonOf makes a node of each piece: its level tells on how many other pieces it stands.
func skeletonOf(list []int64, set int) []int64 {
	var skeleton []int64
	for node := range list {
		if node > 0 && !plainHas(set, node) {
			continue
		}
		level := int64(0)
		for above := node; above > 0; level++ {
			above = plainParent(list, above)
			for above > 0 && !plainHas(set, above) {
				above = plainParent(list, above)
			}
		}
		skeleton = append(skeleton, level)
	}
	return skeleton
}

// placedSkeletons has those of the trees at the places of maps, for all sets of edges.
var placedSkeletons = sync.OnceValue(func() [][]plainSkeleton {
	skeletons := [][]plainSkeleton{nil}
	for _, list := range placedTrees()[1:] {
		var all []plainSkeleton
		for set := 0; set < 1<<len(list); set += 2 {
			pieces, _ := plainPieces([][]int64{list}, set)
			density := plainDensity(plainCanonical(skeletonOf(list, set)))
			all = append(all, plainSkeleton{pieces: pieces, weight: fraction(1, density)})
		}
		skeletons = append(skeletons, all)
	}
	return skeletons
})

// skeletonSum is the exponential of an infinitesimal map at a place, without recursion: an exact step
// of pieces, each of which has the value of the map.
func skeletonSum(b []int64, place int) int64 {
	sum := int64(0)
	for _, skeleton := range placedSkeletons()[place] {
		sum += plainAt(b, skeleton.pieces) * skeleton.weight % impl.Prime
	}
	return sum % impl.Prime
}

// skeletonExponential goes through sets of edges, and knows nothing of cuts and of actions.
func skeletonExponential(b []int64) []int64 {
	a := unit(impl.MapSize)
	for place := 1; place < impl.MapSize; place++ {
		a[place] = skeletonSum(b, place)
	}
	return a
}

// skeletonLogarithm goes from small trees to large ones: what a sum lacks without the tree as a whole,
// whose value is still 0, is this value.
func skeletonLogarithm(a []int64) []int64 {
	b := noMap()
	for place := 1; place < impl.MapSize; place++ {
		b[place] = remainder(a[place] - skeletonSum(b, place))
	}
	return b
}

// plainFlow follows the definition: it adds what comes out of acting on the unit again and again.
func plainFlow(b []int64, s int64) []int64 {
	sum, power := noMap(), unit(impl.MapSize)
	for k := int64(0); k <= impl.MaxOrder; k++ {
		sum = plainSum(sum, fraction(1, factorial(k)), power)
		power = plainAction(multiple(b, s), power)
	}
	return sum
}

func TestExpMap(t *testing.T) {
	draw := drawer(110)
	list := someInfinitesimals()
	for range 6 {
		list = append(list, draw.drawn(impl.MapSize, 0))
	}
	for place := 1; place < impl.MapSize; place++ {
		list = append(list, spike(0, place, 1))
	}
	for _, b := range list {
		got, code := impl.ExpMap(b)
		wantList(t, fmt.Sprintf("ExpMap(%v)", b), got, code, plainFlow(b, 1))
		wantList(t, fmt.Sprintf("ExpMap(%v)", b), got, code, skeletonExponential(b))
		if !impl.IsCharacter(got) {
			t.Errorf("ExpMap(%v) = %v is no character", b, got)
		}
	}
	got, code := impl.ExpMap(noMap())
	wantList(t, "ExpMap(0 everywhere)", got, code, impl.UnitMap())
	for _, k := range someNumbers {
		got, code := impl.ExpMap(spike(0, 1, k))
		wantList(t, fmt.Sprintf("ExpMap(%d at one node)", k), got, code, must(impl.ScaleMap(impl.ExactMap(), k)))
	}
}

func TestLogMap(t *testing.T) {
	list := someCharacters()
	for place := 1; place < impl.MapSize; place++ {
		list = append(list, spike(1, place, 1), changed(plainExact(), place, 0))
	}
	for _, a := range list {
		got, code := impl.LogMap(a)
		wantList(t, fmt.Sprintf("LogMap(%v)", a), got, code, skeletonLogarithm(a))
		if !impl.IsInfinitesimal(got) {
			t.Errorf("LogMap(%v) = %v is not infinitesimal", a, got)
		}
	}
	got, code := impl.LogMap(impl.UnitMap())
	wantList(t, "LogMap(the unit)", got, code, noMap())
	for _, k := range someNumbers {
		got, code := impl.LogMap(must(impl.ScaleMap(impl.ExactMap(), k)))
		wantList(t, fmt.Sprintf("LogMap(the exact map scaled by %d)", k), got, code, spike(0, 1, k))
	}
}

// TestExpMapAndLogMap holds the first part of promise 8, and what inverting and scaling make
// of both.
func TestExpMapAndLogMap(t *testing.T) {
	draw := drawer(111)
	infinitesimals, characters := someInfinitesimals(), someCharacters()
	for range 30 {
		infinitesimals = append(infinitesimals, draw.drawn(impl.MapSize, 0))
		characters = append(characters, draw.drawn(impl.MapSize, 1))
	}
	for _, b := range infinitesimals {
		a, code := impl.ExpMap(b)
		back, more := impl.LogMap(a)
		wantList(t, fmt.Sprintf("LogMap(ExpMap(%v)), code %d", b, code), back, more, b)
		inverse, code := impl.ExpMap(multiple(b, impl.Prime-1))
		wantList(t, fmt.Sprintf("ExpMap(-1 times %v)", b), inverse, code, must(impl.InverseMap(a)))
		scaled, code := impl.ExpMap(plainScaled(b, 3))
		wantList(t, fmt.Sprintf("ExpMap(%v scaled by 3)", b), scaled, code, plainScaled(a, 3))
	}
	for _, a := range characters {
		b, code := impl.LogMap(a)
		back, more := impl.ExpMap(b)
		wantList(t, fmt.Sprintf("ExpMap(LogMap(%v)), code %d", a, code), back, more, a)
		inverse, code := impl.LogMap(must(impl.InverseMap(a)))
		wantList(t, fmt.Sprintf("LogMap(InverseMap(%v))", a), inverse, code, multiple(b, impl.Prime-1))
	}
}

// TestFlowMap has flows with 0 and with 1 among the others.
func TestFlowMap(t *testing.T) {
	for _, b := range someInfinitesimals() {
		for _, s := range someNumbers {
			got, code := impl.FlowMap(b, s)
			wantList(t, fmt.Sprintf("FlowMap(%v, %d)", b, s), got, code, plainFlow(b, s))
		}
		got, code := impl.FlowMap(b, 0)
		wantList(t, fmt.Sprintf("FlowMap(%v, 0)", b), got, code, impl.UnitMap())
		got, code = impl.FlowMap(b, 1)
		wantList(t, fmt.Sprintf("FlowMap(%v, 1)", b), got, code, must(impl.ExpMap(b)))
	}
	for _, s := range someNumbers {
		got, code := impl.FlowMap(spike(0, 1, 1), s)
		wantList(t, fmt.Sprintf("FlowMap(1 at one node, %d)", s), got, code, must(impl.ScaleMap(impl.ExactMap(), s)))
	}
}

// TestFlowsAddUp has numbers whose sum is 0 or beyond Prime, too, and compares flows with powers.
func TestFlowsAddUp(t *testing.T) {
	draw := drawer(112)
	for _, b := range someInfinitesimals() {
		for _, s := range someNumbers {
			r := someNumbers[draw.below(int64(len(someNumbers)))]
			for _, other := range []int64{r, remainder(-s)} {
				got, code := impl.Convolve(must(impl.FlowMap(b, s)), must(impl.FlowMap(b, other)))
				wantList(t, fmt.Sprintf("FlowMap(%v, %d) with that with %d", b, s, other), got, code, must(impl.FlowMap(b, (s+other)%impl.Prime)))
			}
			got, code := impl.LogMap(must(impl.FlowMap(b, s)))
			wantList(t, fmt.Sprintf("LogMap(FlowMap(%v, %d))", b, s), got, code, multiple(b, s))
		}
		a := must(impl.ExpMap(b))
		for _, k := range []int64{-100, -7, -1, 0, 1, 2, 3, 100} {
			got, code := impl.FlowMap(b, remainder(k))
			wantList(t, fmt.Sprintf("FlowMap(%v, %d)", b, k), got, code, must(impl.PowerOfMap(a, k)))
		}
	}
}

// TestRootsHaveTheirPowers holds the other part of promise 8, for all exponents.
func TestRootsHaveTheirPowers(t *testing.T) {
	draw := drawer(113)
	for _, a := range [][]int64{draw.drawn(impl.MapSize, 1), spike(1, 1, 1), plainExact(), everywhere(1)} {
		b := skeletonLogarithm(a)
		for k := int64(1); k <= 100; k++ {
			root, code := impl.RootOfMap(a, k)
			wantList(t, fmt.Sprintf("RootOfMap(%v, %d)", a, k), root, code, skeletonExponential(multiple(b, fraction(1, k))))
			got, code := impl.PowerOfMap(root, k)
			wantList(t, fmt.Sprintf("the power of RootOfMap(%v, %d)", a, k), got, code, a)
		}
	}
	for _, a := range someCharacters() {
		for _, k := range []int64{1, 2, 3, 7, 99, 100} {
			root, code := impl.RootOfMap(a, k)
			got, more := impl.PowerOfMap(root, k)
			wantList(t, fmt.Sprintf("the power of RootOfMap(%v, %d), code %d", a, k, code), got, more, a)
			got, code = impl.RootOfMap(must(impl.PowerOfMap(a, k)), k)
			wantList(t, fmt.Sprintf("RootOfMap(PowerOfMap(%v, %d), %d)", a, k, k), got, code, a)
			got, code = impl.FlowMap(must(impl.LogMap(a)), fraction(1, k))
			wantList(t, fmt.Sprintf("the flow of the logarithm of %v with 1/%d", a, k), got, code, root)
		}
		got, code := impl.RootOfMap(a, 1)
		wantList(t, fmt.Sprintf("RootOfMap(%v, 1)", a), got, code, a)
		root := must(impl.RootOfMap(a, 2))
		wantList(t, fmt.Sprintf("RootOfMap(%v, 2) with itself", a), plainConvolution(root, root), impl.ErrNone, a)
	}
	for k := int64(1); k <= 100; k++ {
		got, code := impl.RootOfMap(impl.UnitMap(), k)
		wantList(t, fmt.Sprintf("RootOfMap(the unit, %d)", k), got, code, impl.UnitMap())
		got, code = impl.RootOfMap(impl.ExactMap(), k)
		wantList(t, fmt.Sprintf("RootOfMap(the exact map, %d)", k), got, code, must(impl.ScaleMap(impl.ExactMap(), fraction(1, k))))
	}
}

// TestLogOfProduct has all pairs of maps; most of them do not commute.
func TestLogOfProduct(t *testing.T) {
	list := someInfinitesimals()
	exponentials := make([][]int64, len(list))
	for i, b := range list {
		exponentials[i] = skeletonExponential(b)
	}
	for i, b := range list {
		for k, c := range list {
			got, code := impl.LogOfProduct(b, c)
			want := skeletonLogarithm(plainConvolution(exponentials[i], exponentials[k]))
			wantList(t, fmt.Sprintf("LogOfProduct(%v, %v)", b, c), got, code, want)
			back, code := impl.LogOfProduct(multiple(c, impl.Prime-1), multiple(b, impl.Prime-1))
			wantList(t, fmt.Sprintf("LogOfProduct(-%v, -%v)", c, b), back, code, multiple(want, impl.Prime-1))
		}
	}
	dot, pair := spike(0, 1, 1), spike(0, 2, 1)
	if slices.Equal(must(impl.LogOfProduct(dot, pair)), must(impl.LogOfProduct(pair, dot))) {
		t.Errorf("LogOfProduct of maps that do not commute does not tell them apart")
	}
}

// TestLogOfProductCommuting has maps whose brackets are 0: their multiples, and such as have nodes
// enough that every cut of them is beyond the trees of maps.
func TestLogOfProductCommuting(t *testing.T) {
	draw := drawer(114)
	for _, b := range someInfinitesimals() {
		for _, k := range []int64{0, 1, 2, 5004, impl.Prime - 1} {
			got, code := impl.LogOfProduct(b, multiple(b, k))
			wantList(t, fmt.Sprintf("LogOfProduct(%v, %d times it)", b, k), got, code, multiple(b, (1+k)%impl.Prime))
		}
		got, code := impl.LogOfProduct(b, noMap())
		wantList(t, fmt.Sprintf("LogOfProduct(%v, 0 everywhere)", b), got, code, b)
		got, code = impl.LogOfProduct(noMap(), b)
		wantList(t, fmt.Sprintf("LogOfProduct(0 everywhere, %v)", b), got, code, b)
	}
	large := func() []int64 {
		b := draw.drawn(impl.MapSize, 0)
		for place := range b {
			if 2*nodesAt(place) <= impl.MaxOrder {
				b[place] = 0
			}
		}
		return b
	}
	b, c := large(), large()
	wantList(t, "the bracket of maps of large trees", bracketOf(b, c), impl.ErrNone, noMap())
	got, code := impl.LogOfProduct(b, c)
	wantList(t, fmt.Sprintf("LogOfProduct(%v, %v)", b, c), got, code, plainSum(b, 1, c))
}

// coefficientsIn returns, for maps at the numbers 0, 1, 2 and so on, the maps of the coefficients of
// the polynomials whose values they are.
func coefficientsIn(maps [][]int64) [][]int64 {
	powers := make([][]int64, len(maps))
	for s := range powers {
		power := int64(1)
		for range maps {
			powers[s] = append(powers[s], power)
			power = power * int64(s) % impl.Prime
		}
	}
	inverse, _ := impl.InverseMatrix(powers)
	coefficients := make([][]int64, len(maps))
	for n, row := range inverse {
		coefficients[n] = noMap()
		for s, factor := range row {
			coefficients[n] = plainSum(coefficients[n], factor, maps[s])
		}
	}
	return coefficients
}

// wantTerms checks the terms of the logarithm of a product by the numbers of their factors. With
// multiples by s, terms of n factors have the factor s^n, and terms of more than MaxOrder are 0.
func wantTerms(t *testing.T, b []int64, c []int64) {
	t.Helper()
	var maps [][]int64
	for s := int64(0); s <= impl.MaxOrder; s++ {
		got, code := impl.LogOfProduct(multiple(b, s), multiple(c, s))
		if code != impl.ErrNone {
			t.Errorf("LogOfProduct(%d %v, %d %v) has the code %d", s, b, s, c, code)
			return
		}
		maps = append(maps, got)
	}
	two := bracketOf(b, c)
	twice := bracketOf(b, two)
	three := less(twice, bracketOf(c, two))
	four := bracketOf(c, twice)
	terms := [][]int64{noMap(), plainSum(b, 1, c), multiple(two, fraction(1, 2)), multiple(three, fraction(1, 12)), multiple(four, fraction(-1, 24))}
	for n, want := range terms {
		wantList(t, fmt.Sprintf("the terms of %d factors %v and %v", n, b, c), coefficientsIn(maps)[n], impl.ErrNone, want)
	}
	// Terms of five factors and more need trees with five nodes at least.
	sum := noMap()
	for _, term := range terms {
		sum = plainSum(sum, 1, term)
	}
	if n, code := impl.AgreeTo(maps[1], sum); n < 4 || code != impl.ErrNone {
		t.Errorf("LogOfProduct(%v, %v) has the terms of four factors up to %d, code %d", b, c, n, code)
	}
}

// TestLogOfProductBegins holds promise 26.
func TestLogOfProductBegins(t *testing.T) {
	draw := drawer(115)
	list := someInfinitesimals()
	for _, b := range list {
		for _, c := range list {
			wantTerms(t, b, c)
		}
	}
	for range 10 {
		wantTerms(t, draw.drawn(impl.MapSize, 0), draw.drawn(impl.MapSize, 0))
	}
	for i := 1; i <= 4; i++ {
		for k := 1; k <= 4; k++ {
			wantTerms(t, spike(0, i, 1), spike(0, k, 3))
		}
	}
}
