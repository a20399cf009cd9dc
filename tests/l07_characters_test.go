package tests

import (
	"fmt"
	"math"
	"slices"
	"sync"
	"testing"

	"loop.example/g01100/impl"
)

// TestFirstMaps stands before all tests of maps, so that the first calls are made at the same time.
func TestFirstMaps(t *testing.T) {
	draw := drawer(80)
	a, b := draw.drawn(impl.MapSize, 1), draw.drawn(impl.MapSize, 5)
	results := make([][][]int64, 32)
	var calls sync.WaitGroup
	for i := range results {
		calls.Go(func() {
			results[i] = [][]int64{must(impl.Convolve(a, b)), must(impl.InverseMap(a)), must(impl.PowerOfMap(a, 7)), must(impl.RaiseMap(b))}
		})
	}
	calls.Wait()
	want := [][]int64{plainConvolution(a, b), plainInverse(a), plainPower(a, 7), plainRaise(b)}
	for _, got := range results {
		wantRows(t, "the first results", got, impl.ErrNone, want)
	}
}

// placedTrees has the trees at the places of maps, the empty list for the empty tree.
var placedTrees = sync.OnceValue(func() [][]int64 {
	lists := [][]int64{{}}
	for _, tree := range plainTrees(impl.MaxOrder) {
		lists = append(lists, tree.list())
	}
	return lists
})

// placesOfTrees has the places by the canonical lists.
var placesOfTrees = sync.OnceValue(func() map[string]int {
	places := map[string]int{}
	for place, list := range placedTrees() {
		places[fmt.Sprint(list)] = place
	}
	return places
})

// smallForests are those whose trees have values under maps.
var smallForests = sync.OnceValue(func() [][][]int64 {
	return slices.DeleteFunc(slices.Clone(forestsInOrder()), hasLarge)
})

func hasLarge(f [][]int64) bool {
	return slices.ContainsFunc(f, func(list []int64) bool { return len(list) > impl.MaxOrder })
}

// plainAt multiplies the values at the trees of a forest.
func plainAt(a []int64, f [][]int64) int64 {
	product := int64(1)
	for _, list := range f {
		product = product * a[placesOfTrees()[fmt.Sprint(list)]] % impl.Prime
	}
	return product
}

// fromTrees makes a map of its value at the empty tree and a rule for the others.
func fromTrees(first int64, rule func(list []int64) int64) []int64 {
	a := []int64{first}
	for _, list := range placedTrees()[1:] {
		a = append(a, remainder(rule(list)))
	}
	return a
}

// spike is a map that has values other than 0 at the empty tree and at one place at most.
func spike(first int64, place int, value int64) []int64 {
	a := make([]int64, impl.MapSize)
	a[0] = first
	a[place] = value
	return a
}

// everywhere is a map with the same value at all trees, the empty one among them.
func everywhere(value int64) []int64 { return slices.Repeat([]int64{value}, impl.MapSize) }

// changed copies a map with another value at a place.
func changed(a []int64, place int, value int64) []int64 {
	b := slices.Clone(a)
	b[place] = value
	return b
}

// plainExact divides 1 by the densities.
func plainExact() []int64 {
	return fromTrees(1, func(list []int64) int64 {
		value, _ := impl.DivideNumbers(1, plainDensity(list))
		return value
	})
}

// plainRaise multiplies the values at the branches.
func plainRaise(a []int64) []int64 {
	return fromTrees(0, func(list []int64) int64 { return plainAt(a, plainBranches(list)) })
}

// plainScaled multiplies by k for each node.
func plainScaled(a []int64, k int64) []int64 {
	return fromTrees(a[0], func(list []int64) int64 {
		value := a[placesOfTrees()[fmt.Sprint(list)]]
		for range list {
			value = value * k % impl.Prime
		}
		return value
	})
}

// notMaps are lists that are none. Those that begin with 1 or 0 would be characters or infinitesimal.
func notMaps() [][]int64 {
	list := [][]int64{nil, {}, {1}, {0}, {1, 2, 3}, make([]int64, 1000), unit(1000)}
	for _, length := range []int{1, impl.MapSize - 1, impl.MapSize + 1, 2 * impl.MapSize, impl.AllTrees, impl.AllTrees + 1} {
		list = append(list, make([]int64, length), unit(length), slices.Repeat([]int64{1}, length))
	}
	for _, bad := range append(slices.Clone(notNumbers), 1<<16+1, 1<<32, 1<<32+1) {
		for _, place := range []int{0, 1, impl.MapSize / 2, impl.MapSize - 1} {
			list = append(list, changed(everywhere(1), place, bad), spike(0, place, bad))
		}
		list = append(list, append(everywhere(1), bad), append(everywhere(1)[:impl.MapSize-1:impl.MapSize-1], bad, bad), everywhere(bad))
	}
	return list
}

// someCharacters are simple ones and drawn ones.
func someCharacters() [][]int64 {
	draw := drawer(81)
	list := [][]int64{unit(impl.MapSize), plainExact(), everywhere(1), changed(everywhere(impl.Prime-1), 0, 1), spike(1, 1, 1), spike(1, 2, 10006), spike(1, impl.MapSize-1, 9)}
	for range 6 {
		list = append(list, draw.drawn(impl.MapSize, 1))
	}
	return list
}

// someMaps also have 0 and other numbers at the empty tree.
func someMaps() [][]int64 {
	draw := drawer(82)
	list := append(someCharacters(), make([]int64, impl.MapSize), everywhere(2), everywhere(impl.Prime-1), spike(0, 1, 1), spike(0, 2, 7), spike(0, impl.MapSize-1, 5), spike(3, 0, 3))
	for _, first := range []int64{0, 0, 2, 5004, impl.Prime - 1, 77} {
		list = append(list, draw.drawn(impl.MapSize, first))
	}
	return append(list, plainScaled(plainExact(), 3), changed(plainExact(), 0, 0), changed(plainExact(), 0, 2))
}

func TestMapExamples(t *testing.T) {
	both, code := impl.Convolve(impl.ExactMap(), impl.ExactMap())
	wantList(t, "the values of Convolve at the first trees", must(both, code)[:3], code, []int64{1, 2, 2})
	raised, code := impl.RaiseMap(impl.UnitMap())
	wantList(t, "RaiseMap the unit", raised, code, spike(0, 1, 1))
	n, code := impl.ValueAt(impl.ExactMap(), [][]int64{{0, 1}, {0, 1}}) // 1/4
	wantNumber(t, "ValueAt", n, code, 2502)
	half, code := impl.ScaleMap(impl.ExactMap(), 5004)
	wantList(t, "the values of ScaleMap at the first trees", must(half, code)[:3], code, []int64{1, 5004, 1251}) // 1/2, 1/8
	back, code := impl.InverseMap(impl.ExactMap())
	wantList(t, "the values of InverseMap at the first trees", must(back, code)[:4], code, []int64{1, 10006, 5004, 8339}) // -1, 1/2, -1/6
	power, code := impl.PowerOfMap(spike(1, 1, 1), 2)
	wantList(t, "the values of PowerOfMap at the first trees", must(power, code)[:5], code, []int64{1, 2, 1, 0, 1})
	n, code = impl.OrderOfMap(spike(1, 1, 1))
	wantNumber(t, "OrderOfMap", n, code, 1)
	n, code = impl.AgreeTo(spike(4, 2, 1), spike(4, 3, 1))
	wantNumber(t, "AgreeTo", n, code, 1)
}

// TestKindsOfMaps checks IsMap, IsCharacter and IsInfinitesimal.
func TestKindsOfMaps(t *testing.T) {
	draw := drawer(83)
	list := someMaps()
	for _, first := range someNumbers {
		list = append(list, draw.drawn(impl.MapSize, first), everywhere(first), changed(everywhere(10006), 0, first))
	}
	for place := range impl.MapSize {
		list = append(list, spike(1, place, impl.Prime-1), spike(0, place, impl.Prime-1), spike(0, place, 1))
	}
	for _, a := range list {
		if !impl.IsMap(a) || impl.IsCharacter(a) != (a[0] == 1) || impl.IsInfinitesimal(a) != (a[0] == 0) {
			t.Errorf("%v is told to be a map: %v, a character: %v, infinitesimal: %v", a, impl.IsMap(a), impl.IsCharacter(a), impl.IsInfinitesimal(a))
		}
	}
	bad := notMaps()
	for place := range impl.MapSize {
		for _, value := range notNumbers {
			bad = append(bad, changed(everywhere(1), place, value), changed(make([]int64, impl.MapSize), place, value))
		}
	}
	for _, a := range bad {
		if impl.IsMap(a) || impl.IsCharacter(a) || impl.IsInfinitesimal(a) {
			t.Errorf("%v is told to be a map: %v, a character: %v, infinitesimal: %v", a, impl.IsMap(a), impl.IsCharacter(a), impl.IsInfinitesimal(a))
		}
	}
}

func TestUnitAndExactMap(t *testing.T) {
	wantList(t, "UnitMap", impl.UnitMap(), impl.ErrNone, unit(impl.MapSize))
	exact := impl.ExactMap()
	wantList(t, "ExactMap", exact, impl.ErrNone, plainExact())
	for place, list := range placedTrees()[1:] {
		i, _ := impl.IndexOf(list)
		density, _ := impl.DensityOf(list)
		if i != int64(place) || exact[place+1]*density%impl.Prime != 1 {
			t.Errorf("ExactMap has %d at %v with the density %d", exact[place+1], list, density)
		}
	}
	for n := 2; n <= impl.MaxOrder; n++ {
		value, code := impl.ValueAt(exact, [][]int64{tall(n)})
		inverse, _ := impl.DivideNumbers(1, factorial(int64(n)))
		wantNumber(t, fmt.Sprintf("the exact map at %v", tall(n)), value, code, inverse)
		value, code = impl.ValueAt(exact, [][]int64{bush(n)})
		inverse, _ = impl.DivideNumbers(1, int64(n))
		wantNumber(t, fmt.Sprintf("the exact map at %v", bush(n)), value, code, inverse)
	}
}

// TestValueAt takes all forests, with trees of MaxOrder nodes and of more among them.
func TestValueAt(t *testing.T) {
	large := 0
	for _, a := range someMaps() {
		for _, f := range forestsInOrder() {
			call := fmt.Sprintf("ValueAt(%v, %v)", a, f)
			n, code := impl.ValueAt(a, f)
			if hasLarge(f) {
				large++
				wantFault(t, call, n, code, impl.ErrRange)
			} else {
				wantNumber(t, call, n, code, plainAt(a, f))
			}
		}
		for _, none := range [][][]int64{nil, {}} {
			n, code := impl.ValueAt(a, none)
			wantNumber(t, fmt.Sprintf("ValueAt(%v, the empty forest)", a), n, code, 1)
		}
		for place, list := range placedTrees()[1:] {
			n, code := impl.ValueAt(a, [][]int64{list})
			wantNumber(t, fmt.Sprintf("ValueAt(%v, %v)", a, list), n, code, a[place+1])
		}
		for _, f := range [][][]int64{{tall(7)}, {bush(7)}, {{0}, tall(7)}, {tall(8)}, {bush(8)}} {
			n, code := impl.ValueAt(a, f)
			wantFault(t, fmt.Sprintf("ValueAt(%v, %v)", a, f), n, code, impl.ErrRange)
		}
	}
	// There are 48 trees with 7 nodes, which can stand beside one node, and 115 with 8 nodes.
	if large != (2*48+115)*len(someMaps()) {
		t.Errorf("%d values at forests with large trees are looked for", large)
	}
}

// TestScaleMap scales by all of some numbers, 0, 1 and the number of -1 among them.
func TestScaleMap(t *testing.T) {
	for _, a := range someMaps() {
		for _, k := range someNumbers {
			got, code := impl.ScaleMap(a, k)
			wantList(t, fmt.Sprintf("ScaleMap(%v, %d)", a, k), got, code, plainScaled(a, k))
			for _, l := range []int64{0, 1, 2, 5004, impl.Prime - 1} {
				twice, code := impl.ScaleMap(got, l)
				wantList(t, fmt.Sprintf("ScaleMap(ScaleMap(%v, %d), %d)", a, k, l), twice, code, plainScaled(a, k*l%impl.Prime))
			}
		}
		got, code := impl.ScaleMap(a, 0)
		wantList(t, fmt.Sprintf("ScaleMap(%v, 0)", a), got, code, spike(a[0], 0, a[0]))
		got, code = impl.ScaleMap(a, 1)
		wantList(t, fmt.Sprintf("ScaleMap(%v, 1)", a), got, code, a)
		got, code = impl.ScaleMap(a, impl.Prime-1)
		wantList(t, fmt.Sprintf("ScaleMap(%v, -1)", a), got, code, fromTrees(a[0], func(list []int64) int64 {
			return a[placesOfTrees()[fmt.Sprint(list)]] * int64(1-len(list)%2*2)
		}))
	}
}

// nodesAt is the number of nodes of the tree at a place.
func nodesAt(place int) int64 { return int64(len(placedTrees()[place])) }

// TestOrderOfMap changes the exact map at each place, and at two of them.
func TestOrderOfMap(t *testing.T) {
	draw := drawer(84)
	exact := plainExact()
	n, code := impl.OrderOfMap(exact)
	wantNumber(t, "OrderOfMap(the exact map)", n, code, impl.MaxOrder)
	n, code = impl.OrderOfMap(unit(impl.MapSize))
	wantNumber(t, "OrderOfMap(the unit)", n, code, 0)
	n, code = impl.OrderOfMap(everywhere(1))
	wantNumber(t, "OrderOfMap(1 everywhere)", n, code, 1)
	for place := 1; place < impl.MapSize; place++ {
		for _, value := range []int64{0, exact[place] + 1, draw.below(impl.Prime)} {
			if value == exact[place] {
				continue
			}
			a := changed(exact, place, value)
			n, code := impl.OrderOfMap(a)
			wantNumber(t, fmt.Sprintf("OrderOfMap(%v)", a), n, code, nodesAt(place)-1)
			b := changed(a, int(draw.below(impl.MapSize-1))+1, 12)
			first := slices.IndexFunc(placedTrees(), func(list []int64) bool {
				return b[placesOfTrees()[fmt.Sprint(list)]] != exact[placesOfTrees()[fmt.Sprint(list)]]
			})
			n, code = impl.OrderOfMap(b)
			wantNumber(t, fmt.Sprintf("OrderOfMap(%v)", b), n, code, nodesAt(first)-1)
		}
	}
	for p := int64(0); p <= impl.MaxOrder; p++ {
		a := fromTrees(1, func(list []int64) int64 {
			if int64(len(list)) > p {
				return 0
			}
			return exact[placesOfTrees()[fmt.Sprint(list)]]
		})
		n, code := impl.OrderOfMap(a)
		wantNumber(t, fmt.Sprintf("OrderOfMap(the exact map up to %d)", p), n, code, p)
	}
}

// TestAgreeTo has maps that differ at one place, at the first and the last one among them.
func TestAgreeTo(t *testing.T) {
	for _, a := range someMaps() {
		n, code := impl.AgreeTo(a, slices.Clone(a))
		wantNumber(t, fmt.Sprintf("AgreeTo(%v, itself)", a), n, code, impl.MaxOrder)
		for place := range impl.MapSize {
			b := changed(a, place, (a[place]+1)%impl.Prime)
			n, code := impl.AgreeTo(a, b)
			wantNumber(t, fmt.Sprintf("AgreeTo(%v, %v)", a, b), n, code, nodesAt(place)-1)
			n, code = impl.AgreeTo(b, a)
			wantNumber(t, fmt.Sprintf("AgreeTo(%v, %v)", b, a), n, code, nodesAt(place)-1)
		}
		for _, b := range someMaps() {
			want := int64(impl.MaxOrder)
			for place := impl.MapSize - 1; place >= 0; place-- {
				if a[place] != b[place] {
					want = nodesAt(place) - 1
				}
			}
			n, code := impl.AgreeTo(a, b)
			wantNumber(t, fmt.Sprintf("AgreeTo(%v, %v)", a, b), n, code, want)
		}
	}
	n, code := impl.AgreeTo(everywhere(0), everywhere(1))
	wantNumber(t, "AgreeTo(0 everywhere, 1 everywhere)", n, code, -1)
	n, code = impl.AgreeTo(spike(0, 1, 1), spike(1, 1, 1))
	wantNumber(t, "AgreeTo of maps that agree but at the empty tree", n, code, -1)
}

// TestTruncateMap takes the value at the empty tree to stay for each n, 0 among them.
func TestTruncateMap(t *testing.T) {
	for _, a := range someMaps() {
		for n := int64(0); n <= impl.MaxOrder; n++ {
			want := fromTrees(a[0], func(list []int64) int64 {
				if int64(len(list)) > n {
					return 0
				}
				return a[placesOfTrees()[fmt.Sprint(list)]]
			})
			got, code := impl.TruncateMap(a, n)
			wantList(t, fmt.Sprintf("TruncateMap(%v, %d)", a, n), got, code, want)
			agreed, code := impl.AgreeTo(a, got)
			if agreed < n || code != impl.ErrNone {
				t.Errorf("TruncateMap(%v, %d) agrees up to %d, code %d", a, n, agreed, code)
			}
		}
		got, code := impl.TruncateMap(a, 0)
		wantList(t, fmt.Sprintf("TruncateMap(%v, 0)", a), got, code, spike(a[0], 0, a[0]))
		got, code = impl.TruncateMap(a, impl.MaxOrder)
		wantList(t, fmt.Sprintf("TruncateMap(%v, MaxOrder)", a), got, code, a)
	}
}

// TestRaiseMap has maps with any value at the empty tree, which does not matter.
func TestRaiseMap(t *testing.T) {
	for _, a := range someMaps() {
		want := plainRaise(a)
		for _, first := range append(slices.Clone(someNumbers), a[0]) {
			got, code := impl.RaiseMap(changed(a, 0, first))
			wantList(t, fmt.Sprintf("RaiseMap(%v with %d)", a, first), got, code, want)
			if !impl.IsInfinitesimal(got) || got[1] != 1 {
				t.Errorf("RaiseMap(%v with %d) = %v is not infinitesimal, or not 1 at one node", a, first, got)
			}
		}
		for _, f := range forestsTo(impl.MaxOrder - 1) {
			n, _ := impl.ValueAt(a, f)
			raised, code := impl.ValueAt(must(impl.RaiseMap(a)), [][]int64{must(impl.RootOn(f))})
			wantNumber(t, fmt.Sprintf("RaiseMap(%v) at the root on %v", a, f), raised, code, n)
		}
	}
	// At each tree, the exact map is the value at the branches by the number of nodes.
	raised := must(impl.RaiseMap(impl.ExactMap()))
	for place := 1; place < impl.MapSize; place++ {
		if plainExact()[place]*nodesAt(place)%impl.Prime != raised[place] {
			t.Errorf("RaiseMap(the exact map) has %d at %v", raised[place], placedTrees()[place])
		}
	}
}

// beyondOrders are no numbers of nodes of trees under maps.
var beyondOrders = []int64{-1, -2, -impl.MaxOrder, impl.MaxOrder + 1, impl.MaxOrder + 2, impl.MapSize, 1 << 8, 1 << 32, -1 << 32, math.MinInt64, math.MaxInt64}

// beyondExponents are the next ones to -100 and to 100, and others.
var beyondExponents = []int64{-101, 101, -102, 102, 1000, impl.Prime - 1, impl.Prime, -impl.Prime, 1 << 8, 1<<8 + 1, 1 << 32, 1<<32 + 1, -1 << 32, math.MinInt64, math.MaxInt64}

// TestMapsInvalid gives several wrong arguments at once, which holds the order of the errors.
func TestMapsInvalid(t *testing.T) {
	for _, bad := range notMaps() {
		want := func(name string, got []int64, code int64) {
			t.Helper()
			wantNone(t, fmt.Sprintf("%s with %v", name, bad), got, code, impl.ErrInvalid)
		}
		wantZero := func(name string, got int64, code int64) {
			t.Helper()
			wantFault(t, fmt.Sprintf("%s with %v", name, bad), got, code, impl.ErrInvalid)
		}
		for _, k := range append(slices.Clone(notNumbers), 0, 1, 2) {
			got, code := impl.ScaleMap(bad, k)
			want(fmt.Sprintf("ScaleMap by %d", k), got, code)
		}
		for _, k := range append(slices.Clone(beyondExponents), 0, 1, -1, 100) {
			got, code := impl.PowerOfMap(bad, k)
			want(fmt.Sprintf("PowerOfMap to %d", k), got, code)
		}
		for _, n := range append(slices.Clone(beyondOrders), 0, 3, impl.MaxOrder) {
			got, code := impl.TruncateMap(bad, n)
			want(fmt.Sprintf("TruncateMap to %d", n), got, code)
		}
		for _, other := range [][]int64{unit(impl.MapSize), everywhere(0), everywhere(2), bad, nil} {
			got, code := impl.Convolve(bad, other)
			want(fmt.Sprintf("Convolve before %v", other), got, code)
			got, code = impl.Convolve(other, bad)
			want(fmt.Sprintf("Convolve behind %v", other), got, code)
			n, code := impl.AgreeTo(bad, other)
			wantZero(fmt.Sprintf("AgreeTo before %v", other), n, code)
			n, code = impl.AgreeTo(other, bad)
			wantZero(fmt.Sprintf("AgreeTo behind %v", other), n, code)
		}
		for _, f := range [][][]int64{nil, {{0}}, {tall(7)}, {bush(8)}, {{0, 1}, {0}}, {nil}} {
			n, code := impl.ValueAt(bad, f)
			wantZero(fmt.Sprintf("ValueAt at %v", f), n, code)
		}
		got, code := impl.InverseMap(bad)
		want("InverseMap", got, code)
		got, code = impl.RaiseMap(bad)
		want("RaiseMap", got, code)
		n, code := impl.OrderOfMap(bad)
		wantZero("OrderOfMap", n, code)
	}
	for _, f := range append(notForests(), [][]int64{tall(7), {0}}, [][]int64{tall(7), tall(7)}, [][]int64{tall(9)}) {
		for _, a := range [][]int64{unit(impl.MapSize), everywhere(0), everywhere(2)} {
			n, code := impl.ValueAt(a, f)
			wantFault(t, fmt.Sprintf("ValueAt(%v, %v)", a, f), n, code, impl.ErrInvalid)
		}
	}
}

// TestMapsRange has maps that are no characters among the others, for which ErrState comes later.
func TestMapsRange(t *testing.T) {
	for _, a := range someMaps() {
		for _, k := range append(slices.Clone(notNumbers), 1<<16+1, 1<<32, 1<<32+1) {
			got, code := impl.ScaleMap(a, k)
			wantNone(t, fmt.Sprintf("ScaleMap(%v, %d)", a, k), got, code, impl.ErrRange)
		}
		for _, k := range beyondExponents {
			got, code := impl.PowerOfMap(a, k)
			wantNone(t, fmt.Sprintf("PowerOfMap(%v, %d)", a, k), got, code, impl.ErrRange)
		}
		for _, n := range beyondOrders {
			got, code := impl.TruncateMap(a, n)
			wantNone(t, fmt.Sprintf("TruncateMap(%v, %d)", a, n), got, code, impl.ErrRange)
		}
	}
}

// TestMapsState has maps that are no characters, the infinitesimal ones among them.
func TestMapsState(t *testing.T) {
	list := someMaps()
	for _, first := range someNumbers {
		list = append(list, changed(plainExact(), 0, first), spike(first, 1, 1))
	}
	for _, a := range list {
		if a[0] == 1 {
			continue
		}
		for _, b := range [][]int64{a, unit(impl.MapSize), everywhere(0), everywhere(7)} {
			got, code := impl.Convolve(a, b)
			wantNone(t, fmt.Sprintf("Convolve(%v, %v)", a, b), got, code, impl.ErrState)
		}
		got, code := impl.InverseMap(a)
		wantNone(t, fmt.Sprintf("InverseMap(%v)", a), got, code, impl.ErrState)
		for _, k := range []int64{-100, -1, 0, 1, 2, 100} {
			got, code := impl.PowerOfMap(a, k)
			wantNone(t, fmt.Sprintf("PowerOfMap(%v, %d)", a, k), got, code, impl.ErrState)
		}
		n, code := impl.OrderOfMap(a)
		wantFault(t, fmt.Sprintf("OrderOfMap(%v)", a), n, code, impl.ErrState)
	}
}

// resultsOfMaps calls all functions that return maps.
func resultsOfMaps(a []int64, b []int64) [][]int64 {
	return [][]int64{
		impl.UnitMap(), impl.ExactMap(), must(impl.ScaleMap(a, 3)), must(impl.ScaleMap(b, 1)), must(impl.Convolve(a, b)), must(impl.Convolve(a, a)),
		must(impl.InverseMap(a)), must(impl.PowerOfMap(a, 1)), must(impl.PowerOfMap(a, 0)), must(impl.PowerOfMap(a, -5)),
		must(impl.TruncateMap(a, 2)), must(impl.TruncateMap(b, impl.MaxOrder)), must(impl.RaiseMap(a)), must(impl.RaiseMap(b)),
	}
}

// TestMapsMemory checks that arguments stay as they are, and that results are new memory: what is
// written into some does not come back in others.
func TestMapsMemory(t *testing.T) {
	draw := drawer(85)
	first, second, f := draw.drawn(impl.MapSize, 1), draw.drawn(impl.MapSize, 4), [][]int64{{0}, {0, 1, 2, 1}}
	maps, rows := guarded([][]int64{first, second}), guarded(f)
	want := resultsOfMaps(first, second)
	for i, got := range want {
		want[i] = slices.Clone(got)
	}
	for range 2 {
		results := resultsOfMaps(maps[0], maps[1])
		wantRows(t, "the functions of maps", results, impl.ErrNone, want)
		wantApart(t, "the functions of maps", append(results, resultsOfMaps(maps[0], maps[1])...)...)
		for _, a := range maps {
			impl.IsMap(a)
			impl.IsCharacter(a)
			impl.IsInfinitesimal(a)
			impl.OrderOfMap(a)
			impl.AgreeTo(a, maps[1])
			impl.ValueAt(a, rows)
		}
		wantUntouched(t, "a function of maps", maps, [][]int64{first, second})
		wantUntouched(t, "a function of maps", rows, f)
	}
}
