package tests

import (
	"fmt"
	"slices"
	"sync"
	"testing"

	"loop.example/g01100/impl"
)

// noMap is 0 everywhere.
func noMap() []int64 { return make([]int64, impl.MapSize) }

// multiple multiplies the values of a map.
func multiple(a []int64, k int64) []int64 { return plainSum(noMap(), k, a) }

// fraction is the number of p/q.
func fraction(p int64, q int64) int64 {
	value, _ := impl.NumberOf(p, q)
	return value
}

// plainAction adds over cuts, by sets of nodes, whose crowns have one tree.
func plainAction(b []int64, x []int64) []int64 {
	sums := noMap()
	for place, splits := range placedSplits() {
		for _, split := range splits {
			if len(split.Crown) == 1 {
				sums[place] += split.Count * plainAt(b, split.Crown) % impl.Prime * plainTrunk(x, split.Trunk) % impl.Prime
			}
		}
		sums[place] %= impl.Prime
	}
	return sums
}

func plainBracket(b []int64, c []int64) []int64 {
	return plainSum(plainAction(b, c), impl.Prime-1, plainAction(c, b))
}

// someInfinitesimals are simple ones, 0 everywhere among them, and drawn ones.
func someInfinitesimals() [][]int64 {
	draw := drawer(100)
	list := [][]int64{noMap(), spike(0, 1, 1), spike(0, 1, 10006), spike(0, 2, 7), spike(0, 4, 1), spike(0, impl.MapSize-1, 5)}
	list = append(list, changed(everywhere(1), 0, 0), changed(everywhere(impl.Prime-1), 0, 0), changed(plainExact(), 0, 0), plainRaise(plainExact()))
	for range 4 {
		list = append(list, draw.drawn(impl.MapSize, 0))
	}
	return list
}

func TestInfinitesimalExamples(t *testing.T) {
	dot, pair := spike(0, 1, 1), spike(0, 2, 1)
	got, code := impl.ExpMap(dot)
	wantList(t, "ExpMap(1 at one node)", got, code, impl.ExactMap())
	got, code = impl.LogMap(impl.ExactMap())
	wantList(t, "LogMap(the exact map)", got, code, dot)
	got, code = impl.AddMaps(spike(10006, 1, 7), spike(3, 2, 5))
	wantList(t, "AddMaps", must(got, code)[:4], code, []int64{2, 7, 5, 0})
	got, code = impl.MultiplyMap(spike(2, 1, 10006), 3)
	wantList(t, "MultiplyMap", must(got, code)[:3], code, []int64{6, 10004, 0})
	// A leaf is cut off from {0, 1, 2} once and from {0, 1, 1} twice, a pair from {0, 1, 2} once.
	got, code = impl.ActOn(dot, pair)
	wantList(t, "ActOn(one node, a pair)", must(got, code)[:6], code, []int64{0, 0, 0, 1, 2, 0})
	got, code = impl.ActOn(pair, dot)
	wantList(t, "ActOn(a pair, one node)", must(got, code)[:6], code, []int64{0, 0, 0, 1, 0, 0})
	got, code = impl.BracketOf(dot, pair)
	wantList(t, "BracketOf(one node, a pair)", must(got, code)[:6], code, []int64{0, 0, 0, 0, 2, 0})
	// Whole trees are cut off as well, which leaves the empty tree.
	got, code = impl.ActOn(pair, spike(4, 1, 5))
	wantList(t, "ActOn(a pair, a map with 4 at the empty tree)", must(got, code)[:6], code, []int64{0, 0, 4, 5, 0, 0})
	// The modified equation of the method that is 1 at one node has -1/2, 1/3 and 1/6.
	got, code = impl.LogMap(spike(1, 1, 1))
	wantList(t, "LogMap(1 at one node)", must(got, code)[:5], code, []int64{0, 1, fraction(-1, 2), fraction(1, 3), fraction(1, 6)})
	got, code = impl.FlowMap(dot, 3)
	wantList(t, "FlowMap(1 at one node, 3)", must(got, code)[:5], code, []int64{1, 3, fraction(9, 2), fraction(27, 6), 9})
	got, code = impl.RootOfMap(impl.ExactMap(), 2)
	wantList(t, "RootOfMap(the exact map, 2)", must(got, code)[:4], code, []int64{1, fraction(1, 2), fraction(1, 8), fraction(1, 48)})
	got, code = impl.LogOfProduct(dot, pair)
	wantList(t, "LogOfProduct", must(got, code)[:5], code, []int64{0, 1, 1, 0, 1})
	got, code = impl.PartOfMap(impl.ExactMap(), 2)
	wantList(t, "PartOfMap(the exact map, 2)", got, code, spike(0, 2, fraction(1, 2)))
}

// TestAddMaps has maps of all kinds, with any values at the empty tree.
func TestAddMaps(t *testing.T) {
	draw := drawer(101)
	list := someMaps()
	for _, first := range []int64{0, 1, 2, 10005, 10006} {
		list = append(list, draw.drawn(impl.MapSize, first), everywhere(first))
	}
	for _, a := range list {
		for _, b := range list {
			got, code := impl.AddMaps(a, b)
			wantList(t, fmt.Sprintf("AddMaps(%v, %v)", a, b), got, code, plainSum(a, 1, b))
		}
		got, code := impl.AddMaps(a, noMap())
		wantList(t, fmt.Sprintf("AddMaps(%v, 0 everywhere)", a), got, code, a)
	}
}

// TestMultiplyMap has multiples by 0, by 1 and by the number of -1 among the others.
func TestMultiplyMap(t *testing.T) {
	for _, a := range someMaps() {
		for _, k := range someNumbers {
			got, code := impl.MultiplyMap(a, k)
			wantList(t, fmt.Sprintf("MultiplyMap(%v, %d)", a, k), got, code, multiple(a, k))
		}
		got, code := impl.MultiplyMap(a, 0)
		wantList(t, fmt.Sprintf("MultiplyMap(%v, 0)", a), got, code, noMap())
		got, code = impl.MultiplyMap(a, 1)
		wantList(t, fmt.Sprintf("MultiplyMap(%v, 1)", a), got, code, a)
		got, code = impl.MultiplyMap(a, 2)
		wantList(t, fmt.Sprintf("MultiplyMap(%v, 2)", a), got, code, must(impl.AddMaps(a, a)))
		got, code = impl.AddMaps(a, must(impl.MultiplyMap(a, impl.Prime-1)))
		wantList(t, fmt.Sprintf("%v and -1 times it", a), got, code, noMap())
	}
}

// TestActOn has all infinitesimal maps with all maps, of any value at the empty tree.
func TestActOn(t *testing.T) {
	for _, b := range someInfinitesimals() {
		for _, x := range someMaps() {
			got, code := impl.ActOn(b, x)
			wantList(t, fmt.Sprintf("ActOn(%v, %v)", b, x), got, code, plainAction(b, x))
		}
		got, code := impl.ActOn(b, impl.UnitMap())
		wantList(t, fmt.Sprintf("ActOn(%v, the unit)", b), got, code, b)
		got, code = impl.ActOn(b, noMap())
		wantList(t, fmt.Sprintf("ActOn(%v, 0 everywhere)", b), got, code, noMap())
	}
}

// TestActionsOfSingleTrees holds what promise 22 says of maps of single trees: they act on maps of
// single trees, the empty one among them, by numbers of cuts.
func TestActionsOfSingleTrees(t *testing.T) {
	trees := placedTrees()
	for crown := 1; crown < impl.MapSize; crown++ {
		for trunk := range impl.MapSize {
			x := noMap()
			x[trunk] = 1
			want := noMap()
			for place := 1; place < impl.MapSize; place++ {
				if nodesAt(place) != nodesAt(crown)+nodesAt(trunk) {
					continue
				}
				want[place], _ = impl.CountCut(trees[place], trees[crown:crown+1], trees[trunk])
				if n, _ := impl.CountCutsTo(trees[place], trees[trunk], trees[crown]); trunk > 0 && n != want[place] {
					t.Errorf("%v is cut to %v and %v in %d or in %d ways", trees[place], trees[crown], trees[trunk], want[place], n)
				}
			}
			got, code := impl.ActOn(spike(0, crown, 1), x)
			wantList(t, fmt.Sprintf("the map of %v acting on that of %v", trees[crown], trees[trunk]), got, code, want)
		}
	}
}

// TestSingleTreesOnMaps has maps of single trees that act on maps whose values at the empty tree are
// not 0: that value comes out at the tree itself.
func TestSingleTreesOnMaps(t *testing.T) {
	draw := drawer(102)
	for place := 1; place < impl.MapSize; place++ {
		for _, first := range []int64{0, 1, 2, 10006} {
			b, x := spike(0, place, 1+draw.below(impl.Prime-1)), draw.drawn(impl.MapSize, first)
			got, code := impl.ActOn(b, x)
			wantList(t, fmt.Sprintf("ActOn(%v, %v)", b, x), got, code, plainAction(b, x))
			if code == impl.ErrNone && (got[0] != 0 || got[place] != b[place]*first%impl.Prime) {
				t.Errorf("ActOn(%v, %v) has %d and %d", b, x, got[0], got[place])
			}
		}
	}
}

// TestActionsAreGraftings holds the part of promise 22 that ties actions to grafting: multiplied by
// symmetries, cuts become graft sums.
func TestActionsAreGraftings(t *testing.T) {
	trees := placedTrees()
	for first := 1; first < impl.MapSize; first++ {
		for second := 1; nodesAt(first)+nodesAt(second) <= impl.MaxOrder; second++ {
			sum, _ := impl.GraftSum(trees[second], trees[first])
			want := noMap()
			for _, counted := range sum {
				want[placesOfTrees()[fmt.Sprint(counted.Tree)]] = counted.Count * symmetryOf(counted.Tree) % impl.Prime
			}
			b, x := spike(0, first, symmetryOf(trees[first])), spike(0, second, symmetryOf(trees[second]))
			got, code := impl.ActOn(b, x)
			wantList(t, fmt.Sprintf("grafting %v to %v", trees[first], trees[second]), got, code, want)
		}
	}
}

// acted is ActOn for maps that are known to be right.
func acted(b []int64, x []int64) []int64 { return must(impl.ActOn(b, x)) }

// bracketOf is BracketOf for maps that are known to be infinitesimal.
func bracketOf(b []int64, c []int64) []int64 { return must(impl.BracketOf(b, c)) }

// less takes one map from another one.
func less(a []int64, b []int64) []int64 { return plainSum(a, impl.Prime-1, b) }

// TestActionsSatisfyGrafting holds the identity of grafting for actions, and that brackets act like
// what two actions differ by in the other order.
func TestActionsSatisfyGrafting(t *testing.T) {
	draw := drawer(103)
	list, maps := someInfinitesimals(), someMaps()
	for _, b := range list {
		for _, c := range list {
			x, y := maps[draw.below(int64(len(maps)))], draw.list(impl.MapSize)
			call := fmt.Sprintf("actions of %v and of %v on %v", b, c, x)
			first, second := acted(b, acted(c, x)), acted(c, acted(b, x))
			one, other := less(first, acted(acted(b, c), x)), less(second, acted(acted(c, b), x))
			wantList(t, call, one, impl.ErrNone, other)
			got, code := impl.ActOn(bracketOf(b, c), x)
			wantList(t, "the bracket for "+call, got, code, less(first, second))
			got, code = impl.ActOn(plainSum(b, 3, c), plainSum(x, 5, y))
			left, right := plainSum(acted(b, x), 3, acted(c, x)), plainSum(acted(b, y), 3, acted(c, y))
			wantList(t, "sums for "+call, got, code, plainSum(left, 5, right))
		}
	}
}

// TestBracketOf has brackets of maps with themselves and with their multiples, too.
func TestBracketOf(t *testing.T) {
	draw := drawer(104)
	list := someInfinitesimals()
	for _, b := range list {
		for _, c := range list {
			got, code := impl.BracketOf(b, c)
			wantList(t, fmt.Sprintf("BracketOf(%v, %v)", b, c), got, code, plainBracket(b, c))
			back, code := impl.BracketOf(c, b)
			wantList(t, fmt.Sprintf("BracketOf(%v, %v)", c, b), back, code, multiple(got, impl.Prime-1))
		}
		got, code := impl.BracketOf(b, b)
		wantList(t, fmt.Sprintf("BracketOf(%v, itself)", b), got, code, noMap())
		got, code = impl.BracketOf(multiple(b, 5), b)
		wantList(t, fmt.Sprintf("BracketOf(5 times %v, it)", b), got, code, noMap())
		got, code = impl.BracketOf(b, noMap())
		wantList(t, fmt.Sprintf("BracketOf(%v, 0 everywhere)", b), got, code, noMap())
		c, d := draw.drawn(impl.MapSize, 0), draw.drawn(impl.MapSize, 0)
		got, code = impl.BracketOf(b, plainSum(c, 7, d))
		wantList(t, fmt.Sprintf("BracketOf(%v, %v and 7 times %v)", b, c, d), got, code, plainSum(bracketOf(b, c), 7, bracketOf(b, d)))
	}
}

// wantJacobi checks that the brackets of three maps, in turn, have the sum 0.
func wantJacobi(t *testing.T, b []int64, c []int64, d []int64) {
	t.Helper()
	sum := noMap()
	for range 3 {
		inner, code := impl.BracketOf(c, d)
		outer, more := impl.BracketOf(b, inner)
		if code != impl.ErrNone || more != impl.ErrNone {
			t.Errorf("brackets of %v, %v and %v: codes %d, %d", b, c, d, code, more)
			return
		}
		sum = plainSum(sum, 1, outer)
		b, c, d = c, d, b
	}
	wantList(t, fmt.Sprintf("Jacobi's sum of %v, %v and %v", b, c, d), sum, impl.ErrNone, noMap())
}

// TestJacobi holds what promise 22 says of brackets, for maps of single trees and for others.
func TestJacobi(t *testing.T) {
	places := 0
	for nodesAt(places+1) <= impl.MaxOrder-2 {
		places++
	}
	for i := 1; i <= places; i++ {
		for j := i; j <= places; j++ {
			for k := j; k <= places && nodesAt(i)+nodesAt(j)+nodesAt(k) <= impl.MaxOrder; k++ {
				wantJacobi(t, spike(0, i, 1), spike(0, j, 1), spike(0, k, 1))
			}
		}
	}
	list := someInfinitesimals()
	for i, b := range list {
		for k := i; k < len(list); k++ {
			wantJacobi(t, b, list[k], list[(i+k)%len(list)])
		}
	}
	draw := drawer(105)
	for range 20 {
		wantJacobi(t, draw.drawn(impl.MapSize, 0), draw.drawn(impl.MapSize, 0), draw.drawn(impl.MapSize, 0))
	}
}

// TestPartOfMap has the part at 0, which is the value at the empty tree alone, and that at MaxOrder.
func TestPartOfMap(t *testing.T) {
	for _, a := range someMaps() {
		sum := noMap()
		for n := int64(0); n <= impl.MaxOrder; n++ {
			want := noMap()
			for place := range want {
				if nodesAt(place) == n {
					want[place] = a[place]
				}
			}
			got, code := impl.PartOfMap(a, n)
			wantList(t, fmt.Sprintf("PartOfMap(%v, %d)", a, n), got, code, want)
			sum = plainSum(sum, 1, got)
			whole, code := impl.TruncateMap(a, n)
			wantList(t, fmt.Sprintf("the parts of %v up to %d", a, n), sum, code, whole)
		}
		wantList(t, fmt.Sprintf("all parts of %v", a), sum, impl.ErrNone, a)
		got, code := impl.PartOfMap(a, 0)
		wantList(t, fmt.Sprintf("PartOfMap(%v, 0)", a), got, code, spike(a[0], 0, a[0]))
	}
}

// beyondRoots are no exponents of roots: the next ones to 1 and to 100, and others.
var beyondRoots = append(slices.Clone(beyondExponents), 0, -1, -2, -100)

// TestInfinitesimalInvalid gives several wrong arguments at once, which holds the order of the
// errors: what is no map comes first.
func TestInfinitesimalInvalid(t *testing.T) {
	others := [][]int64{unit(impl.MapSize), noMap(), everywhere(2), spike(0, 1, 1), nil}
	pairs := map[string]func([]int64, []int64) ([]int64, int64){
		"AddMaps": impl.AddMaps, "ActOn": impl.ActOn, "BracketOf": impl.BracketOf, "LogOfProduct": impl.LogOfProduct,
	}
	numbered := map[string]func([]int64, int64) ([]int64, int64){
		"MultiplyMap": impl.MultiplyMap, "FlowMap": impl.FlowMap, "RootOfMap": impl.RootOfMap, "PartOfMap": impl.PartOfMap,
	}
	for _, bad := range notMaps() {
		for name, call := range pairs {
			for _, other := range append(slices.Clone(others), bad) {
				got, code := call(bad, other)
				wantNone(t, fmt.Sprintf("%s(%v, %v)", name, bad, other), got, code, impl.ErrInvalid)
				got, code = call(other, bad)
				wantNone(t, fmt.Sprintf("%s(%v, %v)", name, other, bad), got, code, impl.ErrInvalid)
			}
		}
		for name, call := range numbered {
			for _, k := range append(slices.Concat(notNumbers, beyondRoots, beyondOrders), 0, 1, 2, impl.MaxOrder, 100) {
				got, code := call(bad, k)
				wantNone(t, fmt.Sprintf("%s(%v, %d)", name, bad, k), got, code, impl.ErrInvalid)
			}
		}
		got, code := impl.ExpMap(bad)
		wantNone(t, fmt.Sprintf("ExpMap(%v)", bad), got, code, impl.ErrInvalid)
		got, code = impl.LogMap(bad)
		wantNone(t, fmt.Sprintf("LogMap(%v)", bad), got, code, impl.ErrInvalid)
	}
}

// TestInfinitesimalRange has maps that are not infinitesimal, or no characters, among the others:
// their ErrState comes later.
func TestInfinitesimalRange(t *testing.T) {
	for _, a := range append(someMaps(), someInfinitesimals()...) {
		for _, k := range append(slices.Clone(notNumbers), 1<<16+1, 1<<32, 1<<32+1) {
			got, code := impl.MultiplyMap(a, k)
			wantNone(t, fmt.Sprintf("MultiplyMap(%v, %d)", a, k), got, code, impl.ErrRange)
			got, code = impl.FlowMap(a, k)
			wantNone(t, fmt.Sprintf("FlowMap(%v, %d)", a, k), got, code, impl.ErrRange)
		}
		for _, k := range beyondRoots {
			got, code := impl.RootOfMap(a, k)
			wantNone(t, fmt.Sprintf("RootOfMap(%v, %d)", a, k), got, code, impl.ErrRange)
		}
		for _, n := range beyondOrders {
			got, code := impl.PartOfMap(a, n)
			wantNone(t, fmt.Sprintf("PartOfMap(%v, %d)", a, n), got, code, impl.ErrRange)
		}
	}
}

// TestInfinitesimalState has maps that are not of the kind that is asked for, alone, as the first one
// and as the second one.
func TestInfinitesimalState(t *testing.T) {
	list := append(someMaps(), someInfinitesimals()...)
	for _, first := range someNumbers {
		list = append(list, changed(plainExact(), 0, first), spike(first, 1, 1))
	}
	for _, a := range list {
		want := func(name string, got []int64, code int64) {
			t.Helper()
			wantNone(t, fmt.Sprintf("%s with %v", name, a), got, code, impl.ErrState)
		}
		if a[0] != 1 {
			got, code := impl.LogMap(a)
			want("LogMap", got, code)
			for _, k := range []int64{1, 2, 50, 100} {
				got, code := impl.RootOfMap(a, k)
				want(fmt.Sprintf("RootOfMap to %d", k), got, code)
			}
		}
		if a[0] == 0 {
			continue
		}
		got, code := impl.ExpMap(a)
		want("ExpMap", got, code)
		for _, s := range []int64{0, 1, 2, impl.Prime - 1} {
			got, code := impl.FlowMap(a, s)
			want(fmt.Sprintf("FlowMap with %d", s), got, code)
		}
		for _, other := range [][]int64{a, noMap(), spike(0, 1, 1), unit(impl.MapSize)} {
			got, code := impl.ActOn(a, other)
			want(fmt.Sprintf("ActOn on %v", other), got, code)
			got, code = impl.BracketOf(a, other)
			want(fmt.Sprintf("BracketOf before %v", other), got, code)
			got, code = impl.BracketOf(other, a)
			want(fmt.Sprintf("BracketOf behind %v", other), got, code)
			got, code = impl.LogOfProduct(a, other)
			want(fmt.Sprintf("LogOfProduct before %v", other), got, code)
			got, code = impl.LogOfProduct(other, a)
			want(fmt.Sprintf("LogOfProduct behind %v", other), got, code)
		}
	}
}

// resultsOfInfinitesimals calls all functions of the chapter, with a character and two infinitesimal
// maps.
func resultsOfInfinitesimals(a []int64, b []int64, c []int64) [][]int64 {
	return [][]int64{
		must(impl.AddMaps(a, b)), must(impl.AddMaps(a, a)), must(impl.MultiplyMap(a, 1)), must(impl.MultiplyMap(b, 0)), must(impl.ActOn(b, a)), must(impl.ActOn(b, b)),
		must(impl.BracketOf(b, c)), must(impl.BracketOf(b, b)), must(impl.ExpMap(b)), must(impl.LogMap(a)), must(impl.FlowMap(b, 1)), must(impl.FlowMap(c, 0)),
		must(impl.RootOfMap(a, 1)), must(impl.RootOfMap(a, 100)), must(impl.LogOfProduct(b, c)), must(impl.LogOfProduct(b, b)),
		must(impl.PartOfMap(a, 0)), must(impl.PartOfMap(c, impl.MaxOrder)),
	}
}

// TestInfinitesimalMemory checks that arguments stay as they are, and that results are new memory:
// what is written into some does not come back in others.
func TestInfinitesimalMemory(t *testing.T) {
	draw := drawer(106)
	lists := [][]int64{draw.drawn(impl.MapSize, 1), draw.drawn(impl.MapSize, 0), draw.drawn(impl.MapSize, 0)}
	maps := guarded(lists)
	want := resultsOfInfinitesimals(lists[0], lists[1], lists[2])
	for i, got := range want {
		want[i] = slices.Clone(got)
		if len(got) != impl.MapSize {
			t.Errorf("result %d of the functions of infinitesimal maps is %v", i, got)
		}
	}
	for range 2 {
		results := resultsOfInfinitesimals(maps[0], maps[1], maps[2])
		wantRows(t, "the functions of infinitesimal maps", results, impl.ErrNone, want)
		wantApart(t, "the functions of infinitesimal maps", append(results, resultsOfInfinitesimals(maps[0], maps[1], maps[2])...)...)
		wantUntouched(t, "a function of infinitesimal maps", maps, lists)
	}
}

// TestInfinitesimalsAtOnce makes calls at the same time, which may not change what they return.
func TestInfinitesimalsAtOnce(t *testing.T) {
	draw := drawer(107)
	lists := [][]int64{draw.drawn(impl.MapSize, 1), draw.drawn(impl.MapSize, 0), draw.drawn(impl.MapSize, 0)}
	want := resultsOfInfinitesimals(lists[0], lists[1], lists[2])
	got := make([][][]int64, 16)
	var calls sync.WaitGroup
	for i := range got {
		calls.Go(func() { got[i] = resultsOfInfinitesimals(lists[0], lists[1], lists[2]) })
	}
	calls.Wait()
	for _, results := range got {
		wantRows(t, "results of calls at the same time", results, impl.ErrNone, want)
	}
}
