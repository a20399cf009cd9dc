package tests

import (
	"fmt"
	"math"
	"slices"
	"sync"
	"testing"

	"loop.example/g01100/impl"
)

// An exchange has the places of trees u and v, and those of both Butcher products, u o v first.
type exchange struct{ u, v, first, second int }

// isLike tells whether both have the same two trees.
func (e exchange) isLike(other exchange) bool {
	return e.u == other.u && e.v == other.v || e.u == other.v && e.v == other.u
}

func plainButcher(u []int64, v []int64) []int64 {
	return plainCanonical(append(slices.Clone(u), plainRaised(v, 1)...))
}

// exchanges has all trees u and v with at most MaxOrder nodes together, fewer nodes first.
var exchanges = sync.OnceValue(func() []exchange {
	var list []exchange
	trees := placedTrees()
	place := func(list []int64) int { return placesOfTrees()[fmt.Sprint(list)] }
	for nodes := int64(2); nodes <= impl.MaxOrder; nodes++ {
		for u := 1; u < impl.MapSize; u++ {
			for v := 1; v < impl.MapSize; v++ {
				if nodesAt(u)+nodesAt(v) == nodes {
					list = append(list, exchange{u, v, place(plainButcher(trees[u], trees[v])), place(plainButcher(trees[v], trees[u]))})
				}
			}
		}
	}
	return list
})

// plainExchangesTo finds the first exchange for which a map does not have the sum that is asked for.
func plainExchangesTo(a []int64, sum func(e exchange) int64) int64 {
	for _, e := range exchanges() {
		if remainder(a[e.first]+a[e.second]-sum(e)) != 0 {
			return nodesAt(e.first) - 1
		}
	}
	return impl.MaxOrder
}

func plainSymplecticTo(a []int64) int64 {
	return plainExchangesTo(a, func(e exchange) int64 { return a[e.u] * a[e.v] })
}

func plainHamiltonianTo(b []int64) int64 {
	return plainExchangesTo(b, func(exchange) int64 { return 0 })
}

// plainSquares are the Butcher products of trees with themselves.
var plainSquares = sync.OnceValue(func() [][]int64 {
	var squares [][]int64
	for _, tree := range plainTrees(impl.MaxNodes / 2) {
		squares = append(squares, plainButcher(tree.list(), tree.list()))
	}
	return squares
})

func plainIsSuperfluous(list []int64) bool {
	isSquare := func(root []int64) bool {
		return slices.ContainsFunc(plainSquares(), func(square []int64) bool { return slices.Equal(root, square) })
	}
	return slices.ContainsFunc(plainRoots(list), isSquare)
}

// plainConditions are the free conditions with at most MaxNodes nodes in the order of trees.
var plainConditions = sync.OnceValue(func() [][]int64 {
	var conditions [][]int64
	for _, tree := range plainTrees(impl.MaxNodes) {
		if list := tree.list(); slices.Equal(list, plainFree(list)) && !plainIsSuperfluous(list) {
			conditions = append(conditions, list)
		}
	}
	return conditions
})

// conditionPlaces are the places of those with at most MaxOrder nodes.
func conditionPlaces() []int {
	var places []int
	for _, list := range plainConditions()[:impl.FreeNumbers] {
		places = append(places, placesOfTrees()[fmt.Sprint(list)])
	}
	return places
}

// levelsToFree has the levels of all nodes of a tree at which rerooting leads to the free form.
func levelsToFree(list []int64) []int64 {
	free := plainFree(list)
	var levels []int64
	for node, level := range list {
		if slices.Equal(plainReroot(list, node), free) {
			levels = append(levels, level)
		}
	}
	return levels
}

// plainSigns has, by places, the index of the free condition to which rerooting leads, and a sign, which
// is 0 if the tree is superfluous.
var plainSigns = sync.OnceValue(func() [][2]int64 {
	signs := [][2]int64{{0, 0}}
	for _, list := range placedTrees()[1:] {
		free := plainFree(list)
		index := slices.IndexFunc(plainConditions(), func(other []int64) bool { return slices.Equal(other, free) })
		switch {
		case plainIsSuperfluous(list):
			signs = append(signs, [2]int64{0, 0})
		case levelsToFree(list)[0]%2 == 0:
			signs = append(signs, [2]int64{int64(index), 1})
		default:
			signs = append(signs, [2]int64{int64(index), -1})
		}
	}
	return signs
})

// plainHamiltonian makes a map of FreeNumbers numbers.
func plainHamiltonian(numbers []int64) []int64 {
	b := noMap()
	for place, sign := range plainSigns() {
		b[place] = remainder(sign[1] * numbers[sign[0]])
	}
	return b
}

// faultAt is an infinitesimal map for which the exchange of two trees alone shows that it is not
// Hamiltonian: from one of both products on, it has x and the opposite number in turns at all trees to
// which other exchanges lead. None of these may lead from a tree to itself, as it does on one side of
// superfluous trees; then the map begins on the other side.
func faultAt(wrong exchange, x int64) []int64 {
	b := spike(0, wrong.first, x)
	for isLonger := true; isLonger; {
		isLonger = false
		for _, e := range exchanges() {
			if e.isLike(wrong) || b[e.first] == 0 {
				continue
			}
			if e.first == e.second {
				return faultAt(exchange{wrong.v, wrong.u, wrong.second, wrong.first}, x)
			}
			if b[e.second] == 0 {
				b[e.second] = prime - b[e.first]
				isLonger = true
			}
		}
	}
	return b
}

// symplecticCharacters are those of tableaus, and others.
func symplecticCharacters() [][]int64 {
	draw := drawer(157)
	exact := plainExact()
	list := [][]int64{exact, unit(impl.MapSize), plainScaled(exact, 7), plainScaled(exact, impl.Prime-1)}
	for _, x := range symplecticTableaus() {
		list = append(list, plainCharacterOf(x))
	}
	for range 12 {
		list = append(list, plainFlow(plainHamiltonian(draw.drawn(impl.FreeNumbers)), 1))
	}
	return list
}

// partlySymplectic are characters that are symplectic up to all numbers.
func partlySymplectic() [][]int64 {
	draw := drawer(158)
	list := append(symplecticCharacters()[:8:8], everywhere(1), spike(1, 1, 1), spike(1, 1, impl.Prime-1), spike(1, 1, 2))
	for _, named := range namedCases() {
		list = append(list, plainCharacterOf(named.tableau))
	}
	list = append(list, plainCharacterOf(fifth()), plainCharacterOf(sixth()))
	for range 4 {
		a := plainFlow(plainHamiltonian(draw.drawn(impl.FreeNumbers)), 1)
		for place := 1; place < impl.MapSize; place++ {
			list = append(list, changed(a, place, draw.below(impl.Prime)))
		}
	}
	return list
}

func TestHamiltonianExamples(t *testing.T) {
	if impl.FreeNumbers != 10 {
		t.Errorf("FreeNumbers = %d", impl.FreeNumbers)
	}
	for n, want := range map[int64][][]int64{
		1: {{0}}, 2: nil, 3: {{0, 1, 2}}, 4: {{0, 1, 2, 2}}, 5: {{0, 1, 2, 3, 4}, {0, 1, 2, 3, 3}, {0, 1, 2, 2, 2}},
		6: {{0, 1, 2, 3, 4, 4}, {0, 1, 2, 3, 4, 3}, {0, 1, 2, 3, 3, 3}, {0, 1, 2, 2, 2, 2}},
	} {
		got, code := impl.FreeConditions(n)
		wantRows(t, fmt.Sprintf("FreeConditions(%d)", n), got, code, want)
	}
	b, code := impl.HamiltonianOf([]int64{1, 2, 3, 4, 5, 6, 7, 8, 9, 10})
	// {0}, then {0, 1}, {0, 1, 2} and {0, 1, 1}, then {0, 1, 2, 3}, {0, 1, 2, 2}, {0, 1, 2, 1} and {0, 1, 1, 1}.
	wantList(t, "the values of HamiltonianOf at the first trees", must(b, code)[:9], code, []int64{0, 1, 0, 2, impl.Prime - 2, 0, 3, 0, impl.Prime - 3})
	numbers, code := impl.FreeNumbersOf(b)
	wantList(t, "FreeNumbersOf", numbers, code, []int64{1, 2, 3, 4, 5, 6, 7, 8, 9, 10})
	for place, want := range map[int]int64{1: 6, 2: 1, 3: 2, 4: 2, 5: 3, 8: 3, 9: 4, impl.MapSize - 1: 5} {
		n, code := impl.HamiltonianTo(spike(0, place, 1))
		wantNumber(t, fmt.Sprintf("HamiltonianTo(1 at %v)", placedTrees()[place]), n, code, want)
	}
	for i, c := range []struct{ symplectic, reduced int64 }{
		{1, 2}, {6, 4}, {3, 2}, {1, 2}, {3, 4}, {4, 4}, {6, 2}, {2, 2}, {3, 3}, {2, 2}, {4, 4}, {2, 2},
	} {
		named := namedCases()[i]
		n, code := impl.SymplecticTo(characterOf(named.tableau))
		wantNumber(t, "SymplecticTo the character of "+named.name, n, code, c.symplectic)
		n, code = impl.ReducedOrder(characterOf(named.tableau))
		wantNumber(t, "ReducedOrder of the character of "+named.name, n, code, c.reduced)
	}
}

// TestFreeConditions has all numbers of nodes, and counts them.
func TestFreeConditions(t *testing.T) {
	few := 0
	for i, count := range []int{1, 0, 1, 1, 3, 4, 11, 19} {
		n := int64(i + 1)
		var want [][]int64
		for _, list := range plainConditions() {
			if int64(len(list)) == n {
				want = append(want, list)
			}
		}
		got, code := impl.FreeConditions(n)
		wantRows(t, fmt.Sprintf("FreeConditions(%d)", n), got, code, want)
		wantNumber(t, fmt.Sprintf("the free conditions with %d nodes", n), int64(len(got)), code, int64(count))
		if n <= impl.MaxOrder {
			few += len(got)
		}
		for _, list := range got {
			form, code := impl.FreeForm(list)
			wantList(t, fmt.Sprintf("FreeForm(%v)", list), list, code, form)
			is, code := impl.IsSuperfluous(list)
			wantTruth(t, fmt.Sprintf("IsSuperfluous(%v)", list), is, code, false)
		}
	}
	if few != impl.FreeNumbers {
		t.Errorf("there are %d free conditions with at most MaxOrder nodes", few)
	}
	for _, n := range []int64{0, -1, -impl.MaxNodes, impl.MaxNodes + 1, impl.MaxNodes + 2, 1 << 8, 1<<8 + 1, 1 << 32, 1<<32 + 1, math.MinInt64, math.MaxInt64} {
		got, code := impl.FreeConditions(n)
		wantNone(t, fmt.Sprintf("FreeConditions(%d)", n), got, code, impl.ErrRange)
	}
}

// TestExchanges has maps for which exactly one condition fails, for each one of them.
func TestExchanges(t *testing.T) {
	draw := drawer(159)
	hamiltonian := plainHamiltonian(draw.list(impl.FreeNumbers))
	symplectic := plainFlow(hamiltonian, 1)
	for _, wrong := range exchanges() {
		fault := faultAt(wrong, 1+draw.below(impl.Prime-1))
		for _, e := range exchanges() {
			if isFault := remainder(fault[e.first]+fault[e.second]) != 0; isFault != e.isLike(wrong) {
				t.Errorf("%v is wrong for the exchange %v: %v", fault, e, isFault)
			}
		}
		want := nodesAt(wrong.first) - 1
		for _, b := range [][]int64{fault, plainSum(fault, 1, hamiltonian)} {
			n, code := impl.HamiltonianTo(b)
			wantNumber(t, fmt.Sprintf("HamiltonianTo(%v)", b), n, code, want)
			numbers, code := impl.FreeNumbersOf(b)
			wantNone(t, fmt.Sprintf("FreeNumbersOf(%v)", b), numbers, code, impl.ErrState)
		}
		a := plainSum(symplectic, 1, fault)
		n, code := impl.SymplecticTo(a)
		wantNumber(t, fmt.Sprintf("SymplecticTo(%v)", a), n, code, want)
	}
}

// TestSymplecticTo has characters that are symplectic up to 1, up to MaxOrder and in between.
func TestSymplecticTo(t *testing.T) {
	seen := map[int64]int{}
	check := func(a []int64) {
		t.Helper()
		n, code := impl.SymplecticTo(a)
		wantNumber(t, fmt.Sprintf("SymplecticTo(%v)", a), n, code, plainSymplecticTo(a))
		seen[n]++
	}
	for _, a := range slices.Concat(someCharacters(), symplecticCharacters(), partlySymplectic()) {
		check(a)
	}
	for _, x := range fewStages(5) {
		check(plainCharacterOf(x))
	}
	for _, a := range symplecticCharacters() {
		n, code := impl.SymplecticTo(a)
		wantNumber(t, fmt.Sprintf("SymplecticTo(%v)", a), n, code, impl.MaxOrder)
	}
	for place := 1; place < impl.MapSize; place++ {
		a := changed(plainExact(), place, plainExact()[place]+1)
		n, code := impl.SymplecticTo(a)
		wantNumber(t, fmt.Sprintf("SymplecticTo(%v)", a), n, code, max(1, nodesAt(place)-1))
	}
	for n := int64(1); n <= impl.MaxOrder; n++ {
		if seen[n] < 5 {
			t.Errorf("%d characters are symplectic up to %d", seen[n], n)
		}
	}
}

// TestHamiltonianTo has maps that are Hamiltonian up to 1, up to MaxOrder and in between.
func TestHamiltonianTo(t *testing.T) {
	draw := drawer(160)
	seen := map[int64]int{}
	list := someInfinitesimals()
	for range 4 {
		b := plainHamiltonian(draw.drawn(impl.FreeNumbers))
		for place := 1; place < impl.MapSize; place++ {
			list = append(list, changed(b, place, draw.below(impl.Prime)))
		}
	}
	for _, b := range list {
		n, code := impl.HamiltonianTo(b)
		wantNumber(t, fmt.Sprintf("HamiltonianTo(%v)", b), n, code, plainHamiltonianTo(b))
		seen[n]++
	}
	for place := 1; place < impl.MapSize; place++ {
		want := int64(impl.MaxOrder)
		if place > 1 {
			want = nodesAt(place) - 1
		}
		n, code := impl.HamiltonianTo(spike(0, place, 1+draw.below(impl.Prime-1)))
		wantNumber(t, fmt.Sprintf("HamiltonianTo a map of %v", placedTrees()[place]), n, code, want)
		seen[n]++
	}
	n, code := impl.HamiltonianTo(noMap())
	wantNumber(t, "HamiltonianTo(0 everywhere)", n, code, impl.MaxOrder)
	for n := int64(1); n <= impl.MaxOrder; n++ {
		if seen[n] == 0 {
			t.Errorf("no infinitesimal map is Hamiltonian up to %d", n)
		}
	}
}

// TestHamiltonianOf holds what promise 12 says of Hamiltonian maps: lists of numbers, those of 0 alone
// among them, make them and are got back from them.
func TestHamiltonianOf(t *testing.T) {
	draw := drawer(161)
	lists := [][]int64{make([]int64, impl.FreeNumbers), slices.Repeat([]int64{1}, impl.FreeNumbers), slices.Repeat([]int64{impl.Prime - 1}, impl.FreeNumbers)}
	for i := range impl.FreeNumbers {
		one := make([]int64, impl.FreeNumbers)
		one[i] = 1 + draw.below(impl.Prime-1)
		lists = append(lists, one)
	}
	for range 20 {
		lists = append(lists, draw.list(impl.FreeNumbers), draw.drawn(impl.FreeNumbers))
	}
	for _, numbers := range lists {
		b, code := impl.HamiltonianOf(numbers)
		wantList(t, fmt.Sprintf("HamiltonianOf(%v)", numbers), b, code, plainHamiltonian(numbers))
		n, code := impl.HamiltonianTo(b)
		wantNumber(t, fmt.Sprintf("HamiltonianTo(HamiltonianOf(%v))", numbers), n, code, impl.MaxOrder)
		back, code := impl.FreeNumbersOf(b)
		wantList(t, fmt.Sprintf("FreeNumbersOf(HamiltonianOf(%v))", numbers), back, code, numbers)
		other := draw.list(impl.FreeNumbers)
		sum, code := impl.HamiltonianOf(plainSum(numbers, 3, other))
		wantList(t, fmt.Sprintf("HamiltonianOf(%v and 3 times %v)", numbers, other), sum, code, plainSum(b, 3, must(impl.HamiltonianOf(other))))
	}
	b, code := impl.HamiltonianOf(make([]int64, impl.FreeNumbers))
	wantList(t, "HamiltonianOf(0 everywhere)", b, code, noMap())
}

// TestHamiltonianSigns looks at the trees one by one: those from which free forms are reached by even
// distances, by odd ones, and superfluous ones.
func TestHamiltonianSigns(t *testing.T) {
	numbers := []int64{11, 13, 17, 19, 23, 29, 31, 37, 41, 43}
	b, code := impl.HamiltonianOf(numbers)
	if code != impl.ErrNone || b[0] != 0 {
		t.Fatalf("HamiltonianOf(%v) = %v, code %d", numbers, b, code)
	}
	even, odd, superfluous := 0, 0, 0
	for place, list := range placedTrees() {
		if place == 0 {
			continue
		}
		if is, _ := impl.IsSuperfluous(list); is {
			superfluous++
			wantNumber(t, fmt.Sprintf("HamiltonianOf(%v) at %v", numbers, list), b[place], code, 0)
			continue
		}
		form := must(impl.FreeForm(list))
		index := slices.IndexFunc(plainConditions(), func(other []int64) bool { return slices.Equal(other, form) })
		levels := levelsToFree(list)
		for _, level := range levels {
			if level%2 != levels[0]%2 {
				t.Errorf("%v leads to its free form at the levels %v", list, levels)
			}
		}
		if levels[0]%2 == 0 {
			even++
			wantNumber(t, fmt.Sprintf("HamiltonianOf(%v) at %v", numbers, list), b[place], code, numbers[index])
		} else {
			odd++
			wantNumber(t, fmt.Sprintf("HamiltonianOf(%v) at %v", numbers, list), b[place], code, impl.Prime-numbers[index])
		}
	}
	if even != 16 || odd != 13 || superfluous != 8 {
		t.Errorf("%d trees have even distances, %d odd ones, and %d are superfluous", even, odd, superfluous)
	}
}

// TestFreeNumbersOf takes Hamiltonian maps that come as logarithms and brackets: their numbers make them.
func TestFreeNumbersOf(t *testing.T) {
	list := [][]int64{noMap(), spike(0, 1, 1), spike(0, 1, impl.Prime-1)}
	for _, a := range symplecticCharacters() {
		list = append(list, must(impl.LogMap(a)))
	}
	for i := range 10 {
		list = append(list, must(impl.BracketOf(list[len(list)-1], list[len(list)-2-i])))
	}
	for _, b := range list {
		var want []int64
		for _, place := range conditionPlaces() {
			want = append(want, b[place])
		}
		numbers, code := impl.FreeNumbersOf(b)
		wantList(t, fmt.Sprintf("FreeNumbersOf(%v)", b), numbers, code, want)
		again, code := impl.HamiltonianOf(numbers)
		wantList(t, fmt.Sprintf("HamiltonianOf the numbers of %v", b), again, code, b)
	}
}

// TestReducedOrder changes values at free conditions, which count, and at all other trees, which do not.
func TestReducedOrder(t *testing.T) {
	draw := drawer(162)
	exact := plainExact()
	places := conditionPlaces()
	others := slices.Clone(exact)
	for place := 1; place < impl.MapSize; place++ {
		want := int64(impl.MaxOrder)
		if slices.Contains(places, place) {
			want = nodesAt(place) - 1
		} else {
			others[place] = draw.below(impl.Prime)
		}
		for _, value := range []int64{exact[place] + 1, remainder(exact[place] - 1)} {
			a := changed(exact, place, value)
			n, code := impl.ReducedOrder(a)
			wantNumber(t, fmt.Sprintf("ReducedOrder(%v)", a), n, code, want)
		}
	}
	for i, place := range places {
		a := changed(others, place, exact[place]+2)
		n, code := impl.ReducedOrder(a)
		wantNumber(t, fmt.Sprintf("ReducedOrder(%v)", a), n, code, nodesAt(place)-1)
		for _, later := range places[i:] {
			a[later]++
		}
		n, code = impl.ReducedOrder(a)
		wantNumber(t, fmt.Sprintf("ReducedOrder(%v)", a), n, code, nodesAt(place)-1)
	}
	for _, c := range []struct {
		a    []int64
		want int64
	}{{exact, impl.MaxOrder}, {others, impl.MaxOrder}, {unit(impl.MapSize), 0}, {everywhere(1), 2}, {plainScaled(exact, 2), 0}, {spike(1, 1, 1), 2}, {changed(exact, 1, 0), 0}, {changed(exact, 2, 0), impl.MaxOrder}} {
		n, code := impl.ReducedOrder(c.a)
		wantNumber(t, fmt.Sprintf("ReducedOrder(%v)", c.a), n, code, c.want)
	}
	for _, a := range slices.Concat(someCharacters(), partlySymplectic()) {
		wrong := slices.IndexFunc(places, func(place int) bool { return a[place] != exact[place] })
		want := int64(impl.MaxOrder)
		if wrong >= 0 {
			want = nodesAt(places[wrong]) - 1
		}
		n, code := impl.ReducedOrder(a)
		wantNumber(t, fmt.Sprintf("ReducedOrder(%v)", a), n, code, want)
		if order, _ := impl.OrderOfMap(a); n < order {
			t.Errorf("ReducedOrder(%v) = %d; the order is %d", a, n, order)
		}
	}
}

// TestReducedOrderIsOrder holds the last part of promise 12, for symplectic characters of all orders.
// None has the order 1, as there is no free condition with 2 nodes.
func TestReducedOrderIsOrder(t *testing.T) {
	draw := drawer(163)
	list := symplecticCharacters()
	for i := range impl.FreeNumbers {
		numbers := draw.list(impl.FreeNumbers)
		numbers[0] = 1
		clear(numbers[1 : i+1])
		b := plainHamiltonian(numbers)
		a := plainFlow(b, 1)
		list = append(list, a, must(impl.FlowMap(b, 1)), must(impl.Convolve(a, plainExact())))
	}
	seen := map[int64]int{}
	for _, a := range list {
		order, code := impl.OrderOfMap(a)
		if code != impl.ErrNone {
			t.Errorf("OrderOfMap(%v) has the code %d", a, code)
		}
		n, code := impl.ReducedOrder(a)
		wantNumber(t, fmt.Sprintf("ReducedOrder(%v)", a), n, code, order)
		seen[n]++
	}
	for _, order := range []int64{0, 2, 3, 4, 5, 6} {
		if seen[order] == 0 {
			t.Errorf("no symplectic character of the order %d is looked at", order)
		}
	}
	for _, c := range []struct {
		x    impl.Tableau
		want int64
	}{{tableauOf("1/2", "1"), 2}, {namedCases()[1].tableau, 4}, {jumped(tableauOf("1/2", "1"), 2), 4}, {jumped(namedCases()[1].tableau, 4), 6}, {everyStage(8, 0), 0}} {
		n, code := impl.ReducedOrder(characterOf(c.x))
		wantNumber(t, fmt.Sprintf("ReducedOrder of the character of %v", c.x), n, code, c.want)
		n, code = impl.OrderOf(c.x)
		wantNumber(t, fmt.Sprintf("OrderOf(%v)", c.x), n, code, c.want)
	}
}

// notFreeNumbers are lists that make no map: of other lengths, with wrong numbers, or both.
func notFreeNumbers() [][]int64 {
	list := [][]int64{nil, {}, {1}, {impl.Prime}}
	for _, length := range []int{impl.FreeNumbers - 1, impl.FreeNumbers + 1, 2 * impl.FreeNumbers, impl.MapSize, 266, 1000} {
		list = append(list, make([]int64, length), slices.Repeat([]int64{1}, length), slices.Repeat([]int64{-1}, length))
	}
	for _, bad := range notNumbers {
		for i := range impl.FreeNumbers {
			list = append(list, changed(make([]int64, impl.FreeNumbers), i, bad), changed(slices.Repeat([]int64{5}, impl.FreeNumbers), i, bad))
		}
		list = append(list, slices.Repeat([]int64{bad}, impl.FreeNumbers))
	}
	return list
}

// TestHamiltonianErrors has lists that would be characters or infinitesimal but for what makes them no
// maps: ErrInvalid comes before ErrState. FreeNumbersOf returns ErrState for either of two reasons.
func TestHamiltonianErrors(t *testing.T) {
	for _, bad := range notFreeNumbers() {
		b, code := impl.HamiltonianOf(bad)
		wantNone(t, fmt.Sprintf("HamiltonianOf(%v)", bad), b, code, impl.ErrRange)
	}
	check := func(a []int64, character int64, infinitesimal int64) {
		t.Helper()
		if character != impl.ErrNone {
			n, code := impl.SymplecticTo(a)
			wantFault(t, fmt.Sprintf("SymplecticTo(%v)", a), n, code, character)
			n, code = impl.ReducedOrder(a)
			wantFault(t, fmt.Sprintf("ReducedOrder(%v)", a), n, code, character)
		}
		if infinitesimal != impl.ErrNone {
			n, code := impl.HamiltonianTo(a)
			wantFault(t, fmt.Sprintf("HamiltonianTo(%v)", a), n, code, infinitesimal)
			numbers, code := impl.FreeNumbersOf(a)
			wantNone(t, fmt.Sprintf("FreeNumbersOf(%v)", a), numbers, code, infinitesimal)
		}
	}
	for _, bad := range notMaps() {
		check(bad, impl.ErrInvalid, impl.ErrInvalid)
	}
	list := someMaps()
	for _, first := range append([]int64{2, 5, impl.Prime - 1}, someNumbers...) {
		list = append(list, changed(plainExact(), 0, first), spike(first, 0, first), changed(plainHamiltonian(make([]int64, impl.FreeNumbers)), 0, first), everywhere(first))
	}
	for _, a := range list {
		switch a[0] {
		case 0:
			check(a, impl.ErrState, impl.ErrNone)
		case 1:
			check(a, impl.ErrNone, impl.ErrState)
		default:
			check(a, impl.ErrState, impl.ErrState)
		}
	}
	for _, b := range someInfinitesimals() {
		if plainHamiltonianTo(b) < impl.MaxOrder {
			numbers, code := impl.FreeNumbersOf(b)
			wantNone(t, fmt.Sprintf("FreeNumbersOf(%v)", b), numbers, code, impl.ErrState)
		}
	}
	for place := 2; place < impl.MapSize; place++ {
		numbers, code := impl.FreeNumbersOf(spike(0, place, 1))
		wantNone(t, fmt.Sprintf("FreeNumbersOf(1 at %v)", placedTrees()[place]), numbers, code, impl.ErrState)
	}
}

// resultsOfHamiltonians calls the functions that return lists, with numbers and a Hamiltonian map.
func resultsOfHamiltonians(numbers []int64, b []int64) [][]int64 {
	results := [][]int64{must(impl.HamiltonianOf(numbers)), must(impl.HamiltonianOf(numbers)), must(impl.FreeNumbersOf(b)), must(impl.FreeNumbersOf(b))}
	for n := int64(1); n <= impl.MaxNodes; n++ {
		results = append(results, must(impl.FreeConditions(n))...)
	}
	return results
}

// TestHamiltonianMemory checks that arguments stay as they are, and that results are new memory: what is
// written into some does not come back in others.
func TestHamiltonianMemory(t *testing.T) {
	draw := drawer(164)
	lists := [][]int64{draw.list(impl.FreeNumbers), plainHamiltonian(draw.list(impl.FreeNumbers)), plainExact(), draw.drawn(impl.MapSize, 1)}
	given := guarded(lists)
	want := resultsOfHamiltonians(lists[0], lists[1])
	for i, got := range want {
		want[i] = slices.Clone(got)
	}
	for range 2 {
		results := resultsOfHamiltonians(given[0], given[1])
		wantRows(t, "the functions of Hamiltonian maps", results, impl.ErrNone, want)
		wantApart(t, "the functions of Hamiltonian maps", append(results, resultsOfHamiltonians(given[0], given[1])...)...)
		for _, a := range given {
			impl.HamiltonianOf(a)
			impl.SymplecticTo(a)
			impl.HamiltonianTo(a)
			impl.ReducedOrder(a)
			impl.FreeNumbersOf(a)
		}
		wantUntouched(t, "a function of Hamiltonian maps", given, lists)
		// What is written behind the lists must not come back either.
		conditions := must(impl.FreeConditions(impl.MaxNodes))
		clear(conditions[:cap(conditions)])
	}
}
