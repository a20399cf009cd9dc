package tests

import (
	"fmt"
	"slices"
	"testing"

	"loop.example/g01100/impl"
)

// plainStageWeight adds over all ways to give stages to the nodes of a tree, the stage of the root
// being known, the products of the numbers of A that belong to its edges.
func plainStageWeight(x impl.Tableau, list []int64, stage int) int64 {
	ways := 1
	for range list[1:] {
		ways *= len(x.B)
	}
	sum := int64(0)
	stages := make([]int, len(list))
	for way := range ways {
		stages[0] = stage
		product := int64(1)
		for node := 1; node < len(list); node++ {
			stages[node] = way % len(x.B)
			way /= len(x.B)
			product = product * x.A[stages[plainParent(list, node)]][stages[node]] % impl.Prime
		}
		sum += product
	}
	return sum % impl.Prime
}

// sweptWeights goes from the last node of a tree to its root, and has the product that belongs to
// each node complete when it comes there.
func sweptWeights(x impl.Tableau, list []int64) []int64 {
	weights := everyStage(len(list)*len(x.B), 1).B
	at := func(node int) []int64 { return weights[node*len(x.B) : (node+1)*len(x.B)] }
	for node := len(list) - 1; node > 0; node-- {
		for i, above := range at(plainParent(list, node)) {
			sum := int64(0)
			for k, weight := range at(node) {
				sum += x.A[i][k] * weight % impl.Prime
			}
			at(plainParent(list, node))[i] = above * (sum % impl.Prime) % impl.Prime
		}
	}
	return at(0)
}

func plainWeight(x impl.Tableau, list []int64) int64 {
	sum := int64(0)
	for i, weight := range sweptWeights(x, list) {
		sum += x.B[i] * weight % impl.Prime
	}
	return sum % impl.Prime
}

func plainCharacterOf(x impl.Tableau) []int64 {
	return fromTrees(1, func(list []int64) int64 { return plainWeight(x, list) })
}

// firstFault is the index of the first tree that is not matched, or the number of all trees.
func firstFault(x impl.Tableau) int {
	character, exact := plainCharacterOf(x), plainExact()
	for place := range character {
		if character[place] != exact[place] {
			return place - 1
		}
	}
	return impl.MapSize - 1
}

// orderBefore is the order of a tableau whose first fault has an index.
func orderBefore(index int) int64 {
	if index == impl.MapSize-1 {
		return impl.MaxOrder
	}
	return int64(nodesAt(index+1)) - 1
}

// TestStageWeights has all trees and those of their lists that are not canonical, too.
func TestStageWeights(t *testing.T) {
	draw := drawer(124)
	for _, x := range someTableaus() {
		for _, tree := range plainTrees(impl.MaxNodes) {
			want := sweptWeights(x, tree.list())
			for _, list := range [][]int64{tree.list(), draw.anyList(tree), tree[len(tree)-1]} {
				got, code := impl.StageWeights(x, list)
				wantList(t, fmt.Sprintf("StageWeights(%v, %v)", x, list), got, code, want)
			}
		}
		got, code := impl.StageWeights(x, []int64{0})
		wantList(t, fmt.Sprintf("StageWeights(%v, {0})", x), got, code, slices.Repeat([]int64{1}, len(x.B)))
	}
}

// TestStageWeightsByStages looks at all ways to give stages to nodes, as far as these are not too
// many; with MaxNodes nodes, too.
func TestStageWeightsByStages(t *testing.T) {
	for _, x := range someTableaus() {
		for _, tree := range plainTrees(impl.MaxNodes) {
			list, ways := tree.list(), 1
			for range list {
				ways *= len(x.B)
			}
			if ways > 600 {
				continue
			}
			var want []int64
			for stage := range x.B {
				want = append(want, plainStageWeight(x, list, stage))
			}
			got, code := impl.StageWeights(x, list)
			wantList(t, fmt.Sprintf("StageWeights(%v, %v)", x, list), got, code, want)
		}
	}
}

// TestStageWeightsByBranches holds what promise 9 says of stage weights: they are made of those of
// the branches.
func TestStageWeightsByBranches(t *testing.T) {
	for _, x := range someTableaus() {
		for _, tree := range plainTrees(impl.MaxNodes) {
			want := slices.Repeat([]int64{1}, len(x.B))
			branches, _ := impl.BranchesOf(tree.list())
			for _, branch := range branches {
				weights, code := impl.StageWeights(x, branch)
				if code != impl.ErrNone || len(weights) != len(x.B) {
					t.Fatalf("StageWeights(%v, %v) = %v, code %d", x, branch, weights, code)
				}
				for i, row := range x.A {
					sum, _ := impl.DotOf(row, weights)
					want[i] = want[i] * sum % impl.Prime
				}
			}
			got, code := impl.StageWeights(x, tree.list())
			wantList(t, fmt.Sprintf("StageWeights(%v, %v)", x, tree.list()), got, code, want)
			n, _ := impl.DotOf(x.B, got)
			weight, code := impl.WeightOf(x, tree.list())
			wantNumber(t, fmt.Sprintf("WeightOf(%v, %v)", x, tree.list()), weight, code, n)
		}
	}
}

// TestWeightOf has simple trees: bushes have the powers of nodes, tall trees those of A.
func TestWeightOf(t *testing.T) {
	draw := drawer(125)
	for _, x := range someTableaus() {
		for _, tree := range plainTrees(impl.MaxNodes) {
			want := plainWeight(x, tree.list())
			for _, list := range [][]int64{tree.list(), draw.anyList(tree), tree[len(tree)-1]} {
				n, code := impl.WeightOf(x, list)
				wantNumber(t, fmt.Sprintf("WeightOf(%v, %v)", x, list), n, code, want)
			}
		}
		nodes := must(impl.NodesOf(x))
		powers, column := everyStage(len(x.B), 1).B, everyStage(len(x.B), 1).B
		for n := 1; n <= impl.MaxNodes; n++ {
			want, _ := impl.DotOf(x.B, powers)
			got, code := impl.WeightOf(x, bush(n))
			wantNumber(t, fmt.Sprintf("WeightOf(%v, %v)", x, bush(n)), got, code, want)
			want, _ = impl.DotOf(x.B, column)
			got, code = impl.WeightOf(x, tall(n))
			wantNumber(t, fmt.Sprintf("WeightOf(%v, %v)", x, tall(n)), got, code, want)
			next := make([]int64, len(x.B))
			for i := range x.B {
				powers[i] = powers[i] * nodes[i] % impl.Prime
				next[i], _ = impl.DotOf(x.A[i], column)
			}
			column = next
		}
	}
	for _, c := range []struct {
		x    impl.Tableau
		list []int64
		want int64
	}{
		{tableauOf("0", "1"), []int64{0}, 1}, {tableauOf("0", "1"), []int64{0, 1}, 0}, {tableauOf("1", "1"), tall(8), 1}, {tableauOf("2", "3"), bush(8), 384},
		{tableauOf("0 0", "1 0", "1/2 1/2"), []int64{0, 1, 1}, 5004}, {tableauOf("0 0", "1 0", "1/2 1/2"), tall(3), 0}, {tableauOf("1/2", "1"), tall(8), fraction(1, 128)},
	} {
		n, code := impl.WeightOf(c.x, c.list)
		wantNumber(t, fmt.Sprintf("WeightOf(%v, %v)", c.x, c.list), n, code, c.want)
	}
}

// TestCharacterOf compares with the weights at all trees with at most MaxOrder nodes.
func TestCharacterOf(t *testing.T) {
	for _, x := range someTableaus() {
		got, code := impl.CharacterOf(x)
		wantList(t, fmt.Sprintf("CharacterOf(%v)", x), got, code, plainCharacterOf(x))
		if !impl.IsCharacter(got) {
			t.Errorf("CharacterOf(%v) is no character", x)
		}
		for place, list := range placedTrees()[1:] {
			n, code := impl.WeightOf(x, list)
			wantNumber(t, fmt.Sprintf("WeightOf(%v, %v)", x, list), n, code, got[place+1])
		}
	}
	for stages := 1; stages <= impl.MaxStages; stages++ {
		got, code := impl.CharacterOf(everyStage(stages, 0))
		wantList(t, fmt.Sprintf("CharacterOf(0 for %d stages)", stages), got, code, unit(impl.MapSize))
	}
	got, code := impl.CharacterOf(tableauOf("1", "1"))
	wantList(t, "CharacterOf(implicit)", got, code, everywhere(1))
	got, code = impl.CharacterOf(tableauOf("0", "1"))
	wantList(t, "CharacterOf(euler)", got, code, spike(1, 1, 1))
}

// assuming draws a matrix for 8 stages with nodes c by which the sums of its numbers in each row times
// c^k, for k less than q, are the node of the row to the power k + 1, divided by k + 1.
func assuming(draw *drawer, q int) [][]int64 {
	first := draw.below(1000)
	var powers, right [][]int64
	for i := range int64(impl.MaxStages) {
		node, power, want := first+i*i+i, int64(1), draw.list(impl.MaxStages)
		var row []int64
		for k := range impl.MaxStages {
			row = append(row, power)
			power = power * node % impl.Prime
			if k < q {
				want[k] = power * fraction(1, int64(k+1)) % impl.Prime
			}
		}
		powers, right = append(powers, row), append(right, want)
	}
	inverse, _ := impl.InverseMatrix(powers)
	return plainProduct(right, inverse)
}

// faulty goes through the trees, and chooses numbers of B by which they are matched, as long as this
// is possible without a change of the weights before. It returns tableaus by the indices of their
// first faults: those at which it goes another way, and the last one.
func faulty(a [][]int64) map[int]impl.Tableau {
	b := make([]int64, len(a))
	var unseen [][]int64
	for i := range b {
		unseen = append(unseen, changed(b, i, 1))
	}
	tableaus := map[int]impl.Tableau{}
	for index := range impl.MapSize - 1 {
		weights := sweptWeights(impl.Tableau{A: a, B: b}, placedTrees()[index+1])
		seen := func(list []int64) int64 { sum, _ := impl.DotOf(list, weights); return sum }
		rest := remainder(plainExact()[index+1] - seen(b))
		at := slices.IndexFunc(unseen, func(list []int64) bool { return seen(list) != 0 })
		if at < 0 && rest != 0 {
			tableaus[index] = impl.Tableau{A: a, B: b}
			return tableaus
		}
		if at < 0 {
			continue
		}
		list := unseen[at]
		unseen = slices.Delete(unseen, at, at+1)
		for i, other := range unseen {
			factor, _ := impl.DivideNumbers(seen(other), seen(list))
			unseen[i] = plainSum(other, impl.Prime-factor, list)
		}
		factor, _ := impl.DivideNumbers(rest, seen(list))
		tableaus[index] = impl.Tableau{A: a, B: plainSum(b, factor+1, list)}
		b = plainSum(b, factor, list)
	}
	tableaus[impl.MapSize-1] = impl.Tableau{A: a, B: b}
	return tableaus
}

// faultyTableaus have tableaus by the indices of their first faults. Some are matched everywhere.
func faultyTableaus() map[int][]impl.Tableau {
	draw := drawer(127)
	list := []impl.Tableau{draw.tableau(impl.MaxStages), fifth(), sixth(), padded(sixth(), draw.list(8)...), padded(fifth(), draw.list(7)...)}
	for _, named := range namedCases() {
		list = append(list, named.tableau)
	}
	for q := range impl.MaxStages + 1 {
		a := assuming(&draw, q)
		list = append(list, impl.Tableau{A: a})
	}
	all := map[int][]impl.Tableau{}
	for _, x := range list {
		for index, y := range faulty(x.A) {
			all[index] = append(all[index], y)
		}
	}
	return all
}

// TestOrderOf holds promise 32: all trees up to the order are matched, and one with one node more is
// not. There are tableaus of all orders, and such as only some trees tell apart.
func TestOrderOf(t *testing.T) {
	orders := map[int64]int{}
	check := func(x impl.Tableau, want int64) {
		t.Helper()
		call := fmt.Sprintf("OrderOf(%v)", x)
		order, code := impl.OrderOf(x)
		wantNumber(t, call, order, code, want)
		isMatched := true
		for _, list := range placedTrees()[1:] {
			weight, _ := impl.WeightOf(x, list)
			density, _ := impl.DensityOf(list)
			isFault := weight*density%impl.Prime != 1
			if isFault && int64(len(list)) <= order {
				t.Errorf("%s = %d, but %v is a fault", call, order, list)
			}
			isMatched = isMatched && (!isFault || int64(len(list)) != order+1)
		}
		if isMatched && order < impl.MaxOrder {
			t.Errorf("%s = %d, but all trees with one node more are matched", call, order)
		}
		again, code := impl.OrderOfMap(must(impl.CharacterOf(x)))
		wantNumber(t, call+" by its character", again, code, order)
		orders[order]++
	}
	for index, list := range faultyTableaus() {
		for _, x := range list {
			check(x, orderBefore(index))
		}
	}
	for _, x := range someTableaus() {
		check(x, orderBefore(firstFault(x)))
	}
	for order := int64(0); order <= impl.MaxOrder; order++ {
		if orders[order] == 0 {
			t.Errorf("no tableau of the order %d is looked at", order)
		}
	}
	for _, x := range []impl.Tableau{everyStage(1, 0), everyStage(8, 0), everyStage(2, 1), tableauOf("0", "2"), tableauOf("1/2", "0"), tableauOf("1/2", "-1")} {
		check(x, 0)
	}
	check(fifth(), 5)
	check(sixth(), 6)
	check(padded(sixth(), 1, 2, 3, 4, 5, 6, 7, 8), 6)
}

// TestFirstFault has each number of nodes, those at the order and one more among them.
func TestFirstFault(t *testing.T) {
	check := func(x impl.Tableau, index int) {
		t.Helper()
		for n := int64(1); n <= impl.MaxOrder; n++ {
			call := fmt.Sprintf("FirstFault(%v, %d)", x, n)
			got, code := impl.FirstFault(x, n)
			if n > orderBefore(index) {
				wantNumber(t, call, got, code, int64(index))
			} else {
				wantFault(t, call, got, code, impl.ErrNotFound)
			}
		}
	}
	tableaus := faultyTableaus()
	for index, list := range tableaus {
		for _, x := range list {
			check(x, index)
		}
	}
	for _, x := range someTableaus() {
		check(x, firstFault(x))
	}
	for index := range impl.MaxStages + 1 {
		if len(tableaus[index]) == 0 {
			t.Errorf("no tableau with the first fault %d is looked at", index)
		}
	}
	if len(tableaus) < 15 {
		t.Errorf("only %d first faults are looked at", len(tableaus))
	}
	check(tableauOf("0", "2"), 0)
	check(tableauOf("0", "1"), 1)
	check(tableauOf("1/2", "1"), 2)
}

// TestResidualsOf compares with weights and densities, and with orders and first faults, as promise 9
// has it.
func TestResidualsOf(t *testing.T) {
	list := someTableaus()
	for _, more := range faultyTableaus() {
		list = append(list, more...)
	}
	for _, x := range list {
		order, code := impl.OrderOf(x)
		if code != impl.ErrNone {
			t.Errorf("OrderOf(%v) has the code %d", x, code)
		}
		index := 0
		for n := int64(1); n <= impl.MaxOrder; n++ {
			call := fmt.Sprintf("ResidualsOf(%v, %d)", x, n)
			got, code := impl.ResidualsOf(x, n)
			var want []int64
			for place, tree := range placedTrees() {
				if int64(len(tree)) == n {
					want = append(want, remainder(plainWeight(x, tree)-plainExact()[place]))
				}
			}
			wantList(t, call, got, code, want)
			at := slices.IndexFunc(got, func(residual int64) bool { return residual != 0 })
			if (at >= 0) != (n == order+1) && n <= order+1 {
				t.Errorf("%s = %v for the order %d", call, got, order)
			}
			if n == order+1 {
				first, code := impl.FirstFault(x, n)
				wantNumber(t, "the first fault by "+call, int64(index+at), code, first)
			}
			index += len(got)
		}
	}
	residuals, code := impl.ResidualsOf(tableauOf("0", "3"), 1)
	wantList(t, "ResidualsOf({0}, {3}, 1)", residuals, code, []int64{2})
	residuals, code = impl.ResidualsOf(tableauOf("1/2", "1"), 3)
	wantList(t, "ResidualsOf(middle, 3)", residuals, code, []int64{fraction(1, 12), fraction(-1, 12)})
	residuals, code = impl.ResidualsOf(sixth(), 6)
	wantList(t, "ResidualsOf(a tableau of order 6, 6)", residuals, code, make([]int64, 20))
}
