package tests

import (
	"fmt"
	"slices"
	"sync"
	"testing"

	"loop.example/g01100/impl"
)

// plainUsed goes along numbers other than 0 as long as this leads to further stages.
func plainUsed(x impl.Tableau) []int64 {
	isUsed := make([]bool, len(x.B))
	for range len(x.B) + 1 {
		for k := range x.B {
			isUsed[k] = isUsed[k] || x.B[k] != 0
			for i := range x.B {
				isUsed[k] = isUsed[k] || isUsed[i] && x.A[i][k] != 0
			}
		}
	}
	var used []int64
	for k := range x.B {
		if isUsed[k] {
			used = append(used, int64(k))
		}
	}
	return used
}

func plainDropped(x impl.Tableau) impl.Tableau {
	used := plainUsed(x)
	if len(used) == 0 {
		return tableauOf("0", "0")
	}
	return ruled(len(used), func(i int, k int) int64 { return x.A[used[i]][used[k]] }, func(k int) int64 { return x.B[used[k]] })
}

// partitionsOf has, by numbers of stages up to MaxStages, all partitions of the stages, those with
// few classes first. Each has the least stage of its class for each stage.
var partitionsOf = sync.OnceValue(func() [][][]int64 {
	all := [][][]int64{{{}}}
	for stage := range int64(impl.MaxStages) {
		var longer [][]int64
		for _, classes := range all[stage] {
			for _, least := range leastIn(classes) {
				longer = append(longer, append(slices.Clone(classes), least))
			}
			longer = append(longer, append(slices.Clone(classes), stage))
		}
		slices.SortStableFunc(longer, func(a []int64, b []int64) int { return len(leastIn(a)) - len(leastIn(b)) })
		all = append(all, longer)
	}
	return all
})

// leastIn returns the least stages of classes in their order.
func leastIn(classes []int64) []int64 {
	return slices.Compact(slices.Sorted(slices.Values(classes)))
}

// sumIn adds the numbers of a row that belong to a class.
func sumIn(row []int64, classes []int64, least int64) int64 {
	sum := int64(0)
	for k, a := range row {
		if classes[k] == least {
			sum += a
		}
	}
	return sum % impl.Prime
}

// isEven reports whether the sums over classes are equal for stages in one class.
func isEven(x impl.Tableau, classes []int64) bool {
	for i, least := range classes {
		for _, other := range leastIn(classes) {
			if sumIn(x.A[i], classes, other) != sumIn(x.A[least], classes, other) {
				return false
			}
		}
	}
	return true
}

// plainAlike takes the first partition by which the sums are equal: no other one has so few classes.
func plainAlike(x impl.Tableau) []int64 {
	all := partitionsOf()[len(x.B)]
	return all[slices.IndexFunc(all, func(classes []int64) bool { return isEven(x, classes) })]
}

func plainMerged(x impl.Tableau) impl.Tableau {
	classes := plainAlike(x)
	least := leastIn(classes)
	return ruled(len(least), func(i int, k int) int64 { return sumIn(x.A[least[i]], classes, least[k]) }, func(k int) int64 { return sumIn(x.B, classes, least[k]) })
}

func plainReduced(x impl.Tableau) impl.Tableau {
	for {
		dropped := plainDropped(x)
		merged := plainMerged(dropped)
		if sameTableau(dropped, x) && sameTableau(merged, x) {
			return x
		}
		x = merged
	}
}

// spread draws a tableau with a stage for each element of a list, which is the stage of x that it is
// merged to: each number of x is the sum of numbers drawn.
func (d *drawer) spread(x impl.Tableau, stages []int64) impl.Tableau {
	over := func(row []int64) []int64 {
		list := make([]int64, len(stages))
		for stage, a := range row {
			last := -1
			for k, other := range stages {
				if other == int64(stage) {
					list[k] = d.below(impl.Prime)
					a -= list[k]
					last = k
				}
			}
			if last >= 0 {
				list[last] = remainder(list[last] + a)
			}
		}
		return list
	}
	y := impl.Tableau{B: over(x.B)}
	for _, stage := range stages {
		y.A = append(y.A, over(x.A[stage]))
	}
	return y
}

// spreadTableaus draws tableaus with alike stages of all numbers of classes, some of which have the
// sum 0 in B, and such as have stages that are not used.
func spreadTableaus() []impl.Tableau {
	draw := drawer(136)
	var list []impl.Tableau
	for stages := 2; stages <= impl.MaxStages; stages++ {
		for classes := 1; classes <= stages; classes++ {
			for round := range 6 {
				x := draw.tableau(classes)
				if round%3 == 1 {
					x.B[draw.below(int64(classes))] = 0
				}
				if round%3 == 2 {
					column := int(draw.below(int64(classes)))
					for i := range x.B {
						x.A[i][column] = 0
					}
					x.B[column] = 0
				}
				belongs := identity(classes)
				for len(belongs) < stages {
					belongs = append(belongs, draw.below(int64(classes)))
				}
				turned := make([]int64, stages)
				for i, stage := range draw.order(stages) {
					turned[i] = belongs[stage]
				}
				list = append(list, draw.spread(x, turned))
			}
		}
	}
	return list
}

// sparse draws a tableau in which most numbers are 0.
func (d *drawer) sparse(stages int) impl.Tableau {
	few := func() int64 { return max(0, d.below(6)-3) * (1 + d.below(2)*(impl.Prime-2)) }
	return ruled(stages, func(int, int) int64 { return few() }, func(int) int64 { return few() })
}

// manyTableaus has tableaus of all kinds: that can be reduced in all ways, or not at all.
func manyTableaus() []impl.Tableau {
	draw := drawer(137)
	list := append(someTableaus(), spreadTableaus()...)
	for round := range 300 {
		stages := 1 + round%impl.MaxStages
		list = append(list, draw.binary(stages, 2), draw.sparse(stages), draw.sparse(stages))
	}
	return list
}

// TestDropUnused compares with stages that are found one after the other.
func TestDropUnused(t *testing.T) {
	counts := map[int]int{}
	for _, x := range manyTableaus() {
		got, code := impl.DropUnused(x)
		wantTableau(t, fmt.Sprintf("DropUnused(%v)", x), got, code, plainDropped(x))
		counts[len(x.B)-len(plainUsed(x))]++
	}
	for count := range impl.MaxStages + 1 {
		if counts[count] == 0 {
			t.Errorf("no tableau with %d stages that are not used is looked at", count)
		}
	}
	for _, c := range []struct{ x, want impl.Tableau }{
		{tableauOf("0 0", "1 0", "0 1"), tableauOf("0 0", "1 0", "0 1")},
		{tableauOf("0 0", "1 0", "1 0"), tableauOf("0", "1")},
		{tableauOf("1 0", "1 0", "0 0"), tableauOf("0", "0")},
		{tableauOf("5", "0"), tableauOf("0", "0")},
		{tableauOf("0", "0"), tableauOf("0", "0")},
		{everyStage(8, 0), tableauOf("0", "0")},
		{altered(everyStage(8, 1), 8, 3, 0), altered(everyStage(8, 1), 8, 3, 0)},
		{tableauOf("1 2 3", "0 5 0", "7 8 9", "0 1 0"), tableauOf("5", "1")},
		{tableauOf("1 2 3", "4 5 0", "7 8 9", "0 1 0"), tableauOf("1 2 3", "4 5 0", "7 8 9", "0 1 0")},
		{tableauOf("0 0 3", "4 5 0", "0 8 9", "1 0 0"), tableauOf("0 0 3", "4 5 0", "0 8 9", "1 0 0")},
		{tableauOf("0 0 3", "4 5 0", "0 0 9", "1 0 0"), tableauOf("0 3", "0 9", "1 0")},
		{tableauOf("1 0 1", "1 1 1", "0 0 1", "0 0 1"), tableauOf("1", "1")},
		{tableauOf("0 1 0 0", "0 0 1 0", "0 0 0 1", "0 0 0 0", "1 0 0 0"), tableauOf("0 1 0 0", "0 0 1 0", "0 0 0 1", "0 0 0 0", "1 0 0 0")},
		{tableauOf("0 1 0 0", "0 0 1 0", "0 0 0 1", "0 0 0 0", "0 0 1 0"), tableauOf("0 1", "0 0", "1 0")},
		{tableauOf("0 0 0 0", "1 0 0 0", "0 1 0 0", "0 0 1 0", "0 1 0 0"), tableauOf("0 0", "1 0", "0 1")},
	} {
		got, code := impl.DropUnused(c.x)
		wantTableau(t, fmt.Sprintf("DropUnused(%v)", c.x), got, code, c.want)
	}
}

// TestAlikeStages compares with all partitions. There is no other one with as few classes.
func TestAlikeStages(t *testing.T) {
	counts := map[int]int{}
	for _, x := range manyTableaus() {
		want := plainAlike(x)
		got, code := impl.AlikeStages(x)
		wantList(t, fmt.Sprintf("AlikeStages(%v)", x), got, code, want)
		counts[len(leastIn(want))]++
	}
	for classes := 1; classes <= impl.MaxStages; classes++ {
		if counts[classes] < 10 {
			t.Errorf("%d tableaus with %d classes are looked at", counts[classes], classes)
		}
	}
	for _, c := range []struct {
		x    impl.Tableau
		want []int64
	}{
		{tableauOf("7", "0"), []int64{0}},
		{tableauOf("0 0", "1 0", "1 1"), []int64{0, 1}},
		{tableauOf("0 1", "1 0", "1 2"), []int64{0, 0}},
		{tableauOf("5004 5004", "1 0", "0 0"), []int64{0, 0}},
		{tableauOf("1 10006", "0 0", "1 0"), []int64{0, 0}},
		{tableauOf("0 0 0", "1 0 0", "0 0 0", "1 1 1"), []int64{0, 1, 0}},
		{tableauOf("0 0 0", "1 0 0", "0 0 1", "1 1 1"), []int64{0, 1, 2}},
		{tableauOf("0 0 0", "1 0 0", "0 0 0", "0 0 1"), []int64{0, 1, 0}},
		{tableauOf("0 0 0 0", "1 0 0 0", "0 0 0 0", "0 0 1 0", "1 2 3 4"), []int64{0, 1, 0, 1}},
		{tableauOf("0 0 0 0", "1 0 0 0", "0 1 0 0", "1 0 0 0", "1 2 3 4"), []int64{0, 1, 2, 1}},
		{tableauOf("0 0 0 0", "1 0 0 0", "0 1 0 0", "0 0 1 0", "1 2 3 4"), []int64{0, 1, 2, 3}},
		{tableauOf("0 0 1 1", "0 0 2 0", "3 3 0 0", "6 0 0 0", "1 2 3 4"), []int64{0, 0, 2, 2}},
		{everyStage(8, 3), make([]int64, 8)},
	} {
		got, code := impl.AlikeStages(c.x)
		wantList(t, fmt.Sprintf("AlikeStages(%v)", c.x), got, code, c.want)
	}
}

// TestAlikeStagesOfChains has stages that are told apart one after the other.
func TestAlikeStagesOfChains(t *testing.T) {
	for stages := 1; stages <= impl.MaxStages; stages++ {
		for _, isFirst := range []bool{true, false} {
			x := ruled(stages, func(i int, k int) int64 {
				if isFirst && k == i-1 || !isFirst && k == i+1 {
					return 1
				}
				return 0
			}, func(int) int64 { return 1 })
			got, code := impl.AlikeStages(x)
			wantList(t, fmt.Sprintf("AlikeStages(%v)", x), got, code, identity(stages))
			is, code := impl.IsReduced(x)
			wantTruth(t, fmt.Sprintf("IsReduced(%v)", x), is, code, true)
		}
	}
}

// TestMergeStages compares with sums over classes, and merges what was spread.
func TestMergeStages(t *testing.T) {
	for _, x := range manyTableaus() {
		want := plainMerged(x)
		got, code := impl.MergeStages(x)
		wantTableau(t, fmt.Sprintf("MergeStages(%v)", x), got, code, want)
		again, code := impl.MergeStages(got)
		wantTableau(t, fmt.Sprintf("merging %v twice", x), again, code, want)
	}
	for _, c := range []struct{ x, want impl.Tableau }{
		{tableauOf("0 1", "1 0", "1 2"), tableauOf("1", "3")},
		{tableauOf("7", "0"), tableauOf("7", "0")},
		{tableauOf("0 0", "1 -1", "1 -1"), tableauOf("0", "0")},
		{tableauOf("0 0", "0 1", "1 0"), tableauOf("0 0", "0 1", "1 0")},
		{tableauOf("1 2 3", "4 5 6", "3 2 1", "7 8 9"), tableauOf("4 2", "10 5", "16 8")},
		{tableauOf("0 0 0 0", "1 0 0 0", "0 0 0 0", "0 0 1 0", "1 2 3 4"), tableauOf("0 0", "1 0", "4 6")},
		{everyStage(8, 10006), tableauOf("-8", "-8")},
	} {
		got, code := impl.MergeStages(c.x)
		wantTableau(t, fmt.Sprintf("MergeStages(%v)", c.x), got, code, c.want)
	}
	draw := drawer(138)
	for classes := 1; classes <= impl.MaxStages; classes++ {
		x, belongs := draw.tableau(classes), identity(classes)
		for len(belongs) < impl.MaxStages {
			belongs = append(belongs, draw.below(int64(classes)))
		}
		got, code := impl.MergeStages(draw.spread(x, belongs))
		wantTableau(t, fmt.Sprintf("merging %v spread over %v", x, belongs), got, code, x)
	}
}

// wantSameWeights looks at the weights of all trees.
func wantSameWeights(t *testing.T, call string, got impl.Tableau, want impl.Tableau) {
	t.Helper()
	for _, tree := range plainTrees(impl.MaxNodes) {
		if n := plainWeight(got, tree.list()); n != plainWeight(want, tree.list()) {
			t.Errorf("%s = %v has the weight %d at %v", call, got, n, tree.list())
			return
		}
	}
}

// TestReduceTableau holds what promise 10 says of reducing: it changes no weight of a tree.
func TestReduceTableau(t *testing.T) {
	counts := map[[2]int]int{}
	for i, x := range manyTableaus() {
		call := fmt.Sprintf("ReduceTableau(%v)", x)
		want := plainReduced(x)
		got, code := impl.ReduceTableau(x)
		wantTableau(t, call, got, code, want)
		if i%6 == 0 {
			wantSameWeights(t, call, got, x)
		}
		again, code := impl.ReduceTableau(got)
		wantTableau(t, call+" twice", again, code, got)
		is, code := impl.IsReduced(got)
		wantTruth(t, "IsReduced of "+call, is, code, true)
		is, code = impl.IsReduced(x)
		wantTruth(t, fmt.Sprintf("IsReduced(%v)", x), is, code, sameTableau(want, x))
		counts[[2]int{len(x.B), len(want.B)}]++
	}
	for stages := 1; stages <= impl.MaxStages; stages++ {
		for left := 1; left <= stages; left++ {
			if counts[[2]int{stages, left}] == 0 {
				t.Errorf("no tableau with %d stages, of which %d are left, is looked at", stages, left)
			}
		}
	}
}

// TestWeightsAfterReducing asks the functions of chapter 9 for the same weights.
func TestWeightsAfterReducing(t *testing.T) {
	for i, x := range manyTableaus() {
		if i%2 != 0 {
			continue
		}
		reduced := kept(impl.ReduceTableau(x))
		for _, change := range []impl.Tableau{reduced, kept(impl.DropUnused(x)), kept(impl.MergeStages(x))} {
			got, code := impl.CharacterOf(change)
			wantList(t, fmt.Sprintf("the character of %v that was %v", change, x), got, code, must(impl.CharacterOf(x)))
		}
		for _, tree := range [][]int64{tall(7), bush(7), tall(8), bush(8), {0, 1, 2, 1, 2, 3, 3, 1}} {
			want, _ := impl.WeightOf(x, tree)
			got, code := impl.WeightOf(reduced, tree)
			wantNumber(t, fmt.Sprintf("WeightOf(%v, %v)", reduced, tree), got, code, want)
		}
	}
}

// TestReducingInTurn has tableaus that are reduced in several steps, beginning with dropping.
func TestReducingInTurn(t *testing.T) {
	neutral := tableauOf("0", "0")
	for _, c := range []struct{ x, want impl.Tableau }{
		{tableauOf("0 0", "1 -1", "1 -1"), neutral},
		{tableauOf("5", "0"), neutral},
		{neutral, neutral},
		{everyStage(8, 0), neutral},
		{tableauOf("1 2 3", "2 3 1", "3 1 2", "1 1 -2"), neutral},
		// Two stages with the sum 0 are merged, and dropped after that.
		{tableauOf("0 0 0", "0 0 0", "0 0 1", "1 -1 1"), tableauOf("1", "1")},
		{tableauOf("1 0 0", "0 0 0", "0 0 0", "1 1 -1"), tableauOf("1", "1")},
		{tableauOf("2 1 -1", "0 0 0", "0 0 0", "1 5 -5"), tableauOf("2", "1")},
		{tableauOf("0 1 -1 2", "0 3 4 0", "0 4 3 0", "0 5 -5 1", "1 2 -2 3"), tableauOf("0 2", "0 1", "1 3")},
		// Merged, they are still used by another one.
		{tableauOf("0 0 0", "0 0 0", "2 3 0", "1 -1 1"), tableauOf("0 0", "5 0", "0 1")},
		// The first stage is dropped before it could take the place of the last one.
		{tableauOf("0 0 0", "0 0 1", "0 0 0", "0 1/2 1/2"), tableauOf("0 1", "0 0", "1/2 1/2")},
	} {
		want := plainReduced(c.x)
		call := fmt.Sprintf("ReduceTableau(%v)", c.x)
		got, code := impl.ReduceTableau(c.x)
		wantTableau(t, call, got, code, want)
		wantSameWeights(t, call, got, c.x)
		if !sameTableau(want, c.want) {
			t.Errorf("%s: %v by steps, want %v", call, want, c.want)
		}
	}
	draw := drawer(139)
	for classes := 2; classes < impl.MaxStages; classes++ {
		x := draw.tableau(classes)
		for i := range classes {
			x.A[i][classes-1] = 0
			x.B[i] = max(x.B[i], 1)
		}
		x.B[classes-1] = 0
		belongs := append(identity(classes), int64(classes-1))
		y := draw.spread(x, belongs)
		got, code := impl.ReduceTableau(y)
		left := kept(impl.DropUnused(x))
		wantTableau(t, fmt.Sprintf("ReduceTableau(%v)", y), got, code, left)
		if len(kept(impl.DropUnused(y)).B) != classes+1 || len(kept(impl.MergeStages(y)).B) != classes || len(left.B) != classes-1 {
			t.Errorf("%v does not take two steps", y)
		}
	}
}

// TestIsReduced has tableaus that only one of dropping and merging changes.
func TestIsReduced(t *testing.T) {
	for _, c := range []struct {
		x    impl.Tableau
		want bool
	}{
		{tableauOf("0", "0"), true}, {tableauOf("5", "0"), false}, {tableauOf("0", "1"), true}, {tableauOf("5", "1"), true},
		{tableauOf("0 0", "1 0", "1/2 1/2"), true}, {tableauOf("0 0", "1 0", "0 1"), true}, {tableauOf("0 0", "1 0", "1 0"), false},
		{tableauOf("0 0", "0 0", "1/2 1/2"), false}, {tableauOf("0 1", "1 0", "1 2"), false}, {tableauOf("0 0", "1 -1", "1 -1"), false},
		{everyStage(8, 0), false}, {everyStage(8, 1), false}, {fifth(), true}, {sixth(), true}, {padded(sixth(), 1, 2, 3, 4, 5, 6, 7, 8), false},
		{tableauOf("0 0 0", "1 0 0", "0 0 0", "1 1 1"), false}, {tableauOf("0 0 0", "1 0 0", "0 0 0", "1 1 0"), false},
	} {
		is, code := impl.IsReduced(c.x)
		wantTruth(t, fmt.Sprintf("IsReduced(%v)", c.x), is, code, c.want)
	}
	for _, named := range namedCases() {
		is, code := impl.IsReduced(named.tableau)
		wantTruth(t, "IsReduced of "+named.name, is, code, true)
	}
	for _, x := range manyTableaus() {
		is, code := impl.IsReduced(x)
		isLeft := sameTableau(plainDropped(x), x) && sameTableau(plainMerged(x), x)
		wantTruth(t, fmt.Sprintf("IsReduced(%v)", x), is, code, isLeft)
	}
}

// TestCompositionsWithInverses holds what promise 10 says of them: they are reduced to the neutral
// tableau, in both orders.
func TestCompositionsWithInverses(t *testing.T) {
	draw := drawer(140)
	list := fewStages(impl.MaxStages / 2)
	for round := range 200 {
		stages := 1 + round%4
		list = append(list, draw.binary(stages, 2), draw.sparse(stages), draw.tableau(stages))
	}
	for _, x := range list {
		inverse := kept(impl.InverseTableau(x))
		for _, both := range []impl.Tableau{kept(impl.ComposeTableaus(x, inverse)), kept(impl.ComposeTableaus(inverse, x))} {
			got, code := impl.ReduceTableau(both)
			wantTableau(t, fmt.Sprintf("ReduceTableau of %v with its inverse", x), got, code, impl.NeutralTableau())
		}
		twice := kept(impl.ComposeTableaus(plainBack(x), plainMultiple(plainMultiple(x, impl.Prime-1), impl.Prime-1)))
		got, code := impl.ReduceTableau(twice)
		wantTableau(t, fmt.Sprintf("ReduceTableau of the inverse with %v", x), got, code, tableauOf("0", "0"))
	}
	for first := 1; first <= 3; first++ {
		second := 4 - first
		x, y := draw.tableau(first), draw.tableau(second)
		both := kept(impl.ComposeTableaus(x, y))
		back := kept(impl.ComposeTableaus(kept(impl.InverseTableau(y)), kept(impl.InverseTableau(x))))
		got, code := impl.ReduceTableau(kept(impl.ComposeTableaus(both, back)))
		wantTableau(t, fmt.Sprintf("%v, %v and both inverses", x, y), got, code, tableauOf("0", "0"))
	}
}

// TestReducingWithNeutral composes with what changes nothing.
func TestReducingWithNeutral(t *testing.T) {
	for _, x := range fewStages(impl.MaxStages - 1) {
		want := plainReduced(x)
		for _, both := range []impl.Tableau{kept(impl.ComposeTableaus(x, impl.NeutralTableau())), kept(impl.ComposeTableaus(impl.NeutralTableau(), x))} {
			got, code := impl.ReduceTableau(both)
			wantTableau(t, fmt.Sprintf("ReduceTableau(%v)", both), got, code, want)
		}
		scaled, code := impl.ReduceTableau(kept(impl.ScaleTableau(x, 0)))
		wantTableau(t, fmt.Sprintf("ReduceTableau(%v scaled by 0)", x), scaled, code, tableauOf("0", "0"))
	}
}
