package tests

import (
	"cmp"
	"fmt"
	"slices"
	"testing"

	"loop.example/g01100/impl"
)

// plainHas reports whether a set, whose bits are nodes, has a node.
func plainHas(set int, node int) bool { return set>>node&1 == 1 }

// plainSets makes all sets of nodes that have, with a node, all children of it.
func plainSets(list []int64) []int {
	var sets []int
	for set := range 1 << len(list) {
		isCut := true
		for node := 1; node < len(list); node++ {
			isCut = isCut && (plainHas(set, node) || !plainHas(set, plainParent(list, node)))
		}
		if isCut {
			sets = append(sets, set)
		}
	}
	return sets
}

// plainLeft follows the definition of what a cut leaves.
func plainLeft(list []int64, set int) impl.Split {
	var left impl.Split
	var others []int64
	for node, level := range list {
		if !plainHas(set, node) {
			others = append(others, level)
		} else if node == 0 || !plainHas(set, plainParent(list, node)) {
			left.Crown = append(left.Crown, plainCanonical(plainRaised(list[node:plainEnd(list, node)], -level)))
		}
	}
	if len(others) > 0 {
		left.Trunk = [][]int64{plainCanonical(others)}
	}
	return left
}

// plainCuts makes a cut of each tree in all combinations.
func plainCuts(f [][]int64) []impl.Split {
	splits := []impl.Split{{}}
	for _, list := range f {
		var more []impl.Split
		for _, set := range plainSets(list) {
			left := plainLeft(list, set)
			for _, split := range splits {
				crown, trunk := plainProductOf(split.Crown, left.Crown), plainProductOf(split.Trunk, left.Trunk)
				more = append(more, impl.Split{Crown: crown, Trunk: trunk})
			}
		}
		splits = more
	}
	return splits
}

func plainForestOrder(f [][]int64, g [][]int64) int {
	return cmp.Or(plainNodes(f)-plainNodes(g), len(f)-len(g), slices.CompareFunc(f, g, plainOrder))
}

func plainCutOrder(a impl.Split, b impl.Split) int {
	return cmp.Or(plainForestOrder(a.Crown, b.Crown), plainForestOrder(a.Trunk, b.Trunk))
}

// plainSplits sorts and counts the cuts of a forest.
func plainSplits(f [][]int64) []impl.Split {
	var counted []impl.Split
	for _, split := range slices.SortedFunc(slices.Values(plainCuts(f)), plainCutOrder) {
		if len(counted) == 0 || plainCutOrder(split, counted[len(counted)-1]) != 0 {
			counted = append(counted, split)
		}
		counted[len(counted)-1].Count++
	}
	return counted
}

// splitsOf turns cuts of a tree into those of the forest with this tree.
func splitsOf(cuts []impl.Cut) []impl.Split {
	var splits []impl.Split
	for _, cut := range cuts {
		split := impl.Split{Crown: cut.Crown, Count: cut.Count}
		if len(cut.Trunk) > 0 {
			split.Trunk = [][]int64{cut.Trunk}
		}
		splits = append(splits, split)
	}
	return splits
}

func splitText(split impl.Split) string {
	return plainForestText(split.Crown) + " " + plainForestText(split.Trunk)
}

// countsOf has the numbers of cuts by their texts.
func countsOf(splits []impl.Split) map[string]int64 {
	counts := map[string]int64{}
	for _, split := range splits {
		counts[splitText(split)] += split.Count
	}
	return counts
}

func totalOfSplits(splits []impl.Split) int64 {
	total := int64(0)
	for _, split := range splits {
		total += split.Count
	}
	return total
}

// wantSplits checks cuts and a code that a call has returned.
func wantSplits(t *testing.T, call string, got []impl.Split, code int64, want []impl.Split) {
	t.Helper()
	isSame := func(a, b impl.Split) bool {
		isCrown, isTrunk := slices.EqualFunc(a.Crown, b.Crown, slices.Equal), slices.EqualFunc(a.Trunk, b.Trunk, slices.Equal)
		return isCrown && isTrunk && a.Count == b.Count
	}
	if !slices.EqualFunc(got, want, isSame) || code != impl.ErrNone {
		t.Errorf("%s = %v, code %d; want %v", call, got, code, want)
	}
}

func TestCutsExamples(t *testing.T) {
	cherry := []int64{0, 1, 1}
	cuts, code := impl.CutsOf(cherry)
	wantSplits(t, "CutsOf", splitsOf(cuts), code, []impl.Split{
		{Trunk: [][]int64{{0, 1, 1}}, Count: 1}, {Crown: [][]int64{{0}}, Trunk: [][]int64{{0, 1}}, Count: 2},
		{Crown: [][]int64{{0}, {0}}, Trunk: [][]int64{{0}}, Count: 1}, {Crown: [][]int64{{0, 1, 1}}, Count: 1},
	})
	n, code := impl.CountCuts(cherry)
	wantNumber(t, "CountCuts", n, code, 5)
	n, code = impl.CountCut(cherry, [][]int64{{0}}, []int64{0, 1})
	wantNumber(t, "CountCut", n, code, 2)
	sum, code := impl.RootSubtrees(cherry)
	wantCounted(t, "RootSubtrees", sum, code, []impl.Counted{{Tree: []int64{0}, Count: 1}, {Tree: []int64{0, 1}, Count: 2}, {Tree: cherry, Count: 1}})
	cuts, code = impl.CutBranches(cherry)
	wantSplits(t, "CutBranches", splitsOf(cuts), code, []impl.Split{{Crown: [][]int64{{0}}, Trunk: [][]int64{{0, 1}}, Count: 2}})
	splits, code := impl.CutsOfForest([][]int64{{0}, {0}})
	wantSplits(t, "CutsOfForest", splits, code, []impl.Split{
		{Trunk: [][]int64{{0}, {0}}, Count: 1}, {Crown: [][]int64{{0}}, Trunk: [][]int64{{0}}, Count: 2}, {Crown: [][]int64{{0}, {0}}, Count: 1},
	})
}

func TestCutsOfEmptyForest(t *testing.T) {
	for _, none := range [][][]int64{nil, {}} {
		splits, code := impl.CutsOfForest(none)
		wantSplits(t, "CutsOfForest of the empty forest", splits, code, []impl.Split{{Count: 1}})
	}
}

func TestCutsOfOneNode(t *testing.T) {
	root := []int64{0}
	cuts, code := impl.CutsOf(root)
	wantSplits(t, "CutsOf one node", splitsOf(cuts), code, []impl.Split{{Trunk: [][]int64{root}, Count: 1}, {Crown: [][]int64{root}, Count: 1}})
	n, code := impl.CountCuts(root)
	wantNumber(t, "CountCuts of one node", n, code, 2)
	sum, code := impl.RootSubtrees(root)
	wantCounted(t, "RootSubtrees of one node", sum, code, []impl.Counted{{Tree: root, Count: 1}})
	cuts, code = impl.CutBranches(root)
	wantSplits(t, "CutBranches of one node", splitsOf(cuts), code, nil)
}

// TestSimpleCuts checks numbers of cuts that are known without cutting.
func TestSimpleCuts(t *testing.T) {
	for n := 2; n <= impl.MaxNodes; n++ {
		var chain, star, nodes []impl.Split
		ways := int64(1)
		for k := range n {
			chain = append(chain, impl.Split{Trunk: [][]int64{tall(n - k)}, Count: 1})
			star = append(star, impl.Split{Crown: copies([]int64{0}, k), Trunk: [][]int64{bush(n - k)}, Count: ways})
			nodes = append(nodes, impl.Split{Crown: copies([]int64{0}, k), Trunk: copies([]int64{0}, n-1-k), Count: ways})
			ways = ways * int64(n-1-k) / int64(k+1)
			if k > 0 {
				chain[k].Crown = [][]int64{tall(k)}
			}
		}
		chain = append(chain, impl.Split{Crown: [][]int64{tall(n)}, Count: 1})
		star = append(star, impl.Split{Crown: [][]int64{bush(n)}, Count: 1})
		cuts, code := impl.CutsOf(tall(n))
		wantSplits(t, fmt.Sprintf("CutsOf(%v)", tall(n)), splitsOf(cuts), code, chain)
		cuts, code = impl.CutsOf(bush(n))
		wantSplits(t, fmt.Sprintf("CutsOf(%v)", bush(n)), splitsOf(cuts), code, star)
		splits, code := impl.CutsOfForest(copies([]int64{0}, n-1))
		wantSplits(t, fmt.Sprintf("CutsOfForest of %d nodes", n-1), splits, code, nodes)
	}
	splits, code := impl.CutsOfForest(copies([]int64{0}, impl.MaxNodes))
	wantNumber(t, "the cuts of a forest of single nodes", totalOfSplits(splits), code, 1<<impl.MaxNodes)
}

// TestCutsOrder has crowns with equally many nodes, equally many trees among them, and the same
// trees.
func TestCutsOrder(t *testing.T) {
	cuts, code := impl.CutsOf([]int64{0, 1, 2, 2, 1, 2})
	wantSplits(t, "CutsOf", splitsOf(cuts), code, []impl.Split{
		{Trunk: [][]int64{{0, 1, 2, 2, 1, 2}}, Count: 1},
		{Crown: [][]int64{{0}}, Trunk: [][]int64{{0, 1, 2, 2, 1}}, Count: 1},
		{Crown: [][]int64{{0}}, Trunk: [][]int64{{0, 1, 2, 1, 2}}, Count: 2},
		{Crown: [][]int64{{0, 1}}, Trunk: [][]int64{{0, 1, 2, 2}}, Count: 1},
		{Crown: [][]int64{{0}, {0}}, Trunk: [][]int64{{0, 1, 2, 1}}, Count: 3},
		{Crown: [][]int64{{0, 1, 1}}, Trunk: [][]int64{{0, 1, 2}}, Count: 1},
		{Crown: [][]int64{{0}, {0, 1}}, Trunk: [][]int64{{0, 1, 2}}, Count: 2},
		{Crown: [][]int64{{0}, {0}, {0}}, Trunk: [][]int64{{0, 1, 1}}, Count: 1},
		{Crown: [][]int64{{0}, {0, 1, 1}}, Trunk: [][]int64{{0, 1}}, Count: 1},
		{Crown: [][]int64{{0}, {0}, {0, 1}}, Trunk: [][]int64{{0, 1}}, Count: 1},
		{Crown: [][]int64{{0, 1}, {0, 1, 1}}, Trunk: [][]int64{{0}}, Count: 1},
		{Crown: [][]int64{{0, 1, 2, 2, 1, 2}}, Count: 1},
	})
	splits, code := impl.CutsOfForest([][]int64{{0}, {0, 1}})
	wantSplits(t, "CutsOfForest", splits, code, []impl.Split{
		{Trunk: [][]int64{{0}, {0, 1}}, Count: 1},
		{Crown: [][]int64{{0}}, Trunk: [][]int64{{0, 1}}, Count: 1},
		{Crown: [][]int64{{0}}, Trunk: [][]int64{{0}, {0}}, Count: 1},
		{Crown: [][]int64{{0, 1}}, Trunk: [][]int64{{0}}, Count: 1},
		{Crown: [][]int64{{0}, {0}}, Trunk: [][]int64{{0}}, Count: 1},
		{Crown: [][]int64{{0}, {0, 1}}, Count: 1},
	})
	splits, code = impl.CutsOfForest([][]int64{{0, 1, 2, 3}, {0, 1, 2, 2}})
	wantSplits(t, "the first cuts of CutsOfForest", splits[:3], code, []impl.Split{
		{Trunk: [][]int64{{0, 1, 2, 3}, {0, 1, 2, 2}}, Count: 1},
		{Crown: [][]int64{{0}}, Trunk: [][]int64{{0, 1, 2}, {0, 1, 2, 3}}, Count: 2},
		{Crown: [][]int64{{0}}, Trunk: [][]int64{{0, 1, 2}, {0, 1, 2, 2}}, Count: 1},
	})
}

// TestCutsOfEachTree checks that functions return the same for all lists of a tree, and what the
// definitions say.
func TestCutsOfEachTree(t *testing.T) {
	for _, tree := range plainTrees(impl.MaxNodes) {
		want := plainSplits([][]int64{tree.list()})
		var trunks [][]int64
		for _, split := range plainCuts([][]int64{tree.list()}) {
			trunks = append(trunks, split.Trunk...)
		}
		single := slices.DeleteFunc(slices.Clone(want), func(s impl.Split) bool { return len(s.Crown) != 1 || len(s.Trunk) != 1 })
		for _, list := range tree {
			cuts, code := impl.CutsOf(list)
			wantSplits(t, fmt.Sprintf("CutsOf(%v)", list), splitsOf(cuts), code, want)
			n, code := impl.CountCuts(list)
			wantNumber(t, fmt.Sprintf("CountCuts(%v)", list), n, code, totalOfSplits(want))
			sum, code := impl.RootSubtrees(list)
			wantCounted(t, fmt.Sprintf("RootSubtrees(%v)", list), sum, code, plainCounted(trunks))
			cuts, code = impl.CutBranches(list)
			wantSplits(t, fmt.Sprintf("CutBranches(%v)", list), splitsOf(cuts), code, single)
		}
	}
}

// TestCutsByBranches holds the part of promise 5 about these: a cut that leaves the root is one of
// each branch. And one tree is cut off above each other node, as in chapter 4.
func TestCutsByBranches(t *testing.T) {
	for _, tree := range plainTrees(impl.MaxNodes) {
		want := int64(1)
		for _, branch := range must(impl.BranchesOf(tree.list())) {
			n, _ := impl.CountCuts(branch)
			want *= n
		}
		n, code := impl.CountCuts(tree.list())
		wantNumber(t, fmt.Sprintf("CountCuts(%v) by branches", tree.list()), n, code, want+1)
		sum, code := impl.RootSubtrees(tree.list())
		wantNumber(t, fmt.Sprintf("the cuts of RootSubtrees(%v)", tree.list()), totalOf(sum), code, want)
		cuts, code := impl.CutBranches(tree.list())
		wantNumber(t, fmt.Sprintf("the cuts of CutBranches(%v)", tree.list()), totalOfSplits(splitsOf(cuts)), code, int64(len(tree.list())-1))
		for _, cut := range cuts {
			n, code := impl.CountCutsTo(tree.list(), cut.Trunk, cut.Crown[0])
			wantNumber(t, fmt.Sprintf("CountCutsTo(%v, %v, %v)", tree.list(), cut.Trunk, cut.Crown[0]), n, code, cut.Count)
		}
	}
}

func TestCutsOfEachForest(t *testing.T) {
	for _, f := range plainForests(impl.MaxNodes) {
		call := fmt.Sprintf("CutsOfForest(%v)", f)
		got, code := impl.CutsOfForest(f)
		wantSplits(t, call, got, code, plainSplits(f))
		want := int64(1)
		for _, list := range f {
			n, _ := impl.CountCuts(list)
			want *= n
		}
		wantNumber(t, "the cuts of "+call, totalOfSplits(got), code, want)
		if len(f) == 1 {
			cuts, code := impl.CutsOf(f[0])
			wantSplits(t, fmt.Sprintf("CutsOf(%v)", f[0]), splitsOf(cuts), code, got)
		}
	}
}

// wantCountCut gives any list of the tree and of the trunk.
func wantCountCut(t *testing.T, draw *drawer, tree plainTree, crown [][]int64, trunk [][]int64, want int64) {
	t.Helper()
	list, left := draw.anyList(tree), []int64(nil)
	if len(trunk) > 0 {
		left = draw.anyList(plainLike(trunk[0]))
	}
	got, code := impl.CountCut(list, crown, left)
	wantNumber(t, fmt.Sprintf("CountCut(%v, %v, %v)", list, crown, left), got, code, want)
}

// TestCountCut takes crowns and trunks of the same cut, and of different ones of the same tree.
func TestCountCut(t *testing.T) {
	draw := drawer(50)
	for _, tree := range plainTrees(impl.MaxNodes) {
		splits := plainSplits([][]int64{tree.list()})
		counts := countsOf(splits)
		for _, split := range splits {
			wantCountCut(t, &draw, tree, split.Crown, split.Trunk, split.Count)
			other := splits[draw.below(int64(len(splits)))]
			wantCountCut(t, &draw, tree, split.Crown, other.Trunk, counts[splitText(impl.Split{Crown: split.Crown, Trunk: other.Trunk})])
		}
	}
}

// TestCountCutOthers takes all crowns and trunks, which no cut leaves for the most part.
func TestCountCutOthers(t *testing.T) {
	draw := drawer(51)
	trunks := [][][]int64{nil}
	for _, tree := range plainTrees(5) {
		trunks = append(trunks, [][]int64{tree.list()})
	}
	for _, tree := range plainTrees(5) {
		counts := countsOf(plainSplits([][]int64{tree.list()}))
		for _, crown := range plainForests(5) {
			for _, trunk := range trunks {
				wantCountCut(t, &draw, tree, crown, trunk, counts[splitText(impl.Split{Crown: crown, Trunk: trunk})])
			}
		}
	}
}

func TestCountCutOfNothingAndAll(t *testing.T) {
	for _, tree := range plainTrees(impl.MaxNodes) {
		whole, list := [][]int64{tree.list()}, tree[len(tree)-1]
		for _, none := range [][]int64{nil, {}} {
			n, code := impl.CountCut(list, whole, none)
			wantNumber(t, fmt.Sprintf("CountCut(%v, all, nothing)", list), n, code, 1)
			n, code = impl.CountCut(list, nil, none)
			wantNumber(t, fmt.Sprintf("CountCut(%v, nothing, nothing)", list), n, code, 0)
			n, code = impl.CountCut(list, [][]int64{}, list)
			wantNumber(t, fmt.Sprintf("CountCut(%v, nothing, all)", list), n, code, 1)
			n, code = impl.CountCut(list, whole, list)
			wantNumber(t, fmt.Sprintf("CountCut(%v, all, all)", list), n, code, 0)
			n, code = impl.CountCut(list, must(impl.BranchesOf(list)), []int64{0})
			wantNumber(t, fmt.Sprintf("CountCut(%v, the branches, the root)", list), n, code, 1)
			if len(list) > 1 {
				n, code = impl.CountCut(list, must(impl.BranchesOf(list)), none)
				wantNumber(t, fmt.Sprintf("CountCut(%v, the branches, nothing)", list), n, code, 0)
			}
		}
	}
}

// threefold cuts the crowns of cuts again, and the trunks.
func threefold(splits []impl.Split) (map[string]int64, map[string]int64) {
	byCrowns, byTrunks := map[string]int64{}, map[string]int64{}
	for _, split := range splits {
		for _, part := range must(impl.CutsOfForest(split.Crown)) {
			byCrowns[splitText(part)+" "+plainForestText(split.Trunk)] += split.Count * part.Count
		}
		for _, part := range must(impl.CutsOfForest(split.Trunk)) {
			byTrunks[plainForestText(split.Crown)+" "+splitText(part)] += split.Count * part.Count
		}
	}
	return byCrowns, byTrunks
}

// TestThreefoldCuts holds the part of promise 23 about these. Those of a tree are as many as the
// rising numberings with three numbers.
func TestThreefoldCuts(t *testing.T) {
	for _, f := range plainForests(impl.MaxNodes) {
		splits := must(impl.CutsOfForest(f))
		if len(f) == 1 {
			splits = splitsOf(must(impl.CutsOf(f[0])))
		}
		byCrowns, byTrunks := threefold(splits)
		total, want := int64(0), int64(1)
		for _, count := range byCrowns {
			total += count
		}
		for _, list := range f {
			n, _ := impl.CountRising(list, 3)
			want *= n
		}
		if fmt.Sprint(byCrowns) != fmt.Sprint(byTrunks) || total != want {
			t.Errorf("%v has the threefold cuts %v by crowns and %v by trunks; want %d", f, byCrowns, byTrunks, want)
		}
	}
}

// TestCutsInvalid gives several wrong arguments at once.
func TestCutsInvalid(t *testing.T) {
	for _, bad := range notLevels() {
		cuts, code := impl.CutsOf(bad)
		wantNone(t, fmt.Sprintf("CutsOf(%v)", bad), cuts, code, impl.ErrInvalid)
		n, code := impl.CountCuts(bad)
		wantFault(t, fmt.Sprintf("CountCuts(%v)", bad), n, code, impl.ErrInvalid)
		sum, code := impl.RootSubtrees(bad)
		wantNone(t, fmt.Sprintf("RootSubtrees(%v)", bad), sum, code, impl.ErrInvalid)
		cuts, code = impl.CutBranches(bad)
		wantNone(t, fmt.Sprintf("CutBranches(%v)", bad), cuts, code, impl.ErrInvalid)
	}
	for _, bad := range notForests() {
		splits, code := impl.CutsOfForest(bad)
		wantNone(t, fmt.Sprintf("CutsOfForest(%v)", bad), splits, code, impl.ErrInvalid)
	}
}

// TestCountCutInvalid has each argument wrong beside right and wrong other ones.
func TestCountCutInvalid(t *testing.T) {
	want := func(list []int64, crown [][]int64, trunk []int64) {
		t.Helper()
		n, code := impl.CountCut(list, crown, trunk)
		wantFault(t, fmt.Sprintf("CountCut(%v, %v, %v)", list, crown, trunk), n, code, impl.ErrInvalid)
	}
	lists := [][]int64{{0}, {0, 1, 1, 2}, tall(impl.MaxNodes), {1}, make([]int64, impl.MaxNodes)}
	forests := [][][]int64{nil, {{0}}, {{0}, {0, 1}}, {tall(impl.MaxNodes)}, {{0, 1}, {0}}, {nil}}
	for _, f := range forests {
		for _, bad := range notLevels() {
			want(bad, f, nil)
			for _, list := range lists {
				want(bad, f, list)
				if len(bad) > 0 {
					want(list, f, bad)
				}
			}
		}
	}
	for _, bad := range notForests() {
		for _, list := range lists {
			for _, trunk := range append(lists, nil, []int64{}) {
				want(list, bad, trunk)
			}
		}
	}
}

// TestCutsMemory checks that arguments stay as they are, and that results are new memory.
func TestCutsMemory(t *testing.T) {
	forest := [][]int64{{0}, {0}, {0, 1, 1}}
	lists := [][]int64{{0, 1, 1, 2}, {0}, {0, 1, 1}, {0, 1, 1, 1}, {0, 1, 2, 3}}
	rows, trees := guarded(lists), guarded(forest)
	for range 2 {
		var results [][]int64
		for _, list := range rows {
			for _, cut := range slices.Concat(must(impl.CutsOf(list)), must(impl.CutBranches(list))) {
				results = append(append(results, cut.Crown...), cut.Trunk)
			}
			results = append(results, treesOfSum(must(impl.RootSubtrees(list)))...)
			impl.CountCuts(list)
			impl.CountCut(list, trees, rows[0])
			impl.CountRising(list, 2)
			impl.CountStrict(list, 2)
		}
		for _, split := range must(impl.CutsOfForest(trees)) {
			results = append(append(results, split.Crown...), split.Trunk...)
		}
		wantApart(t, "the functions of cuts", results...)
		wantUntouched(t, "a function of cuts", rows, lists)
		wantUntouched(t, "a function of cuts", trees, forest)
	}
}

// TestCrownsApart checks that the lists that crowns and trunks are, spare capacity included, share
// no memory.
func TestCrownsApart(t *testing.T) {
	var forests [][][]int64
	for _, cut := range must(impl.CutsOf([]int64{0, 1, 1, 2, 1, 2})) {
		forests = append(forests, cut.Crown)
	}
	for _, split := range must(impl.CutsOfForest([][]int64{{0}, {0}, {0, 1, 1}})) {
		forests = append(forests, split.Crown, split.Trunk)
	}
	for i, f := range forests {
		for k := range f[:cap(f)] {
			f[:cap(f)][k] = []int64{int64(i)}
		}
	}
	for i, f := range forests {
		for _, list := range f[:cap(f)] {
			if list[0] != int64(i) {
				t.Fatalf("the crown or trunk %d shares memory with another one", i)
			}
		}
	}
}
