package tests

import (
	"fmt"
	"math"
	"slices"
	"sync"
	"testing"

	"loop.example/g01100/impl"
)

// canonicalLists has the canonical list of the tree of each level list.
var canonicalLists = sync.OnceValue(func() map[string][]int64 {
	canonical := map[string][]int64{}
	for _, tree := range plainTrees(impl.MaxNodes) {
		for _, list := range tree {
			canonical[fmt.Sprint(list)] = tree.list()
		}
	}
	return canonical
})

func plainCanonical(list []int64) []int64 { return canonicalLists()[fmt.Sprint(list)] }

// plainCounted sorts and counts the trees of level lists.
func plainCounted(lists [][]int64) []impl.Counted {
	var trees [][]int64
	for _, list := range lists {
		trees = append(trees, plainCanonical(list))
	}
	slices.SortFunc(trees, plainOrder)
	var counted []impl.Counted
	for i, list := range trees {
		if i == 0 || !slices.Equal(list, trees[i-1]) {
			counted = append(counted, impl.Counted{Tree: list})
		}
		counted[len(counted)-1].Count++
	}
	return counted
}

// plainRaised adds to all levels.
func plainRaised(list []int64, by int64) []int64 {
	raised := slices.Clone(list)
	for i := range raised {
		raised[i] += by
	}
	return raised
}

// plainGraft walks through u, and puts each tree of f behind the node that is chosen for it.
func plainGraft(u []int64, f [][]int64, nodes []int) []int64 {
	var grafted []int64
	for node, level := range u {
		grafted = append(grafted, level)
		for i, v := range f {
			if nodes[i] == node {
				grafted = append(grafted, plainRaised(v, level+1)...)
			}
		}
	}
	return grafted
}

// plainGraftings follows the definition of the graft sum of a tree and a forest: it goes through
// all ways to choose a node for each tree.
func plainGraftings(u []int64, f [][]int64) [][]int64 {
	ways := 1
	for range f {
		ways *= len(u)
	}
	lists := make([][]int64, ways)
	for way := range lists {
		nodes, rest := make([]int, len(f)), way
		for i := range nodes {
			nodes[i], rest = rest%len(u), rest/len(u)
		}
		lists[way] = plainGraft(u, f, nodes)
	}
	return lists
}

// plainCut takes the branch at a node out of a list.
func plainCut(list []int64, node int) ([]int64, []int64) {
	end := plainEnd(list, node)
	trunk := slices.Concat(list[:node], list[end:])
	return plainCanonical(trunk), plainCanonical(plainRaised(list[node:end], -list[node]))
}

// anyList draws one of the lists of a tree.
func (d *drawer) anyList(tree plainTree) []int64 { return tree[d.below(int64(len(tree)))] }

// notNodes are no nodes of a tree with n nodes.
func notNodes(n int) []int64 {
	return []int64{-1, -2, int64(-n), int64(n), int64(n + 1), impl.MaxNodes, 1 << 8, 1 << 32, -1 << 32, 1<<32 + 1, math.MinInt64, math.MaxInt64}
}

// wantCounted checks trees with their numbers and a code that a call has returned.
func wantCounted(t *testing.T, call string, got []impl.Counted, code int64, want []impl.Counted) {
	t.Helper()
	isSame := func(a, b impl.Counted) bool { return slices.Equal(a.Tree, b.Tree) && a.Count == b.Count }
	if !slices.EqualFunc(got, want, isSame) || code != impl.ErrNone {
		t.Errorf("%s = %v, code %d; want %v", call, got, code, want)
	}
}

// countOf looks a canonical list up in a sum.
func countOf(sum []impl.Counted, list []int64) int64 {
	for _, part := range sum {
		if slices.Equal(part.Tree, list) {
			return part.Count
		}
	}
	return 0
}

func totalOf(sum []impl.Counted) int64 {
	total := int64(0)
	for _, part := range sum {
		total += part.Count
	}
	return total
}

func TestGraftingExamples(t *testing.T) {
	list, code := impl.GraftAt([]int64{0, 1}, 1, []int64{0})
	wantList(t, "GraftAt", list, code, []int64{0, 1, 2})
	sum, code := impl.GraftSum([]int64{0, 1, 1}, []int64{0})
	wantCounted(t, "GraftSum", sum, code, []impl.Counted{{Tree: []int64{0, 1, 2, 1}, Count: 2}, {Tree: []int64{0, 1, 1, 1}, Count: 1}})
	sum, code = impl.GraftForest([]int64{0, 1}, [][]int64{{0}, {0}})
	wantCounted(t, "GraftForest", sum, code, []impl.Counted{
		{Tree: []int64{0, 1, 2, 2}, Count: 1}, {Tree: []int64{0, 1, 2, 1}, Count: 2}, {Tree: []int64{0, 1, 1, 1}, Count: 1},
	})
	list, code = impl.ButcherProduct([]int64{0, 1, 1}, []int64{0, 1})
	wantList(t, "ButcherProduct", list, code, []int64{0, 1, 2, 1, 1})
	trunk, branch, code := impl.CutAbove([]int64{0, 1, 2, 1}, 1)
	wantList(t, "the trunk of CutAbove", trunk, code, []int64{0, 1})
	wantList(t, "the branch of CutAbove", branch, code, []int64{0, 1})
	n, code := impl.CountCutsTo([]int64{0, 1, 1, 1}, []int64{0, 1, 1}, []int64{0})
	wantNumber(t, "CountCutsTo", n, code, 3)
}

// TestNodesAreCanonical checks that nodes are those of the canonical list, whichever list is given.
func TestNodesAreCanonical(t *testing.T) {
	other := []int64{0, 1, 1, 2} // canonically {0, 1, 2, 1}
	for node, want := range [][]int64{{0, 1, 2, 1, 1}, {0, 1, 2, 2, 1}, {0, 1, 2, 3, 1}, {0, 1, 2, 1, 2}} {
		list, code := impl.GraftAt(other, int64(node), []int64{0})
		wantList(t, fmt.Sprintf("GraftAt(%v, %d, {0})", other, node), list, code, want)
	}
	for node, want := range [][2][]int64{{}, {{0, 1}, {0, 1}}, {{0, 1, 1}, {0}}, {{0, 1, 2}, {0}}} {
		if node > 0 {
			trunk, branch, code := impl.CutAbove(other, int64(node))
			wantList(t, fmt.Sprintf("the trunk of CutAbove(%v, %d)", other, node), trunk, code, want[0])
			wantList(t, fmt.Sprintf("the branch of CutAbove(%v, %d)", other, node), branch, code, want[1])
		}
	}
	for node, want := range [][]int64{{0, 1, 2, 1}, {0, 1, 2, 1}, {0, 1, 2, 3}, {0, 1, 2, 3}} {
		list, code := impl.RerootAt(other, int64(node))
		wantList(t, fmt.Sprintf("RerootAt(%v, %d)", other, node), list, code, want)
	}
	list, code := impl.RerootAt([]int64{0, 1, 1, 1, 2}, 3) // canonically {0, 1, 2, 1, 1}
	wantList(t, "RerootAt a leaf at the root", list, code, []int64{0, 1, 2, 3, 2})
}

// plainPairs makes all pairs of trees that have at most one node too many together.
func plainPairs() [][2]plainTree {
	var pairs [][2]plainTree
	trees := plainTrees(impl.MaxNodes)
	for _, u := range trees {
		for _, v := range trees {
			if len(u.list())+len(v.list()) <= impl.MaxNodes+1 {
				pairs = append(pairs, [2]plainTree{u, v})
			}
		}
	}
	return pairs
}

// wantWithin checks a tree and a code that a call has returned: the limit, if the trees that are
// grafted have too many nodes.
func wantWithin(t *testing.T, call string, got []int64, code int64, nodes int, want []int64) {
	t.Helper()
	if nodes > impl.MaxNodes {
		wantNone(t, call, got, code, impl.ErrLimit)
	} else {
		wantList(t, call, got, code, want)
	}
}

func TestGraftAtEachNode(t *testing.T) {
	draw := drawer(40)
	for _, pair := range plainPairs() {
		u, v := pair[0].list(), pair[1].list()
		for node := range u {
			s, r := draw.anyList(pair[0]), draw.anyList(pair[1])
			want := plainCanonical(plainGraft(u, [][]int64{v}, []int{node}))
			got, code := impl.GraftAt(s, int64(node), r)
			wantWithin(t, fmt.Sprintf("GraftAt(%v, %d, %v)", s, node, r), got, code, len(u)+len(v), want)
			if node == 0 {
				got, code = impl.ButcherProduct(s, r)
				wantWithin(t, fmt.Sprintf("ButcherProduct(%v, %v)", s, r), got, code, len(u)+len(v), want)
			}
		}
	}
}

// TestEachListIsGrafted grafts at and with all lists of all trees.
func TestEachListIsGrafted(t *testing.T) {
	root := []int64{0}
	for _, tree := range plainTrees(impl.MaxNodes - 1) {
		last := len(tree.list()) - 1
		atRoot := plainCanonical(append(slices.Clone(tree.list()), 1))
		atLast := plainCanonical(append(slices.Clone(tree.list()), tree.list()[last]+1))
		sum := plainCounted(plainGraftings(tree.list(), [][]int64{root}))
		under := plainCanonical(append([]int64{0}, plainRaised(tree.list(), 1)...))
		for _, list := range tree {
			got, code := impl.GraftAt(list, 0, root)
			wantList(t, fmt.Sprintf("GraftAt(%v, 0, {0})", list), got, code, atRoot)
			got, code = impl.GraftAt(list, int64(last), root)
			wantList(t, fmt.Sprintf("GraftAt(%v, %d, {0})", list, last), got, code, atLast)
			got, code = impl.ButcherProduct(root, list)
			wantList(t, fmt.Sprintf("ButcherProduct({0}, %v)", list), got, code, under)
			counted, code := impl.GraftSum(list, root)
			wantCounted(t, fmt.Sprintf("GraftSum(%v, {0})", list), counted, code, sum)
			counted, code = impl.GraftForest(list, [][]int64{root})
			wantCounted(t, fmt.Sprintf("GraftForest(%v, {{0}})", list), counted, code, sum)
			counted, code = impl.GraftSum(root, list)
			wantCounted(t, fmt.Sprintf("GraftSum({0}, %v)", list), counted, code, []impl.Counted{{Tree: under, Count: 1}})
		}
	}
}

// TestGraftSums holds the parts of promise 4 about numbers of graftings: they are as many as nodes,
// and those that lead to a tree, times the symmetry of this tree, are as many as the cuts that lead
// back, times the symmetries of what these leave.
func TestGraftSums(t *testing.T) {
	draw := drawer(41)
	for _, pair := range plainPairs() {
		u, v := draw.anyList(pair[0]), draw.anyList(pair[1])
		call := fmt.Sprintf("GraftSum(%v, %v)", u, v)
		got, code := impl.GraftSum(u, v)
		if len(u)+len(v) > impl.MaxNodes {
			wantNone(t, call, got, code, impl.ErrLimit)
			continue
		}
		wantCounted(t, call, got, code, plainCounted(plainGraftings(u, [][]int64{v})))
		wantNumber(t, "the graftings of "+call, totalOf(got), code, int64(len(u)))
		for _, list := range must(impl.TreesOf(int64(len(u) + len(v)))) {
			cuts, code := impl.CountCutsTo(list, u, v)
			want := countOf(got, list) * symmetryOf(list)
			wantNumber(t, fmt.Sprintf("the cuts of %v against %s", list, call), cuts*symmetryOf(u)*symmetryOf(v), code, want)
		}
	}
}

// symmetryOf is SymmetryOf for level lists.
func symmetryOf(list []int64) int64 {
	symmetry, _ := impl.SymmetryOf(list)
	return symmetry
}

// TestGraftForests also holds promise 4 for forests, which have a node for each of their trees.
func TestGraftForests(t *testing.T) {
	draw := drawer(42)
	forests := plainForests(impl.MaxNodes)
	for _, u := range plainTrees(impl.MaxNodes) {
		for _, f := range forests {
			nodes := len(u.list()) + plainNodes(f)
			if nodes > impl.MaxNodes+1 {
				continue
			}
			list := draw.anyList(u)
			call := fmt.Sprintf("GraftForest(%v, %v)", list, f)
			got, code := impl.GraftForest(list, f)
			if nodes > impl.MaxNodes {
				wantNone(t, call, got, code, impl.ErrLimit)
				continue
			}
			graftings := plainGraftings(u.list(), f)
			wantCounted(t, call, got, code, plainCounted(graftings))
			wantNumber(t, "the graftings of "+call, totalOf(got), code, int64(len(graftings)))
		}
	}
}

func TestGraftEmptyForest(t *testing.T) {
	for _, tree := range plainTrees(impl.MaxNodes) {
		for _, list := range tree {
			for _, none := range [][][]int64{nil, {}} {
				got, code := impl.GraftForest(list, none)
				wantCounted(t, fmt.Sprintf("GraftForest(%v, the empty forest)", list), got, code, []impl.Counted{{Tree: tree.list(), Count: 1}})
			}
		}
	}
}

func TestGraftEqualTrees(t *testing.T) {
	for n := 1; n < impl.MaxNodes; n++ {
		got, code := impl.GraftForest([]int64{0}, copies([]int64{0}, n))
		wantCounted(t, fmt.Sprintf("GraftForest of one node and %d nodes", n), got, code, []impl.Counted{{Tree: bush(n + 1), Count: 1}})
	}
	got, code := impl.GraftForest([]int64{0, 1}, copies([]int64{0}, 6))
	var want []impl.Counted
	for k, ways := range []int64{1, 6, 15, 20, 15, 6, 1} {
		// 6 - k of the nodes come to the child of the root.
		list := append([]int64{0, 1}, slices.Concat(slices.Repeat([]int64{2}, 6-k), slices.Repeat([]int64{1}, k))...)
		want = append(want, impl.Counted{Tree: list, Count: ways})
	}
	wantCounted(t, "GraftForest of two nodes and six nodes", got, code, want)
	got, code = impl.GraftForest([]int64{0, 1, 1}, copies([]int64{0, 1}, 2))
	wantCounted(t, "GraftForest of {0, 1, 1} and {0, 1} twice", got, code, []impl.Counted{
		{Tree: []int64{0, 1, 2, 3, 2, 3, 1}, Count: 2}, {Tree: []int64{0, 1, 2, 3, 1, 2, 3}, Count: 2},
		{Tree: []int64{0, 1, 2, 3, 1, 2, 1}, Count: 4}, {Tree: []int64{0, 1, 2, 1, 2, 1, 1}, Count: 1},
	})
}

// A difference has trees by their texts, with numbers other than 0.
type difference map[string]int64

func (d difference) add(list []int64, count int64) {
	d[plainText(list)] += count
	if d[plainText(list)] == 0 {
		delete(d, plainText(list))
	}
}

// associator grafts v to u and then w, and takes away u with w grafted to v.
func associator(u []int64, v []int64, w []int64) difference {
	result := difference{}
	for _, first := range must(impl.GraftSum(u, v)) {
		for _, second := range must(impl.GraftSum(first.Tree, w)) {
			result.add(second.Tree, first.Count*second.Count)
		}
	}
	for _, first := range must(impl.GraftSum(v, w)) {
		for _, second := range must(impl.GraftSum(u, first.Tree)) {
			result.add(second.Tree, -first.Count*second.Count)
		}
	}
	return result
}

// TestGraftingIdentity holds the part of promise 22 about grafting: what grafting v and then w makes
// beyond grafting w to v does not depend on their order. It is what grafting both to u makes.
func TestGraftingIdentity(t *testing.T) {
	trees := plainTrees(impl.MaxNodes - 2)
	for _, u := range trees {
		for _, v := range trees {
			for _, w := range trees {
				a, b, c := u.list(), v.list(), w.list()
				if len(a)+len(b)+len(c) > impl.MaxNodes {
					continue
				}
				one, other := associator(a, b, c), associator(a, c, b)
				both := difference{}
				for _, part := range must(impl.GraftForest(a, plainProductOf([][]int64{b, c}))) {
					both.add(part.Tree, part.Count)
				}
				if len(one) == 0 || fmt.Sprint(one) != fmt.Sprint(other) || fmt.Sprint(one) != fmt.Sprint(both) {
					t.Errorf("grafting %v and %v to %v makes %v and %v, and together %v", b, c, a, one, other, both)
				}
			}
		}
	}
}

// TestCutAboveEachNode also checks that grafting leads back.
func TestCutAboveEachNode(t *testing.T) {
	for _, tree := range plainTrees(impl.MaxNodes) {
		for _, list := range tree {
			for node := 1; node < len(list); node++ {
				call := fmt.Sprintf("CutAbove(%v, %d)", list, node)
				wantTrunk, wantBranch := plainCut(tree.list(), node)
				trunk, branch, code := impl.CutAbove(list, int64(node))
				wantList(t, "the trunk of "+call, trunk, code, wantTrunk)
				wantList(t, "the branch of "+call, branch, code, wantBranch)
				if countOf(must(impl.GraftSum(trunk, branch)), tree.list()) == 0 {
					t.Errorf("%s = %v and %v, which are not grafted to it", call, trunk, branch)
				}
			}
		}
	}
}

// TestCountCutsTo goes through all trees that may be left.
func TestCountCutsTo(t *testing.T) {
	draw := drawer(43)
	trees := plainTrees(impl.MaxNodes)
	for _, tree := range trees {
		cuts := map[string]int64{}
		for node := 1; node < len(tree.list()); node++ {
			trunk, branch := plainCut(tree.list(), node)
			cuts[plainText(trunk)+" "+plainText(branch)]++
		}
		total := int64(0)
		for _, u := range trees {
			for _, v := range trees {
				if len(u.list())+len(v.list()) != len(tree.list()) {
					continue
				}
				s, trunk, branch := draw.anyList(tree), draw.anyList(u), draw.anyList(v)
				got, code := impl.CountCutsTo(s, trunk, branch)
				want := cuts[plainText(u.list())+" "+plainText(v.list())]
				wantNumber(t, fmt.Sprintf("CountCutsTo(%v, %v, %v)", s, trunk, branch), got, code, want)
				total += got
			}
		}
		wantNumber(t, fmt.Sprintf("the cuts of %v", tree.list()), total, impl.ErrNone, int64(len(tree.list())-1))
	}
}

// TestCountCutsToOthers looks for trees that have too few or too many nodes together.
func TestCountCutsToOthers(t *testing.T) {
	trees := plainTrees(impl.MaxNodes)
	for _, list := range [][]int64{{0}, {0, 1}, {0, 1, 1, 2}, tall(impl.MaxNodes), bush(impl.MaxNodes)} {
		for _, u := range trees {
			for _, other := range [][]int64{{0}, {0, 1}, {0, 1, 1, 2}, tall(impl.MaxNodes), bush(impl.MaxNodes)} {
				if len(u.list())+len(other) == len(list) {
					continue
				}
				got, code := impl.CountCutsTo(list, u.list(), other)
				wantNumber(t, fmt.Sprintf("CountCutsTo(%v, %v, %v)", list, u.list(), other), got, code, 0)
				got, code = impl.CountCutsTo(list, other, u.list())
				wantNumber(t, fmt.Sprintf("CountCutsTo(%v, %v, %v)", list, other, u.list()), got, code, 0)
			}
		}
	}
	got, code := impl.CountCutsTo([]int64{0, 1, 1, 2}, []int64{0, 1, 1}, []int64{0})
	wantNumber(t, "CountCutsTo the trunk {0, 1, 1}", got, code, 1)
	got, code = impl.CountCutsTo([]int64{0, 1, 1, 2}, []int64{0}, []int64{0, 1, 1})
	wantNumber(t, "CountCutsTo the branch {0, 1, 1}", got, code, 0)
}

// TestGraftingFaults gives several wrong arguments at once, which holds the order of the errors.
func TestGraftingFaults(t *testing.T) {
	full := tall(impl.MaxNodes)
	for _, bad := range notLevels() {
		for _, other := range append(notLevels()[:8], []int64{0}, []int64{0, 1, 1, 2}, full) {
			for _, pair := range [][2][]int64{{bad, other}, {other, bad}} {
				call := fmt.Sprintf("(%v, %v)", pair[0], pair[1])
				list, code := impl.ButcherProduct(pair[0], pair[1])
				wantNone(t, "ButcherProduct"+call, list, code, impl.ErrInvalid)
				for _, node := range []int64{0, 1, -1, impl.MaxNodes, math.MaxInt64} {
					list, code = impl.GraftAt(pair[0], node, pair[1])
					wantNone(t, fmt.Sprintf("GraftAt%s at %d", call, node), list, code, impl.ErrInvalid)
				}
				sum, code := impl.GraftSum(pair[0], pair[1])
				wantNone(t, "GraftSum"+call, sum, code, impl.ErrInvalid)
				sum, code = impl.GraftForest(pair[0], [][]int64{pair[1]})
				wantNone(t, "GraftForest"+call, sum, code, impl.ErrInvalid)
			}
			for place := range 3 {
				lists := slices.Insert(slices.Repeat([][]int64{other}, 2), place, bad)
				n, code := impl.CountCutsTo(lists[0], lists[1], lists[2])
				wantFault(t, fmt.Sprintf("CountCutsTo of %v", lists), n, code, impl.ErrInvalid)
			}
		}
		sum, code := impl.GraftForest(bad, nil)
		wantNone(t, fmt.Sprintf("GraftForest(%v, nil)", bad), sum, code, impl.ErrInvalid)
		for _, node := range []int64{0, 1, -1, impl.MaxNodes} {
			wantNoCut(t, bad, node, impl.ErrInvalid)
		}
	}
	for _, bad := range notForests() {
		for _, list := range [][]int64{{0}, {0, 1, 1, 2}, full, nil, {1}} {
			sum, code := impl.GraftForest(list, bad)
			wantNone(t, fmt.Sprintf("GraftForest(%v, %v)", list, bad), sum, code, impl.ErrInvalid)
		}
	}
}

// wantNoCut checks that CutAbove returns an error code, and nothing else.
func wantNoCut(t *testing.T, list []int64, node int64, want int64) {
	t.Helper()
	trunk, branch, code := impl.CutAbove(list, node)
	wantNone(t, fmt.Sprintf("the trunk of CutAbove(%v, %d)", list, node), trunk, code, want)
	wantNone(t, fmt.Sprintf("the branch of CutAbove(%v, %d)", list, node), branch, code, want)
}

// TestNoSuchNode checks nodes beyond both ends, also where the result would be too large.
func TestNoSuchNode(t *testing.T) {
	for _, tree := range plainTrees(impl.MaxNodes) {
		list := tree[len(tree)-1]
		for _, node := range notNodes(len(list)) {
			if node >= 0 && node < int64(len(list)) {
				continue
			}
			for _, other := range [][]int64{{0}, {0, 1, 1, 2}, tall(impl.MaxNodes)} {
				got, code := impl.GraftAt(list, node, other)
				wantNone(t, fmt.Sprintf("GraftAt(%v, %d, %v)", list, node, other), got, code, impl.ErrRange)
			}
			got, code := impl.RerootAt(list, node)
			wantNone(t, fmt.Sprintf("RerootAt(%v, %d)", list, node), got, code, impl.ErrRange)
			wantNoCut(t, list, node, impl.ErrRange)
		}
		wantNoCut(t, list, 0, impl.ErrRange)
	}
}

func TestGraftingLimit(t *testing.T) {
	full := [][]int64{tall(impl.MaxNodes), bush(impl.MaxNodes)}
	for _, u := range full {
		for _, v := range append(full, []int64{0}, []int64{0, 1, 1, 2}) {
			for _, pair := range [][2][]int64{{u, v}, {v, u}} {
				call := fmt.Sprintf("(%v, %v)", pair[0], pair[1])
				list, code := impl.ButcherProduct(pair[0], pair[1])
				wantNone(t, "ButcherProduct"+call, list, code, impl.ErrLimit)
				list, code = impl.GraftAt(pair[0], int64(len(pair[0])-1), pair[1])
				wantNone(t, "GraftAt the last node"+call, list, code, impl.ErrLimit)
				sum, code := impl.GraftSum(pair[0], pair[1])
				wantNone(t, "GraftSum"+call, sum, code, impl.ErrLimit)
				sum, code = impl.GraftForest(pair[0], [][]int64{plainCanonical(pair[1])})
				wantNone(t, "GraftForest"+call, sum, code, impl.ErrLimit)
			}
		}
		sum, code := impl.GraftForest(u, copies([]int64{0}, impl.MaxNodes))
		wantNone(t, fmt.Sprintf("GraftForest(%v, as many nodes)", u), sum, code, impl.ErrLimit)
	}
}

// TestGraftingMemory checks that arguments stay as they are, and that results are new memory.
func TestGraftingMemory(t *testing.T) {
	plain := [][]int64{{0, 1, 1, 2}, {0}, {0, 1, 1}}
	forest := [][]int64{{0}, {0}, {0, 1}}
	rows, trees := guarded(plain), guarded(forest)
	for range 2 {
		var results [][]int64
		for _, u := range rows {
			trunk, branch, _ := impl.CutAbove(u, int64(len(u)-1))
			results = append(results, trunk, branch)
			for _, v := range rows {
				results = append(results, must(impl.ButcherProduct(u, v)), must(impl.GraftAt(u, int64(len(u)-1), v)))
				results = append(results, treesOfSum(must(impl.GraftSum(u, v)))...)
				impl.CountCutsTo(rows[0], u, v)
				impl.AreSameFree(u, v)
			}
			results = append(results, must(impl.RerootAt(u, 0)), must(impl.RerootAt(u, int64(len(u)-1))), must(impl.FreeForm(u)))
			results = append(results, treesOfSum(must(impl.RootsOf(u)))...)
			results = append(results, treesOfSum(must(impl.GraftForest(u, trees)))...)
			results = append(results, treesOfSum(must(impl.GraftForest(u, nil)))...)
			results = append(results, must(impl.FreeTreesOf(int64(len(u))))...)
			impl.IsSuperfluous(u)
		}
		wantApart(t, "the functions of grafting", results...)
		wantUntouched(t, "a function of grafting", rows, plain)
		wantUntouched(t, "a function of grafting", trees, forest)
	}
}

func treesOfSum(sum []impl.Counted) [][]int64 {
	var trees [][]int64
	for _, part := range sum {
		trees = append(trees, part.Tree)
	}
	return trees
}
