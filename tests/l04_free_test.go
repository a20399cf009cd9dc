package tests

import (
	"fmt"
	"math"
	"slices"
	"testing"

	"loop.example/g01100/impl"
)

// plainParent finds the last node before a child with a level that is less by 1.
func plainParent(list []int64, child int) int {
	parent := child - 1
	for list[parent] != list[child]-1 {
		parent--
	}
	return parent
}

// plainReroot walks along the edges of a list, from a node to all others.
func plainReroot(list []int64, node int) []int64 {
	neighbours := make([][]int, len(list))
	for child := 1; child < len(list); child++ {
		parent := plainParent(list, child)
		neighbours[parent] = append(neighbours[parent], child)
		neighbours[child] = append(neighbours[child], parent)
	}
	return plainCanonical(plainWalk(neighbours, node, -1, 0))
}

func plainWalk(neighbours [][]int, node int, from int, level int64) []int64 {
	list := []int64{level}
	for _, next := range neighbours[node] {
		if next != from {
			list = append(list, plainWalk(neighbours, next, node, level+1)...)
		}
	}
	return list
}

// plainRoots reroots at all nodes.
func plainRoots(list []int64) [][]int64 {
	var roots [][]int64
	for node := range list {
		roots = append(roots, plainReroot(list, node))
	}
	return roots
}

// plainFree finds the first one of all rerooted trees.
func plainFree(list []int64) []int64 {
	return slices.MinFunc(plainRoots(list), plainOrder)
}

func TestFreeExamples(t *testing.T) {
	sum, code := impl.RootsOf([]int64{0, 1, 2})
	wantCounted(t, "RootsOf", sum, code, []impl.Counted{{Tree: []int64{0, 1, 2}, Count: 2}, {Tree: []int64{0, 1, 1}, Count: 1}})
	list, code := impl.RerootAt([]int64{0, 1, 2}, 1)
	wantList(t, "RerootAt", list, code, []int64{0, 1, 1})
	list, code = impl.FreeForm([]int64{0, 1, 1})
	wantList(t, "FreeForm", list, code, []int64{0, 1, 2})
	is, code := impl.AreSameFree([]int64{0, 1, 1}, []int64{0, 1, 2})
	wantTruth(t, "AreSameFree({0, 1, 1}, {0, 1, 2})", is, code, true)
	is, code = impl.AreSameFree([]int64{0, 1, 1, 1}, []int64{0, 1, 2, 3})
	wantTruth(t, "AreSameFree({0, 1, 1, 1}, {0, 1, 2, 3})", is, code, false)
	for n, want := range map[int64][][]int64{
		1: {{0}}, 2: {{0, 1}}, 3: {{0, 1, 2}}, 4: {{0, 1, 2, 3}, {0, 1, 2, 2}},
		5: {{0, 1, 2, 3, 4}, {0, 1, 2, 3, 3}, {0, 1, 2, 2, 2}},
	} {
		rows, code := impl.FreeTreesOf(n)
		wantRows(t, fmt.Sprintf("FreeTreesOf(%d)", n), rows, code, want)
	}
}

// TestRerootAtEachNode also checks that rerooting leads from each tree of a free tree to each
// other one.
func TestRerootAtEachNode(t *testing.T) {
	for _, tree := range plainTrees(impl.MaxNodes) {
		wanted := plainRoots(tree.list())
		for _, list := range tree {
			for node, want := range wanted {
				got, code := impl.RerootAt(list, int64(node))
				wantList(t, fmt.Sprintf("RerootAt(%v, %d)", list, node), got, code, want)
			}
		}
		for _, root := range wanted {
			for _, other := range wanted {
				if !slices.ContainsFunc(plainRoots(root), func(list []int64) bool { return slices.Equal(list, other) }) {
					t.Errorf("rerooting does not lead from %v to %v", root, other)
				}
			}
		}
	}
}

// TestRootsOf checks that the trees are the same for each tree of the free tree, have a node each,
// and are counted against their symmetries: nodes that are alike are as many as exchanges of nodes
// of the free tree for each one that leaves the root in its place.
func TestRootsOf(t *testing.T) {
	for _, tree := range plainTrees(impl.MaxNodes) {
		want := plainCounted(plainRoots(tree.list()))
		for _, list := range tree {
			got, code := impl.RootsOf(list)
			wantCounted(t, fmt.Sprintf("RootsOf(%v)", list), got, code, want)
			wantNumber(t, fmt.Sprintf("the nodes of RootsOf(%v)", list), totalOf(got), code, int64(len(list)))
		}
		for _, part := range want {
			got, code := impl.RootsOf(part.Tree)
			wantCounted(t, fmt.Sprintf("RootsOf(%v)", part.Tree), got, code, want)
			exchanges := want[0].Count * symmetryOf(want[0].Tree)
			wantNumber(t, fmt.Sprintf("the exchanges of %v", part.Tree), part.Count*symmetryOf(part.Tree), code, exchanges)
		}
	}
	for n := 3; n <= impl.MaxNodes; n++ {
		star := append([]int64{0, 1}, slices.Repeat([]int64{2}, n-2)...)
		got, code := impl.RootsOf(bush(n))
		wantCounted(t, fmt.Sprintf("RootsOf a star with %d nodes", n), got, code, []impl.Counted{{Tree: star, Count: int64(n - 1)}, {Tree: bush(n), Count: 1}})
	}
}

// TestFreeForms holds the part of promise 4 about roots: free forms do not depend on them.
func TestFreeForms(t *testing.T) {
	for _, tree := range plainTrees(impl.MaxNodes) {
		want := plainFree(tree.list())
		for _, list := range tree {
			got, code := impl.FreeForm(list)
			wantList(t, fmt.Sprintf("FreeForm(%v)", list), got, code, want)
		}
		for node := range tree.list() {
			root := must(impl.RerootAt(tree.list(), int64(node)))
			got, code := impl.FreeForm(root)
			wantList(t, fmt.Sprintf("FreeForm of %v, rerooted at %d", tree.list(), node), got, code, want)
			is, code := impl.AreSameFree(tree.list(), root)
			wantTruth(t, fmt.Sprintf("AreSameFree(%v, %v)", tree.list(), root), is, code, true)
		}
	}
}

// TestAreSameFree compares all trees with each other.
func TestAreSameFree(t *testing.T) {
	draw := drawer(44)
	trees := plainTrees(impl.MaxNodes)
	forms := make([]string, len(trees))
	for i, tree := range trees {
		forms[i] = fmt.Sprint(plainFree(tree.list()))
	}
	for i, s := range trees {
		for k, r := range trees {
			one, other := draw.anyList(s), draw.anyList(r)
			is, code := impl.AreSameFree(one, other)
			wantTruth(t, fmt.Sprintf("AreSameFree(%v, %v)", one, other), is, code, forms[i] == forms[k])
		}
	}
}

// TestFreeTreesOf holds the part of promise 4 about the number of free trees.
func TestFreeTreesOf(t *testing.T) {
	for i, count := range []int{1, 1, 1, 2, 3, 6, 11, 23} {
		n := int64(i + 1)
		var want [][]int64
		for _, tree := range plainTrees(impl.MaxNodes) {
			if int64(len(tree.list())) == n && slices.Equal(plainFree(tree.list()), tree.list()) {
				want = append(want, tree.list())
			}
		}
		got, code := impl.FreeTreesOf(n)
		wantRows(t, fmt.Sprintf("FreeTreesOf(%d)", n), got, code, want)
		wantNumber(t, fmt.Sprintf("the free trees with %d nodes", n), int64(len(got)), code, int64(count))
		// Each tree is of exactly one free tree.
		roots := 0
		for _, form := range got {
			roots += len(must(impl.RootsOf(form)))
		}
		if trees := must(impl.TreesOf(n)); roots != len(trees) {
			t.Errorf("the free trees with %d nodes have %d trees, not %d", n, roots, len(trees))
		}
	}
	for _, n := range []int64{0, -1, -impl.MaxNodes, impl.MaxNodes + 1, 1 << 8, 1<<8 + 1, 1 << 32, 1<<32 + 1, math.MinInt64, math.MaxInt64} {
		got, code := impl.FreeTreesOf(n)
		wantNone(t, fmt.Sprintf("FreeTreesOf(%d)", n), got, code, impl.ErrRange)
	}
}

// TestIsSuperfluous counts superfluous free trees: there is one for each tree with half of the
// nodes.
func TestIsSuperfluous(t *testing.T) {
	squares := map[string]bool{}
	halves := map[int]int{}
	for _, tree := range plainTrees(impl.MaxNodes / 2) {
		square := append(slices.Clone(tree.list()), plainRaised(tree.list(), 1)...)
		squares[fmt.Sprint(plainCanonical(square))] = true
		halves[2*len(tree.list())]++
	}
	for n := 1; n <= impl.MaxNodes; n++ {
		superfluous := 0
		for _, form := range must(impl.FreeTreesOf(int64(n))) {
			if is, _ := impl.IsSuperfluous(form); is {
				superfluous++
			}
		}
		if superfluous != halves[n] {
			t.Errorf("%d free trees with %d nodes are superfluous; want %d", superfluous, n, halves[n])
		}
	}
	for _, tree := range plainTrees(impl.MaxNodes) {
		want := slices.ContainsFunc(plainRoots(tree.list()), func(list []int64) bool { return squares[fmt.Sprint(list)] })
		for _, list := range tree {
			is, code := impl.IsSuperfluous(list)
			wantTruth(t, fmt.Sprintf("IsSuperfluous(%v)", list), is, code, want)
		}
	}
	for _, list := range [][]int64{{0, 1}, {0, 1, 2, 3}, {0, 1, 1, 2}, {0, 1, 2, 2, 1, 1}, {0, 1, 1, 1, 2, 2}} {
		is, code := impl.IsSuperfluous(list)
		wantTruth(t, fmt.Sprintf("IsSuperfluous(%v)", list), is, code, true)
	}
	for _, list := range [][]int64{{0}, {0, 1, 1}, {0, 1, 1, 1}, {0, 1, 2, 2}, {0, 1, 1, 2, 3}, {0, 1, 2, 1, 1, 1}} {
		is, code := impl.IsSuperfluous(list)
		wantTruth(t, fmt.Sprintf("IsSuperfluous(%v)", list), is, code, false)
	}
}

func TestOneFreeNode(t *testing.T) {
	root := []int64{0}
	list, code := impl.RerootAt(root, 0)
	wantList(t, "RerootAt one node", list, code, root)
	sum, code := impl.RootsOf(root)
	wantCounted(t, "RootsOf one node", sum, code, []impl.Counted{{Tree: root, Count: 1}})
	list, code = impl.FreeForm(root)
	wantList(t, "FreeForm of one node", list, code, root)
	is, code := impl.AreSameFree(root, root)
	wantTruth(t, "AreSameFree of one node", is, code, true)
	is, code = impl.AreSameFree(root, []int64{0, 1})
	wantTruth(t, "AreSameFree of one node and two", is, code, false)
	is, code = impl.AreSameFree([]int64{0, 1}, root)
	wantTruth(t, "AreSameFree of two nodes and one", is, code, false)
	n, code := impl.CountCutsTo(root, root, root)
	wantNumber(t, "CountCutsTo of one node", n, code, 0)
}

// TestFreeInvalid gives several wrong arguments at once, which holds the order of the errors.
func TestFreeInvalid(t *testing.T) {
	for _, bad := range notLevels() {
		for _, node := range []int64{0, 1, -1, impl.MaxNodes, math.MinInt64} {
			list, code := impl.RerootAt(bad, node)
			wantNone(t, fmt.Sprintf("RerootAt(%v, %d)", bad, node), list, code, impl.ErrInvalid)
		}
		sum, code := impl.RootsOf(bad)
		wantNone(t, fmt.Sprintf("RootsOf(%v)", bad), sum, code, impl.ErrInvalid)
		list, code := impl.FreeForm(bad)
		wantNone(t, fmt.Sprintf("FreeForm(%v)", bad), list, code, impl.ErrInvalid)
		is, code := impl.IsSuperfluous(bad)
		wantNoTruth(t, fmt.Sprintf("IsSuperfluous(%v)", bad), is, code, impl.ErrInvalid)
		for _, other := range [][]int64{bad, {0}, {0, 1, 1, 2}, tall(impl.MaxNodes)} {
			is, code := impl.AreSameFree(bad, other)
			wantNoTruth(t, fmt.Sprintf("AreSameFree(%v, %v)", bad, other), is, code, impl.ErrInvalid)
			is, code = impl.AreSameFree(other, bad)
			wantNoTruth(t, fmt.Sprintf("AreSameFree(%v, %v)", other, bad), is, code, impl.ErrInvalid)
		}
	}
}
