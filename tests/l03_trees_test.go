package tests

import (
	"cmp"
	"fmt"
	"maps"
	"math"
	"slices"
	"testing"

	"loop.example/g01100/impl"
)

// treeToNumber has the functions of chapter 3 that make a number of one tree.
var treeToNumber = map[string]func([]int64) (int64, int64){
	"HeightOf":     impl.HeightOf,
	"LeavesOf":     impl.LeavesOf,
	"SymmetryOf":   impl.SymmetryOf,
	"DensityOf":    impl.DensityOf,
	"LabellingsOf": impl.LabellingsOf,
	"IndexOf":      impl.IndexOf,
}

// A plainTree has all level lists of a tree, the lexicographically greatest one first.
type plainTree [][]int64

func (tree plainTree) list() []int64 { return tree[0] }

// plainLists makes all level lists with n nodes, each a longer one of a shorter one.
func plainLists(n int) [][]int64 {
	lists := [][]int64{{0}}
	for range n - 1 {
		var longer [][]int64
		for _, list := range lists {
			for level := int64(1); level <= list[len(list)-1]+1; level++ {
				longer = append(longer, append(slices.Clone(list), level))
			}
		}
		lists = longer
	}
	return lists
}

// plainEnd finds the index behind the branch at a node.
func plainEnd(list []int64, node int) int {
	end := node + 1
	for end < len(list) && list[end] > list[node] {
		end++
	}
	return end
}

// plainLike follows the definition of a tree: it exchanges branches that stand side by side until
// that leads to no further list.
func plainLike(list []int64) plainTree {
	found := plainTree{list}
	seen := map[string]bool{fmt.Sprint(list): true}
	for k := 0; k < len(found); k++ {
		for node := 1; node < len(list); node++ {
			from := found[k]
			middle := plainEnd(from, node)
			if middle == len(from) || from[middle] != from[node] {
				continue
			}
			end := plainEnd(from, middle)
			other := slices.Concat(from[:node], from[middle:end], from[node:middle], from[end:])
			if !seen[fmt.Sprint(other)] {
				seen[fmt.Sprint(other)] = true
				found = append(found, other)
			}
		}
	}
	slices.SortFunc(found, func(s, t []int64) int { return slices.Compare(t, s) })
	return found
}

// plainOrder compares canonical lists in the order of trees.
func plainOrder(s []int64, t []int64) int {
	if len(s) != len(t) {
		return len(s) - len(t)
	}
	return slices.Compare(t, s)
}

// plainTrees makes all trees with at most n nodes, in order.
func plainTrees(n int) []plainTree {
	var trees []plainTree
	for nodes := 1; nodes <= n; nodes++ {
		seen := map[string]bool{}
		for _, list := range plainLists(nodes) {
			if seen[fmt.Sprint(list)] {
				continue
			}
			tree := plainLike(list)
			for _, other := range tree {
				seen[fmt.Sprint(other)] = true
			}
			trees = append(trees, tree)
		}
	}
	slices.SortFunc(trees, func(s, t plainTree) int { return plainOrder(s.list(), t.list()) })
	return trees
}

// plainText closes brackets before the next node opens one.
func plainText(list []int64) string {
	text, open := "", int64(0)
	for _, level := range list {
		for ; open > level; open-- {
			text += "]"
		}
		text += "["
		open++
	}
	for ; open > 0; open-- {
		text += "]"
	}
	return text
}

// plainBranches looks up the canonical lists of the branches, and sorts them.
func plainBranches(list []int64) [][]int64 {
	var branches [][]int64
	for node := 1; node < len(list); node = plainEnd(list, node) {
		branch := slices.Clone(list[node:plainEnd(list, node)])
		for i := range branch {
			branch[i]--
		}
		branches = append(branches, plainLike(branch).list())
	}
	slices.SortFunc(branches, plainOrder)
	return branches
}

func factorial(n int64) int64 {
	product := int64(1)
	for k := int64(2); k <= n; k++ {
		product *= k
	}
	return product
}

// plainSymmetry counts the exchanges of children, of which equally many lead to each list.
func plainSymmetry(tree plainTree) int64 {
	exchanges := int64(1)
	for node, level := range tree.list() {
		children := int64(0)
		for _, below := range tree.list()[node+1 : plainEnd(tree.list(), node)] {
			if below == level+1 {
				children++
			}
		}
		exchanges *= factorial(children)
	}
	return exchanges / int64(len(tree))
}

// plainDensity multiplies the numbers of nodes of the branches at all nodes.
func plainDensity(list []int64) int64 {
	product := int64(1)
	for node := range list {
		product *= int64(plainEnd(list, node) - node)
	}
	return product
}

// plainLabellings counts how trees with n nodes grow, by one node at any place after the other.
func plainLabellings(n int) map[string]int64 {
	grown := map[string]int64{fmt.Sprint([]int64{0}): 1}
	for nodes := 1; nodes < n; nodes++ {
		larger := map[string]int64{}
		for _, list := range plainLists(nodes) {
			ways := grown[fmt.Sprint(list)]
			for node := range list {
				other := slices.Insert(slices.Clone(list), node+1, list[node]+1)
				larger[fmt.Sprint(plainLike(other).list())] += ways
			}
		}
		grown = larger
	}
	return grown
}

// notLevels are lists that are no level lists.
func notLevels() [][]int64 {
	list := [][]int64{
		nil, {}, {1}, {-1}, {2}, {0, 0}, {0, 2}, {0, -1}, {1, 2}, {1, 1}, {-1, 0}, {0, 1, 0}, {0, 1, 3}, {0, 1, 2, 0}, {0, 1, 2, 4},
		{0, 1, 2, -1}, {0, 1, 1, 3}, {0, 1, 2, 1, 3}, {0, 1, 2, 3, 0, 1}, {0, 1, 2, 3, 4, 5, 6, 8}, {0, 1, 1, 1, 1, 1, 1, 0}, {0, 1, 1, 1, 1, 1, 1, 3},
		make([]int64, impl.MaxNodes), make([]int64, impl.MaxNodes+1), make([]int64, 1000),
		tall(impl.MaxNodes + 1), bush(impl.MaxNodes + 1), tall(100), bush(100),
	}
	for _, bad := range []int64{math.MinInt64, math.MaxInt64, 1 << 32, -1 << 32, 1<<32 + 1, 1 << 8, 1<<8 + 1} {
		list = append(list, []int64{bad}, []int64{0, bad}, []int64{0, 1, bad}, []int64{bad, bad + 1}, []int64{0, bad, bad + 1}, []int64{0, bad, 1})
	}
	return list
}

// tall has each node as the child of the one before it.
func tall(n int) []int64 {
	list := make([]int64, n)
	for i := range list {
		list[i] = int64(i)
	}
	return list
}

// bush has all nodes as children of the root.
func bush(n int) []int64 {
	list := make([]int64, n)
	for i := 1; i < n; i++ {
		list[i] = 1
	}
	return list
}

func TestTreeConstants(t *testing.T) {
	if impl.MaxNodes != 8 || impl.MaxOrder != 6 || impl.MapSize != 38 || impl.AllTrees != 200 {
		t.Error("the constants of chapter 3")
	}
	if len(plainTrees(impl.MaxOrder)) != impl.MapSize-1 || len(plainTrees(impl.MaxNodes)) != impl.AllTrees {
		t.Error("the constants of chapter 3 do not fit the trees")
	}
}

func TestTreeExamples(t *testing.T) {
	list, code := impl.CanonicalTree([]int64{0, 1, 1, 2})
	wantList(t, "CanonicalTree", list, code, []int64{0, 1, 2, 1})
	rows, code := impl.BranchesOf([]int64{0, 1, 2, 1})
	wantRows(t, "BranchesOf", rows, code, [][]int64{{0}, {0, 1}})
	n, code := impl.DensityOf([]int64{0, 1, 2, 1})
	wantNumber(t, "DensityOf", n, code, 8)
	n, code = impl.LabellingsOf([]int64{0, 1, 2, 1})
	wantNumber(t, "LabellingsOf", n, code, 3)
	for i, want := range [][]int64{{0}, {0, 1}, {0, 1, 2}, {0, 1, 1}} {
		list, code = impl.TreeAt(int64(i))
		wantList(t, fmt.Sprintf("TreeAt(%d)", i), list, code, want)
	}
	text, code := impl.TreeText([]int64{0, 1, 2, 1})
	wantText(t, "TreeText", text, code, "[[[]][]]")
}

// TestOneNode and TestSimpleTrees check values that are known without counting.
func TestOneNode(t *testing.T) {
	root := []int64{0}
	for name, want := range map[string]int64{"HeightOf": 0, "LeavesOf": 1, "SymmetryOf": 1, "DensityOf": 1, "LabellingsOf": 1, "IndexOf": 0} {
		got, code := treeToNumber[name](root)
		wantNumber(t, name+" of one node", got, code, want)
	}
	list, code := impl.CanonicalTree(root)
	wantList(t, "CanonicalTree of one node", list, code, root)
	rows, code := impl.BranchesOf(root)
	wantRows(t, "BranchesOf one node", rows, code, nil)
	list, code = impl.RootOn(nil)
	wantList(t, "RootOn no branches", list, code, root)
	text, code := impl.TreeText(root)
	wantText(t, "TreeText of one node", text, code, "[]")
	list, code = impl.ParseTree("[]")
	wantList(t, "ParseTree of one node", list, code, root)
	rows, code = impl.TreesOf(1)
	wantRows(t, "TreesOf(1)", rows, code, [][]int64{root})
}

func TestSimpleTrees(t *testing.T) {
	for nodes := 2; nodes <= impl.MaxNodes; nodes++ {
		n := int64(nodes)
		for name, want := range map[string]int64{"HeightOf": n - 1, "LeavesOf": 1, "SymmetryOf": 1, "DensityOf": factorial(n), "LabellingsOf": 1} {
			got, code := treeToNumber[name](tall(nodes))
			wantNumber(t, fmt.Sprintf("%s(%v)", name, tall(nodes)), got, code, want)
		}
		for name, want := range map[string]int64{"HeightOf": 1, "LeavesOf": n - 1, "SymmetryOf": factorial(n - 1), "DensityOf": n, "LabellingsOf": 1} {
			got, code := treeToNumber[name](bush(nodes))
			wantNumber(t, fmt.Sprintf("%s(%v)", name, bush(nodes)), got, code, want)
		}
	}
	got, code := impl.SymmetryOf([]int64{0, 1, 2, 2, 1, 2, 2, 1})
	wantNumber(t, "SymmetryOf two equal branches and another one", got, code, 8)
	got, code = impl.SymmetryOf([]int64{0, 1, 1, 2, 1, 2, 1, 2})
	wantNumber(t, "SymmetryOf three equal branches and another one", got, code, 6)
}

// TestEachListOfEachTree checks that functions return the same for all lists of a tree, and what
// the definitions say.
func TestEachListOfEachTree(t *testing.T) {
	for i, tree := range plainTrees(impl.MaxNodes) {
		list := tree.list()
		numbers := map[string]int64{
			"HeightOf":     slices.Max(list),
			"LeavesOf":     plainLeaves(list),
			"SymmetryOf":   plainSymmetry(tree),
			"DensityOf":    plainDensity(list),
			"LabellingsOf": factorial(int64(len(list))) / plainSymmetry(tree) / plainDensity(list),
			"IndexOf":      int64(i),
		}
		for k, other := range tree {
			if !impl.IsLevels(other) || impl.IsTree(other) != (k == 0) {
				t.Errorf("IsLevels or IsTree is wrong for %v, a list of %v", other, list)
			}
			for name, want := range numbers {
				got, code := treeToNumber[name](other)
				wantNumber(t, fmt.Sprintf("%s(%v)", name, other), got, code, want)
			}
			got, code := impl.CanonicalTree(other)
			wantList(t, fmt.Sprintf("CanonicalTree(%v)", other), got, code, list)
			rows, code := impl.BranchesOf(other)
			wantRows(t, fmt.Sprintf("BranchesOf(%v)", other), rows, code, plainBranches(list))
			text, code := impl.TreeText(other)
			wantText(t, fmt.Sprintf("TreeText(%v)", other), text, code, plainText(list))
			order, code := impl.CompareTrees(list, other)
			wantNumber(t, fmt.Sprintf("CompareTrees(%v, %v)", list, other), order, code, 0)
		}
	}
}

// plainLeaves counts the nodes that no child follows.
func plainLeaves(list []int64) int64 {
	leaves := int64(0)
	for node := range list {
		if plainEnd(list, node) == node+1 {
			leaves++
		}
	}
	return leaves
}

// TestTreesMadeOfBranches holds the part of promise 3 about these.
func TestTreesMadeOfBranches(t *testing.T) {
	for _, tree := range plainTrees(impl.MaxNodes) {
		for _, other := range tree {
			branches := must(impl.BranchesOf(other))
			if !impl.IsForest(branches) {
				t.Errorf("BranchesOf(%v) = %v is no forest", other, branches)
			}
			got, code := impl.RootOn(branches)
			wantList(t, fmt.Sprintf("RootOn(BranchesOf(%v))", other), got, code, tree.list())
		}
	}
}

// TestTreesByIndices holds the part of promise 3 about these.
func TestTreesByIndices(t *testing.T) {
	trees := plainTrees(impl.MaxNodes)
	for i, tree := range trees {
		got, code := impl.TreeAt(int64(i))
		wantList(t, fmt.Sprintf("TreeAt(%d)", i), got, code, tree.list())
		index, code := impl.IndexOf(got)
		wantNumber(t, fmt.Sprintf("IndexOf(TreeAt(%d))", i), index, code, int64(i))
		for k, other := range trees {
			// The last list of a tree is the least one, so most of these are not canonical.
			order, code := impl.CompareTrees(tree[len(tree)-1], other[len(other)-1])
			wantNumber(t, fmt.Sprintf("CompareTrees(%v, %v)", tree[len(tree)-1], other[len(other)-1]), order, code, int64(cmp.Compare(i, k)))
		}
	}
	for _, i := range []int64{-1, impl.AllTrees, impl.AllTrees + 1, math.MinInt64, math.MaxInt64, 1 << 32, -1 << 32, 1<<32 + 1} {
		got, code := impl.TreeAt(i)
		wantNone(t, fmt.Sprintf("TreeAt(%d)", i), got, code, impl.ErrRange)
	}
}

func TestTreesOf(t *testing.T) {
	all := [][]int64{}
	for n := int64(1); n <= impl.MaxNodes; n++ {
		var want [][]int64
		for _, tree := range plainTrees(int(n)) {
			if int64(len(tree.list())) == n {
				want = append(want, tree.list())
			}
		}
		got, code := impl.TreesOf(n)
		wantRows(t, fmt.Sprintf("TreesOf(%d)", n), got, code, want)
		all = append(all, got...)
	}
	for i, list := range all {
		got, code := impl.TreeAt(int64(i))
		wantList(t, fmt.Sprintf("TreeAt(%d)", i), got, code, list)
	}
	if len(all) != impl.AllTrees {
		t.Errorf("TreesOf has %d trees", len(all))
	}
	for _, n := range []int64{0, -1, impl.MaxNodes + 1, math.MinInt64, math.MaxInt64, 1 << 32, -1 << 32, 1<<32 + 1} {
		got, code := impl.TreesOf(n)
		wantNone(t, fmt.Sprintf("TreesOf(%d)", n), got, code, impl.ErrRange)
	}
}

// TestLabellings holds promise 21, with labellings that are counted otherwise.
func TestLabellings(t *testing.T) {
	for n := int64(1); n <= impl.MaxNodes; n++ {
		sum, grown := int64(0), plainLabellings(int(n))
		for _, tree := range must(impl.TreesOf(n)) {
			labellings, code := impl.LabellingsOf(tree)
			wantNumber(t, fmt.Sprintf("LabellingsOf(%v)", tree), labellings, code, grown[fmt.Sprint(tree)])
			symmetry, _ := impl.SymmetryOf(tree)
			density, _ := impl.DensityOf(tree)
			if labellings*symmetry*density != factorial(n) {
				t.Errorf("%v has %d labellings, the symmetry %d and the density %d", tree, labellings, symmetry, density)
			}
			sum += labellings
		}
		if sum != factorial(n-1) {
			t.Errorf("the trees with %d nodes have %d labellings", n, sum)
		}
	}
}

func TestIsLevels(t *testing.T) {
	for n := 1; n <= impl.MaxNodes; n++ {
		for _, list := range plainLists(n) {
			if !impl.IsLevels(list) {
				t.Errorf("IsLevels(%v) is false", list)
			}
			for node := range list {
				// A level in -2..n + 2 that is not allowed here makes the list none.
				for level := int64(-2); level <= int64(n)+2; level++ {
					other := slices.Clone(list)
					other[node] = level
					isAllowed := node == 0 && level == 0 || node > 0 && level >= 1 && level <= other[node-1]+1 &&
						(node+1 == n || other[node+1] <= level+1)
					if impl.IsLevels(other) != isAllowed {
						t.Errorf("IsLevels(%v) is %v", other, !isAllowed)
					}
				}
			}
		}
	}
}

func TestTreesInvalid(t *testing.T) {
	for _, bad := range notLevels() {
		if impl.IsLevels(bad) || impl.IsTree(bad) {
			t.Errorf("IsLevels or IsTree is true for %v", bad)
		}
		for name, operation := range treeToNumber {
			got, code := operation(bad)
			wantFault(t, fmt.Sprintf("%s(%v)", name, bad), got, code, impl.ErrInvalid)
		}
		list, code := impl.CanonicalTree(bad)
		wantNone(t, fmt.Sprintf("CanonicalTree(%v)", bad), list, code, impl.ErrInvalid)
		rows, code := impl.BranchesOf(bad)
		wantNone(t, fmt.Sprintf("BranchesOf(%v)", bad), rows, code, impl.ErrInvalid)
		if text, code := impl.TreeText(bad); text != "" || code != impl.ErrInvalid {
			t.Errorf("TreeText(%v) = %q, code %d", bad, text, code)
		}
		for _, good := range [][]int64{{0}, {0, 1, 1, 2}, tall(impl.MaxNodes)} {
			got, code := impl.CompareTrees(bad, good)
			wantFault(t, fmt.Sprintf("CompareTrees(%v, %v)", bad, good), got, code, impl.ErrInvalid)
			got, code = impl.CompareTrees(good, bad)
			wantFault(t, fmt.Sprintf("CompareTrees(%v, %v)", good, bad), got, code, impl.ErrInvalid)
		}
		got, code := impl.CompareTrees(bad, bad)
		wantFault(t, fmt.Sprintf("CompareTrees(%v, the same)", bad), got, code, impl.ErrInvalid)
	}
}

// TestTreesMemory checks that arguments stay as they are, and that results are new memory.
func TestTreesMemory(t *testing.T) {
	plain := [][]int64{{0, 1, 1, 2}, {0, 1, 2, 1, 2}, {0}, tall(impl.MaxNodes), {0, 1, 1, 1, 2, 1, 2, 2}}
	rows := guarded(plain)
	for range 2 {
		var results [][]int64
		for i, list := range rows {
			results = append(results, must(impl.CanonicalTree(list)), must(impl.TreeAt(int64(i))), must(impl.TreeAt(int64(i))))
			results = append(results, must(impl.BranchesOf(list))...)
			results = append(results, must(impl.TreesOf(int64(i+1)))...)
			results = append(results, must(impl.ParseTree("[[[]][]]")))
			for _, name := range slices.Sorted(maps.Keys(treeToNumber)) {
				treeToNumber[name](list)
			}
			impl.TreeText(list)
			impl.IsLevels(list)
			impl.IsTree(list)
			impl.CompareTrees(list, rows[0])
		}
		wantApart(t, "the functions of trees", results...)
		wantUntouched(t, "a function of trees", rows, plain)
	}
}
