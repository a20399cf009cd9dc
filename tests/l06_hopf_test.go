package tests

import (
	"fmt"
	"maps"
	"slices"
	"testing"

	"loop.example/g01100/impl"
)

// plainTensors sorts tensors, and adds those with the same crown and trunk.
func plainTensors(list []impl.Tensor) []impl.Tensor {
	order := func(a, b impl.Tensor) int {
		return plainCutOrder(impl.Split{Crown: a.Crown, Trunk: a.Trunk}, impl.Split{Crown: b.Crown, Trunk: b.Trunk})
	}
	var sums []impl.Tensor
	for _, tensor := range slices.SortedFunc(slices.Values(list), order) {
		if len(sums) == 0 || order(tensor, sums[len(sums)-1]) != 0 {
			sums = append(sums, impl.Tensor{Crown: tensor.Crown, Trunk: tensor.Trunk})
		}
		last := &sums[len(sums)-1]
		last.Coefficient = ((last.Coefficient+tensor.Coefficient)%impl.Prime + impl.Prime) % impl.Prime
	}
	return slices.DeleteFunc(sums, func(tensor impl.Tensor) bool { return tensor.Coefficient == 0 })
}

// plainCoproduct follows the definition by cuts.
func plainCoproduct(e []impl.Part) []impl.Tensor {
	var list []impl.Tensor
	for _, part := range e {
		for _, split := range plainSplits(part.Forest) {
			list = append(list, impl.Tensor{Coefficient: part.Coefficient * split.Count, Crown: split.Crown, Trunk: split.Trunk})
		}
	}
	return plainTensors(list)
}

// plainTensorProduct multiplies crowns and trunks.
func plainTensorProduct(first []impl.Tensor, second []impl.Tensor) []impl.Tensor {
	var list []impl.Tensor
	for _, a := range first {
		for _, b := range second {
			crown, trunk := plainProductOf(a.Crown, b.Crown), plainProductOf(a.Trunk, b.Trunk)
			list = append(list, impl.Tensor{Coefficient: a.Coefficient * b.Coefficient % impl.Prime, Crown: crown, Trunk: trunk})
		}
	}
	return plainTensors(list)
}

// plainRooted puts roots below the trunks, and adds what leaves none of an element.
func plainRooted(tensors []impl.Tensor, e []impl.Part) []impl.Tensor {
	var list []impl.Tensor
	for _, tensor := range tensors {
		tensor.Trunk = [][]int64{must(impl.RootOn(tensor.Trunk))}
		list = append(list, tensor)
	}
	for _, part := range e {
		list = append(list, impl.Tensor{Coefficient: part.Coefficient, Crown: part.Forest})
	}
	return plainTensors(list)
}

// wantTensors checks a coproduct and a code that a call has returned, which is ErrLimit for too many
// tensors.
func wantTensors(t *testing.T, call string, got []impl.Tensor, code int64, want []impl.Tensor) {
	t.Helper()
	if len(want) > impl.MaxTensors {
		wantNone(t, call, got, code, impl.ErrLimit)
		return
	}
	isSame := func(a, b impl.Tensor) bool {
		isCrown, isTrunk := slices.EqualFunc(a.Crown, b.Crown, slices.Equal), slices.EqualFunc(a.Trunk, b.Trunk, slices.Equal)
		return isCrown && isTrunk && a.Coefficient == b.Coefficient
	}
	if !slices.EqualFunc(got, want, isSame) || code != impl.ErrNone {
		t.Errorf("%s = %v, code %d; want %v", call, got, code, want)
	}
}

// TestCoproductOfEachForest takes both the cuts of chapter 5 and those of the definition.
func TestCoproductOfEachForest(t *testing.T) {
	for _, f := range forestsInOrder() {
		for _, a := range []int64{1, 5004, impl.Prime - 1} {
			var want []impl.Tensor
			for _, split := range must(impl.CutsOfForest(f)) {
				want = append(want, impl.Tensor{Coefficient: a * split.Count % impl.Prime, Crown: split.Crown, Trunk: split.Trunk})
			}
			got, code := impl.CoproductOf(alone(a, f...))
			wantTensors(t, fmt.Sprintf("CoproductOf(%d %v)", a, f), got, code, want)
			wantTensors(t, fmt.Sprintf("CoproductOf(%d %v)", a, f), got, code, plainCoproduct(alone(a, f...)))
		}
	}
}

func TestCoproductOf(t *testing.T) {
	draw := drawer(66)
	list := append(someElements(), draw.element(5, 12), draw.element(6, 20), draw.element(8, 5), draw.element(8, 15))
	for _, e := range list {
		got, code := impl.CoproductOf(e)
		wantTensors(t, fmt.Sprintf("CoproductOf(%v)", e), got, code, plainCoproduct(e))
	}
	for _, none := range [][]impl.Part{nil, {}} {
		got, code := impl.CoproductOf(none)
		wantTensors(t, "CoproductOf no parts", got, code, nil)
	}
	got, code := impl.CoproductOf(alone(9))
	wantTensors(t, "CoproductOf(9)", got, code, []impl.Tensor{{Coefficient: 9}})
	// The tensors of {0} with {0} are taken away by each other.
	e := append(alone(2, []int64{0, 1}), alone(impl.Prime-1, copies([]int64{0}, 2)...)...)
	got, code = impl.CoproductOf(e)
	wantTensors(t, fmt.Sprintf("CoproductOf(%v)", e), got, code, []impl.Tensor{
		{Coefficient: 2, Trunk: [][]int64{{0, 1}}}, {Coefficient: impl.Prime - 1, Trunk: copies([]int64{0}, 2)},
		{Coefficient: 2, Crown: [][]int64{{0, 1}}}, {Coefficient: impl.Prime - 1, Crown: copies([]int64{0}, 2)},
	})
}

// forestsUpTo chooses forests, those with two nodes among them, that have as many tensors as told.
func forestsUpTo(t *testing.T, size int) [][][]int64 {
	var chosen [][][]int64
	met := map[string]bool{}
	for _, n := range []int{2, 8, 7, 6, 5, 4, 3, 1, 0} {
		for _, f := range forestsWith(n) {
			more := map[string]bool{}
			for _, split := range must(impl.CutsOfForest(f)) {
				if !met[splitText(split)] {
					more[splitText(split)] = true
				}
			}
			if len(met)+len(more) <= size {
				chosen = append(chosen, f)
				maps.Copy(met, more)
			}
		}
	}
	if len(met) != size {
		t.Fatalf("the forests that were chosen have %d tensors, not %d", len(met), size)
	}
	slices.SortFunc(chosen, plainForestOrder)
	return chosen
}

// TestCoproductLimit has exactly MaxTensors tensors, one more, and one more that becomes 0.
func TestCoproductLimit(t *testing.T) {
	for _, size := range []int{impl.MaxTensors - 1, impl.MaxTensors, impl.MaxTensors + 1} {
		e := withOnes(forestsUpTo(t, size))
		call := fmt.Sprintf("CoproductOf an element with %d tensors", size)
		want := plainCoproduct(e)
		got, code := impl.CoproductOf(e)
		wantTensors(t, call, got, code, want)
		if len(want) != size {
			t.Errorf("%s has %d", call, len(want))
		}
		// Those of {0} with {0} are taken away by each other.
		first := slices.IndexFunc(e, func(part impl.Part) bool { return plainNodes(part.Forest) == 2 })
		e[first].Coefficient, e[first+1].Coefficient = 2, impl.Prime-1
		want = plainCoproduct(e)
		got, code = impl.CoproductOf(e)
		wantTensors(t, call+", of which one becomes 0", got, code, want)
		if len(want) != size-1 {
			t.Errorf("%s has %d when one becomes 0", call, len(want))
		}
	}
}

// TestCoproductOfProducts holds the part of promise 6 about products.
func TestCoproductOfProducts(t *testing.T) {
	want := func(d []impl.Part, e []impl.Part) {
		t.Helper()
		product := must(impl.TimesElements(d, e))
		got, code := impl.CoproductOf(product)
		wantTensors(t, fmt.Sprintf("CoproductOf(%v times %v)", d, e), got, code, plainTensorProduct(must(impl.CoproductOf(d)), must(impl.CoproductOf(e))))
	}
	for n := 0; n <= impl.MaxNodes; n++ {
		for _, f := range forestsWith(n) {
			for _, g := range forestsWith(min(n, impl.MaxNodes-n)) {
				want(alone(3, f...), alone(impl.Prime-2, g...))
			}
		}
	}
	draw := drawer(67)
	for range 40 {
		k := draw.below(impl.MaxNodes - 1)
		want(draw.element(int(k), 6), draw.element(int(draw.below(7-k)+1), 6))
	}
}

// TestCoproductOfRoots holds the part of promise 6 about the root operator.
func TestCoproductOfRoots(t *testing.T) {
	draw := drawer(68)
	list := [][]impl.Part{nil, alone(1), alone(4, []int64{0})}
	for range 30 {
		list = append(list, draw.element(int(draw.below(impl.MaxNodes)), 8))
	}
	for _, e := range list {
		rooted := must(impl.RootElement(e))
		got, code := impl.CoproductOf(rooted)
		wantTensors(t, fmt.Sprintf("CoproductOf(RootElement(%v))", e), got, code, plainRooted(must(impl.CoproductOf(e)), rooted))
	}
}

// TestCoproductByBranches holds the part of promise 23 about these.
func TestCoproductByBranches(t *testing.T) {
	for _, tree := range plainTrees(impl.MaxNodes) {
		branches := []impl.Tensor{{Coefficient: 1}}
		for _, branch := range must(impl.BranchesOf(tree.list())) {
			branches = plainTensorProduct(branches, must(impl.CoproductOf(must(impl.ElementOf(branch)))))
		}
		e := must(impl.ElementOf(tree[len(tree)-1]))
		got, code := impl.CoproductOf(e)
		wantTensors(t, fmt.Sprintf("CoproductOf(%v)", e), got, code, plainRooted(branches, e))
	}
}

// threefoldTensors takes coproducts of crowns, and of trunks, as sums by texts.
func threefoldTensors(tensors []impl.Tensor) (map[string]int64, map[string]int64) {
	byCrowns, byTrunks := map[string]int64{}, map[string]int64{}
	for _, tensor := range tensors {
		for _, part := range must(impl.CoproductOf(alone(tensor.Coefficient, tensor.Crown...))) {
			text := plainForestText(part.Crown) + " " + plainForestText(part.Trunk) + " " + plainForestText(tensor.Trunk)
			byCrowns[text] = (byCrowns[text] + part.Coefficient) % impl.Prime
		}
		for _, part := range must(impl.CoproductOf(alone(tensor.Coefficient, tensor.Trunk...))) {
			text := plainForestText(tensor.Crown) + " " + plainForestText(part.Crown) + " " + plainForestText(part.Trunk)
			byTrunks[text] = (byTrunks[text] + part.Coefficient) % impl.Prime
		}
	}
	return byCrowns, byTrunks
}

// TestThreefoldCoproducts holds the part of promise 23 about cutting again, for coproducts.
func TestThreefoldCoproducts(t *testing.T) {
	for _, f := range forestsTo(7) {
		byCrowns, byTrunks := threefoldTensors(must(impl.CoproductOf(alone(11, f...))))
		first := plainForestText(f) + " - -"
		if fmt.Sprint(byCrowns) != fmt.Sprint(byTrunks) || byCrowns[first] != 11 {
			t.Errorf("%v has the threefold coproducts %v by crowns and %v by trunks", f, byCrowns, byTrunks)
		}
	}
	draw := drawer(69)
	for range 10 {
		e := draw.element(6, 8)
		byCrowns, byTrunks := threefoldTensors(must(impl.CoproductOf(e)))
		for text, a := range byCrowns {
			if byTrunks[text] != a {
				t.Errorf("%v has the threefold tensor %s with %d by crowns and %d by trunks", e, text, a, byTrunks[text])
			}
		}
	}
}

// plainPieces makes the forest of what is left of a forest when the edges above some of its nodes
// are taken away, whose numbers are the bits of a set; and tells whether a root is among the nodes.
func plainPieces(f [][]int64, set int) ([][]int64, bool) {
	var pieces [][]int64
	first := 0
	for _, list := range f {
		isRoot := func(node int) bool { return node == 0 || plainHas(set, first+node) }
		if plainHas(set, first) {
			return nil, true
		}
		for root := range list {
			var piece []int64
			for node := root; isRoot(root) && node < plainEnd(list, root); node++ {
				if node > root && isRoot(node) {
					node = plainEnd(list, node) - 1
					continue
				}
				piece = append(piece, list[node]-list[root])
			}
			if len(piece) > 0 {
				pieces = append(pieces, plainCanonical(piece))
			}
		}
		first += len(list)
	}
	return plainProductOf(pieces), false
}

// plainAntipode goes through all sets of edges, without recursion: the pieces that are left without
// them have the sign of their number.
func plainAntipode(e []impl.Part) []impl.Part {
	sum := forestSum{}
	for _, part := range e {
		for set := range 1 << plainNodes(part.Forest) {
			if pieces, hasRoot := plainPieces(part.Forest, set); !hasRoot {
				sum.add(pieces, part.Coefficient*int64(1-len(pieces)%2*2))
			}
		}
	}
	return sum.parts()
}

func TestAntipodeOfEachForest(t *testing.T) {
	for _, f := range forestsInOrder() {
		got, code := impl.AntipodeOf(alone(3, f...))
		wantParts(t, fmt.Sprintf("AntipodeOf(3 %v)", f), got, code, plainAntipode(alone(3, f...)))
	}
}

func TestAntipodeOf(t *testing.T) {
	draw := drawer(70)
	list := append(someElements(), draw.element(6, 20), draw.element(8, 30), draw.element(8, 100))
	for _, e := range list {
		got, code := impl.AntipodeOf(e)
		wantParts(t, fmt.Sprintf("AntipodeOf(%v)", e), got, code, plainAntipode(e))
	}
	for _, none := range [][]impl.Part{nil, {}} {
		got, code := impl.AntipodeOf(none)
		wantParts(t, "AntipodeOf no parts", got, code, nil)
	}
	got, code := impl.AntipodeOf(alone(9))
	wantParts(t, "AntipodeOf(9)", got, code, alone(9))
	// The forests of two trees are taken away by each other.
	e := append(alone(1, []int64{0, 1}), alone(impl.Prime-1, copies([]int64{0}, 2)...)...)
	got, code = impl.AntipodeOf(e)
	wantParts(t, fmt.Sprintf("AntipodeOf(%v)", e), got, code, alone(impl.Prime-1, []int64{0, 1}))
}

// TestAntipodeLimit has antipodes with exactly MaxParts parts, and with one more: those of forests
// with MaxNodes nodes have further ones of these, but they all have the one with most trees.
func TestAntipodeLimit(t *testing.T) {
	draw := drawer(71)
	full, rest := forestsWith(impl.MaxNodes), forestsWith(impl.MaxNodes-1)
	few := impl.MaxParts - len(full)
	exact := draw.with(append(slices.Clone(rest[len(rest)-few:]), full...))
	more := draw.with(append(slices.Clone(rest[len(rest)-few-1:]), full[:len(full)-1]...))
	for i, e := range [][]impl.Part{exact, more} {
		want := plainAntipode(e)
		if len(e) != impl.MaxParts || len(want) != impl.MaxParts+i {
			t.Errorf("an element with %d parts has an antipode with %d", len(e), len(want))
		}
		got, code := impl.AntipodeOf(e)
		wantParts(t, fmt.Sprintf("AntipodeOf(%v)", e), got, code, want)
	}
	var trees []impl.Part
	for _, tree := range plainTrees(impl.MaxNodes) {
		trees = append(trees, alone(1, tree.list())...)
	}
	got, code := impl.AntipodeOf(trees)
	wantNone(t, "AntipodeOf all trees", got, code, impl.ErrLimit)
}

// TestAntipodeOfProducts checks that antipodes respect sums and products.
func TestAntipodeOfProducts(t *testing.T) {
	draw := drawer(72)
	for range 40 {
		k := draw.below(impl.MaxNodes - 1)
		d, e := draw.element(int(k), 6), draw.element(int(draw.below(7-k)+1), 6)
		got, code := impl.AntipodeOf(must(impl.TimesElements(d, e)))
		wantParts(t, fmt.Sprintf("AntipodeOf(%v times %v)", d, e), got, code, must(impl.TimesElements(must(impl.AntipodeOf(d)), must(impl.AntipodeOf(e)))))
		got, code = impl.AntipodeOf(must(impl.AddElements(d, e)))
		wantParts(t, fmt.Sprintf("AntipodeOf(%v and %v)", d, e), got, code, must(impl.AddElements(must(impl.AntipodeOf(d)), must(impl.AntipodeOf(e)))))
	}
}

// TestAntipodeOfAntipode holds the part of promise 6 about these.
func TestAntipodeOfAntipode(t *testing.T) {
	draw := drawer(73)
	list := [][]impl.Part{nil, alone(1), draw.element(5, 30), draw.element(7, 20), draw.element(8, 10), draw.with(forestsWith(8))}
	for _, f := range forestsInOrder() {
		list = append(list, alone(impl.Prime-6, f...))
	}
	for _, e := range list {
		got, code := impl.AntipodeOf(must(impl.AntipodeOf(e)))
		wantParts(t, fmt.Sprintf("AntipodeOf(AntipodeOf(%v))", e), got, code, e)
	}
}

// TestAntipodesInCoproducts holds the part of promise 24 about these. As products of elements can be
// exchanged, the antipodes of the trunks with the crowns are the same.
func TestAntipodesInCoproducts(t *testing.T) {
	draw := drawer(74)
	list := [][]impl.Part{nil, alone(6), append(alone(6), alone(5, []int64{0})...), draw.element(5, 12), draw.element(7, 6), draw.with(forestsTo(4))}
	for _, f := range forestsInOrder() {
		list = append(list, alone(2, f...))
	}
	for _, e := range list {
		var byCrowns, byTrunks, want []impl.Part
		for _, tensor := range must(impl.CoproductOf(e)) {
			crown, trunk := alone(tensor.Coefficient, tensor.Crown...), alone(1, tensor.Trunk...)
			byCrowns = must(impl.AddElements(byCrowns, must(impl.TimesElements(must(impl.AntipodeOf(crown)), trunk))))
			byTrunks = must(impl.AddElements(byTrunks, must(impl.TimesElements(crown, must(impl.AntipodeOf(trunk))))))
		}
		if len(e) > 0 && len(e[0].Forest) == 0 {
			want = e[:1]
		}
		wantParts(t, fmt.Sprintf("the antipodes of the crowns in the coproduct of %v", e), byCrowns, impl.ErrNone, want)
		wantParts(t, fmt.Sprintf("the antipodes of the trunks in the coproduct of %v", e), byTrunks, impl.ErrNone, want)
	}
}

// guardedParts copies an element so that each of its lists has spare capacity.
func guardedParts(e []impl.Part) []impl.Part {
	copied := make([]impl.Part, 0, len(e)+1)
	for _, part := range e {
		copied = append(copied, impl.Part{Coefficient: part.Coefficient, Forest: guarded(part.Forest)})
	}
	return copied
}

// wantPartsUntouched checks that an element made by guardedParts, and what is behind it, are as they
// were.
func wantPartsUntouched(t *testing.T, call string, got []impl.Part, want []impl.Part) {
	t.Helper()
	if !slices.EqualFunc(got, want, samePart) {
		t.Errorf("%s has changed its argument to %v; it was %v", call, got, want)
	}
	for i, part := range got {
		wantUntouched(t, call, part.Forest, want[i].Forest)
	}
	if last := got[:len(got)+1][len(got)]; last.Coefficient != 0 || last.Forest != nil {
		t.Errorf("%s has changed what is behind its argument", call)
	}
}

// resultsOf calls all functions that return elements and tensors, and returns the forests of these.
func resultsOf(d []impl.Part, e []impl.Part) [][][]int64 {
	var forests [][][]int64
	for _, parts := range [][]impl.Part{
		must(impl.AddElements(d, e)), must(impl.AddElements(d, nil)), must(impl.AddElements(nil, d)), must(impl.ScaleElement(d, 1)),
		must(impl.TimesElements(d, e)), must(impl.TimesElements(d, alone(1))), must(impl.RootElement(d)), must(impl.AntipodeOf(d)),
	} {
		for _, part := range parts {
			forests = append(forests, part.Forest)
		}
	}
	for _, tensor := range must(impl.CoproductOf(d)) {
		forests = append(forests, tensor.Crown, tensor.Trunk)
	}
	return forests
}

// TestElementsMemory checks that arguments stay as they are, and that results are new memory.
func TestElementsMemory(t *testing.T) {
	draw := drawer(75)
	first, second, list, numbers := draw.element(4, 9), draw.element(3, 6), []int64{0, 1, 1, 2}, draw.list(20)
	d, e, rest := guardedParts(first), guardedParts(second), guarded([][]int64{list, numbers})
	for range 2 {
		impl.IsElement(d)
		impl.DegreeOf(d)
		impl.ValueOf(d, rest[1])
		forests := append(resultsOf(d, e), resultsOf(e, d)...)
		forests = append(forests, must(impl.ElementOf(rest[0]))[0].Forest)
		lists := slices.Concat(forests...)
		wantApart(t, "the functions of elements", lists...)
		wantPartsUntouched(t, "a function of elements", d, first)
		wantPartsUntouched(t, "a function of elements", e, second)
		wantUntouched(t, "a function of elements", rest, [][]int64{list, numbers})
		for i, f := range forests {
			for k := range f[:cap(f)] {
				f[:cap(f)][k] = []int64{int64(i)}
			}
		}
		for i, f := range forests {
			for _, one := range f[:cap(f)] {
				if one[0] != int64(i) {
					t.Fatalf("the forest %d shares memory with another one", i)
				}
			}
		}
		wantPartsUntouched(t, "a function of elements", d, first)
	}
}
