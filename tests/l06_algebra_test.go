package tests

import (
	"fmt"
	"math"
	"slices"
	"sync"
	"testing"

	"loop.example/g01100/impl"
)

// forestsInOrder has all forests in the order of the parts of elements, and forestIndices their
// places by texts.
var forestsInOrder = sync.OnceValue(func() [][][]int64 {
	return slices.SortedFunc(slices.Values(plainForests(impl.MaxNodes)), plainForestOrder)
})

var forestIndices = sync.OnceValue(func() map[string]int {
	indices := map[string]int{}
	for i, f := range forestsInOrder() {
		indices[plainForestText(f)] = i
	}
	return indices
})

// forestsTo has the forests with at most n nodes.
func forestsTo(n int) [][][]int64 {
	end := slices.IndexFunc(forestsInOrder(), func(f [][]int64) bool { return plainNodes(f) > n })
	if end < 0 {
		return forestsInOrder()
	}
	return forestsInOrder()[:end]
}

// forestsWith has the forests with n nodes.
func forestsWith(n int) [][][]int64 {
	if n == 0 {
		return forestsTo(0)
	}
	return forestsTo(n)[len(forestsTo(n-1)):]
}

// A forestSum has the coefficients of forests by their indices, some of which may be 0.
type forestSum map[int]int64

func (s forestSum) add(f [][]int64, a int64) {
	i := forestIndices()[plainForestText(f)]
	s[i] = ((s[i]+a)%impl.Prime + impl.Prime) % impl.Prime
}

func (s forestSum) parts() []impl.Part {
	var parts []impl.Part
	for i, f := range forestsInOrder() {
		if s[i] != 0 {
			parts = append(parts, impl.Part{Coefficient: s[i], Forest: f})
		}
	}
	return parts
}

// plainLinear adds multiples of elements; their limit does not count.
func plainLinear(k int64, d []impl.Part, l int64, e []impl.Part) []impl.Part {
	sum := forestSum{}
	for _, part := range d {
		sum.add(part.Forest, k*part.Coefficient)
	}
	for _, part := range e {
		sum.add(part.Forest, l*part.Coefficient)
	}
	return sum.parts()
}

// plainTimes multiplies elements whose products have at most MaxNodes nodes.
func plainTimes(d []impl.Part, e []impl.Part) []impl.Part {
	sum := forestSum{}
	for _, first := range d {
		for _, second := range e {
			sum.add(plainProductOf(first.Forest, second.Forest), first.Coefficient*second.Coefficient)
		}
	}
	return sum.parts()
}

// withOnes has the coefficient 1 for all forests of a list.
func withOnes(forests [][][]int64) []impl.Part {
	var e []impl.Part
	for _, f := range forests {
		e = append(e, impl.Part{Coefficient: 1, Forest: f})
	}
	return e
}

// with draws coefficients for all forests of a list.
func (d *drawer) with(forests [][][]int64) []impl.Part {
	e := withOnes(forests)
	for i := range e {
		e[i].Coefficient = 1 + d.below(impl.Prime-1)
	}
	return e
}

// element draws an element with forests of at most n nodes, about as many as told.
func (d *drawer) element(n int, parts int64) []impl.Part {
	forests := slices.Clone(forestsTo(n))
	size := int64(len(forests))
	return d.with(slices.DeleteFunc(forests, func([][]int64) bool { return d.below(size) >= parts }))
}

// alone is the element with one part.
func alone(a int64, f ...[]int64) []impl.Part { return []impl.Part{{Coefficient: a, Forest: f}} }

func samePart(a impl.Part, b impl.Part) bool {
	return a.Coefficient == b.Coefficient && slices.EqualFunc(a.Forest, b.Forest, slices.Equal)
}

// wantParts checks an element and a code that a call has returned, which is ErrLimit for too many
// parts.
func wantParts(t *testing.T, call string, got []impl.Part, code int64, want []impl.Part) {
	t.Helper()
	if len(want) > impl.MaxParts {
		wantNone(t, call, got, code, impl.ErrLimit)
		return
	}
	if !slices.EqualFunc(got, want, samePart) || code != impl.ErrNone {
		t.Errorf("%s = %v, code %d; want %v", call, got, code, want)
	}
	if code == impl.ErrNone && !impl.IsElement(got) {
		t.Errorf("%s = %v is no element", call, got)
	}
}

// notElements have wrong coefficients, or forests that are none, stand in the wrong order, occur
// twice, or are too many.
func notElements() [][]impl.Part {
	var list [][]impl.Part
	for _, a := range append(slices.Clone(notNumbers), 0, -impl.Prime+1, 1<<32, 1<<32+1, 1<<16+1) {
		list = append(list, alone(a), alone(a, []int64{0}), append(alone(1), alone(a, []int64{0})...), append(alone(a), alone(1, []int64{0})...))
	}
	for _, f := range notForests() {
		list = append(list, alone(1, f...), append(alone(1), alone(1, f...)...), append(alone(1, f...), alone(1, tall(impl.MaxNodes))...))
	}
	for _, forests := range [][][][]int64{
		{nil, nil}, {nil, {}}, {{{0}}, nil}, {{{0}}, {{0}}}, {nil, {{0}}, {{0}}}, {{{0, 1}}, {{0}}},
		{copies([]int64{0}, 2), {{0, 1}}}, {{{0, 1, 1}}, {{0, 1, 2}}}, {{{0}, {0, 1, 1}}, {{0}, {0, 1, 2}}},
		{copies([]int64{0, 1}, 2), {{0}, {0, 1, 1}}}, {{{0}, {0, 1}}, {{0, 1, 2}}}, {{{0}}, {{0, 1}}, {{0}}},
		forestsTo(impl.MaxNodes), forestsTo(impl.MaxNodes)[:impl.MaxParts+1], slices.Repeat([][][]int64{{{0}}}, 5000),
	} {
		list = append(list, withOnes(forests))
	}
	return append(list, append(alone(impl.Prime, []int64{0, 1}), alone(0, []int64{1})...))
}

// someElements are few and many parts, up to the limits of nodes and of parts.
func someElements() [][]impl.Part {
	draw := drawer(60)
	return [][]impl.Part{
		nil, {}, alone(1), alone(impl.Prime - 1), alone(5, []int64{0}), alone(1, tall(impl.MaxNodes)), alone(3, copies([]int64{0}, impl.MaxNodes)...),
		draw.element(3, 4), draw.element(7, 20), draw.with(forestsWith(4)), draw.with(forestsTo(impl.MaxNodes)[:impl.MaxParts]),
		draw.with(forestsTo(impl.MaxNodes)[len(forestsTo(impl.MaxNodes))-impl.MaxParts:]),
	}
}

func TestAlgebraExamples(t *testing.T) {
	if impl.MaxParts != 300 || impl.MaxTensors != 600 {
		t.Error("the constants of chapter 6")
	}
	e := must(impl.ElementOf([]int64{0, 1}))
	got, code := impl.AntipodeOf(e)
	wantParts(t, "AntipodeOf", got, code, append(alone(impl.Prime-1, []int64{0, 1}), alone(1, []int64{0}, []int64{0})...))
	got, code = impl.TimesElements(append(alone(2), alone(3, []int64{0})...), append(alone(5), alone(7, []int64{0})...))
	wantParts(t, "TimesElements", got, code, slices.Concat(alone(10), alone(29, []int64{0}), alone(21, []int64{0}, []int64{0})))
	got, code = impl.RootElement(append(alone(4, []int64{0, 1}), alone(9, []int64{0}, []int64{0})...))
	wantParts(t, "RootElement", got, code, append(alone(4, []int64{0, 1, 2}), alone(9, []int64{0, 1, 1})...))
	tensors, code := impl.CoproductOf(alone(3, []int64{0, 1, 1}))
	wantTensors(t, "CoproductOf", tensors, code, []impl.Tensor{
		{Coefficient: 3, Trunk: [][]int64{{0, 1, 1}}}, {Coefficient: 6, Crown: [][]int64{{0}}, Trunk: [][]int64{{0, 1}}},
		{Coefficient: 3, Crown: copies([]int64{0}, 2), Trunk: [][]int64{{0}}}, {Coefficient: 3, Crown: [][]int64{{0, 1, 1}}},
	})
	n, code := impl.ValueOf(append(alone(1, []int64{0, 1, 2}), alone(4, []int64{0}, []int64{0, 1})...), []int64{2, 3, 10006})
	wantNumber(t, "ValueOf", n, code, 23)
}

func TestIsElement(t *testing.T) {
	for _, e := range someElements() {
		if !impl.IsElement(e) {
			t.Errorf("IsElement(%v) is false", e)
		}
	}
	for _, bad := range notElements() {
		if impl.IsElement(bad) {
			t.Errorf("IsElement(%v) is true", bad)
		}
	}
	for _, a := range someNumbers {
		if impl.IsElement(alone(a, []int64{0, 1})) != (a != 0) {
			t.Errorf("IsElement with the coefficient %d is %v", a, a == 0)
		}
	}
}

// TestOrderOfParts takes each pair of forests with few nodes, and those next to each other of all.
func TestOrderOfParts(t *testing.T) {
	want := func(i int, k int) {
		forests := forestsInOrder()
		if e := withOnes([][][]int64{forests[i], forests[k]}); impl.IsElement(e) != (i < k) {
			t.Errorf("IsElement(%v) is %v", e, i >= k)
		}
	}
	small := len(forestsTo(6))
	for i := range forestsInOrder() {
		for k := range forestsInOrder() {
			if i < small && k < small || i-k >= -1 && i-k <= 1 {
				want(i, k)
			}
		}
	}
}

func TestElementOf(t *testing.T) {
	for _, tree := range plainTrees(impl.MaxNodes) {
		for _, list := range tree {
			got, code := impl.ElementOf(list)
			wantParts(t, fmt.Sprintf("ElementOf(%v)", list), got, code, alone(1, tree.list()))
		}
	}
	for _, bad := range notLevels() {
		got, code := impl.ElementOf(bad)
		wantNone(t, fmt.Sprintf("ElementOf(%v)", bad), got, code, impl.ErrInvalid)
	}
}

// TestAddElements holds the part of promise 6 about sums, with results of too many parts among them.
func TestAddElements(t *testing.T) {
	draw := drawer(61)
	list := append(someElements(), draw.element(8, 250), draw.element(8, 40), draw.element(8, 150), draw.element(8, 150))
	for _, d := range list {
		none, code := impl.AddElements(d, must(impl.ScaleElement(d, impl.Prime-1)))
		wantParts(t, fmt.Sprintf("%v less itself", d), none, code, nil)
		for _, e := range list {
			call := fmt.Sprintf("AddElements(%v, %v)", d, e)
			want := plainLinear(1, d, 1, e)
			got, code := impl.AddElements(d, e)
			wantParts(t, call, got, code, want)
			got, code = impl.AddElements(e, d)
			wantParts(t, call+" in the other order", got, code, want)
			if len(want) <= impl.MaxParts {
				got, code = impl.AddElements(want, must(impl.ScaleElement(e, impl.Prime-1)))
				wantParts(t, call+" less the second one", got, code, d)
			}
		}
	}
}

// TestAddElementsLimit has sums with exactly MaxParts parts and with one more, where others become 0.
func TestAddElementsLimit(t *testing.T) {
	all := forestsInOrder()
	d, e := withOnes(all[:250]), withOnes(all[150:400])
	for i := range 100 {
		e[i].Coefficient = impl.Prime - 1
	}
	got, code := impl.AddElements(d, e)
	wantParts(t, "AddElements with MaxParts parts left", got, code, append(withOnes(all[:150]), withOnes(all[250:400])...))
	if len(got) != impl.MaxParts {
		t.Errorf("%d parts are left", len(got))
	}
	e[50].Coefficient = 1
	got, code = impl.AddElements(d, e)
	wantNone(t, "AddElements with one part more left", got, code, impl.ErrLimit)
	got, code = impl.AddElements(withOnes(all[:150]), withOnes(all[150:300]))
	wantParts(t, "AddElements with MaxParts parts", got, code, withOnes(all[:300]))
	got, code = impl.AddElements(withOnes(all[:150]), withOnes(all[150:301]))
	wantNone(t, "AddElements with one part more", got, code, impl.ErrLimit)
	got, code = impl.AddElements(withOnes(all[:300]), alone(1, copies([]int64{0}, impl.MaxNodes)...))
	wantNone(t, "AddElements with one part behind all", got, code, impl.ErrLimit)
}

// TestScaleElement holds the part of promise 6 about multiples, the one by 0 among them.
func TestScaleElement(t *testing.T) {
	for _, e := range someElements() {
		for _, k := range someNumbers {
			got, code := impl.ScaleElement(e, k)
			wantParts(t, fmt.Sprintf("ScaleElement(%v, %d)", e, k), got, code, plainLinear(k, e, 0, nil))
			if k != 0 {
				product, code := impl.TimesElements(alone(k), e)
				wantParts(t, fmt.Sprintf("TimesElements(%d, %v)", k, e), product, code, got)
			}
		}
	}
}

// plainDegree looks at all forests.
func plainDegree(e []impl.Part) int {
	degree := -1
	for _, part := range e {
		degree = max(degree, plainNodes(part.Forest))
	}
	return degree
}

func TestDegreeOf(t *testing.T) {
	for _, f := range forestsInOrder() {
		n, code := impl.DegreeOf(alone(impl.Prime-1, f...))
		wantNumber(t, fmt.Sprintf("DegreeOf(%v)", f), n, code, int64(plainNodes(f)))
	}
	for _, e := range someElements() {
		n, code := impl.DegreeOf(e)
		wantNumber(t, fmt.Sprintf("DegreeOf(%v)", e), n, code, int64(plainDegree(e)))
	}
	for _, none := range [][]impl.Part{nil, {}} {
		n, code := impl.DegreeOf(none)
		wantNumber(t, "DegreeOf no parts", n, code, -1)
	}
}

// TestTimesElements holds the part of promise 6 about products.
func TestTimesElements(t *testing.T) {
	draw := drawer(62)
	for range 60 {
		k := draw.below(impl.MaxNodes + 1)
		c, d, e := draw.element(int(k), 12), draw.element(int(draw.below(9-k)), 12), draw.element(2, 3)
		call := fmt.Sprintf("TimesElements(%v, %v)", c, d)
		want := plainTimes(c, d)
		got, code := impl.TimesElements(c, d)
		wantParts(t, call, got, code, want)
		got, code = impl.TimesElements(d, c)
		wantParts(t, call+" in the other order", got, code, want)
		got, code = impl.TimesElements(alone(1), c)
		wantParts(t, fmt.Sprintf("TimesElements(1, %v)", c), got, code, c)
		got, code = impl.TimesElements(c, nil)
		wantParts(t, fmt.Sprintf("TimesElements(%v, none)", c), got, code, nil)
		if plainDegree(c)+2 > impl.MaxNodes || plainDegree(want)+2 > impl.MaxNodes {
			continue
		}
		got, code = impl.TimesElements(must(impl.TimesElements(c, d)), e)
		wantParts(t, call+" times another one", got, code, must(impl.TimesElements(c, must(impl.TimesElements(d, e)))))
		got, code = impl.TimesElements(c, must(impl.AddElements(d, e)))
		wantParts(t, call+" with a sum", got, code, must(impl.AddElements(want, must(impl.TimesElements(c, e)))))
	}
}

// TestTimesForestsOfParts takes all pairs of forests with MaxNodes nodes together, and with one
// more.
func TestTimesForestsOfParts(t *testing.T) {
	for n := 0; n <= impl.MaxNodes; n++ {
		for _, f := range forestsWith(n) {
			for _, g := range forestsWith(impl.MaxNodes - n) {
				got, code := impl.TimesElements(alone(3, f...), alone(5000, g...))
				wantParts(t, fmt.Sprintf("TimesElements(3 %v, 5000 %v)", f, g), got, code, alone(4993, plainProductOf(f, g)...))
			}
			if n == 0 {
				continue
			}
			for _, g := range forestsWith(impl.MaxNodes + 1 - n) {
				got, code := impl.TimesElements(alone(3, f...), alone(5, g...))
				wantNone(t, fmt.Sprintf("TimesElements(3 %v, 5 %v)", f, g), got, code, impl.ErrLimit)
			}
		}
	}
}

// TestTimesElementsNodes has few products with too many nodes among others, and some that are taken
// away by others.
func TestTimesElementsNodes(t *testing.T) {
	full, node := alone(1, tall(impl.MaxNodes)), alone(1, []int64{0})
	five, other := alone(1, []int64{0, 1, 1, 1, 1}), alone(1, tall(5))
	for _, pair := range [][2][]impl.Part{
		{full, node}, {full, append(alone(1), node...)}, {append(alone(1), full...), append(alone(1), node...)}, {full, full},
		{plainLinear(1, five, 1, other), plainLinear(1, five, -1, other)}, {withOnes(forestsTo(4)), withOnes(forestsTo(5))},
		{withOnes(forestsTo(8)[:impl.MaxParts]), withOnes(forestsTo(8)[:impl.MaxParts])},
	} {
		got, code := impl.TimesElements(pair[0], pair[1])
		wantNone(t, fmt.Sprintf("TimesElements(%v, %v)", pair[0], pair[1]), got, code, impl.ErrLimit)
		got, code = impl.TimesElements(pair[1], pair[0])
		wantNone(t, fmt.Sprintf("TimesElements(%v, %v)", pair[1], pair[0]), got, code, impl.ErrLimit)
	}
	for _, e := range someElements() {
		for _, none := range [][]impl.Part{nil, {}} {
			got, code := impl.TimesElements(e, none)
			wantParts(t, fmt.Sprintf("TimesElements(%v, none)", e), got, code, nil)
			got, code = impl.TimesElements(none, e)
			wantParts(t, fmt.Sprintf("TimesElements(none, %v)", e), got, code, nil)
		}
	}
	sum, difference := plainLinear(1, alone(1, tall(4)), 1, alone(1, bush(4))), plainLinear(1, alone(1, tall(4)), -1, alone(1, bush(4)))
	got, code := impl.TimesElements(sum, difference)
	wantParts(t, "the product of a sum and a difference", got, code, plainLinear(1, alone(1, tall(4), tall(4)), -1, alone(1, bush(4), bush(4))))
}

// TestTimesElementsLimit multiplies by 1 and a tree with one node: a forest without this tree makes
// two parts, and others share them.
func TestTimesElementsLimit(t *testing.T) {
	hasNode := func(f [][]int64) bool { return len(f) > 0 && len(f[0]) == 1 }
	binomial := func(a int64) []impl.Part { return append(alone(1), alone(a, []int64{0})...) }
	all := forestsTo(7)
	want := plainTimes(binomial(2), withOnes(all))
	got, code := impl.TimesElements(binomial(2), withOnes(all))
	wantParts(t, "TimesElements with too many parts", got, code, want)
	left := plainTimes(binomial(impl.Prime-1), withOnes(all))
	got, code = impl.TimesElements(binomial(impl.Prime-1), withOnes(all))
	wantParts(t, "TimesElements with fewer parts left", got, code, left)
	if len(want) != 315 || len(left) >= impl.MaxParts {
		t.Errorf("the products have %d and %d parts", len(want), len(left))
	}
	for _, size := range []int{impl.MaxParts, impl.MaxParts + 1} {
		removed := 0
		few := slices.DeleteFunc(slices.Clone(all), func(f [][]int64) bool {
			isRemoved := plainNodes(f) == 7 && hasNode(f) && removed < len(want)-size
			if isRemoved {
				removed++
			}
			return isRemoved
		})
		product := plainTimes(binomial(2), withOnes(few))
		if len(product) != size {
			t.Errorf("the product has %d parts, not %d", len(product), size)
		}
		got, code = impl.TimesElements(binomial(2), withOnes(few))
		wantParts(t, fmt.Sprintf("TimesElements with %d parts", size), got, code, product)
	}
}

// TestRootElement takes all forests alone, and all of fewer than MaxNodes nodes together, of which
// the root operator makes all trees.
func TestRootElement(t *testing.T) {
	for _, f := range forestsInOrder() {
		call := fmt.Sprintf("RootElement(7 %v)", f)
		got, code := impl.RootElement(alone(7, f...))
		if plainNodes(f) == impl.MaxNodes {
			wantNone(t, call, got, code, impl.ErrLimit)
			got, code = impl.RootElement(append(alone(1, []int64{0}), alone(7, f...)...))
			wantNone(t, call+" and others", got, code, impl.ErrLimit)
		} else {
			wantParts(t, call, got, code, alone(7, must(impl.RootOn(f))))
		}
	}
	draw := drawer(63)
	all := draw.with(forestsTo(impl.MaxNodes - 1))
	coefficients := map[string]int64{}
	for _, part := range all {
		coefficients[plainForestText(part.Forest)] = part.Coefficient
	}
	var want []impl.Part
	for _, tree := range plainTrees(impl.MaxNodes) {
		a := coefficients[plainForestText(plainBranches(tree.list()))]
		want = append(want, alone(a, tree.list())...)
	}
	got, code := impl.RootElement(all)
	wantParts(t, "RootElement of all forests", got, code, want)
	for _, none := range [][]impl.Part{nil, {}} {
		got, code = impl.RootElement(none)
		wantParts(t, "RootElement of no parts", got, code, nil)
	}
	got, code = impl.RootElement(alone(1))
	wantParts(t, "RootElement(1)", got, code, must(impl.ElementOf([]int64{0})))
}

// TestElementsInvalid gives several wrong arguments at once, which holds the order of the errors.
func TestElementsInvalid(t *testing.T) {
	full := withOnes(forestsTo(impl.MaxNodes)[:impl.MaxParts])
	for _, bad := range notElements() {
		for name, operation := range map[string]func([]impl.Part) ([]impl.Part, int64){
			"RootElement": impl.RootElement, "AntipodeOf": impl.AntipodeOf,
			"ScaleElement by 0":     func(e []impl.Part) ([]impl.Part, int64) { return impl.ScaleElement(e, 0) },
			"ScaleElement by Prime": func(e []impl.Part) ([]impl.Part, int64) { return impl.ScaleElement(e, impl.Prime) },
		} {
			got, code := operation(bad)
			wantNone(t, fmt.Sprintf("%s(%v)", name, bad), got, code, impl.ErrInvalid)
		}
		tensors, code := impl.CoproductOf(bad)
		wantNone(t, fmt.Sprintf("CoproductOf(%v)", bad), tensors, code, impl.ErrInvalid)
		n, code := impl.DegreeOf(bad)
		wantFault(t, fmt.Sprintf("DegreeOf(%v)", bad), n, code, impl.ErrInvalid)
		for _, values := range [][]int64{nil, {1, 2}, {-1}, make([]int64, impl.AllTrees), make([]int64, impl.AllTrees+1)} {
			n, code = impl.ValueOf(bad, values)
			wantFault(t, fmt.Sprintf("ValueOf(%v, %v)", bad, values), n, code, impl.ErrInvalid)
		}
		for _, good := range [][]impl.Part{nil, alone(1), alone(1, []int64{0}), alone(1, tall(impl.MaxNodes)), full} {
			got, code := impl.AddElements(bad, good)
			wantNone(t, fmt.Sprintf("AddElements(%v, %v)", bad, good), got, code, impl.ErrInvalid)
			got, code = impl.AddElements(good, bad)
			wantNone(t, fmt.Sprintf("AddElements(%v, %v)", good, bad), got, code, impl.ErrInvalid)
			got, code = impl.TimesElements(bad, good)
			wantNone(t, fmt.Sprintf("TimesElements(%v, %v)", bad, good), got, code, impl.ErrInvalid)
			got, code = impl.TimesElements(good, bad)
			wantNone(t, fmt.Sprintf("TimesElements(%v, %v)", good, bad), got, code, impl.ErrInvalid)
		}
	}
}

func TestScaleElementRange(t *testing.T) {
	for _, k := range append(slices.Clone(notNumbers), 1<<32, 1<<32+1, 1<<16) {
		for _, e := range someElements() {
			got, code := impl.ScaleElement(e, k)
			wantNone(t, fmt.Sprintf("ScaleElement(%v, %d)", e, k), got, code, impl.ErrRange)
		}
	}
}

// plainValue multiplies the numbers of the trees of forests.
func plainValue(e []impl.Part, values []int64) int64 {
	sum := int64(0)
	for _, part := range e {
		product := part.Coefficient
		for _, list := range part.Forest {
			i, _ := impl.IndexOf(list)
			product = product * values[i] % impl.Prime
		}
		sum += product
	}
	return sum % impl.Prime
}

// TestValueOf also checks that values respect sums and products.
func TestValueOf(t *testing.T) {
	draw := drawer(64)
	for range 30 {
		values := draw.list(impl.AllTrees)
		d, e := draw.element(5, 10), draw.element(3, 5)
		first, code := impl.ValueOf(d, values)
		wantNumber(t, fmt.Sprintf("ValueOf(%v, %v)", d, values), first, code, plainValue(d, values))
		second, code := impl.ValueOf(e, values)
		wantNumber(t, fmt.Sprintf("ValueOf(%v, %v)", e, values), second, code, plainValue(e, values))
		n, code := impl.ValueOf(must(impl.AddElements(d, e)), values)
		wantNumber(t, "ValueOf a sum", n, code, (first+second)%impl.Prime)
		n, code = impl.ValueOf(must(impl.TimesElements(d, e)), values)
		wantNumber(t, "ValueOf a product", n, code, first*second%impl.Prime)
	}
	for _, e := range someElements() {
		values := draw.list(impl.AllTrees)
		n, code := impl.ValueOf(e, values)
		wantNumber(t, fmt.Sprintf("ValueOf(%v, %v)", e, values), n, code, plainValue(e, values))
	}
	for _, none := range [][]int64{nil, {}} {
		n, code := impl.ValueOf(nil, none)
		wantNumber(t, "ValueOf no parts", n, code, 0)
		n, code = impl.ValueOf(alone(12), none)
		wantNumber(t, "ValueOf the empty forest", n, code, 12)
		n, code = impl.ValueOf(alone(12, []int64{0}), none)
		wantFault(t, "ValueOf one node without numbers", n, code, impl.ErrRange)
	}
}

// TestValueOfEachTree has lists that end with the number of a tree, and just before it.
func TestValueOfEachTree(t *testing.T) {
	draw := drawer(65)
	values := draw.list(impl.AllTrees)
	for i, tree := range plainTrees(impl.MaxNodes) {
		e := append(alone(2), alone(3, tree.list())...)
		n, code := impl.ValueOf(e, values[:i+1])
		wantNumber(t, fmt.Sprintf("ValueOf(%v, %d numbers)", e, i+1), n, code, (2+3*values[i])%impl.Prime)
		n, code = impl.ValueOf(e, values[:i])
		wantFault(t, fmt.Sprintf("ValueOf(%v, %d numbers)", e, i), n, code, impl.ErrRange)
		if len(tree.list()) < impl.MaxNodes {
			f := plainProductOf([][]int64{{0}}, [][]int64{tree.list()})
			n, code = impl.ValueOf(alone(1, f...), values[:i])
			wantFault(t, fmt.Sprintf("ValueOf(%v, %d numbers)", f, i), n, code, impl.ErrRange)
		}
	}
}

func TestValueOfRange(t *testing.T) {
	longer := make([]int64, impl.AllTrees+1)
	lists := [][]int64{longer, make([]int64, 5000), {-1}, {1, impl.Prime}, {1, 2, 3, math.MinInt64}, {math.MaxInt64, 1}}
	for place := range 3 {
		for _, bad := range notNumbers {
			list := make([]int64, 3)
			list[place] = bad
			lists = append(lists, list)
		}
	}
	for _, values := range lists {
		for _, e := range [][]impl.Part{nil, alone(1), alone(1, []int64{0}), alone(1, tall(impl.MaxNodes))} {
			n, code := impl.ValueOf(e, values)
			wantFault(t, fmt.Sprintf("ValueOf(%v, %v)", e, values), n, code, impl.ErrRange)
		}
	}
}
