package tests

import (
	"fmt"
	"slices"
	"sync"
	"testing"

	"loop.example/g01100/impl"
)

// ruled makes a tableau by rules for the numbers of A and B.
func ruled(stages int, a func(i int, k int) int64, b func(k int) int64) impl.Tableau {
	x := everyStage(stages, 0)
	for k := range stages {
		x.B[k] = remainder(b(k))
		for i := range stages {
			x.A[i][k] = remainder(a(i, k))
		}
	}
	return x
}

func plainComposed(x impl.Tableau, y impl.Tableau) impl.Tableau {
	first := len(x.B)
	return ruled(first+len(y.B), func(i int, k int) int64 {
		switch {
		case i < first && k < first:
			return x.A[i][k]
		case i < first:
			return 0
		case k < first:
			return x.B[k]
		}
		return y.A[i-first][k-first]
	}, func(k int) int64 {
		if k < first {
			return x.B[k]
		}
		return y.B[k-first]
	})
}

func plainMultiple(x impl.Tableau, factor int64) impl.Tableau {
	return ruled(len(x.B), func(i int, k int) int64 { return x.A[i][k] * factor }, func(k int) int64 { return x.B[k] * factor })
}

func plainBack(x impl.Tableau) impl.Tableau {
	return ruled(len(x.B), func(i int, k int) int64 { return x.A[i][k] - x.B[k] }, func(k int) int64 { return -x.B[k] })
}

func plainAdjoint(x impl.Tableau) impl.Tableau {
	last := len(x.B) - 1
	return ruled(len(x.B), func(i int, k int) int64 { return x.B[last-k] - x.A[last-i][last-k] }, func(k int) int64 { return x.B[last-k] })
}

func plainReordered(x impl.Tableau, order []int64) impl.Tableau {
	return ruled(len(x.B), func(i int, k int) int64 { return x.A[order[i]][order[k]] }, func(k int) int64 { return x.B[order[k]] })
}

// ordersOf has, by numbers of stages up to MaxStages, all lists that reorder them, in their order.
var ordersOf = sync.OnceValue(func() [][][]int64 {
	all := [][][]int64{{{}}}
	for stages := int64(1); stages <= impl.MaxStages; stages++ {
		var longer [][]int64
		for first := range stages {
			for _, order := range all[stages-1] {
				list := []int64{first}
				for _, stage := range order {
					if stage >= first {
						stage++
					}
					list = append(list, stage)
				}
				longer = append(longer, list)
			}
		}
		all = append(all, longer)
	}
	return all
})

// identity leaves stages where they are.
func identity(stages int) []int64 { return ordersOf()[stages][0] }

func reversed(list []int64) []int64 {
	list = slices.Clone(list)
	slices.Reverse(list)
	return list
}

// order draws a list that reorders stages.
func (d *drawer) order(stages int) []int64 {
	all := ordersOf()[stages]
	return all[d.below(int64(len(all)))]
}

// fewStages has some tableaus with 1 to most stages: named, simple and drawn ones.
func fewStages(most int) []impl.Tableau {
	var list []impl.Tableau
	for _, x := range someTableaus() {
		if len(x.B) <= most {
			list = append(list, x)
		}
	}
	return list
}

// kept leaves nothing of a tableau beside an error code.
func kept(x impl.Tableau, code int64) impl.Tableau {
	if code != impl.ErrNone {
		return impl.Tableau{}
	}
	return x
}

func TestCompositionExamples(t *testing.T) {
	euler := tableauOf("0", "1")
	x, code := impl.ComposeTableaus(euler, euler)
	wantTableau(t, "ComposeTableaus(euler, euler)", x, code, tableauOf("0 0", "1 0", "1 1"))
	x, code = impl.InverseTableau(euler)
	wantTableau(t, "InverseTableau(euler)", x, code, tableauOf("-1", "-1"))
	x, code = impl.AdjointTableau(euler)
	wantTableau(t, "AdjointTableau(euler)", x, code, tableauOf("1", "1"))
	x, code = impl.DropUnused(tableauOf("0 0", "1 0", "1 0"))
	wantTableau(t, "DropUnused(0 0;1 0|1 0)", x, code, euler)
	twins := tableauOf("0 0", "0 0", "1/2 1/2")
	classes, code := impl.AlikeStages(twins)
	wantList(t, "AlikeStages(0 0;0 0|1/2 1/2)", classes, code, []int64{0, 0})
	x, code = impl.MergeStages(twins)
	wantTableau(t, "MergeStages(0 0;0 0|1/2 1/2)", x, code, euler)
}

// TestComposeTableaus has all numbers of stages that are possible, MaxStages among them, and one more.
func TestComposeTableaus(t *testing.T) {
	draw := drawer(128)
	for first := 1; first <= impl.MaxStages; first++ {
		for second := 1; second <= impl.MaxStages; second++ {
			for range 3 {
				x, y := draw.tableau(first), draw.tableau(second)
				got, code := impl.ComposeTableaus(x, y)
				call := fmt.Sprintf("ComposeTableaus(%v, %v)", x, y)
				if first+second <= impl.MaxStages {
					wantTableau(t, call, got, code, plainComposed(x, y))
				} else {
					wantNoTableau(t, call, got, code, impl.ErrLimit)
				}
			}
		}
	}
	got, code := impl.ComposeTableaus(tableauOf("1 2", "3 4", "5 6"), tableauOf("7", "8"))
	wantTableau(t, "ComposeTableaus", got, code, tableauOf("1 2 0", "3 4 0", "5 6 7", "5 6 8"))
	got, code = impl.ComposeTableaus(tableauOf("7", "8"), tableauOf("1 2", "3 4", "5 6"))
	wantTableau(t, "ComposeTableaus", got, code, tableauOf("7 0 0", "8 1 2", "8 3 4", "8 5 6"))
}

// TestComposeThree composes from the left and from the right.
func TestComposeThree(t *testing.T) {
	draw := drawer(129)
	for first := 1; first <= 6; first++ {
		for second := 1; first+second <= 7; second++ {
			third := 1 + int(draw.below(int64(impl.MaxStages-first-second)))
			x, y, z := draw.tableau(first), draw.tableau(second), draw.tableau(third)
			left, code := impl.ComposeTableaus(kept(impl.ComposeTableaus(x, y)), z)
			if code != impl.ErrNone {
				t.Errorf("composing %v, %v and %v has the code %d", x, y, z, code)
			}
			right, code := impl.ComposeTableaus(x, kept(impl.ComposeTableaus(y, z)))
			wantTableau(t, fmt.Sprintf("composing %v, %v and %v", x, y, z), right, code, left)
		}
	}
}

// TestScaleTableau scales by numbers at both ends, 0, 1 and that of -1 among them.
func TestScaleTableau(t *testing.T) {
	for _, x := range someTableaus() {
		for _, k := range someNumbers {
			got, code := impl.ScaleTableau(x, k)
			wantTableau(t, fmt.Sprintf("ScaleTableau(%v, %d)", x, k), got, code, plainMultiple(x, k))
		}
		got, code := impl.ScaleTableau(x, 0)
		wantTableau(t, fmt.Sprintf("ScaleTableau(%v, 0)", x), got, code, everyStage(len(x.B), 0))
		got, code = impl.ScaleTableau(x, 1)
		wantTableau(t, fmt.Sprintf("ScaleTableau(%v, 1)", x), got, code, x)
		back, code := impl.ScaleTableau(kept(impl.ScaleTableau(x, impl.Prime-1)), impl.Prime-1)
		wantTableau(t, fmt.Sprintf("scaling %v by -1 twice", x), back, code, x)
	}
	got, code := impl.ScaleTableau(tableauOf("0 0", "1 0", "1/2 1/2"), 10006)
	wantTableau(t, "ScaleTableau(heun, -1)", got, code, tableauOf("0 0", "-1 0", "-1/2 -1/2"))
}

// TestNeutralTableau writes into the neutral tableau, which must not come back.
func TestNeutralTableau(t *testing.T) {
	var rows [][]int64
	for range 3 {
		x := impl.NeutralTableau()
		wantTableau(t, "NeutralTableau()", x, impl.ErrNone, tableauOf("0", "0"))
		rows = append(rows, x.A[0], x.B)
		spare := x.A[:cap(x.A)]
		for i := range spare {
			spare[i] = nil
		}
	}
	wantApart(t, "NeutralTableau()", rows...)
	wantTableau(t, "NeutralTableau()", impl.NeutralTableau(), impl.ErrNone, tableauOf("0", "0"))
	character, code := impl.CharacterOf(impl.NeutralTableau())
	wantList(t, "the character of the neutral tableau", character, code, impl.UnitMap())
	for _, x := range fewStages(7) {
		before, code := impl.CharacterOf(kept(impl.ComposeTableaus(impl.NeutralTableau(), x)))
		wantList(t, fmt.Sprintf("the character of the neutral tableau and %v", x), before, code, plainCharacterOf(x))
		after, code := impl.CharacterOf(kept(impl.ComposeTableaus(x, impl.NeutralTableau())))
		wantList(t, fmt.Sprintf("the character of %v and the neutral tableau", x), after, code, plainCharacterOf(x))
	}
}

// TestInversesAndAdjoints holds what promise 10 says of them: twice they lead back.
func TestInversesAndAdjoints(t *testing.T) {
	for _, x := range someTableaus() {
		inverse, code := impl.InverseTableau(x)
		wantTableau(t, fmt.Sprintf("InverseTableau(%v)", x), inverse, code, plainBack(x))
		back, code := impl.InverseTableau(inverse)
		wantTableau(t, fmt.Sprintf("inverting %v twice", x), back, code, x)
		adjoint, code := impl.AdjointTableau(x)
		wantTableau(t, fmt.Sprintf("AdjointTableau(%v)", x), adjoint, code, plainAdjoint(x))
		back, code = impl.AdjointTableau(adjoint)
		wantTableau(t, fmt.Sprintf("adjoining %v twice", x), back, code, x)
		scaled := kept(impl.ScaleTableau(inverse, impl.Prime-1))
		turned, code := impl.PermuteStages(scaled, reversed(identity(len(x.B))))
		wantTableau(t, fmt.Sprintf("InverseTableau(%v), scaled and turned", x), turned, code, adjoint)
	}
	for _, c := range [][2]impl.Tableau{
		{tableauOf("1/2", "1"), tableauOf("1/2", "1")},
		{tableauOf("0 0", "1/2 1/2", "1/2 1/2"), tableauOf("0 0", "1/2 1/2", "1/2 1/2")},
		{tableauOf("0 0", "1 0", "1/3 2/3"), tableauOf("2/3 -2/3", "2/3 1/3", "2/3 1/3")},
		{tableauOf("0", "0"), tableauOf("0", "0")},
		{tableauOf("5", "0"), tableauOf("-5", "0")},
	} {
		got, code := impl.AdjointTableau(c[0])
		wantTableau(t, fmt.Sprintf("AdjointTableau(%v)", c[0]), got, code, c[1])
	}
	got, code := impl.InverseTableau(tableauOf("0 0", "1 0", "1/3 2/3"))
	wantTableau(t, "InverseTableau(0 0;1 0|1/3 2/3)", got, code, tableauOf("-1/3 -2/3", "2/3 -2/3", "-1/3 -2/3"))
}

// TestRepeatTableau composes with one tableau after the other, up to MaxStages stages and further.
func TestRepeatTableau(t *testing.T) {
	list := someTableaus()
	for _, x := range list {
		for k := int64(1); k <= impl.MaxStages; k++ {
			call := fmt.Sprintf("RepeatTableau(%v, %d)", x, k)
			got, code := impl.RepeatTableau(x, k)
			if k*int64(len(x.B)) > impl.MaxStages {
				wantNoTableau(t, call, got, code, impl.ErrLimit)
				continue
			}
			part := plainMultiple(x, fraction(1, k))
			want := part
			for range k - 1 {
				want = plainComposed(want, part)
			}
			wantTableau(t, call, got, code, want)
			if k == 1 {
				wantTableau(t, call, got, code, x)
			}
		}
	}
	got, code := impl.RepeatTableau(tableauOf("0", "1"), 3)
	wantTableau(t, "RepeatTableau(euler, 3)", got, code, tableauOf("0 0 0", "1/3 0 0", "1/3 1/3 0", "1/3 1/3 1/3"))
	got, code = impl.RepeatTableau(tableauOf("0", "1"), 8)
	want := ruled(8, func(i int, k int) int64 {
		if k < i {
			return fraction(1, 8)
		}
		return 0
	}, func(int) int64 { return fraction(1, 8) })
	wantTableau(t, "RepeatTableau(euler, 8)", got, code, want)
}

// TestPermuteStages has all lists for few stages, and some for more.
func TestPermuteStages(t *testing.T) {
	draw := drawer(130)
	for _, x := range someTableaus() {
		stages := len(x.B)
		orders := ordersOf()[stages]
		if stages > 4 {
			orders = [][]int64{identity(stages), reversed(identity(stages))}
			for range 20 {
				orders = append(orders, draw.order(stages))
			}
		}
		for _, order := range orders {
			call := fmt.Sprintf("PermuteStages(%v, %v)", x, order)
			got, code := impl.PermuteStages(x, order)
			wantTableau(t, call, got, code, plainReordered(x, order))
			inverse := make([]int64, stages)
			for i, stage := range order {
				inverse[stage] = int64(i)
			}
			back, code := impl.PermuteStages(got, inverse)
			wantTableau(t, call+" and back", back, code, x)
		}
		got, code := impl.PermuteStages(x, identity(stages))
		wantTableau(t, fmt.Sprintf("PermuteStages(%v) in place", x), got, code, x)
	}
	got, code := impl.PermuteStages(tableauOf("1 2 3", "4 5 6", "7 8 9", "-1 -2 -3"), []int64{1, 2, 0})
	wantTableau(t, "PermuteStages", got, code, tableauOf("5 6 4", "8 9 7", "2 3 1", "-2 -3 -1"))
}

// plainStageOrder tries all lists in their order.
func plainStageOrder(x impl.Tableau, y impl.Tableau) []int64 {
	for _, order := range ordersOf()[len(x.B)] {
		if sameTableau(plainReordered(x, order), y) {
			return order
		}
	}
	return nil
}

func wantStageOrder(t *testing.T, x impl.Tableau, y impl.Tableau, want []int64) {
	t.Helper()
	call := fmt.Sprintf("StageOrder(%v, %v)", x, y)
	got, code := impl.StageOrder(x, y)
	if want == nil {
		wantNone(t, call, got, code, impl.ErrNotFound)
	} else {
		wantList(t, call, got, code, want)
	}
}

// binary draws a tableau with only a few numbers, so that many lists lead to the same one.
func (d *drawer) binary(stages int, numbers int64) impl.Tableau {
	return ruled(stages, func(int, int) int64 { return d.below(numbers) }, func(int) int64 { return d.below(numbers) })
}

// TestStageOrder has tableaus for which there are several lists, one and none.
func TestStageOrder(t *testing.T) {
	draw := drawer(131)
	counts := map[bool]int{}
	for stages := 1; stages <= 5; stages++ {
		for round := range 120 {
			x := draw.binary(stages, 1+int64(round%3))
			y := plainReordered(x, draw.order(stages))
			if round%4 == 0 {
				y = draw.binary(stages, 1+int64(round%3))
			}
			if round%4 == 1 {
				row, column := int(draw.below(int64(stages+1))), int(draw.below(int64(stages)))
				y = altered(y, row, column, draw.below(2))
			}
			want := plainStageOrder(x, y)
			counts[want != nil]++
			wantStageOrder(t, x, y, want)
			wantStageOrder(t, y, x, plainStageOrder(y, x))
		}
	}
	if counts[true] < 100 || counts[false] < 50 {
		t.Errorf("there are %v lists", counts)
	}
	for _, x := range someTableaus() {
		wantStageOrder(t, x, x, identity(len(x.B)))
		turn := draw.order(len(x.B))
		got, code := impl.StageOrder(x, plainReordered(x, turn))
		call := fmt.Sprintf("StageOrder(%v, reordered by %v)", x, turn)
		if code != impl.ErrNone || len(got) != len(turn) || slices.Compare(got, turn) > 0 {
			t.Fatalf("%s = %v, code %d", call, got, code)
		}
		back, code := impl.PermuteStages(x, got)
		wantTableau(t, call, back, code, plainReordered(x, turn))
	}
}

// TestStageOrderOfEqualStages has tableaus whose stages are equal but for a few numbers.
func TestStageOrderOfEqualStages(t *testing.T) {
	draw := drawer(132)
	for stages := 1; stages <= impl.MaxStages; stages++ {
		same := everyStage(stages, 1)
		wantStageOrder(t, same, same, identity(stages))
		wantStageOrder(t, same, everyStage(stages, 2), nil)
		for range 3 {
			row, column := int(draw.below(int64(stages))), int(draw.below(int64(stages)))
			x := altered(same, row, column, 7)
			turn := draw.order(stages)
			y := plainReordered(x, turn)
			wantStageOrder(t, x, y, plainStageOrder(x, y))
			wantStageOrder(t, same, x, nil)
			wantStageOrder(t, x, same, nil)
			y = altered(y, stages, int(draw.below(int64(stages))), 7)
			wantStageOrder(t, y, x, nil)
			z := plainReordered(y, turn)
			wantStageOrder(t, y, z, plainStageOrder(y, z))
		}
	}
	ring := func(stages int) impl.Tableau {
		return ruled(stages, func(i int, k int) int64 {
			if k == (i+1)%stages {
				return 1
			}
			return 0
		}, func(int) int64 { return 1 })
	}
	for stages := 2; stages <= 7; stages++ {
		x := ring(stages)
		wantStageOrder(t, x, plainReordered(x, reversed(identity(stages))), append([]int64{0}, reversed(identity(stages)[1:])...))
		wantStageOrder(t, x, altered(x, stages-1, 0, 0), nil)
	}
	x := plainComposedRings(ring(3), ring(5))
	wantStageOrder(t, x, ring(8), nil)
	wantStageOrder(t, x, plainComposedRings(ring(5), ring(3)), []int64{3, 4, 5, 6, 7, 0, 1, 2})
}

// plainComposedRings has the stages of two tableaus, which know nothing of each other.
func plainComposedRings(x impl.Tableau, y impl.Tableau) impl.Tableau {
	both := plainComposed(x, y)
	for i := range y.B {
		clear(both.A[len(x.B)+i][:len(x.B)])
	}
	return both
}

// TestStageOrderOtherStages has tableaus with other numbers of stages or other numbers.
func TestStageOrderOtherStages(t *testing.T) {
	draw := drawer(133)
	for first := 1; first <= impl.MaxStages; first++ {
		for second := 1; second <= impl.MaxStages; second++ {
			if first == second {
				x := draw.tableau(first)
				wantStageOrder(t, x, plainMultiple(x, 2), nil)
				continue
			}
			wantStageOrder(t, everyStage(first, 0), everyStage(second, 0), nil)
			wantStageOrder(t, draw.tableau(first), draw.tableau(second), nil)
		}
	}
	wantStageOrder(t, tableauOf("0", "1"), tableauOf("1", "1"), nil)
	wantStageOrder(t, tableauOf("0 0", "1 0", "1/2 1/2"), tableauOf("0 1", "0 0", "1/2 1/2"), []int64{1, 0})
	wantStageOrder(t, tableauOf("0 0", "1 0", "1/3 2/3"), tableauOf("0 1", "0 0", "1/3 2/3"), nil)
	wantStageOrder(t, tableauOf("0 1", "2 0", "1 1"), tableauOf("0 1", "1 0", "1 1"), nil)
	wantStageOrder(t, tableauOf("1 2 3", "4 5 6", "7 8 9", "-1 -2 -3"), tableauOf("5 6 4", "8 9 7", "2 3 1", "-2 -3 -1"), []int64{1, 2, 0})
}

// TestCharactersOfSteps holds what promise 31 says of characters: by references of their own, and by
// the functions of chapter 7.
func TestCharactersOfSteps(t *testing.T) {
	few := fewStages(7)
	draw := drawer(134)
	for i, x := range few {
		for round := range 5 {
			y := few[(i*7+round*11)%len(few)]
			if round == 4 {
				y = draw.tableau(1 + int(draw.below(int64(impl.MaxStages-len(x.B)))))
			}
			if len(x.B)+len(y.B) > impl.MaxStages {
				continue
			}
			call := fmt.Sprintf("the character of %v and %v", x, y)
			got, code := impl.CharacterOf(kept(impl.ComposeTableaus(x, y)))
			wantList(t, call, got, code, plainConvolution(plainCharacterOf(x), plainCharacterOf(y)))
			again, code := impl.Convolve(must(impl.CharacterOf(x)), must(impl.CharacterOf(y)))
			wantList(t, call, again, code, got)
		}
	}
	for _, x := range someTableaus() {
		character := plainCharacterOf(x)
		got, code := impl.CharacterOf(kept(impl.InverseTableau(x)))
		wantList(t, fmt.Sprintf("the character of the inverse of %v", x), got, code, plainInverse(character))
		again, code := impl.InverseMap(must(impl.CharacterOf(x)))
		wantList(t, fmt.Sprintf("the inverse of the character of %v", x), again, code, got)
		adjoint, code := impl.CharacterOf(kept(impl.AdjointTableau(x)))
		wantList(t, fmt.Sprintf("the character of the adjoint of %v", x), adjoint, code, plainScaled(got, impl.Prime-1))
		for _, k := range []int64{0, 1, 2, fraction(1, 3), impl.Prime - 1} {
			scaled, code := impl.CharacterOf(kept(impl.ScaleTableau(x, k)))
			wantList(t, fmt.Sprintf("the character of %v scaled by %d", x, k), scaled, code, plainScaled(character, k))
			again, code := impl.ScaleMap(must(impl.CharacterOf(x)), k)
			wantList(t, fmt.Sprintf("the character of %v scaled by %d", x, k), again, code, scaled)
		}
		for k := 1; k*len(x.B) <= impl.MaxStages; k++ {
			repeated, code := impl.CharacterOf(kept(impl.RepeatTableau(x, int64(k))))
			wantList(t, fmt.Sprintf("the character of %v, %d times", x, k), repeated, code, plainPower(plainScaled(character, fraction(1, int64(k))), k))
		}
		turned, code := impl.CharacterOf(kept(impl.PermuteStages(x, draw.order(len(x.B)))))
		wantList(t, fmt.Sprintf("the character of %v reordered", x), turned, code, character)
	}
}

// notListsOf are no lists that reorder stages.
func notListsOf(stages int) [][]int64 {
	order := identity(stages)
	lists := [][]int64{nil, {}, order[1:], order[:stages-1], append(slices.Clone(order), int64(stages)), append(slices.Clone(order), 0), append([]int64{-1}, order...)}
	for i := range order {
		for _, bad := range append(slices.Clone(beyondNodes), -1, int64(stages), int64(stages)+1, 1<<32+int64(i), 1<<8+int64(i), 1<<16+int64(i)) {
			if bad < 0 || bad >= int64(stages) {
				lists = append(lists, changed(order, i, bad))
			}
		}
		for k := range order {
			if i != k {
				twice := slices.Clone(order)
				twice[i] = order[k]
				lists = append(lists, twice, append(slices.Clone(order), order[k]))
			}
		}
	}
	return append(lists, slices.Repeat(order, 2), make([]int64, 100))
}

// TestCompositionInvalid has several wrong arguments at once: ErrInvalid comes first.
func TestCompositionInvalid(t *testing.T) {
	one, most := tableauOf("0", "1"), everyStage(impl.MaxStages, 1)
	for _, x := range notTableaus() {
		call := func(name string) string { return fmt.Sprintf("%s with %v", name, x) }
		for _, other := range []impl.Tableau{one, most, x, {}, everyStage(9, 0)} {
			y, code := impl.ComposeTableaus(x, other)
			wantNoTableau(t, call("ComposeTableaus"), y, code, impl.ErrInvalid)
			y, code = impl.ComposeTableaus(other, x)
			wantNoTableau(t, call("ComposeTableaus"), y, code, impl.ErrInvalid)
			order, code := impl.StageOrder(x, other)
			wantNone(t, call("StageOrder"), order, code, impl.ErrInvalid)
			order, code = impl.StageOrder(other, x)
			wantNone(t, call("StageOrder"), order, code, impl.ErrInvalid)
		}
		for _, k := range append(slices.Clone(notNumbers), 0, 1, 2, impl.MaxStages, impl.MaxStages+1) {
			y, code := impl.ScaleTableau(x, k)
			wantNoTableau(t, call("ScaleTableau"), y, code, impl.ErrInvalid)
			y, code = impl.RepeatTableau(x, k)
			wantNoTableau(t, call("RepeatTableau"), y, code, impl.ErrInvalid)
		}
		for _, order := range [][]int64{nil, {0}, {0, 1}, {0, 0}, {-1}, identity(8), identity(len(x.B) % 9)} {
			y, code := impl.PermuteStages(x, order)
			wantNoTableau(t, call("PermuteStages"), y, code, impl.ErrInvalid)
		}
		for name, change := range map[string]func(impl.Tableau) (impl.Tableau, int64){
			"InverseTableau": impl.InverseTableau, "AdjointTableau": impl.AdjointTableau, "DropUnused": impl.DropUnused,
			"MergeStages": impl.MergeStages, "ReduceTableau": impl.ReduceTableau,
		} {
			y, code := change(x)
			wantNoTableau(t, call(name), y, code, impl.ErrInvalid)
		}
		list, code := impl.AlikeStages(x)
		wantNone(t, call("AlikeStages"), list, code, impl.ErrInvalid)
		is, code := impl.IsReduced(x)
		wantNoTruth(t, call("IsReduced"), is, code, impl.ErrInvalid)
	}
}

// TestCompositionRange has numbers of repetitions that would leave too many stages, too: ErrRange
// comes before ErrLimit.
func TestCompositionRange(t *testing.T) {
	for _, x := range someTableaus() {
		for _, k := range notNumbers {
			y, code := impl.ScaleTableau(x, k)
			wantNoTableau(t, fmt.Sprintf("ScaleTableau(%v, %d)", x, k), y, code, impl.ErrRange)
		}
		for _, k := range append(slices.Clone(notNumbers), 0, impl.MaxStages+1, impl.MaxStages+2, 1<<32, 1<<32+1, 1<<61, 1<<61+1, 1<<8+1, impl.Prime-1) {
			y, code := impl.RepeatTableau(x, k)
			wantNoTableau(t, fmt.Sprintf("RepeatTableau(%v, %d)", x, k), y, code, impl.ErrRange)
		}
		for _, order := range notListsOf(len(x.B)) {
			y, code := impl.PermuteStages(x, order)
			wantNoTableau(t, fmt.Sprintf("PermuteStages(%v, %v)", x, order), y, code, impl.ErrRange)
		}
	}
}

// tableausMade calls all functions of chapter 10 that return tableaus. The second one has one stage.
func tableausMade(x impl.Tableau, y impl.Tableau, order []int64) []impl.Tableau {
	return []impl.Tableau{
		kept(impl.ComposeTableaus(x, y)), kept(impl.ComposeTableaus(y, x)), kept(impl.ScaleTableau(x, 1)), kept(impl.ScaleTableau(x, 3)),
		kept(impl.InverseTableau(x)), kept(impl.AdjointTableau(x)), kept(impl.RepeatTableau(x, 1)), kept(impl.RepeatTableau(y, 3)),
		kept(impl.PermuteStages(x, order)), kept(impl.DropUnused(x)), kept(impl.MergeStages(x)), kept(impl.ReduceTableau(x)),
	}
}

// TestCompositionMemory checks that arguments stay as they are, and that results are new memory.
func TestCompositionMemory(t *testing.T) {
	draw := drawer(135)
	for stages := 1; stages < impl.MaxStages; stages++ {
		for _, x := range []impl.Tableau{draw.tableau(stages), everyStage(stages, 1), everyStage(stages, 0)} {
			y, order := draw.tableau(1), draw.order(stages)
			rows, others, orders := guarded(rowsOf(x)), guarded(rowsOf(y)), guarded([][]int64{order})
			wrongOrders := guarded([][]int64{slices.Repeat([]int64{1, 0}, 8)})
			xg, yg := impl.Tableau{A: rows[:stages], B: rows[stages]}, impl.Tableau{A: others[:1], B: others[1]}
			want := tableausMade(x, y, order)
			var lists [][]int64
			for range 2 {
				for i, z := range tableausMade(xg, yg, orders[0]) {
					wantTableau(t, "a function of chapter 10", z, impl.ErrNone, want[i])
					lists = append(lists, rowsOf(z)...)
				}
				lists = append(lists, must(impl.AlikeStages(xg)), must(impl.StageOrder(xg, xg)))
			}
			wantApart(t, "the functions of chapter 10", lists...)
			impl.IsReduced(xg)
			impl.PermuteStages(xg, wrongOrders[0])
			wantUntouched(t, "a function of chapter 10", rows, rowsOf(x))
			wantUntouched(t, "a function of chapter 10", others, rowsOf(y))
			wantUntouched(t, "PermuteStages", orders, [][]int64{order})
			wantUntouched(t, "PermuteStages", wrongOrders, [][]int64{slices.Repeat([]int64{1, 0}, 8)})
			for i, z := range tableausMade(xg, yg, orders[0]) {
				wantTableau(t, "a function of chapter 10 called again", z, impl.ErrNone, want[i])
			}
		}
	}
}
