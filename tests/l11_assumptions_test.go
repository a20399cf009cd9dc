package tests

import (
	"fmt"
	"slices"
	"testing"

	"loop.example/g01100/impl"
)

// The kinds of assumptions.
const (
	kindB = iota
	kindC
	kindD
)

// plainCondition tells whether a tableau meets the condition of a kind with the exponent k alone.
func plainCondition(x impl.Tableau, kind int64, k int) bool {
	nodes, whole := rowSums(x), int64(0)
	isMet := true
	for i := range x.B {
		across, down := int64(0), int64(0)
		for j := range x.B {
			across += x.A[i][j] * powerOf(nodes[j], k-1) % prime
			down += x.B[j] * powerOf(nodes[j], k-1) % prime * x.A[j][i] % prime
		}
		whole += x.B[i] * powerOf(nodes[i], k-1) % prime
		power, part := powerOf(nodes[i], k), fraction(1, int64(k))
		isMet = isMet && (kind != kindC || remainder(across-power*part) == 0)
		isMet = isMet && (kind != kindD || remainder(down-x.B[i]*remainder(1-power)%prime*part) == 0)
	}
	return isMet && (kind != kindB || remainder(whole*int64(k)-1) == 0)
}

// plainMet is the greatest number up to which all conditions of a kind are met.
func plainMet(x impl.Tableau, kind int64) int64 {
	for k := 1; k <= impl.MaxCondition; k++ {
		if !plainCondition(x, kind, k) {
			return int64(k - 1)
		}
	}
	return impl.MaxCondition
}

func plainImplied(x impl.Tableau) int64 {
	p, q, r := plainMet(x, kindB), plainMet(x, kindC), plainMet(x, kindD)
	return min(impl.MaxOrder, p, 2*q+2, q+r+1)
}

// upTo has the exponents from 1 to n but for some.
func upTo(n int, but ...int) []int {
	var exponents []int
	for k := 1; k <= n; k++ {
		if !slices.Contains(but, k) {
			exponents = append(exponents, k)
		}
	}
	return exponents
}

// powersOf has a row for each node, with its powers from the exponent 0 on, as many as there are nodes.
func powersOf(nodes []int64) [][]int64 {
	var rows [][]int64
	for _, node := range nodes {
		var row []int64
		for k := range nodes {
			row = append(row, powerOf(node, k))
		}
		rows = append(rows, row)
	}
	return rows
}

// weights draws a list B for nodes that meets the conditions of B with some exponents. No number of it
// is 0.
func (d *drawer) weights(nodes []int64, exponents []int) []int64 {
	inverse, _ := impl.InverseMatrix(powersOf(nodes))
	for {
		sums := d.list(len(nodes))
		for k := range sums {
			if slices.Contains(exponents, k+1) {
				sums[k] = fraction(1, int64(k+1))
			}
		}
		weights := plainProduct([][]int64{sums}, inverse)[0]
		if !slices.Contains(weights, 0) || len(exponents) == len(nodes) {
			return weights
		}
	}
}

// assumed draws a tableau with a list B that has no 0, and with nodes, so that the exponent 1 is one of
// those of C. It meets the conditions of D with some exponents, as far as those of C with others, which
// it meets in any case, let it. To do so it chooses the sums of b(i) c(i)^l a(i, j) c(j)^k.
func (d *drawer) assumed(nodes []int64, weights []int64, stages []int, columns []int) impl.Tableau {
	size := len(nodes)
	moment := func(k int) int64 {
		sum := int64(0)
		for i, node := range nodes {
			sum += weights[i] * powerOf(node, k) % prime
		}
		return sum % prime
	}
	sums, left := d.matrix(size, size), d.matrix(size, size)
	for l := range size {
		for i, node := range nodes {
			left[l][i] = weights[i] * powerOf(node, l) % prime
		}
		for k := range size {
			if slices.Contains(columns, l+1) {
				sums[l][k] = remainder(moment(k)-moment(k+l+1)) * fraction(1, int64(l+1)) % prime
			}
			if slices.Contains(stages, k+1) {
				sums[l][k] = moment(k+l+1) * fraction(1, int64(k+1)) % prime
			}
		}
	}
	right, _ := impl.InverseMatrix(powersOf(nodes))
	left, _ = impl.InverseMatrix(left)
	return impl.Tableau{A: plainProduct(plainProduct(left, sums), right), B: weights}
}

// assumedTableaus meet conditions of all kinds up to all numbers that are possible, or but for one.
func assumedTableaus() []impl.Tableau {
	draw := drawer(144)
	var list []impl.Tableau
	for _, some := range someNodes() {
		size := len(some.nodes)
		for p := range size + 1 {
			weights := draw.weights(some.nodes, upTo(p))
			if slices.Contains(weights, 0) {
				continue
			}
			for range size {
				q, r := 1+draw.below(int64(size)), draw.below(int64(size)+1)
				list = append(list, draw.assumed(some.nodes, weights, upTo(int(q)), upTo(int(r))))
			}
			list = append(list, draw.assumed(some.nodes, weights, upTo(1), upTo(max(p-1, 0))), draw.assumed(some.nodes, weights, upTo(max(p-1, 1)), upTo(1)))
		}
		full := draw.weights(some.nodes, upTo(size))
		for k := range size {
			list = append(list, draw.assumed(some.nodes, draw.weights(some.nodes, upTo(size, k+1)), upTo(size), upTo(size)))
			if !slices.Contains(full, 0) {
				list = append(list, draw.assumed(some.nodes, full, upTo(1), upTo(size, k)), draw.assumed(some.nodes, full, upTo(size, k+2), nil))
			}
		}
	}
	return list
}

// manyAssumptions has these and all others that are at hand, and such as have only 0 in A or B.
func manyAssumptions() []impl.Tableau {
	list := append(assumedTableaus(), manyTableaus()...)
	for _, nodes := range nodesLists() {
		x := plainCollocation(nodes)
		y, z := copyOf(x), copyOf(x)
		clear(y.B)
		for _, row := range z.A {
			clear(row)
		}
		list = append(list, x, y, z)
	}
	return list
}

// An assumptionCase tells up to which numbers a tableau with a name meets the kinds of conditions.
type assumptionCase struct {
	name                                 string
	quadrature, stages, columns, implied int64
}

func assumptionCases() []assumptionCase {
	return []assumptionCase{
		{"euler", 1, 16, 0, 1}, {"gauss", 4, 2, 2, 4}, {"heun", 2, 1, 1, 2}, {"implicit", 1, 1, 0, 1}, {"kutta", 4, 1, 1, 3}, {"lobatto", 4, 3, 1, 4},
		{"middle", 2, 1, 1, 2}, {"midpoint", 2, 1, 0, 2}, {"radau", 3, 2, 1, 3}, {"ralston", 3, 1, 0, 2}, {"runge", 4, 1, 1, 3}, {"trapezoid", 2, 2, 0, 2},
	}
}

func TestAssumptionExamples(t *testing.T) {
	if impl.MaxCondition != 16 {
		t.Errorf("MaxCondition = %d", impl.MaxCondition)
	}
	for i, named := range assumptionCases() {
		x := namedCases()[i].tableau
		n, code := impl.QuadratureOrder(x)
		wantNumber(t, "QuadratureOrder "+named.name, n, code, named.quadrature)
		n, code = impl.StageOrderOf(x)
		wantNumber(t, "StageOrderOf "+named.name, n, code, named.stages)
		n, code = impl.ColumnOrder(x)
		wantNumber(t, "ColumnOrder "+named.name, n, code, named.columns)
		n, code = impl.ImpliedOrder(x)
		wantNumber(t, "ImpliedOrder "+named.name, n, code, named.implied)
	}
}

// TestAssumptionOrders has orders of 0 and of MaxCondition: the latter for the stages of tableaus with
// only 0 in A, and the columns of such with only 0 in B. No tableau has the stage order 0, as nodes are
// the sums of rows; and none the quadrature order MaxCondition, as no nodes in this field have it.
func TestAssumptionOrders(t *testing.T) {
	var seen [3]map[int64]bool
	for kind := range seen {
		seen[kind] = map[int64]bool{}
	}
	for _, x := range manyAssumptions() {
		for kind, orderOf := range []func(impl.Tableau) (int64, int64){impl.QuadratureOrder, impl.StageOrderOf, impl.ColumnOrder} {
			n, code := orderOf(x)
			wantNumber(t, fmt.Sprintf("the order of the kind %d of %v", kind, x), n, code, plainMet(x, int64(kind)))
			seen[kind][n] = true
		}
	}
	for kind, orders := range [][]int64{{0, 1, 2, 3, 4, 5, 6, 7, 8, 9, 10, 11, 12, 13, 14}, {1, 2, 3, 4, 5, 6, 7, 8, 16}, {0, 1, 2, 3, 4, 5, 6, 7, 8, 16}} {
		for _, order := range orders {
			if !seen[kind][order] {
				t.Errorf("no tableau with the order %d of the kind %d is looked at", order, kind)
			}
		}
	}
}

// TestAssumptionsOfOneStage has all nodes: with one stage only 1/2 meets B(2) and D(1), and only 0
// meets C(2).
func TestAssumptionsOfOneStage(t *testing.T) {
	half := fraction(1, 2)
	for a := range int64(impl.Prime) {
		for b := range int64(3) {
			var p, q, r int64 = 0, 1, 0
			if b == 1 {
				p = 1
			}
			if b == 1 && a == half {
				p = 2
			}
			if a == 0 {
				q = impl.MaxCondition
			}
			if a == half {
				r = 1
			}
			if b == 0 {
				r = impl.MaxCondition
			}
			x := impl.Tableau{A: [][]int64{{a}}, B: []int64{b}}
			n, code := impl.QuadratureOrder(x)
			wantNumber(t, fmt.Sprintf("QuadratureOrder(%v)", x), n, code, p)
			n, code = impl.StageOrderOf(x)
			wantNumber(t, fmt.Sprintf("StageOrderOf(%v)", x), n, code, q)
			n, code = impl.ColumnOrder(x)
			wantNumber(t, fmt.Sprintf("ColumnOrder(%v)", x), n, code, r)
			n, code = impl.ImpliedOrder(x)
			wantNumber(t, fmt.Sprintf("ImpliedOrder(%v)", x), n, code, p)
		}
	}
}

// TestMeetsAssumption holds promise 11: assumptions are met up to the numbers that are told, and not
// beyond, even if conditions with greater exponents are met.
func TestMeetsAssumption(t *testing.T) {
	gaps := [3]int{}
	for _, x := range manyAssumptions() {
		p, _ := impl.QuadratureOrder(x)
		q, _ := impl.StageOrderOf(x)
		r, _ := impl.ColumnOrder(x)
		for kind, order := range []int64{p, q, r} {
			isMet := true
			for n := range impl.MaxCondition + 1 {
				if n > 0 {
					isNext := plainCondition(x, int64(kind), n)
					if !isMet && isNext {
						gaps[kind]++
					}
					isMet = isMet && isNext
				}
				call := fmt.Sprintf("MeetsAssumption(%v, %d, %d)", x, kind, n)
				is, code := impl.MeetsAssumption(x, int64(kind), int64(n))
				wantTruth(t, call, is, code, isMet)
				wantTruth(t, call+" by the order", is, code, int64(n) <= order)
			}
		}
	}
	if slices.Min(gaps[:]) < 20 {
		t.Errorf("conditions behind others that are not met are looked at %d, %d and %d times", gaps[0], gaps[1], gaps[2])
	}
}

// TestPowersOfZero has nodes that are 0, whose power with the exponent 0 is 1.
func TestPowersOfZero(t *testing.T) {
	for _, c := range []struct {
		x    impl.Tableau
		kind int64
		n    int64
		want bool
	}{
		{tableauOf("0", "1"), kindB, 1, true}, {tableauOf("0", "1"), kindB, 2, false}, {tableauOf("0", "2"), kindB, 1, false},
		{tableauOf("0 0", "0 0", "3 -2"), kindB, 1, true}, {tableauOf("0 0", "0 0", "1 1"), kindB, 1, false}, {everyStage(8, fraction(1, 8)), kindB, 1, true},
		{tableauOf("0 0", "1 0", "0 1/2"), kindB, 1, false}, {tableauOf("0 0", "1 0", "1/2 1/2"), kindB, 2, true}, {tableauOf("1 -1", "1/2 1/2", "1/2 1/2"), kindB, 2, true},
		{tableauOf("0", "1"), kindC, 1, true}, {tableauOf("0", "1"), kindC, 16, true}, {tableauOf("0 0", "5 0", "1/2 1/2"), kindC, 1, true},
		{tableauOf("0 0", "5 0", "1/2 1/2"), kindC, 2, false}, {tableauOf("1 -1", "1 0", "1/2 1/2"), kindC, 1, true}, {tableauOf("1 -1", "1 0", "1/2 1/2"), kindC, 2, false},
		{tableauOf("0", "1"), kindD, 1, false}, {tableauOf("0", "0"), kindD, 16, true}, {tableauOf("0 0", "1 0", "1/2 1/2"), kindD, 1, true},
		{tableauOf("1/2 -1/2", "1/2 1/2", "1/2 1/2"), kindD, 1, true}, {tableauOf("1/2 -1/2", "1/2 1/2", "1/2 1/2"), kindD, 2, false}, {tableauOf("0 0", "1 0", "0 1"), kindD, 1, false},
		{tableauOf("1/2 -1/2", "1/2 1/2", "1/2 1/2"), kindB, 2, true},
	} {
		is, code := impl.MeetsAssumption(c.x, c.kind, c.n)
		wantTruth(t, fmt.Sprintf("MeetsAssumption(%v, %d, %d)", c.x, c.kind, c.n), is, code, c.want)
	}
}

// TestImpliedOrder has tableaus for which each of the four numbers alone is the least. It holds the
// first part of promise 27: the order is at least the implied one.
func TestImpliedOrder(t *testing.T) {
	var decides [4]int
	isAbove, isEqual := 0, 0
	for _, x := range manyAssumptions() {
		implied, code := impl.ImpliedOrder(x)
		wantNumber(t, fmt.Sprintf("ImpliedOrder(%v)", x), implied, code, plainImplied(x))
		order, code := impl.OrderOf(x)
		if order < implied || code != impl.ErrNone {
			t.Errorf("OrderOf(%v) = %d, code %d; the implied order is %d", x, order, code, implied)
		}
		if order > implied {
			isAbove++
		} else {
			isEqual++
		}
		q := plainMet(x, kindC)
		numbers := []int64{impl.MaxOrder, plainMet(x, kindB), 2*q + 2, q + plainMet(x, kindD) + 1}
		for i, number := range numbers {
			others := slices.Delete(slices.Clone(numbers), i, i+1)
			if number < slices.Min(others) {
				decides[i]++
			}
		}
	}
	if slices.Min(decides[:]) < 5 || isAbove < 3 || isEqual < 100 {
		t.Errorf("the four numbers decide %v times; orders are above %d times, and equal %d times", decides, isAbove, isEqual)
	}
}

// TestImpliedOrderCases writes out which number decides.
func TestImpliedOrderCases(t *testing.T) {
	draw := drawer(145)
	nodes := someNodes()[len(someNodes())-1].nodes
	full := draw.weights(nodes, upTo(8))
	for _, c := range []struct {
		x    impl.Tableau
		want int64
	}{
		{plainCollocation(nodes), impl.MaxOrder}, {draw.assumed(nodes, full, upTo(4), upTo(4)), impl.MaxOrder}, {draw.assumed(nodes, full, upTo(2), upTo(3)), impl.MaxOrder},
		{plainCollocation([]int64{5, 6, 7, 8, 9}), 5}, {draw.assumed(nodes, draw.weights(nodes, upTo(5)), upTo(3), upTo(2)), 5}, {draw.assumed(nodes, draw.weights(nodes, nil), upTo(1), nil), 0},
		{draw.assumed(nodes, full, upTo(1), upTo(3)), 4}, {draw.assumed(nodes, full, upTo(1), upTo(7)), 4},
		{draw.assumed(nodes, full, upTo(1), nil), 2}, {draw.assumed(nodes, full, upTo(1), upTo(1)), 3}, {draw.assumed(nodes, full, upTo(2), upTo(2)), 5}, {draw.assumed(nodes, full, upTo(4), nil), 5},
		{everyStage(8, 0), 0}, {tableauOf("0 0", "0 0", "1/2 1/2"), 1}, {tableauOf("0 0", "0 0", "0 0"), 0},
	} {
		n, code := impl.ImpliedOrder(c.x)
		wantNumber(t, fmt.Sprintf("ImpliedOrder(%v)", c.x), n, code, c.want)
		order, code := impl.OrderOf(c.x)
		if order < n {
			t.Errorf("OrderOf(%v) = %d, code %d; the implied order is %d", c.x, order, code, n)
		}
	}
}

// beyondKinds are no kinds of assumptions, and beyondConditions no numbers up to which they are met.
var (
	beyondKinds      = append([]int64{-1, 3, 4, -2, 1<<8 + 1, 1<<16 + 2, 1 << 32, 1<<32 + 1}, notNumbers[4:]...)
	beyondConditions = append([]int64{-1, impl.MaxCondition + 1, impl.MaxCondition + 2, -impl.MaxCondition, 1<<8 + 1, 1<<16 + 1, 1 << 32, 1<<32 + 1}, notNumbers...)
)

// TestAssumptionsInvalid has wrong kinds and numbers, too: ErrInvalid comes first.
func TestAssumptionsInvalid(t *testing.T) {
	for _, x := range notTableaus() {
		call := func(name string) string { return fmt.Sprintf("%s with %v", name, x) }
		for name, orderOf := range map[string]func(impl.Tableau) (int64, int64){
			"QuadratureOrder": impl.QuadratureOrder, "StageOrderOf": impl.StageOrderOf, "ColumnOrder": impl.ColumnOrder, "ImpliedOrder": impl.ImpliedOrder,
		} {
			n, code := orderOf(x)
			wantFault(t, call(name), n, code, impl.ErrInvalid)
		}
		is, code := impl.IsCollocation(x)
		wantNoTruth(t, call("IsCollocation"), is, code, impl.ErrInvalid)
		for _, kind := range append([]int64{kindB, kindC, kindD}, beyondKinds...) {
			for _, n := range append([]int64{0, 1, impl.MaxCondition}, beyondConditions...) {
				is, code := impl.MeetsAssumption(x, kind, n)
				wantNoTruth(t, call(fmt.Sprintf("MeetsAssumption for the kind %d and %d", kind, n)), is, code, impl.ErrInvalid)
			}
		}
	}
}

// TestAssumptionsRange has one wrong argument of two, or both.
func TestAssumptionsRange(t *testing.T) {
	check := func(x impl.Tableau, kind int64, n int64) {
		t.Helper()
		is, code := impl.MeetsAssumption(x, kind, n)
		wantNoTruth(t, fmt.Sprintf("MeetsAssumption(%v, %d, %d)", x, kind, n), is, code, impl.ErrRange)
	}
	for _, x := range someTableaus() {
		for _, kind := range beyondKinds {
			for _, n := range append([]int64{0, 1, 2, impl.MaxCondition}, beyondConditions...) {
				check(x, kind, n)
			}
		}
		for _, n := range beyondConditions {
			for kind := range int64(3) {
				check(x, kind, n)
			}
		}
	}
}

// TestAssumptionsMemory checks that tableaus stay as they are.
func TestAssumptionsMemory(t *testing.T) {
	draw := drawer(146)
	for stages := 1; stages <= impl.MaxStages; stages++ {
		for _, x := range []impl.Tableau{draw.tableau(stages), everyStage(stages, 0), plainCollocation(draw.nodes(stages))} {
			rows := guarded(rowsOf(x))
			y := impl.Tableau{A: rows[:stages], B: rows[stages]}
			impl.QuadratureOrder(y)
			impl.StageOrderOf(y)
			impl.ColumnOrder(y)
			impl.ImpliedOrder(y)
			impl.IsCollocation(y)
			for kind := range int64(3) {
				impl.MeetsAssumption(y, kind, impl.MaxCondition)
			}
			wantUntouched(t, "a function of chapter 11", rows, rowsOf(x))
		}
	}
}
