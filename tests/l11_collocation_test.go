package tests

import (
	"fmt"
	"slices"
	"testing"

	"loop.example/g01100/impl"
)

// A nodesCase has nodes, and the number to which their node polynomial is orthogonal.
type nodesCase struct {
	orthogonal int64
	nodes      []int64
}

// someNodes has all numbers of nodes with all numbers up to which they can be orthogonal: three or more
// nodes are never orthogonal to their number, as in this field the polynomials with this property do
// not have that many zeros; and eight nodes are not orthogonal to 7.
func someNodes() []nodesCase {
	half, third := fraction(1, 2), fraction(1, 3)
	return []nodesCase{
		{0, []int64{0}}, {0, []int64{1}}, {0, []int64{impl.Prime - 1}}, {0, []int64{third}}, {1, []int64{half}},
		{0, []int64{0, 1}}, {0, []int64{1, 0}}, {0, []int64{0, half}}, {0, []int64{1000, 3862}}, {1, []int64{0, 2 * third % prime}}, {1, []int64{1, third}}, {1, []int64{7711, 9717}},
		{2, namedCases()[1].nodes}, {2, reversed(namedCases()[1].nodes)},
		{0, []int64{7393, 5156, 9279}}, {1, []int64{0, half, 1}}, {1, []int64{half, 0, 1}}, {1, []int64{4771, 6521, 8680}}, {2, []int64{1595, 6421, 8163}}, {2, []int64{0, 804, 3200}},
		{0, []int64{1161, 4356, 3187, 224}}, {0, []int64{0, third, 2 * third % prime, 1}}, {1, []int64{0, 1, 6192, 9158}}, {2, []int64{6416, 7330, 821, 7270}}, {3, []int64{2086, 2868, 5779, 6834}},
		{0, []int64{2204, 4519, 4816, 8279, 4783}}, {1, []int64{576, 582, 7104, 6810, 6793}}, {2, []int64{0, 1, 3916, 4442, 7919}}, {3, []int64{0, 4026, 6445, 7487, 9518}}, {4, []int64{1777, 1982, 4757, 9346, 9545}},
		{0, []int64{9112, 2191, 9078, 2526, 6080, 5965}}, {1, []int64{0, 1, 1883, 5228, 5291, 6084}}, {2, []int64{7391, 4560, 2942, 7051, 4544, 8334}},
		{3, []int64{0, 1, 9649, 1950, 2817, 6345}}, {4, []int64{0, 8593, 424, 3907, 5685, 5927}}, {5, []int64{9591, 996, 1043, 1057, 5894, 9238}},
		{0, []int64{4654, 9015, 2345, 3384, 7240, 543, 3554}}, {1, []int64{0, 485, 2977, 9924, 4122, 3602, 8640}}, {2, []int64{0, 1, 3919, 1198, 6686, 1948, 4693}},
		{3, []int64{274, 7046, 2806, 5544, 4711, 6234, 6970}}, {4, []int64{0, 1, 8421, 6038, 9204, 9358, 9892}}, {5, []int64{0, 5817, 4981, 6132, 6888, 7221, 7303}}, {6, []int64{6878, 2579, 3134, 4673, 5258, 6452, 8037}},
		{0, []int64{9545, 1254, 4483, 2265, 9549, 5239, 170, 2784}}, {0, []int64{0, 1, 2, 3, 4, 5, 6, 7}}, {1, []int64{0, 1, 4338, 220, 8338, 4311, 6435, 4016}}, {2, []int64{247, 4978, 5482, 3623, 9387, 6343, 964, 3941}},
		{3, []int64{0, 8631, 653, 1554, 3532, 1016, 1585, 7502}}, {4, []int64{894, 493, 3652, 4082, 1641, 3992, 5003, 8696}}, {5, []int64{0, 1, 4104, 2175, 2690, 4716, 5191, 9408}}, {6, []int64{3020, 6445, 2084, 2284, 3370, 4705, 5916, 9539}},
	}
}

// nodes draws different numbers.
func (d *drawer) nodes(count int) []int64 {
	var nodes []int64
	for len(nodes) < count {
		if node := d.below(impl.Prime); !slices.Contains(nodes, node) {
			nodes = append(nodes, node)
		}
	}
	return nodes
}

// nodesLists has those of someNodes, and drawn ones.
func nodesLists() [][]int64 {
	draw := drawer(141)
	var lists [][]int64
	for _, some := range someNodes() {
		lists = append(lists, some.nodes)
	}
	for count := 1; count <= impl.MaxStages; count++ {
		for range 10 {
			lists = append(lists, draw.nodes(count))
		}
	}
	return lists
}

// plainNodePolynomial adds the products of the nodes of all sets, each of which belongs to the power of
// z with as many factors as there are nodes outside of the set.
func plainNodePolynomial(nodes []int64) []int64 {
	polynomial := make([]int64, len(nodes)+1)
	for set := range 1 << len(nodes) {
		product, outside := int64(1), len(nodes)
		for i, node := range nodes {
			if plainHas(set, i) {
				product = remainder(-product * node)
				outside--
			}
		}
		polynomial[outside] = (polynomial[outside] + product) % prime
	}
	return polynomial
}

// plainIntegral is the integral of a polynomial times z^k from 0 to x.
func plainIntegral(polynomial []int64, k int, x int64) int64 {
	sum := int64(0)
	for n, coefficient := range polynomial {
		sum += coefficient * powerOf(x, n+k+1) % prime * fraction(1, int64(n+k+1)) % prime
	}
	return sum % prime
}

// powerOf multiplies k factors.
func powerOf(a int64, k int) int64 {
	product := int64(1)
	for range k {
		product = product * a % prime
	}
	return product
}

func plainOrthogonal(nodes []int64) int64 {
	polynomial := plainNodePolynomial(nodes)
	for m := range impl.MaxStages {
		if plainIntegral(polynomial, m, 1) != 0 {
			return int64(m)
		}
	}
	return impl.MaxStages
}

// plainCollocation makes the polynomials that are 1 at one node from the node polynomials of the others.
func plainCollocation(nodes []int64) impl.Tableau {
	x := everyStage(len(nodes), 0)
	for j, node := range nodes {
		others := slices.Delete(slices.Clone(nodes), j, j+1)
		scale := int64(1)
		for _, other := range others {
			scale = scale * remainder(node-other) % prime
		}
		polynomial := plainNodePolynomial(others)
		for i, end := range nodes {
			x.A[i][j] = plainIntegral(polynomial, 0, end) * fraction(1, scale) % prime
		}
		x.B[j] = plainIntegral(polynomial, 0, 1) * fraction(1, scale) % prime
	}
	return x
}

// hasTwins tells whether a list has equal numbers.
func hasTwins(list []int64) bool {
	for i, a := range list {
		if slices.Contains(list[:i], a) {
			return true
		}
	}
	return false
}

func rowSums(x impl.Tableau) []int64 {
	nodes := make([]int64, len(x.B))
	for i, row := range x.A {
		for _, a := range row {
			nodes[i] = (nodes[i] + a) % prime
		}
	}
	return nodes
}

func plainIsCollocation(x impl.Tableau) bool {
	nodes := rowSums(x)
	return !hasTwins(nodes) && sameTableau(x, plainCollocation(nodes))
}

func TestCollocationExamples(t *testing.T) {
	x, code := impl.CollocationTableau([]int64{0})
	wantTableau(t, "CollocationTableau({0})", x, code, tableauOf("0", "1"))
	x, code = impl.CollocationTableau([]int64{0, 1})
	wantTableau(t, "CollocationTableau({0, 1})", x, code, tableauOf("0 0", "1/2 1/2", "1/2 1/2"))
	x, code = impl.CollocationTableau([]int64{1, 0})
	wantTableau(t, "CollocationTableau({1, 0})", x, code, tableauOf("1/2 1/2", "0 0", "1/2 1/2"))
	polynomial, code := impl.NodePolynomial([]int64{0})
	wantList(t, "NodePolynomial({0})", polynomial, code, []int64{0, 1})
	polynomial, code = impl.NodePolynomial([]int64{0, 1})
	wantList(t, "NodePolynomial({0, 1})", polynomial, code, []int64{0, impl.Prime - 1, 1})
	polynomial, code = impl.NodePolynomial([]int64{2, 3, impl.Prime - 1})
	wantList(t, "NodePolynomial({2, 3, -1})", polynomial, code, []int64{6, 1, impl.Prime - 4, 1})
	for _, named := range namedCases() {
		isOne := slices.Contains([]string{"euler", "gauss", "implicit", "lobatto", "middle", "radau", "trapezoid"}, named.name)
		is, code := impl.IsCollocation(named.tableau)
		wantTruth(t, "IsCollocation "+named.name, is, code, isOne)
		if isOne {
			x, code = impl.CollocationTableau(named.nodes)
			wantTableau(t, "CollocationTableau for "+named.name, x, code, named.tableau)
		}
	}
}

// TestCollocationTableau has one node to MaxStages nodes, those of some tableaus with names among them.
func TestCollocationTableau(t *testing.T) {
	for _, nodes := range nodesLists() {
		call := fmt.Sprintf("CollocationTableau(%v)", nodes)
		x, code := impl.CollocationTableau(nodes)
		wantTableau(t, call, x, code, plainCollocation(nodes))
		list, code := impl.NodesOf(x)
		wantList(t, "the nodes of "+call, list, code, nodes)
	}
	for node := range int64(impl.Prime) {
		x, code := impl.CollocationTableau([]int64{node})
		wantTableau(t, fmt.Sprintf("CollocationTableau({%d})", node), x, code, impl.Tableau{A: [][]int64{{node}}, B: []int64{1}})
	}
}

// TestCollocationInAnyOrder has nodes in other orders, which reorder the stages and nothing else.
func TestCollocationInAnyOrder(t *testing.T) {
	draw := drawer(142)
	for _, nodes := range nodesLists() {
		x := kept(impl.CollocationTableau(nodes))
		polynomial, orthogonal := plainNodePolynomial(nodes), plainOrthogonal(nodes)
		for _, order := range [][]int64{reversed(identity(len(nodes))), draw.order(len(nodes)), draw.order(len(nodes))} {
			var turned []int64
			for _, i := range order {
				turned = append(turned, nodes[i])
			}
			y, code := impl.CollocationTableau(turned)
			wantTableau(t, fmt.Sprintf("CollocationTableau(%v)", turned), y, code, plainReordered(x, order))
			is, code := impl.IsCollocation(y)
			wantTruth(t, fmt.Sprintf("IsCollocation(%v)", y), is, code, true)
			list, code := impl.NodePolynomial(turned)
			wantList(t, fmt.Sprintf("NodePolynomial(%v)", turned), list, code, polynomial)
			m, code := impl.OrthogonalTo(turned)
			wantNumber(t, fmt.Sprintf("OrthogonalTo(%v)", turned), m, code, orthogonal)
		}
	}
}

// TestCollocationOfAdjoints goes the step back: the nodes are then what is left to 1.
func TestCollocationOfAdjoints(t *testing.T) {
	for _, nodes := range nodesLists() {
		var back []int64
		for _, node := range reversed(nodes) {
			back = append(back, remainder(1-node))
		}
		x := kept(impl.AdjointTableau(kept(impl.CollocationTableau(nodes))))
		y, code := impl.CollocationTableau(back)
		wantTableau(t, fmt.Sprintf("CollocationTableau(%v)", back), y, code, x)
		is, code := impl.IsCollocation(x)
		wantTruth(t, fmt.Sprintf("IsCollocation(%v)", x), is, code, true)
		m, code := impl.OrthogonalTo(back)
		wantNumber(t, fmt.Sprintf("OrthogonalTo(%v)", back), m, code, plainOrthogonal(nodes))
	}
}

// nearTo has a tableau with changed numbers: each one alone, and two of each row, so that its node
// stays, and two of B.
func nearTo(x impl.Tableau) []impl.Tableau {
	var list []impl.Tableau
	for row, numbers := range rowsOf(x) {
		for k, a := range numbers {
			list = append(list, altered(x, row, k, (a+1)%prime), altered(x, row, k, remainder(a-1)))
			if a != 0 {
				list = append(list, altered(x, row, k, 0))
			}
			if next := (k + 1) % len(numbers); next != k {
				list = append(list, altered(altered(x, row, k, (a+1)%prime), row, next, remainder(numbers[next]-1)))
			}
		}
	}
	return list
}

// TestIsCollocation has tableaus with different nodes that are and that are not, and such with equal
// ones.
func TestIsCollocation(t *testing.T) {
	var are, differ, equal int
	check := func(x impl.Tableau) {
		t.Helper()
		want := plainIsCollocation(x)
		is, code := impl.IsCollocation(x)
		wantTruth(t, fmt.Sprintf("IsCollocation(%v)", x), is, code, want)
		switch {
		case want:
			are++
		case hasTwins(rowSums(x)):
			equal++
		default:
			differ++
		}
	}
	for _, nodes := range nodesLists() {
		x := plainCollocation(nodes)
		check(x)
		for _, y := range nearTo(x) {
			check(y)
		}
	}
	for _, x := range append(someTableaus(), spreadTableaus()...) {
		check(x)
	}
	if are < 100 || differ < 1000 || equal < 100 {
		t.Errorf("%d collocation tableaus, %d with different nodes and %d with equal ones are looked at", are, differ, equal)
	}
	for a := range int64(impl.Prime) {
		for b := range int64(3) {
			is, code := impl.IsCollocation(impl.Tableau{A: [][]int64{{a}}, B: []int64{b}})
			wantTruth(t, fmt.Sprintf("IsCollocation({%d}, {%d})", a, b), is, code, b == 1)
		}
	}
}

// TestNoCollocationOfTwins has tableaus with equal nodes that meet as many conditions as collocation
// tableaus: a stage of these is there twice, and takes its part once or in two parts.
func TestNoCollocationOfTwins(t *testing.T) {
	draw := drawer(143)
	for _, nodes := range nodesLists() {
		count := len(nodes)
		if count == impl.MaxStages {
			continue
		}
		x := plainCollocation(nodes)
		twin := int(draw.below(int64(count)))
		for _, part := range []int64{0, 1, fraction(1, 2), draw.below(impl.Prime)} {
			y := impl.Tableau{}
			for _, row := range append(slices.Clone(x.A), x.A[twin], x.B) {
				row = append(slices.Clone(row), part*row[twin]%prime)
				row[twin] = remainder(row[twin] - row[count])
				y.A = append(y.A, row)
			}
			y.A, y.B = y.A[:count+1], y.A[count+1]
			is, code := impl.IsCollocation(y)
			wantTruth(t, fmt.Sprintf("IsCollocation(%v)", y), is, code, false)
			meets, code := impl.MeetsAssumption(y, 1, int64(count))
			wantTruth(t, fmt.Sprintf("MeetsAssumption(%v, 1, %d)", y, count), meets, code, true)
		}
	}
	// With equal nodes, the equations for a collocation tableau can be left as these numbers.
	is, code := impl.IsCollocation(tableauOf("0 0", "0 0", "1 1/2"))
	wantTruth(t, "IsCollocation(0 0;0 0|1 1/2)", is, code, false)
	for stages := 2; stages <= impl.MaxStages; stages++ {
		for _, value := range []int64{0, 1, fraction(1, int64(stages)), fraction(1, 2*int64(stages))} {
			is, code := impl.IsCollocation(everyStage(stages, value))
			wantTruth(t, fmt.Sprintf("IsCollocation(%d at %d stages)", value, stages), is, code, false)
		}
	}
}

// TestNodePolynomial looks for the nodes as zeros, too.
func TestNodePolynomial(t *testing.T) {
	for _, nodes := range nodesLists() {
		call := fmt.Sprintf("NodePolynomial(%v)", nodes)
		polynomial, code := impl.NodePolynomial(nodes)
		wantList(t, call, polynomial, code, plainNodePolynomial(nodes))
		for z := range int64(impl.Prime) {
			value := int64(0)
			for n := len(polynomial) - 1; n >= 0; n-- {
				value = (value*z + polynomial[n]) % prime
			}
			if (value == 0) != slices.Contains(nodes, z) {
				t.Errorf("%s = %v has the value %d at %d", call, polynomial, value, z)
			}
		}
	}
}

// TestOrthogonalTo has node polynomials that are orthogonal to 0, to some number and, for the nodes of
// middle and gauss, to as many as there are nodes.
func TestOrthogonalTo(t *testing.T) {
	for _, some := range someNodes() {
		m, code := impl.OrthogonalTo(some.nodes)
		wantNumber(t, fmt.Sprintf("OrthogonalTo(%v)", some.nodes), m, code, some.orthogonal)
	}
	for _, nodes := range nodesLists() {
		m, code := impl.OrthogonalTo(nodes)
		wantNumber(t, fmt.Sprintf("OrthogonalTo(%v)", nodes), m, code, plainOrthogonal(nodes))
	}
	gauss, half := namedCases()[1].nodes, fraction(1, 2)
	for node := range int64(impl.Prime) {
		want := int64(0)
		if node == half {
			want = 1
		}
		m, code := impl.OrthogonalTo([]int64{node})
		wantNumber(t, fmt.Sprintf("OrthogonalTo({%d})", node), m, code, want)
		for _, first := range []int64{0, 1, half, gauss[0], gauss[1], 1234} {
			if node == first {
				continue
			}
			want = 0
			if remainder(first*node-(first+node)*half+fraction(1, 3)) == 0 {
				want = 1
			}
			if slices.Contains(gauss, first) && slices.Contains(gauss, node) {
				want = 2
			}
			m, code := impl.OrthogonalTo([]int64{first, node})
			wantNumber(t, fmt.Sprintf("OrthogonalTo({%d, %d})", first, node), m, code, want)
		}
	}
}

// TestOrdersOfCollocation holds the second part of promise 27, and what the chapter says of collocation
// tableaus: they meet C with their number of stages, and their quadrature order is this number and what
// their nodes are orthogonal to, which makes their order.
func TestOrdersOfCollocation(t *testing.T) {
	seen := map[int64]bool{}
	for _, nodes := range nodesLists() {
		x := kept(impl.CollocationTableau(nodes))
		call, stages := fmt.Sprintf("the collocation tableau of %v", nodes), int64(len(nodes))
		meets, code := impl.MeetsAssumption(x, 1, stages)
		wantTruth(t, "C for "+call, meets, code, true)
		m, code := impl.OrthogonalTo(nodes)
		wantNumber(t, "orthogonal nodes of "+call, m, code, plainOrthogonal(nodes))
		quadrature, code := impl.QuadratureOrder(x)
		wantNumber(t, "the quadrature order of "+call, quadrature, code, stages+m)
		order, code := impl.OrderOf(x)
		wantNumber(t, "the order of "+call, order, code, min(quadrature, impl.MaxOrder))
		wantNumber(t, "the order by faults of "+call, orderBefore(firstFault(x)), impl.ErrNone, order)
		seen[quadrature] = true
	}
	for quadrature := int64(1); quadrature <= 14; quadrature++ {
		if !seen[quadrature] {
			t.Errorf("no collocation tableau with the quadrature order %d is looked at", quadrature)
		}
	}
}

// notNodesLists are lists with wrong lengths or numbers. Many have equal numbers, too.
func notNodesLists() [][]int64 {
	lists := [][]int64{nil, {}, {0, 1, 2, 3, 4, 5, 6, 7, 8}, slices.Repeat([]int64{0}, 9), slices.Repeat([]int64{5, 6, 7}, 3), slices.Repeat([]int64{impl.Prime}, 9), make([]int64, 16), make([]int64, 1000)}
	for _, bad := range append(slices.Clone(notNumbers), 1<<32, 1<<16+1, -2) {
		lists = append(lists, []int64{bad}, []int64{bad, bad}, []int64{3, 3, bad}, []int64{bad, 3, 3}, []int64{0, bad}, []int64{bad, remainder(bad)})
		lists = append(lists, []int64{0, 1, 2, bad, 4, 5, 6, 7}, []int64{0, 1, 2, 3, 4, 5, 6, bad}, []int64{0, 1, 2, 3, 4, 5, 6, 7, bad})
	}
	return lists
}

// twinNodes are lists in which two numbers or more are equal.
func twinNodes() [][]int64 {
	lists := [][]int64{{0, 0}, {3, 3}, {impl.Prime - 1, impl.Prime - 1}, {5004, 5004}, slices.Repeat([]int64{1}, impl.MaxStages)}
	for count := 2; count <= impl.MaxStages; count++ {
		lists = append(lists, make([]int64, count))
		for _, some := range someNodes() {
			if len(some.nodes) != count {
				continue
			}
			for i := range some.nodes {
				for k := range i {
					lists = append(lists, changed(some.nodes, i, some.nodes[k]))
				}
			}
		}
	}
	return lists
}

// TestNodesFaults has lists that are wrong in several ways: ErrRange comes before ErrState.
func TestNodesFaults(t *testing.T) {
	check := func(nodes []int64, want int64) {
		t.Helper()
		x, code := impl.CollocationTableau(nodes)
		wantNoTableau(t, fmt.Sprintf("CollocationTableau(%v)", nodes), x, code, want)
		polynomial, code := impl.NodePolynomial(nodes)
		wantNone(t, fmt.Sprintf("NodePolynomial(%v)", nodes), polynomial, code, want)
		m, code := impl.OrthogonalTo(nodes)
		wantFault(t, fmt.Sprintf("OrthogonalTo(%v)", nodes), m, code, want)
	}
	for _, nodes := range notNodesLists() {
		check(nodes, impl.ErrRange)
	}
	for _, nodes := range twinNodes() {
		check(nodes, impl.ErrState)
	}
}

// TestCollocationMemory checks that arguments stay as they are, and that results are new memory.
func TestCollocationMemory(t *testing.T) {
	for _, bad := range [][]int64{{7, 7}, {7, -1}, {-1, 7, 7}, {0, 1, 2, 3, 4, 5, 6, 7, 8}} {
		lists := guarded([][]int64{bad})
		impl.CollocationTableau(lists[0])
		impl.NodePolynomial(lists[0])
		impl.OrthogonalTo(lists[0])
		wantUntouched(t, "a function of no nodes", lists, [][]int64{bad})
	}
	for _, some := range someNodes() {
		lists := guarded([][]int64{some.nodes})
		nodes := lists[0]
		var results [][]int64
		for range 2 {
			results = append(results, rowsOf(kept(impl.CollocationTableau(nodes)))...)
			results = append(results, must(impl.NodePolynomial(nodes)))
			impl.OrthogonalTo(nodes)
		}
		wantUntouched(t, "a function of nodes", lists, [][]int64{some.nodes})
		wantApart(t, "the functions of nodes", results...)
		x, code := impl.CollocationTableau(nodes)
		wantTableau(t, "CollocationTableau called again", x, code, plainCollocation(some.nodes))
		polynomial, code := impl.NodePolynomial(nodes)
		wantList(t, "NodePolynomial called again", polynomial, code, plainNodePolynomial(some.nodes))
	}
}
