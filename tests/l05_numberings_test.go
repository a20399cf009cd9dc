package tests

import (
	"fmt"
	"math"
	"testing"

	"loop.example/g01100/impl"
)

// plainNumberings goes through all ways to give each node one of the numbers 1 to k, and counts
// those in which no number, increased by a gap, is greater than that of a child.
func plainNumberings(list []int64, k int, gap int) int64 {
	ways := 1
	for range list {
		ways *= k
	}
	count := int64(0)
	for way := range ways {
		numbers, rest := make([]int, len(list)), way
		for node := range numbers {
			numbers[node], rest = rest%k, rest/k
		}
		isRising := true
		for node := 1; node < len(list); node++ {
			isRising = isRising && numbers[plainParent(list, node)]+gap <= numbers[node]
		}
		if isRising {
			count++
		}
	}
	return count
}

// isApart reports whether a set has no node together with its parent.
func isApart(list []int64, set int) bool {
	for node := 1; node < len(list); node++ {
		if plainHas(set, node) && plainHas(set, plainParent(list, node)) {
			return false
		}
	}
	return true
}

// plainChains counts numberings with 0 to MaxLabel numbers by the sets of the nodes that have
// greater numbers than 0, 1 and so on: each of these is a cut, and part of the one before it. In a
// strict numbering, nodes with the same number are apart.
func plainChains(list []int64, isStrict bool) []int64 {
	sets := plainSets(list)
	ways := map[int]int64{1<<len(list) - 1: 1}
	counts := []int64{0}
	for range impl.MaxLabel {
		next := map[int]int64{}
		for set, count := range ways {
			for _, rest := range sets {
				if rest&^set == 0 && (!isStrict || isApart(list, set&^rest)) {
					next[rest] += count
				}
			}
		}
		ways = next
		counts = append(counts, ways[0])
	}
	return counts
}

func TestNumberingExamples(t *testing.T) {
	if impl.MaxLabel != 10 {
		t.Error("the constant of chapter 5")
	}
	n, code := impl.CountRising([]int64{0, 1}, 2)
	wantNumber(t, "CountRising({0, 1}, 2)", n, code, 3)
	n, code = impl.CountStrict([]int64{0, 1}, 2)
	wantNumber(t, "CountStrict({0, 1}, 2)", n, code, 1)
	n, code = impl.CountRising([]int64{0, 1, 1}, 3) // 9 + 4 + 1
	wantNumber(t, "CountRising({0, 1, 1}, 3)", n, code, 14)
	n, code = impl.CountStrict([]int64{0, 1, 1}, 3) // 4 + 1
	wantNumber(t, "CountStrict({0, 1, 1}, 3)", n, code, 5)
}

// TestEndsOfNumbers checks numbers of numberings for both ends of their range.
func TestEndsOfNumbers(t *testing.T) {
	for _, tree := range plainTrees(impl.MaxNodes) {
		list := tree[len(tree)-1]
		n, code := impl.CountRising(list, 0)
		wantNumber(t, fmt.Sprintf("CountRising(%v, 0)", list), n, code, 0)
		n, code = impl.CountStrict(list, 0)
		wantNumber(t, fmt.Sprintf("CountStrict(%v, 0)", list), n, code, 0)
		n, code = impl.CountRising(list, 1)
		wantNumber(t, fmt.Sprintf("CountRising(%v, 1)", list), n, code, 1)
		height, _ := impl.HeightOf(list)
		n, code = impl.CountStrict(list, height)
		wantNumber(t, fmt.Sprintf("CountStrict(%v, the height)", list), n, code, 0)
		n, code = impl.CountStrict(list, height+1)
		if n < 1 || code != impl.ErrNone {
			t.Errorf("CountStrict(%v, the height and 1) = %d, code %d", list, n, code)
		}
	}
	for _, known := range []struct {
		list           []int64
		rising, strict int64
	}{
		{[]int64{0}, 10, 10},
		{tall(impl.MaxNodes), 24310, 45},         // 17 over 8, 10 over 8
		{bush(impl.MaxNodes), 18080425, 8080425}, // the seventh powers of 1 to 10, and of 1 to 9
	} {
		n, code := impl.CountRising(known.list, impl.MaxLabel)
		wantNumber(t, fmt.Sprintf("CountRising(%v, MaxLabel)", known.list), n, code, known.rising)
		n, code = impl.CountStrict(known.list, impl.MaxLabel)
		wantNumber(t, fmt.Sprintf("CountStrict(%v, MaxLabel)", known.list), n, code, known.strict)
	}
}

func TestFewNumberings(t *testing.T) {
	for _, tree := range plainTrees(5) {
		for k := int64(0); k <= 5; k++ {
			for _, list := range tree {
				n, code := impl.CountRising(list, k)
				wantNumber(t, fmt.Sprintf("CountRising(%v, %d)", list, k), n, code, plainNumberings(tree.list(), int(k), 0))
				n, code = impl.CountStrict(list, k)
				wantNumber(t, fmt.Sprintf("CountStrict(%v, %d)", list, k), n, code, plainNumberings(tree.list(), int(k), 1))
			}
		}
	}
}

// TestNumberingsByCuts holds the part of promise 5 about numberings: those with two numbers are as
// many as cuts, and those with more are chains of cuts.
func TestNumberingsByCuts(t *testing.T) {
	for _, tree := range plainTrees(impl.MaxNodes) {
		rising, strict := plainChains(tree.list(), false), plainChains(tree.list(), true)
		for _, list := range tree {
			cuts, _ := impl.CountCuts(list)
			n, code := impl.CountRising(list, 2)
			wantNumber(t, fmt.Sprintf("CountRising(%v, 2)", list), n, code, cuts)
			for k := range rising {
				n, code := impl.CountRising(list, int64(k))
				wantNumber(t, fmt.Sprintf("CountRising(%v, %d)", list, k), n, code, rising[k])
				n, code = impl.CountStrict(list, int64(k))
				wantNumber(t, fmt.Sprintf("CountStrict(%v, %d)", list, k), n, code, strict[k])
			}
		}
	}
}

// differencesOf returns the differences of values at 0, 1 and so on, those of them, and so on, at 0.
func differencesOf(values []int64) []int64 {
	var first []int64
	for len(values) > 0 {
		first = append(first, values[0])
		next := make([]int64, len(values)-1)
		for i := range next {
			next[i] = values[i+1] - values[i]
		}
		values = next
	}
	return first
}

// valueAt calculates a polynomial from its differences, with the products of k, k - 1 and so on over
// factorials.
func valueAt(differences []int64, k int64) int64 {
	sum, product := int64(0), int64(1)
	for i, difference := range differences {
		sum += product * difference
		product = product * (k - int64(i)) / int64(i+1)
	}
	return sum
}

// TestNumberingsPolynomial holds the part of promise 5 about it: its degree is the number of nodes,
// and its values at negative numbers are the numbers of strict numberings, with a sign.
func TestNumberingsPolynomial(t *testing.T) {
	for _, tree := range plainTrees(impl.MaxNodes) {
		list := tree.list()
		var values []int64
		for k := int64(0); k <= impl.MaxLabel; k++ {
			n, _ := impl.CountRising(list, k)
			values = append(values, n)
		}
		differences := differencesOf(values)
		for degree := len(list) + 1; degree <= impl.MaxLabel; degree++ {
			if differences[degree] != 0 {
				t.Errorf("the rising numberings of %v, %v, are no polynomial of degree %d", list, values, len(list))
			}
		}
		sign := int64(1 - len(list)%2*2)
		for k := int64(0); k <= impl.MaxLabel; k++ {
			n, code := impl.CountStrict(list, k)
			wantNumber(t, fmt.Sprintf("CountStrict(%v, %d) by a polynomial", list, k), n, code, sign*valueAt(differences, -k))
		}
	}
}

// TestNumberingFaults gives several wrong arguments at once, which holds the order of the errors.
func TestNumberingFaults(t *testing.T) {
	beyond := []int64{-1, -2, -impl.MaxLabel, impl.MaxLabel + 1, 1 << 8, 1<<8 + 1, 1 << 32, 1<<32 + 1, -1 << 32, math.MinInt64, math.MaxInt64}
	for _, bad := range notLevels() {
		for _, k := range append(beyond, 0, 2, impl.MaxLabel) {
			n, code := impl.CountRising(bad, k)
			wantFault(t, fmt.Sprintf("CountRising(%v, %d)", bad, k), n, code, impl.ErrInvalid)
			n, code = impl.CountStrict(bad, k)
			wantFault(t, fmt.Sprintf("CountStrict(%v, %d)", bad, k), n, code, impl.ErrInvalid)
		}
	}
	for _, tree := range plainTrees(impl.MaxNodes) {
		list := tree[len(tree)-1]
		for _, k := range beyond {
			n, code := impl.CountRising(list, k)
			wantFault(t, fmt.Sprintf("CountRising(%v, %d)", list, k), n, code, impl.ErrRange)
			n, code = impl.CountStrict(list, k)
			wantFault(t, fmt.Sprintf("CountStrict(%v, %d)", list, k), n, code, impl.ErrRange)
		}
	}
}
