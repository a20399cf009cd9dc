package tests

import (
	"fmt"
	"slices"
	"sync"
	"testing"

	"loop.example/g01100/impl"
)

// placedSplits has the cuts of the trees at the places of maps, by sets of nodes. That of the empty
// tree is the cut of the empty forest.
var placedSplits = sync.OnceValue(func() [][]impl.Split {
	splits := [][]impl.Split{plainSplits(nil)}
	for _, list := range placedTrees()[1:] {
		splits = append(splits, plainSplits([][]int64{list}))
	}
	return splits
})

// plainTrunk is the value at a trunk, which is that at the empty tree if there is none.
func plainTrunk(b []int64, trunk [][]int64) int64 {
	if len(trunk) == 0 {
		return b[0]
	}
	return plainAt(b, trunk)
}

// plainConvolution follows the definition.
func plainConvolution(a []int64, b []int64) []int64 {
	sums := make([]int64, impl.MapSize)
	for place, splits := range placedSplits() {
		for _, split := range splits {
			sums[place] += split.Count * plainAt(a, split.Crown) % impl.Prime * plainTrunk(b, split.Trunk) % impl.Prime
		}
		sums[place] %= impl.Prime
	}
	return sums
}

// plainInverse adds, over sets of edges, what is left of the trees without them, with signs.
func plainInverse(a []int64) []int64 {
	return fromTrees(1, func(list []int64) int64 { return plainValue(plainAntipode(alone(1, list)), a[1:]) })
}

// plainPower convolves one time after the other.
func plainPower(a []int64, k int) []int64 {
	power := unit(impl.MapSize)
	for range k {
		power = plainConvolution(power, a)
	}
	return power
}

// TestConvolve takes all characters with all maps, other characters or not.
func TestConvolve(t *testing.T) {
	for _, a := range someCharacters() {
		for _, b := range someMaps() {
			got, code := impl.Convolve(a, b)
			wantList(t, fmt.Sprintf("Convolve(%v, %v)", a, b), got, code, plainConvolution(a, b))
			if impl.IsCharacter(got) != impl.IsCharacter(b) || impl.IsInfinitesimal(got) != impl.IsInfinitesimal(b) {
				t.Errorf("Convolve(%v, %v) = %v is another kind of map", a, b, got)
			}
		}
	}
}

// TestConvolveSpikes has second maps that are 1 at one tree alone, which choose its cuts, and first
// ones that are 1 at one tree and at the empty one.
func TestConvolveSpikes(t *testing.T) {
	draw := drawer(86)
	a, b := draw.drawn(impl.MapSize, 1), draw.drawn(impl.MapSize, 3)
	for place := range impl.MapSize {
		trunks := make([]int64, impl.MapSize)
		for other, splits := range placedSplits() {
			for _, split := range splits {
				if slices.EqualFunc(split.Trunk, placedTrees()[place:place+1], slices.Equal) || place == 0 && len(split.Trunk) == 0 {
					trunks[other] = (trunks[other] + split.Count*plainAt(a, split.Crown)) % impl.Prime
				}
			}
		}
		second := make([]int64, impl.MapSize)
		second[place] = 1
		got, code := impl.Convolve(a, second)
		wantList(t, fmt.Sprintf("Convolve(%v, %v)", a, second), got, code, trunks)
		first := spike(1, place, 1)
		got, code = impl.Convolve(first, b)
		wantList(t, fmt.Sprintf("Convolve(%v, %v)", first, b), got, code, plainConvolution(first, b))
	}
}

// TestCharactersAreGroup holds the part of promise 7 about groups.
func TestCharactersAreGroup(t *testing.T) {
	none := impl.UnitMap()
	for _, a := range someCharacters() {
		back, code := impl.InverseMap(a)
		wantList(t, fmt.Sprintf("InverseMap(%v)", a), back, code, plainInverse(a))
		got, code := impl.Convolve(a, back)
		wantList(t, fmt.Sprintf("%v with its inverse", a), got, code, none)
		got, code = impl.Convolve(back, a)
		wantList(t, fmt.Sprintf("the inverse with %v", a), got, code, none)
		got, code = impl.InverseMap(back)
		wantList(t, fmt.Sprintf("the inverse of the inverse of %v", a), got, code, a)
		for _, b := range someMaps() {
			got, code := impl.Convolve(none, b)
			wantList(t, fmt.Sprintf("Convolve(the unit, %v)", b), got, code, b)
			got, code = impl.Convolve(back, must(impl.Convolve(a, b)))
			wantList(t, fmt.Sprintf("the inverse of %v with it and %v", a, b), got, code, b)
		}
		got, code = impl.Convolve(a, none)
		wantList(t, fmt.Sprintf("Convolve(%v, the unit)", a), got, code, a)
	}
	got, code := impl.InverseMap(none)
	wantList(t, "InverseMap(the unit)", got, code, none)
	got, code = impl.InverseMap(impl.ExactMap())
	wantList(t, "InverseMap(the exact map)", got, code, plainScaled(plainExact(), impl.Prime-1))
}

// TestConvolveThree also holds promise 7: three maps, of which the last one may be no character, and
// sums of second maps.
func TestConvolveThree(t *testing.T) {
	draw := drawer(87)
	characters, maps := someCharacters(), someMaps()
	for range 60 {
		a, b := characters[draw.below(int64(len(characters)))], draw.drawn(impl.MapSize, 1)
		c, d := maps[draw.below(int64(len(maps)))], draw.drawn(impl.MapSize, draw.below(impl.Prime))
		both := must(impl.Convolve(a, b))
		got, code := impl.Convolve(both, c)
		wantList(t, fmt.Sprintf("%v and %v, with %v", a, b, c), got, code, must(impl.Convolve(a, must(impl.Convolve(b, c)))))
		got, code = impl.InverseMap(both)
		wantList(t, fmt.Sprintf("the inverse of %v with %v", a, b), got, code, must(impl.Convolve(must(impl.InverseMap(b)), must(impl.InverseMap(a)))))
		got, code = impl.Convolve(a, plainSum(c, 5, d))
		wantList(t, fmt.Sprintf("Convolve(%v, %v and 5 times %v)", a, c, d), got, code, plainSum(must(impl.Convolve(a, c)), 5, must(impl.Convolve(a, d))))
	}
}

// TestScalingKeepsConvolutions holds the part of promise 7 about scaling.
func TestScalingKeepsConvolutions(t *testing.T) {
	draw := drawer(88)
	for _, k := range someNumbers {
		a, b := draw.drawn(impl.MapSize, 1), draw.drawn(impl.MapSize, draw.below(impl.Prime))
		scaled := must(impl.ScaleMap(a, k))
		got, code := impl.Convolve(scaled, must(impl.ScaleMap(b, k)))
		wantList(t, fmt.Sprintf("Convolve(%v, %v) scaled by %d", a, b, k), got, code, must(impl.ScaleMap(must(impl.Convolve(a, b)), k)))
		got, code = impl.InverseMap(scaled)
		wantList(t, fmt.Sprintf("InverseMap(%v) scaled by %d", a, k), got, code, must(impl.ScaleMap(must(impl.InverseMap(a)), k)))
		got, code = impl.PowerOfMap(scaled, 6)
		wantList(t, fmt.Sprintf("PowerOfMap(%v, 6) scaled by %d", a, k), got, code, must(impl.ScaleMap(must(impl.PowerOfMap(a, 6)), k)))
	}
}

// TestScaledExactMaps holds promise 25, for numbers whose sum is 0 or beyond Prime, too.
func TestScaledExactMaps(t *testing.T) {
	exact := impl.ExactMap()
	for _, k := range append(slices.Clone(someNumbers), 5, 5005) {
		for _, l := range append(slices.Clone(someNumbers), impl.Prime-k) {
			if l == impl.Prime {
				continue
			}
			got, code := impl.Convolve(must(impl.ScaleMap(exact, k)), must(impl.ScaleMap(exact, l)))
			wantList(t, fmt.Sprintf("the exact map scaled by %d with it scaled by %d", k, l), got, code, must(impl.ScaleMap(exact, (k+l)%impl.Prime)))
			wantList(t, fmt.Sprintf("the exact map scaled by %d with it scaled by %d", k, l), got, code, plainScaled(plainExact(), (k+l)%impl.Prime))
		}
	}
	for k := int64(-100); k <= 100; k++ {
		got, code := impl.PowerOfMap(exact, k)
		wantList(t, fmt.Sprintf("PowerOfMap(the exact map, %d)", k), got, code, plainScaled(plainExact(), remainder(k)))
	}
}

// TestPowersOfMaps goes through all exponents, both ends among them.
func TestPowersOfMaps(t *testing.T) {
	draw := drawer(89)
	for _, a := range [][]int64{draw.drawn(impl.MapSize, 1), draw.list(impl.MapSize), spike(1, 3, 10006), unit(impl.MapSize)} {
		a[0] = 1
		for _, sign := range []int64{1, -1} {
			step := a
			if sign < 0 {
				step = plainInverse(a)
			}
			want := unit(impl.MapSize)
			for k := int64(0); k <= 100; k++ {
				got, code := impl.PowerOfMap(a, sign*k)
				wantList(t, fmt.Sprintf("PowerOfMap(%v, %d)", a, sign*k), got, code, want)
				want = plainConvolution(want, step)
			}
		}
	}
	for _, a := range someCharacters() {
		got, code := impl.PowerOfMap(a, 0)
		wantList(t, fmt.Sprintf("PowerOfMap(%v, 0)", a), got, code, impl.UnitMap())
		got, code = impl.PowerOfMap(a, 1)
		wantList(t, fmt.Sprintf("PowerOfMap(%v, 1)", a), got, code, a)
		got, code = impl.PowerOfMap(a, -1)
		wantList(t, fmt.Sprintf("PowerOfMap(%v, -1)", a), got, code, must(impl.InverseMap(a)))
		j, k := draw.below(101)-50, draw.below(101)-50
		got, code = impl.Convolve(must(impl.PowerOfMap(a, j)), must(impl.PowerOfMap(a, k)))
		wantList(t, fmt.Sprintf("PowerOfMap(%v, %d) with that to %d", a, j, k), got, code, must(impl.PowerOfMap(a, j+k)))
		j, k = draw.below(21)-10, draw.below(21)-10
		got, code = impl.PowerOfMap(must(impl.PowerOfMap(a, j)), k)
		wantList(t, fmt.Sprintf("PowerOfMap(PowerOfMap(%v, %d), %d)", a, j, k), got, code, must(impl.PowerOfMap(a, j*k)))
	}
}

// TestPowersCountNumberings holds the part of promise 7 about numberings, and what promise 5 says of
// them: powers with negative exponents count strict ones, with a sign.
func TestPowersCountNumberings(t *testing.T) {
	polynomials := [][]int64{{1}}
	for _, list := range placedTrees()[1:] {
		polynomials = append(polynomials, differencesOf(plainChains(list, false)))
	}
	for k := int64(-100); k <= 100; k++ {
		got, code := impl.PowerOfMap(everywhere(1), k)
		want := []int64{1}
		for _, differences := range polynomials[1:] {
			want = append(want, remainder(valueAt(differences, k)))
		}
		wantList(t, fmt.Sprintf("PowerOfMap(1 everywhere, %d)", k), got, code, want)
	}
	for k := int64(0); k <= impl.MaxLabel; k++ {
		rising, back := must(impl.PowerOfMap(everywhere(1), k)), must(impl.PowerOfMap(everywhere(1), -k))
		for place, list := range placedTrees()[1:] {
			n, code := impl.CountRising(list, k)
			wantNumber(t, fmt.Sprintf("the power with %d at %v", k, list), rising[place+1], code, n%impl.Prime)
			n, code = impl.CountStrict(list, k)
			wantNumber(t, fmt.Sprintf("the power with -%d at %v", k, list), back[place+1], code, remainder(n*int64(1-len(list)%2*2)))
		}
	}
}

// TestInversesByAntipodes holds the part of promise 24 about characters: for each forest, the value
// of the inverse is the one of the antipode.
func TestInversesByAntipodes(t *testing.T) {
	draw := drawer(90)
	for _, a := range someCharacters() {
		back := must(impl.InverseMap(a))
		for _, f := range smallForests() {
			n, code := impl.ValueOf(must(impl.AntipodeOf(alone(1, f...))), a[1:])
			value, _ := impl.ValueAt(back, f)
			wantNumber(t, fmt.Sprintf("the antipode of %v under %v", f, a), n, code, value)
		}
		e := draw.element(impl.MaxOrder, 20)
		n, code := impl.ValueOf(must(impl.AntipodeOf(e)), a[1:])
		value, _ := impl.ValueOf(e, back[1:])
		wantNumber(t, fmt.Sprintf("the antipode of %v under %v", e, a), n, code, value)
	}
}

// tensorValue adds the coefficients of a coproduct times the values of a at the crowns and those of b
// at the trunks.
func tensorValue(t *testing.T, e []impl.Part, a []int64, b []int64) int64 {
	t.Helper()
	tensors, code := impl.CoproductOf(e)
	sum := int64(0)
	for _, tensor := range tensors {
		crown, first := impl.ValueAt(a, tensor.Crown)
		trunk, second := impl.ValueAt(b, tensor.Trunk)
		if code != impl.ErrNone || first != impl.ErrNone || second != impl.ErrNone {
			t.Errorf("the coproduct of %v has no values: codes %d, %d and %d", e, code, first, second)
		}
		sum = (sum + tensor.Coefficient*crown%impl.Prime*trunk) % impl.Prime
	}
	return sum
}

// TestCoproductsUnderMaps holds what promise 6 says of coproducts of products, for their values under
// two characters: these are the values of the convolution, which are multiplied.
func TestCoproductsUnderMaps(t *testing.T) {
	draw := drawer(91)
	a, b := draw.drawn(impl.MapSize, 1), draw.drawn(impl.MapSize, 1)
	both := must(impl.Convolve(a, b))
	for _, f := range smallForests() {
		n, code := impl.ValueAt(both, f)
		wantNumber(t, fmt.Sprintf("the convolution at %v", f), n, code, tensorValue(t, alone(1, f...), a, b))
	}
	for range 20 {
		k := draw.below(impl.MaxOrder + 1)
		d, e := draw.element(int(k), 6), draw.element(int(impl.MaxNodes-impl.MaxOrder+draw.below(impl.MaxOrder+1-k)), 6)
		product := must(impl.TimesElements(d, e))
		want := tensorValue(t, d, a, b) * tensorValue(t, e, a, b) % impl.Prime
		if got := tensorValue(t, product, a, b); got != want {
			t.Errorf("the coproduct of %v times %v has the value %d, not %d", d, e, got, want)
		}
		n, code := impl.ValueOf(product, both[1:])
		wantNumber(t, fmt.Sprintf("the convolution at %v times %v", d, e), n, code, want)
	}
}

// TestAntipodesUnderMaps holds the part of promise 24 about coproducts, under one character: the
// antipodes of the crowns with the trunks are worth the coefficient of the empty forest.
func TestAntipodesUnderMaps(t *testing.T) {
	draw := drawer(92)
	for _, a := range someCharacters() {
		e := draw.with(forestsTo(3))
		back := must(impl.InverseMap(a))
		if got := tensorValue(t, e, back, a); got != e[0].Coefficient {
			t.Errorf("the antipodes of the crowns of %v under %v have the value %d", e, a, got)
		}
		if got := tensorValue(t, e, a, back); got != e[0].Coefficient {
			t.Errorf("the antipodes of the trunks of %v under %v have the value %d", e, a, got)
		}
	}
}

// TestMapsAtOnce makes calls at the same time, which may not change what they return.
func TestMapsAtOnce(t *testing.T) {
	characters, maps := someCharacters(), someMaps()
	want, got := make([][]int64, len(maps)), make([][]int64, len(maps))
	power := func(i int) []int64 {
		a := characters[i%len(characters)]
		return must(impl.Convolve(must(impl.PowerOfMap(a, int64(i)-9)), must(impl.RaiseMap(maps[i]))))
	}
	for i := range maps {
		want[i] = power(i)
	}
	for range 20 {
		var calls sync.WaitGroup
		for i := range maps {
			calls.Go(func() { got[i] = power(i) })
		}
		calls.Wait()
		wantRows(t, "results of calls at the same time", got, impl.ErrNone, want)
	}
}
