package tests

import (
	"fmt"
	"math"
	"slices"
	"testing"

	"loop.example/g01100/impl"
)

const half = 5004

// The functions of chapter 2 by the kinds of their arguments.
var (
	ofOneSeries = map[string]func([]int64) ([]int64, int64){
		"DeriveSeries":    impl.DeriveSeries,
		"IntegrateSeries": impl.IntegrateSeries,
		"ExpSeries":       impl.ExpSeries,
		"LogSeries":       impl.LogSeries,
		"ReverseSeries":   impl.ReverseSeries,
	}
	ofTwoSeries = map[string]func([]int64, []int64) ([]int64, int64){
		"AddSeries":      impl.AddSeries,
		"MultiplySeries": impl.MultiplySeries,
		"DivideSeries":   impl.DivideSeries,
		"ComposeSeries":  impl.ComposeSeries,
	}
	ofSeriesAndNumber = map[string]func([]int64, int64) ([]int64, int64){
		"ScaleSeries":    impl.ScaleSeries,
		"PowerOfSeries":  impl.PowerOfSeries,
		"EvaluateSeries": evaluated,
	}
)

// evaluated wraps a value other than 0 in a list, to be used beside functions that return lists.
func evaluated(a []int64, z int64) ([]int64, int64) {
	value, code := impl.EvaluateSeries(a, z)
	if value == 0 {
		return nil, code
	}
	return []int64{value}, code
}

// notSeries are lists that are none: without coefficients, with one too many, and with integers
// that are not numbers. Most of them begin so that the functions find ErrState as well.
func notSeries() [][]int64 {
	list := [][]int64{nil, {}, make([]int64, impl.MaxTerms+1), unit(impl.MaxTerms + 1), variable(impl.MaxTerms + 1)}
	for _, bad := range notNumbers {
		list = append(list, []int64{bad}, []int64{bad, 1}, []int64{0, bad}, []int64{1, bad}, []int64{2, 0, bad, 0},
			append(make([]int64, impl.MaxTerms-1), bad), append(make([]int64, impl.MaxTerms), bad))
	}
	return list
}

func unit(length int) []int64 { return begun(make([]int64, length), 1) }

func variable(length int) []int64 { return begun(make([]int64, length), 0, 1) }

// begun changes the first coefficients of a series, as far as it has any.
func begun(a []int64, first ...int64) []int64 {
	copy(a, first)
	return a
}

// drawn draws coefficients of which the first ones are given, and makes some of the others 0.
func (d *drawer) drawn(length int, first ...int64) []int64 {
	a := d.list(length)
	for n := range a {
		if d.below(4) == 0 {
			a[n] = 0
		}
	}
	return begun(a, first...)
}

// plainSeries multiplies by the definition.
func plainSeries(a []int64, b []int64) []int64 {
	product := make([]int64, len(a))
	for i := range a {
		for k := range len(a) - i {
			product[i+k] = (product[i+k] + a[i]*b[k]) % prime
		}
	}
	return product
}

// plainSum adds a and k times b.
func plainSum(a []int64, k int64, b []int64) []int64 {
	sum := make([]int64, len(a))
	for n := range a {
		sum[n] = (a[n] + k*b[n]) % prime
	}
	return sum
}

// plainComposition adds all powers of b up to the length of a.
func plainComposition(a []int64, b []int64) []int64 {
	sum, power := make([]int64, len(a)), unit(len(a))
	for n := range a {
		sum = plainSum(sum, a[n], power)
		power = plainSeries(power, b)
	}
	return sum
}

// plainExponential has 1/n! as its coefficients.
func plainExponential(length int) []int64 {
	a := unit(length)
	for n := 1; n < length; n++ {
		a[n], _ = impl.DivideNumbers(a[n-1], int64(n))
	}
	return a
}

// forLengths runs a test for series of each length, several times.
func forLengths(seed drawer, check func(draw *drawer, length int)) {
	for length := 1; length <= impl.MaxTerms; length++ {
		for range 8 {
			check(&seed, length)
		}
	}
}

func TestIsSeries(t *testing.T) {
	if impl.MaxTerms != 16 {
		t.Errorf("MaxTerms = %d", impl.MaxTerms)
	}
	for _, a := range notSeries() {
		if impl.IsSeries(a) {
			t.Errorf("IsSeries(%v) = true", a)
		}
	}
	forLengths(10, func(draw *drawer, length int) {
		if a := draw.list(length); !impl.IsSeries(a) {
			t.Errorf("IsSeries(%v) = false", a)
		}
	})
	for _, a := range someNumbers {
		if !impl.IsSeries([]int64{a}) || !impl.IsSeries([]int64{0, a}) {
			t.Errorf("IsSeries of series with %d = false", a)
		}
	}
}

func TestSeriesExamples(t *testing.T) {
	a, code := impl.ScaleSeries([]int64{1, 1, 1}, 2)
	wantList(t, "ScaleSeries", a, code, []int64{1, 2, 4})
	a, code = impl.MultiplySeries([]int64{1, 1, 0}, []int64{1, 1, 0})
	wantList(t, "MultiplySeries", a, code, []int64{1, 2, 1})
	a, code = impl.DivideSeries([]int64{1, 0, 0}, []int64{1, 10006, 0})
	wantList(t, "DivideSeries", a, code, []int64{1, 1, 1})
	a, code = impl.IntegrateSeries([]int64{1, 1, 1})
	wantList(t, "IntegrateSeries", a, code, []int64{0, 1, half})
	a, code = impl.ExpSeries([]int64{0, 1, 0})
	wantList(t, "ExpSeries", a, code, []int64{1, 1, half})
	a, code = impl.PowerOfSeries([]int64{1, 2, 1}, half)
	wantList(t, "PowerOfSeries", a, code, []int64{1, 1, 0})
	a, code = impl.ReverseSeries([]int64{0, 1, 1})
	wantList(t, "ReverseSeries", a, code, []int64{0, 1, 10006})
}

func TestAddAndMultiplySeries(t *testing.T) {
	forLengths(11, func(draw *drawer, length int) {
		a, b := draw.drawn(length), draw.drawn(length)
		got, code := impl.AddSeries(a, b)
		wantList(t, fmt.Sprintf("AddSeries(%v, %v)", a, b), got, code, plainSum(a, 1, b))
		got, code = impl.MultiplySeries(a, b)
		wantList(t, fmt.Sprintf("MultiplySeries(%v, %v)", a, b), got, code, plainSeries(a, b))
		got, code = impl.MultiplySeries(a, a)
		wantList(t, fmt.Sprintf("MultiplySeries(%v, the same)", a), got, code, plainSeries(a, a))
		got, code = impl.MultiplySeries(unit(length), a)
		wantList(t, fmt.Sprintf("MultiplySeries(the unit, %v)", a), got, code, a)
	})
}

func TestScaleAndEvaluateSeries(t *testing.T) {
	forLengths(12, func(draw *drawer, length int) {
		a := draw.drawn(length)
		for _, k := range []int64{0, 1, 2, half, prime - 1, draw.below(prime)} {
			want, sum, power := make([]int64, length), int64(0), int64(1)
			for n := range a {
				want[n] = a[n] * power % prime
				sum += want[n]
				power = power * k % prime
			}
			got, code := impl.ScaleSeries(a, k)
			wantList(t, fmt.Sprintf("ScaleSeries(%v, %d)", a, k), got, code, want)
			value, code := impl.EvaluateSeries(a, k)
			wantNumber(t, fmt.Sprintf("EvaluateSeries(%v, %d)", a, k), value, code, sum%prime)
		}
	})
}

func TestDivideSeries(t *testing.T) {
	forLengths(13, func(draw *drawer, length int) {
		for _, first := range []int64{1, prime - 1, 2, 1 + draw.below(prime-1)} {
			a, b := draw.drawn(length), draw.drawn(length, first)
			got, code := impl.DivideSeries(plainSeries(a, b), b)
			wantList(t, fmt.Sprintf("DivideSeries(%v times b, %v)", a, b), got, code, a)
			got, code = impl.DivideSeries(a, b)
			if code != impl.ErrNone || len(got) != length || !slices.Equal(plainSeries(got, b), a) {
				t.Errorf("DivideSeries(%v, %v) = %v, code %d", a, b, got, code)
			}
		}
	})
}

func TestDeriveAndIntegrateSeries(t *testing.T) {
	forLengths(14, func(draw *drawer, length int) {
		a := draw.list(length)
		want := make([]int64, length)
		for n := 1; n < length; n++ {
			want[n-1] = int64(n) * a[n] % prime
		}
		got, code := impl.DeriveSeries(a)
		wantList(t, fmt.Sprintf("DeriveSeries(%v)", a), got, code, want)
		back, code := impl.IntegrateSeries(got)
		wantList(t, fmt.Sprintf("IntegrateSeries(%v)", got), back, code, begun(slices.Clone(a), 0))
		for n := range want {
			want[n] = 0
			if n > 0 {
				want[n], _ = impl.DivideNumbers(a[n-1], int64(n))
			}
		}
		got, code = impl.IntegrateSeries(a)
		wantList(t, fmt.Sprintf("IntegrateSeries(%v)", a), got, code, want)
		a[length-1] = 0
		back, code = impl.DeriveSeries(got)
		wantList(t, fmt.Sprintf("DeriveSeries(%v)", got), back, code, a)
	})
}

// TestExponentialsAndLogarithms holds the part of promise 2 about these: the exponential is that
// of the definition, and the logarithm undoes it in both orders.
func TestExponentialsAndLogarithms(t *testing.T) {
	forLengths(15, func(draw *drawer, length int) {
		a, b, c := draw.drawn(length, 1), draw.drawn(length, 0), draw.drawn(length, 0)
		got, code := impl.ExpSeries(b)
		wantList(t, fmt.Sprintf("ExpSeries(%v)", b), got, code, plainComposition(plainExponential(length), b))
		back, code := impl.LogSeries(got)
		wantList(t, fmt.Sprintf("LogSeries(ExpSeries(%v))", b), back, code, b)
		back, code = impl.ExpSeries(must(impl.LogSeries(a)))
		wantList(t, fmt.Sprintf("ExpSeries(LogSeries(%v))", a), back, code, a)
		sum, code := impl.ExpSeries(plainSum(b, 1, c))
		wantList(t, fmt.Sprintf("ExpSeries of the sum of %v and %v", b, c), sum, code, plainSeries(got, must(impl.ExpSeries(c))))
	})
}

func TestLogSeriesOfSimpleOnes(t *testing.T) {
	for length := 1; length <= impl.MaxTerms; length++ {
		want := make([]int64, length)
		for n := 1; n < length; n++ {
			want[n], _ = impl.NumberOf(int64(2*(n%2)-1), int64(n))
		}
		got, code := impl.LogSeries(begun(make([]int64, length), 1, 1))
		wantList(t, "LogSeries of 1 + z", got, code, want)
		got, code = impl.LogSeries(unit(length))
		wantList(t, "LogSeries of the unit", got, code, make([]int64, length))
		got, code = impl.ExpSeries(make([]int64, length))
		wantList(t, "ExpSeries of 0", got, code, unit(length))
	}
}

func TestExponentialTo(t *testing.T) {
	for n := range impl.MaxTerms {
		got, code := impl.ExponentialTo(int64(n))
		wantList(t, fmt.Sprintf("ExponentialTo(%d)", n), got, code, plainExponential(n+1))
		again, code := impl.ExpSeries(variable(n + 1))
		wantList(t, fmt.Sprintf("ExpSeries of the variable with %d coefficients", n+1), again, code, got)
	}
	for _, n := range []int64{-1, impl.MaxTerms, impl.MaxTerms + 1, prime, math.MinInt64, math.MaxInt64, 1 << 32, -1 << 32} {
		got, code := impl.ExponentialTo(n)
		wantNone(t, fmt.Sprintf("ExponentialTo(%d)", n), got, code, impl.ErrRange)
	}
}

// TestPowersOfSeries holds the part of promise 2 about powers.
func TestPowersOfSeries(t *testing.T) {
	forLengths(16, func(draw *drawer, length int) {
		a, b := draw.drawn(length, 1), draw.drawn(length, 1)
		want := unit(length)
		for k := range int64(6) {
			got, code := impl.PowerOfSeries(a, k)
			wantList(t, fmt.Sprintf("PowerOfSeries(%v, %d)", a, k), got, code, want)
			want = plainSeries(want, a)
		}
		got, code := impl.PowerOfSeries(a, prime-1)
		wantList(t, fmt.Sprintf("%v times its inverse", a), plainSeries(got, a), code, unit(length))
		got, code = impl.PowerOfSeries(a, half)
		wantList(t, fmt.Sprintf("the square of the root of %v", a), plainSeries(got, got), code, a)
		k, m := draw.below(prime), draw.below(prime)
		first, second := must(impl.PowerOfSeries(a, k)), must(impl.PowerOfSeries(a, m))
		got, code = impl.PowerOfSeries(a, (k+m)%prime)
		wantList(t, fmt.Sprintf("PowerOfSeries(%v, %d + %d)", a, k, m), got, code, plainSeries(first, second))
		got, code = impl.PowerOfSeries(first, m)
		wantList(t, fmt.Sprintf("PowerOfSeries(PowerOfSeries(%v, %d), %d)", a, k, m), got, code, must(impl.PowerOfSeries(a, k*m%prime)))
		got, code = impl.PowerOfSeries(plainSeries(a, b), k)
		wantList(t, fmt.Sprintf("PowerOfSeries(%v times %v, %d)", a, b, k), got, code, plainSeries(first, must(impl.PowerOfSeries(b, k))))
	})
}

func TestBinomialSeries(t *testing.T) {
	for _, k := range []int64{0, 1, 2, 15, 16, 5003, half, prime - 1} {
		want := unit(impl.MaxTerms)
		for n := int64(1); n < impl.MaxTerms; n++ {
			want[n], _ = impl.DivideNumbers(want[n-1]*remainder(k-n+1)%prime, n)
		}
		got, code := impl.PowerOfSeries(begun(make([]int64, impl.MaxTerms), 1, 1), k)
		wantList(t, fmt.Sprintf("PowerOfSeries of 1 + z and %d", k), got, code, want)
	}
}

// TestComposeSeries holds the part of promise 2 about compositions.
func TestComposeSeries(t *testing.T) {
	forLengths(17, func(draw *drawer, length int) {
		a, b, c := draw.drawn(length), draw.drawn(length, 0), draw.drawn(length, 0)
		got, code := impl.ComposeSeries(a, b)
		wantList(t, fmt.Sprintf("ComposeSeries(%v, %v)", a, b), got, code, plainComposition(a, b))
		left, code := impl.ComposeSeries(got, c)
		wantList(t, fmt.Sprintf("composing %v, %v and %v", a, b, c), left, code, must(impl.ComposeSeries(a, must(impl.ComposeSeries(b, c)))))
		d := draw.drawn(length)
		product, code := impl.ComposeSeries(plainSeries(a, d), b)
		wantList(t, fmt.Sprintf("composing %v times %v with %v", a, d, b), product, code, plainSeries(got, must(impl.ComposeSeries(d, b))))
		got, code = impl.ComposeSeries(a, variable(length))
		wantList(t, fmt.Sprintf("ComposeSeries(%v, the variable)", a), got, code, a)
		got, code = impl.ComposeSeries(variable(length), b)
		wantList(t, fmt.Sprintf("ComposeSeries(the variable, %v)", b), got, code, b)
		got, code = impl.ComposeSeries(a, make([]int64, length))
		wantList(t, fmt.Sprintf("ComposeSeries(%v, 0)", a), got, code, begun(make([]int64, length), a[0]))
	})
}

// TestComposeSeriesWithGaps composes with series that begin at higher powers.
func TestComposeSeriesWithGaps(t *testing.T) {
	draw := drawer(18)
	for length := 1; length <= impl.MaxTerms; length++ {
		for gap := 1; gap <= length; gap++ {
			a, b := draw.list(length), draw.list(length)
			clear(b[:gap])
			got, code := impl.ComposeSeries(a, b)
			wantList(t, fmt.Sprintf("ComposeSeries(%v, %v)", a, b), got, code, plainComposition(a, b))
		}
	}
}

// TestReverseSeries holds the part of promise 2 about the reverse.
func TestReverseSeries(t *testing.T) {
	forLengths(19, func(draw *drawer, length int) {
		if length == 1 {
			return
		}
		for _, first := range []int64{1, prime - 1, 2, 1 + draw.below(prime-1)} {
			a := draw.drawn(length, 0, first)
			call := fmt.Sprintf("ReverseSeries(%v)", a)
			got, code := impl.ReverseSeries(a)
			if len(got) != length || code != impl.ErrNone || got[0] != 0 {
				t.Errorf("%s = %v, code %d", call, got, code)
				continue
			}
			wantList(t, "composing with "+call, plainComposition(a, got), code, variable(length))
			wantList(t, "composing "+call+" with it", plainComposition(got, a), code, variable(length))
			again, code := impl.ReverseSeries(got)
			wantList(t, "reversing "+call, again, code, a)
		}
	})
}

// TestShorterSeries checks that coefficients do not depend on how many are known behind them.
func TestShorterSeries(t *testing.T) {
	draw := drawer(20)
	a, b, low := draw.list(impl.MaxTerms), begun(draw.list(impl.MaxTerms), 1), begun(draw.list(impl.MaxTerms), 0, 3)
	results := func(length int) [][]int64 {
		a, b, low := a[:length], b[:length], low[:length]
		lists := [][]int64{
			must(impl.AddSeries(a, b)), must(impl.MultiplySeries(a, b)), must(impl.DivideSeries(a, b)), must(impl.ScaleSeries(a, 5)),
			must(impl.IntegrateSeries(a)), must(impl.ExpSeries(low)), must(impl.LogSeries(b)), must(impl.PowerOfSeries(b, half)),
			must(impl.ComposeSeries(a, low)),
		}
		if length > 1 {
			lists = append(lists, must(impl.ReverseSeries(low)))
		}
		return lists
	}
	full := results(impl.MaxTerms)
	for length := 1; length < impl.MaxTerms; length++ {
		for i, list := range results(length) {
			wantList(t, fmt.Sprintf("operation %d with %d coefficients", i, length), list, impl.ErrNone, full[i][:length])
		}
	}
}

func TestSeriesInvalid(t *testing.T) {
	for _, bad := range notSeries() {
		for name, operation := range ofOneSeries {
			got, code := operation(bad)
			wantNone(t, fmt.Sprintf("%s(%v)", name, bad), got, code, impl.ErrInvalid)
		}
		for name, operation := range ofTwoSeries {
			// Where there is a bad list, dividing by 0 and composing with 1 or more are not looked at.
			for _, good := range [][]int64{{0}, {1}, {2, 0}, make([]int64, impl.MaxTerms)} {
				got, code := operation(bad, good)
				wantNone(t, fmt.Sprintf("%s(%v, %v)", name, bad, good), got, code, impl.ErrInvalid)
				got, code = operation(good, bad)
				wantNone(t, fmt.Sprintf("%s(%v, %v)", name, good, bad), got, code, impl.ErrInvalid)
			}
			got, code := operation(bad, bad)
			wantNone(t, fmt.Sprintf("%s(%v, the same)", name, bad), got, code, impl.ErrInvalid)
		}
		for name, operation := range ofSeriesAndNumber {
			for _, k := range append([]int64{0, 1, prime - 1}, notNumbers...) {
				got, code := operation(bad, k)
				wantNone(t, fmt.Sprintf("%s(%v, %d)", name, bad, k), got, code, impl.ErrInvalid)
			}
		}
	}
}

func TestSeriesOfDifferentLengths(t *testing.T) {
	for name, operation := range ofTwoSeries {
		for first := 1; first <= impl.MaxTerms; first++ {
			for second := 1; second <= impl.MaxTerms; second++ {
				a, b := unit(first), make([]int64, second)
				if first == second {
					continue
				}
				got, code := operation(a, b)
				wantNone(t, fmt.Sprintf("%s(%v, %v)", name, a, b), got, code, impl.ErrInvalid)
				got, code = operation(b, a)
				wantNone(t, fmt.Sprintf("%s(%v, %v)", name, b, a), got, code, impl.ErrInvalid)
			}
		}
	}
}

func TestSeriesRange(t *testing.T) {
	// PowerOfSeries does not take the series that do not begin with 1, but finds that later.
	for _, a := range [][]int64{{0}, {1}, {2}, {0, 1}, {1, 2, 3}, unit(impl.MaxTerms), make([]int64, impl.MaxTerms)} {
		for _, bad := range notNumbers {
			for name, operation := range ofSeriesAndNumber {
				got, code := operation(a, bad)
				wantNone(t, fmt.Sprintf("%s(%v, %d)", name, a, bad), got, code, impl.ErrRange)
			}
		}
	}
}

func TestSeriesState(t *testing.T) {
	for length := 1; length <= impl.MaxTerms; length++ {
		for _, first := range []int64{0, 1, 2, half, prime - 1} {
			for _, second := range []int64{0, 1, 2, prime - 1} {
				a := begun(make([]int64, length), first, second)
				isReversible := first == 0 && length > 1 && second != 0
				other := func(operation func([]int64, []int64) ([]int64, int64)) ([]int64, int64) {
					return operation(unit(length), a)
				}
				check := func(name string, isGood bool) func([]int64, int64) {
					return func(got []int64, code int64) {
						t.Helper()
						if isGood && (len(got) != length || code != impl.ErrNone) {
							t.Errorf("%s with %v = %v, code %d", name, a, got, code)
						} else if !isGood {
							wantNone(t, fmt.Sprintf("%s with %v", name, a), got, code, impl.ErrState)
						}
					}
				}
				check("ExpSeries", first == 0)(impl.ExpSeries(a))
				check("LogSeries", first == 1)(impl.LogSeries(a))
				check("PowerOfSeries", first == 1)(impl.PowerOfSeries(a, 0))
				check("PowerOfSeries", first == 1)(impl.PowerOfSeries(a, prime-1))
				check("ReverseSeries", isReversible)(impl.ReverseSeries(a))
				check("DivideSeries", first != 0)(other(impl.DivideSeries))
				check("ComposeSeries", first == 0)(other(impl.ComposeSeries))
			}
		}
	}
}

// TestSeriesMemory checks that arguments stay as they are, and that results are new memory.
func TestSeriesMemory(t *testing.T) {
	draw := drawer(21)
	for _, length := range []int{2, 5, impl.MaxTerms} {
		plain := [][]int64{draw.list(length), begun(draw.list(length), 1), begun(draw.list(length), 0, 3)}
		rows := guarded(plain)
		for range 2 {
			results := [][]int64{
				must(impl.AddSeries(rows[0], rows[0])), must(impl.MultiplySeries(rows[0], rows[1])), must(impl.DivideSeries(rows[0], rows[1])),
				must(impl.ScaleSeries(rows[0], 1)), must(impl.DeriveSeries(rows[0])), must(impl.IntegrateSeries(rows[0])),
				must(impl.ExpSeries(rows[2])), must(impl.LogSeries(rows[1])), must(impl.PowerOfSeries(rows[1], 1)),
				must(impl.ComposeSeries(rows[0], rows[2])), must(impl.ReverseSeries(rows[2])), must(impl.ExponentialTo(int64(length - 1))),
			}
			for i, list := range results {
				if len(list) != length {
					t.Fatalf("result %d is %v", i, list)
				}
			}
			impl.EvaluateSeries(rows[0], 2)
			impl.IsSeries(rows[0])
			wantApart(t, "the functions of series", results...)
			wantUntouched(t, "a function of series", rows, plain)
		}
	}
}
