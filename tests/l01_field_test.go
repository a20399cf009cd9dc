package tests

import (
	"fmt"
	"math"
	"slices"
	"strings"
	"testing"

	"loop.example/g01100/impl"
)

const prime = impl.Prime

// remainder is the number of an integer.
func remainder(n int64) int64 { return (n%prime + prime) % prime }

func TestFieldConstants(t *testing.T) {
	codes := []int64{impl.ErrNone, impl.ErrInvalid, impl.ErrRange, impl.ErrLimit, impl.ErrNotFound, impl.ErrState, impl.ErrSyntax}
	if !slices.Equal(codes, []int64{0, 1, 2, 3, 4, 5, 6}) {
		t.Errorf("the error codes are %v", codes)
	}
	if impl.Prime != 10007 || impl.MaxList != 64 || impl.MaxRows != 8 {
		t.Errorf("the limits are %d, %d and %d", impl.Prime, impl.MaxList, impl.MaxRows)
	}
}

func TestIsNumber(t *testing.T) {
	for a := int64(-3); a < prime+3; a++ {
		if impl.IsNumber(a) != (a >= 0 && a < 10007) {
			t.Errorf("IsNumber(%d) = %v", a, impl.IsNumber(a))
		}
	}
	for _, a := range notNumbers {
		if impl.IsNumber(a) {
			t.Errorf("IsNumber(%d) = true", a)
		}
	}
}

func TestNumberOf(t *testing.T) {
	n, code := impl.NumberOf(1, 2)
	wantNumber(t, "NumberOf(1, 2)", n, code, 5004)
	const end = int64(1000000000)
	whole := []int64{0, 1, -1, 2, -2, 70, 10006, 10007, -10007, 10008, 20015, -20013, end, -end, end - 1}
	for _, p := range whole {
		for _, q := range whole {
			call := fmt.Sprintf("NumberOf(%d, %d)", p, q)
			n, code := impl.NumberOf(p, q)
			if q%prime == 0 {
				wantFault(t, call, n, code, impl.ErrState)
				continue
			}
			if code != impl.ErrNone || !impl.IsNumber(n) || remainder(n*remainder(q)) != remainder(p) {
				t.Errorf("%s = %d, code %d", call, n, code)
			}
		}
	}
}

func TestNumberOfFaults(t *testing.T) {
	for _, q := range []int64{0, 10007, -10007, 20014, 99930 * 10007, -99930 * 10007} {
		n, code := impl.NumberOf(5, q)
		wantFault(t, fmt.Sprintf("NumberOf(5, %d)", q), n, code, impl.ErrState)
	}
	// Each far integer comes beside a q that is divisible by Prime, which is found later.
	for _, far := range []int64{1000000001, -1000000001, math.MaxInt64, math.MinInt64} {
		n, code := impl.NumberOf(far, 0)
		wantFault(t, fmt.Sprintf("NumberOf(%d, 0)", far), n, code, impl.ErrRange)
		n, code = impl.NumberOf(1, far)
		wantFault(t, fmt.Sprintf("NumberOf(1, %d)", far), n, code, impl.ErrRange)
	}
	n, code := impl.NumberOf(1, 10007*100000)
	wantFault(t, "NumberOf with a far multiple of Prime", n, code, impl.ErrRange)
}

func TestSumsAndProducts(t *testing.T) {
	for _, a := range someNumbers {
		for b := int64(0); b < prime; b++ {
			n, code := impl.AddNumbers(a, b)
			wantNumber(t, fmt.Sprintf("AddNumbers(%d, %d)", a, b), n, code, (a+b)%prime)
			n, code = impl.SubtractNumbers(a, b)
			wantNumber(t, fmt.Sprintf("SubtractNumbers(%d, %d)", a, b), n, code, (a-b+prime)%prime)
			n, code = impl.MultiplyNumbers(a, b)
			wantNumber(t, fmt.Sprintf("MultiplyNumbers(%d, %d)", a, b), n, code, a*b%prime)
		}
	}
}

// TestDividing holds the part of promise 1 about dividing, for all divisors.
func TestDividing(t *testing.T) {
	for _, a := range someNumbers {
		for b := int64(1); b < prime; b++ {
			product, _ := impl.MultiplyNumbers(a, b)
			n, code := impl.DivideNumbers(product, b)
			wantNumber(t, fmt.Sprintf("DivideNumbers(%d, %d)", product, b), n, code, a)
			quotient, _ := impl.DivideNumbers(a, b)
			n, code = impl.MultiplyNumbers(quotient, b)
			wantNumber(t, fmt.Sprintf("MultiplyNumbers(%d, %d)", quotient, b), n, code, a)
		}
		n, code := impl.DivideNumbers(a, 0)
		wantFault(t, fmt.Sprintf("DivideNumbers(%d, 0)", a), n, code, impl.ErrState)
	}
}

func TestArithmeticFaults(t *testing.T) {
	operations := map[string]func(int64, int64) (int64, int64){
		"AddNumbers":      impl.AddNumbers,
		"SubtractNumbers": impl.SubtractNumbers,
		"MultiplyNumbers": impl.MultiplyNumbers,
		"DivideNumbers":   impl.DivideNumbers,
	}
	for name, operation := range operations {
		for _, bad := range notNumbers {
			// Beside 0 as well: a division by it is found later.
			for _, good := range []int64{0, 1, prime - 1} {
				n, code := operation(bad, good)
				wantFault(t, fmt.Sprintf("%s(%d, %d)", name, bad, good), n, code, impl.ErrRange)
				n, code = operation(good, bad)
				wantFault(t, fmt.Sprintf("%s(%d, %d)", name, good, bad), n, code, impl.ErrRange)
			}
			n, code := operation(bad, bad)
			wantFault(t, fmt.Sprintf("%s(%d, %d)", name, bad, bad), n, code, impl.ErrRange)
		}
	}
}

func TestPowerNumber(t *testing.T) {
	for a := int64(0); a < prime; a++ {
		inverse, _ := impl.DivideNumbers(1, a)
		up, down := int64(1), int64(1)
		for k := int64(0); k <= 9; k++ {
			n, code := impl.PowerNumber(a, k)
			wantNumber(t, fmt.Sprintf("PowerNumber(%d, %d)", a, k), n, code, up)
			if a != 0 {
				n, code = impl.PowerNumber(a, -k)
				wantNumber(t, fmt.Sprintf("PowerNumber(%d, %d)", a, -k), n, code, down)
			}
			up, down = up*a%prime, down*inverse%prime
		}
	}
}

func TestPowerNumberEnds(t *testing.T) {
	// Powers of numbers other than 0 repeat after Prime - 1.
	const end, rest = int64(1000000000), int64(1000000000 % (prime - 1))
	for _, a := range someNumbers {
		want := int64(1)
		for range rest {
			want = want * a % prime
		}
		n, code := impl.PowerNumber(a, end)
		wantNumber(t, fmt.Sprintf("PowerNumber(%d, %d)", a, end), n, code, want)
		n, code = impl.PowerNumber(a, -end)
		if a == 0 {
			wantFault(t, "PowerNumber(0, -1000000000)", n, code, impl.ErrState)
		} else if code != impl.ErrNone || n*want%prime != 1 {
			t.Errorf("PowerNumber(%d, %d) = %d, code %d", a, -end, n, code)
		}
	}
}

func TestPowerNumberFaults(t *testing.T) {
	n, code := impl.PowerNumber(0, -1)
	wantFault(t, "PowerNumber(0, -1)", n, code, impl.ErrState)
	for _, far := range []int64{1000000001, -1000000001, math.MaxInt64, math.MinInt64} {
		for _, a := range []int64{0, 1, 2} {
			n, code := impl.PowerNumber(a, far)
			wantFault(t, fmt.Sprintf("PowerNumber(%d, %d)", a, far), n, code, impl.ErrRange)
		}
	}
	for _, bad := range notNumbers {
		for _, k := range []int64{0, 1, -1} {
			n, code := impl.PowerNumber(bad, k)
			wantFault(t, fmt.Sprintf("PowerNumber(%d, %d)", bad, k), n, code, impl.ErrRange)
		}
	}
}

func TestSquareRoot(t *testing.T) {
	roots := map[int64]int64{}
	for a := int64(prime - 1); a >= 0; a-- {
		roots[a*a%prime] = a
	}
	for a := int64(0); a < prime; a++ {
		n, code := impl.SquareRoot(a)
		if want, isSquare := roots[a]; isSquare {
			wantNumber(t, fmt.Sprintf("SquareRoot(%d)", a), n, code, want)
		} else {
			wantFault(t, fmt.Sprintf("SquareRoot(%d)", a), n, code, impl.ErrNotFound)
		}
	}
	for _, bad := range notNumbers {
		n, code := impl.SquareRoot(bad)
		wantFault(t, fmt.Sprintf("SquareRoot(%d)", bad), n, code, impl.ErrRange)
	}
}

func TestRootNumber(t *testing.T) {
	for root := int64(0); root < prime; root++ {
		third := root * root % prime * root % prime
		fifth := third * root % prime * root % prime
		n, code := impl.RootNumber(third, 3)
		wantNumber(t, fmt.Sprintf("RootNumber(%d, 3)", third), n, code, root)
		n, code = impl.RootNumber(fifth, 5)
		wantNumber(t, fmt.Sprintf("RootNumber(%d, 5)", fifth), n, code, root)
	}
	for _, k := range []int64{0, 1, 2, 4, 6, 7, 15, -3, -5, math.MaxInt64, math.MinInt64} {
		n, code := impl.RootNumber(8, k)
		wantFault(t, fmt.Sprintf("RootNumber(8, %d)", k), n, code, impl.ErrRange)
	}
	for _, bad := range notNumbers {
		for _, k := range []int64{3, 5, 4} {
			n, code := impl.RootNumber(bad, k)
			wantFault(t, fmt.Sprintf("RootNumber(%d, %d)", bad, k), n, code, impl.ErrRange)
		}
	}
}

// shortTexts has the texts of all short fractions by their numbers.
func shortTexts() map[int64]string {
	texts := map[int64]string{}
	for q := int64(70); q >= 1; q-- {
		for p := int64(-70); p <= 70; p++ {
			n, _ := impl.NumberOf(p, q)
			// Of equal fractions the one with the least q comes last, which has no common divisor.
			texts[n] = fmt.Sprint(p)
			if q > 1 {
				texts[n] = fmt.Sprintf("%d/%d", p, q)
			}
		}
	}
	return texts
}

// TestTexts holds the part of promise 1 about texts, for all numbers.
func TestTexts(t *testing.T) {
	texts := shortTexts()
	for a := int64(0); a < prime; a++ {
		want, isShort := texts[a]
		if !isShort {
			want = fmt.Sprint(a)
		}
		text, code := impl.NumberText(a)
		if text != want || code != impl.ErrNone {
			t.Errorf("NumberText(%d) = %q, code %d; want %q", a, text, code, want)
		}
		n, code := impl.ParseNumber(text)
		wantNumber(t, fmt.Sprintf("ParseNumber(%q)", text), n, code, a)
	}
	for _, bad := range notNumbers {
		if text, code := impl.NumberText(bad); text != "" || code != impl.ErrRange {
			t.Errorf("NumberText(%d) = %q, code %d", bad, text, code)
		}
	}
}

func TestTextsAtTheEndOfShort(t *testing.T) {
	for _, fraction := range []struct {
		p, q int64
		text string
	}{
		{70, 1, "70"}, {-70, 1, "-70"}, {71, 1, "71"}, {-71, 1, "9936"}, {70, 69, "70/69"}, {-69, 70, "-69/70"},
		{1, 70, "1/70"}, {70, 70, "1"}, {-2, 4, "-1/2"}, {0, 9, "0"},
	} {
		n, _ := impl.NumberOf(fraction.p, fraction.q)
		if text, code := impl.NumberText(n); text != fraction.text || code != impl.ErrNone {
			t.Errorf("NumberText of %d/%d = %q, code %d; want %q", fraction.p, fraction.q, text, code, fraction.text)
		}
	}
	n, _ := impl.NumberOf(1, 71)
	if text, _ := impl.NumberText(n); strings.Contains(text, "/71") {
		t.Errorf("NumberText of 1/71 = %q", text)
	}
}

func TestParseNumber(t *testing.T) {
	for text, want := range map[string]int64{
		"0": 0, "1": 1, "-1": 10006, "10006": 10006, "10007": 0, "-10007": 0, "2/4": 5004, "-2/4": 5003, "0/5": 0, "0/1": 0,
		"999999999": 999999999 % prime, "-999999999": prime - 999999999%prime, "5/1": 5, "7/7": 1, "999999999/999999999": 1,
		"10/20": 5004, "100000000/200000000": 5004, "-3/10008": 10004,
	} {
		n, code := impl.ParseNumber(text)
		wantNumber(t, fmt.Sprintf("ParseNumber(%q)", text), n, code, want)
	}
	for _, text := range []string{"1/10007", "0/10007", "-5/20014", "10007/10007", "1/999999510"} {
		n, code := impl.ParseNumber(text)
		wantFault(t, fmt.Sprintf("ParseNumber(%q)", text), n, code, impl.ErrState)
	}
}

func TestParseNumberFaults(t *testing.T) {
	for _, text := range []string{
		"", "-", "--1", "+1", "-0", "-0/5", "-0/1", "00", "01", "-01", "0x1", "1a", "a", " 1", "1 ", "1\n", "\x00",
		"/", "1/", "/2", "-/2", "1//2", "1/2/3", "1/2/", "1/0", "-1/0", "0/0", "1/00", "1/02", "1/-2", "1/+2", "1/ 2", "1 /2",
		"1234567890", "-1234567890", "0000000001", "1/1234567890", "1/0000000001", "99999999999999999999999", "1/99999999999999999999",
		"1.5", "1e3", "1_0", "\u0661", "\xff", "01/10007", "-0/10007", "1/010007", "1234567890/10007",
	} {
		n, code := impl.ParseNumber(text)
		wantFault(t, fmt.Sprintf("ParseNumber(%q)", text), n, code, impl.ErrSyntax)
	}
}

func TestSumOf(t *testing.T) {
	full := make([]int64, impl.MaxList)
	for i := range full {
		full[i] = prime - 1
	}
	for _, c := range []struct {
		list []int64
		want int64
	}{
		{nil, 0}, {[]int64{}, 0}, {[]int64{5}, 5}, {[]int64{10006, 3}, 2}, {[]int64{1, 2, 3, 4}, 10}, {full, prime - 64},
	} {
		n, code := impl.SumOf(c.list)
		wantNumber(t, fmt.Sprintf("SumOf(%v)", c.list), n, code, c.want)
	}
	n, code := impl.SumOf(make([]int64, impl.MaxList+1))
	wantFault(t, "SumOf of 65 numbers", n, code, impl.ErrRange)
	for _, bad := range notNumbers {
		for _, list := range [][]int64{{bad}, {bad, 1}, {1, bad}, append(make([]int64, impl.MaxList), bad)} {
			n, code := impl.SumOf(list)
			wantFault(t, fmt.Sprintf("SumOf(%v)", list), n, code, impl.ErrRange)
		}
	}
}

func TestDotOf(t *testing.T) {
	draw := drawer(1)
	for length := range impl.MaxList + 1 {
		a, b := draw.list(length), draw.list(length)
		want := int64(0)
		for i := range a {
			want += a[i] * b[i]
		}
		n, code := impl.DotOf(a, b)
		wantNumber(t, fmt.Sprintf("DotOf of %d numbers", length), n, code, want%prime)
	}
	long := make([]int64, impl.MaxList+1)
	n, code := impl.DotOf(long, long)
	wantFault(t, "DotOf of 65 numbers", n, code, impl.ErrRange)
	for _, c := range [][2][]int64{{{1}, nil}, {nil, {1}}, {{1, 2}, {1}}, {{1}, {1, 2}}, {long[1:], long}, {long, long[1:]}, {long, nil}} {
		n, code := impl.DotOf(c[0], c[1])
		wantFault(t, fmt.Sprintf("DotOf(%v, %v)", c[0], c[1]), n, code, impl.ErrRange)
	}
	for _, bad := range notNumbers {
		n, code := impl.DotOf([]int64{1, bad}, []int64{1, 0})
		wantFault(t, fmt.Sprintf("DotOf with %d on the left", bad), n, code, impl.ErrRange)
		n, code = impl.DotOf([]int64{0, 1}, []int64{bad, 1})
		wantFault(t, fmt.Sprintf("DotOf with %d on the right", bad), n, code, impl.ErrRange)
	}
}
