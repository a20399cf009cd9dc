package impl

import (
	"strconv"
	"strings"
)

// Codes that functions return.
const (
	ErrNone = iota
	ErrInvalid
	ErrRange
	ErrLimit
	ErrNotFound
	ErrState
	ErrSyntax
)

// Constants of chapter 1.
const (
	Prime   = 10007
	MaxList = 64
	MaxRows = 8
)

const (
	// maxWhole bounds the fractions and the exponents that are arguments.
	maxWhole = 1000000000
	// maxDigits bounds the parts of a fraction in a text.
	maxDigits = 9
	// maxShort bounds both parts of a short fraction. As 2 * maxShort * maxShort is less than
	// Prime, no number has two of them.
	maxShort = 70
)

// A number is an element of the field, always in 0..Prime - 1.
type number int64

// reduced returns the number of an integer.
func reduced(n int64) number {
	rest := n % Prime
	if rest < 0 {
		rest += Prime
	}
	return number(rest)
}

func (a number) plus(b number) number { return reduced(int64(a) + int64(b)) }

func (a number) minus(b number) number { return reduced(int64(a) - int64(b)) }

func (a number) times(b number) number { return reduced(int64(a) * int64(b)) }

func (a number) negative() number { return reduced(-int64(a)) }

// power takes exponents that are not negative.
func (a number) power(k int64) number {
	product := number(1)
	for ; k > 0; k /= 2 {
		if k%2 == 1 {
			product = product.times(a)
		}
		a = a.times(a)
	}
	return product
}

// inverse relies on Fermat: the power with the exponent Prime - 1 is 1. That of 0 comes out as 0,
// so callers have to look for it.
func (a number) inverse() number { return a.power(Prime - 2) }

func (a number) over(b number) number { return a.times(b.inverse()) }

// text tries the denominators from 1 on: the first one that fits shares no divisor with its
// numerator, as a smaller one would have fitted otherwise.
func (a number) text() string {
	for q := int64(1); q <= maxShort; q++ {
		p := int64(a.times(number(q)))
		if p > maxShort {
			p -= Prime
		}
		if p < -maxShort {
			continue
		}
		if q == 1 {
			return strconv.FormatInt(p, 10)
		}
		return strconv.FormatInt(p, 10) + "/" + strconv.FormatInt(q, 10)
	}
	return strconv.FormatInt(int64(a), 10)
}

// areNumbers reports whether all integers of a list are numbers.
func areNumbers(list ...int64) bool {
	for _, a := range list {
		if !IsNumber(a) {
			return false
		}
	}
	return true
}

// isWhole reports whether k is allowed as a part of a fraction and as an exponent.
func isWhole(k int64) bool { return k >= -maxWhole && k <= maxWhole }

// numbersOf copies a list of which areNumbers holds.
func numbersOf(list []int64) []number {
	numbers := make([]number, len(list))
	for i, a := range list {
		numbers[i] = number(a)
	}
	return numbers
}

// integersOf copies numbers into a list that can be returned.
func integersOf(numbers []number) []int64 {
	list := make([]int64, len(numbers))
	for i, a := range numbers {
		list[i] = int64(a)
	}
	return list
}

// IsNumber reports whether a is a number.
func IsNumber(a int64) bool { return a >= 0 && a < Prime }

// NumberOf returns the number of the fraction p/q, and ErrNone; p and q are in
// -1000000000..1000000000. Errors: ErrState if q is divisible by Prime.
func NumberOf(p int64, q int64) (int64, int64) {
	if !isWhole(p) || !isWhole(q) {
		return 0, ErrRange
	}
	bottom := reduced(q)
	if bottom == 0 {
		return 0, ErrState
	}
	return int64(reduced(p).over(bottom)), ErrNone
}

// AddNumbers returns the sum of two numbers, and ErrNone.
func AddNumbers(a int64, b int64) (int64, int64) {
	if !areNumbers(a, b) {
		return 0, ErrRange
	}
	return int64(number(a).plus(number(b))), ErrNone
}

// SubtractNumbers returns the number a less b, and ErrNone.
func SubtractNumbers(a int64, b int64) (int64, int64) {
	if !areNumbers(a, b) {
		return 0, ErrRange
	}
	return int64(number(a).minus(number(b))), ErrNone
}

// MultiplyNumbers returns the product of two numbers, and ErrNone.
func MultiplyNumbers(a int64, b int64) (int64, int64) {
	if !areNumbers(a, b) {
		return 0, ErrRange
	}
	return int64(number(a).times(number(b))), ErrNone
}

// DivideNumbers returns the number a divided by b, and ErrNone. Errors: ErrState if b is 0.
func DivideNumbers(a int64, b int64) (int64, int64) {
	if !areNumbers(a, b) {
		return 0, ErrRange
	}
	if b == 0 {
		return 0, ErrState
	}
	return int64(number(a).over(number(b))), ErrNone
}

// PowerNumber returns the product of k factors a, 1 for k = 0, and that of -k factors which are
// the inverse of a for a negative k; and ErrNone; k is in -1000000000..1000000000. Errors:
// ErrState if a is 0 and k is negative.
func PowerNumber(a int64, k int64) (int64, int64) {
	if !IsNumber(a) || !isWhole(k) {
		return 0, ErrRange
	}
	if k >= 0 {
		return int64(number(a).power(k)), ErrNone
	}
	if a == 0 {
		return 0, ErrState
	}
	return int64(number(a).inverse().power(-k)), ErrNone
}

// SquareRoot returns the least number whose square is a, and ErrNone. Errors: ErrNotFound if there
// is none.
func SquareRoot(a int64) (int64, int64) {
	if !IsNumber(a) {
		return 0, ErrRange
	}
	// Prime is 3 more than a multiple of 4, so this power is a root of a if a has any: its square
	// is a times the power with the exponent (Prime - 1) / 2, which is 1 for squares other than 0.
	root := number(a).power((Prime + 1) / 4)
	if root.times(root) != number(a) {
		return 0, ErrNotFound
	}
	return int64(min(root, root.negative())), ErrNone
}

// RootNumber returns the only number whose power with the exponent k is a, for k = 3 and k = 5,
// and ErrNone. Errors: ErrRange also for other k.
func RootNumber(a int64, k int64) (int64, int64) {
	if !IsNumber(a) || k != 3 && k != 5 {
		return 0, ErrRange
	}
	// Exponents count up to multiples of Prime - 1, which leaves 1 when it is divided by 3 or 5:
	// so this division has no remainder, and k times its result counts like the exponent 1.
	return int64(number(a).power(((k-1)*(Prime-1) + 1) / k)), ErrNone
}

// NumberText returns the text of a number, and ErrNone.
func NumberText(a int64) (string, int64) {
	if !IsNumber(a) {
		return "", ErrRange
	}
	return number(a).text(), ErrNone
}

// ParseNumber returns the number of the fraction whose text is the argument, and ErrNone: a minus
// sign or none, p in decimal, and either nothing, for q = 1, or a slash and q in decimal; p and q
// have at most nine digits, and no superfluous leading zeros, q is at least 1, and `-0` is not
// allowed. (The fraction need not be short.) Errors: ErrSyntax if the text is none; ErrState if q
// is divisible by Prime. (ErrRange is not returned.)
func ParseNumber(text string) (int64, int64) {
	top, bottom, hasSlash := strings.Cut(text, "/")
	if !hasSlash {
		bottom = "1"
	}
	digits, isNegative := strings.CutPrefix(top, "-")
	p, isTop := parseDecimal(digits)
	q, isBottom := parseDecimal(bottom)
	if !isTop || !isBottom || q == 0 || isNegative && p == 0 {
		return 0, ErrSyntax
	}
	if isNegative {
		p = -p
	}
	return NumberOf(p, q)
}

// parseDecimal reads at most maxDigits digits without superfluous leading zeros.
func parseDecimal(text string) (int64, bool) {
	if text == "" || len(text) > maxDigits || text[0] == '0' && text != "0" {
		return 0, false
	}
	n := int64(0)
	for i := range len(text) {
		if text[i] < '0' || text[i] > '9' {
			return 0, false
		}
		n = 10*n + int64(text[i]-'0')
	}
	return n, true
}

// SumOf returns the sum of at most MaxList numbers, and ErrNone.
func SumOf(list []int64) (int64, int64) {
	if len(list) > MaxList || !areNumbers(list...) {
		return 0, ErrRange
	}
	sum := number(0)
	for _, a := range list {
		sum = sum.plus(number(a))
	}
	return int64(sum), ErrNone
}

// DotOf returns the sum of the products of the numbers of two lists with equal indices, and
// ErrNone. Errors: ErrRange also if the lists have different lengths, or more than MaxList
// numbers.
func DotOf(a []int64, b []int64) (int64, int64) {
	if len(a) > MaxList || len(a) != len(b) || !areNumbers(a...) || !areNumbers(b...) {
		return 0, ErrRange
	}
	return int64(dotOf(numbersOf(a), numbersOf(b))), ErrNone
}

// dotOf is DotOf for lists that are known to be equally long.
func dotOf(a []number, b []number) number {
	sum := number(0)
	for i := range a {
		sum = sum.plus(a[i].times(b[i]))
	}
	return sum
}

// isMatrix reports whether a is a matrix.
func isMatrix(a [][]int64) bool {
	if len(a) == 0 || len(a) > MaxRows || len(a[0]) == 0 || len(a[0]) > MaxRows {
		return false
	}
	for _, row := range a {
		if len(row) != len(a[0]) || !areNumbers(row...) {
			return false
		}
	}
	return true
}

// A system has equally long rows of numbers, which its methods change in place.
type system [][]number

// systemOf copies a matrix, and adds some columns with 0 to it.
func systemOf(a [][]int64, columns int) system {
	s := make(system, len(a))
	for i, row := range a {
		s[i] = append(numbersOf(row), make([]number, columns)...)
	}
	return s
}

// reduce brings the first columns into reduced echelon form, and does to the others what this
// takes. It returns the determinant of these columns if they are a square; and in any case 0
// exactly if their rank is less than their number, where it stops early.
func (s system) reduce(columns int) number {
	determinant := number(1)
	for column := range columns {
		pivot := column
		for pivot < len(s) && s[pivot][column] == 0 {
			pivot++
		}
		if pivot == len(s) {
			return 0
		}
		if pivot != column {
			s[pivot], s[column] = s[column], s[pivot]
			determinant = determinant.negative()
		}
		determinant = determinant.times(s[column][column])
		s.eliminate(column)
	}
	return determinant
}

// eliminate scales the row with the index of a column to have 1 in this column, and takes it from
// the other rows to leave 0 there.
func (s system) eliminate(column int) {
	pivot := s[column]
	scale := pivot[column].inverse()
	for k := range pivot {
		pivot[k] = pivot[k].times(scale)
	}
	for i, row := range s {
		factor := row[column]
		if i == column || factor == 0 {
			continue
		}
		for k := range row {
			row[k] = row[k].minus(factor.times(pivot[k]))
		}
	}
}

// MultiplyMatrices returns the product of two matrices, and ErrNone: the number in the row i and
// the column k is DotOf of the row i of a and the column k of b. Errors: ErrState if b does not
// have as many rows as the rows of a have numbers.
func MultiplyMatrices(a [][]int64, b [][]int64) ([][]int64, int64) {
	if !isMatrix(a) || !isMatrix(b) {
		return nil, ErrInvalid
	}
	if len(b) != len(a[0]) {
		return nil, ErrState
	}
	product := make([][]int64, len(a))
	for i := range a {
		row := make([]number, len(b[0]))
		for k := range row {
			row[k] = dotOf(numbersOf(a[i]), columnOf(b, k))
		}
		product[i] = integersOf(row)
	}
	return product, ErrNone
}

// columnOf copies a column of a matrix.
func columnOf(a [][]int64, k int) []number {
	column := make([]number, len(a))
	for i, row := range a {
		column[i] = number(row[k])
	}
	return column
}

// Determinant returns the determinant of a square matrix, and ErrNone. Errors: ErrState if it is
// not square.
func Determinant(a [][]int64) (int64, int64) {
	if !isMatrix(a) {
		return 0, ErrInvalid
	}
	if len(a) != len(a[0]) {
		return 0, ErrState
	}
	return int64(systemOf(a, 0).reduce(len(a))), ErrNone
}

// InverseMatrix returns the matrix whose products with a square matrix, in both orders, have the
// number 1 where row and column are equal, and 0 elsewhere; and ErrNone. Errors: ErrState if it is
// not square, or there is none.
func InverseMatrix(a [][]int64) ([][]int64, int64) {
	if !isMatrix(a) {
		return nil, ErrInvalid
	}
	size := len(a)
	if size != len(a[0]) {
		return nil, ErrState
	}
	s := systemOf(a, size)
	for i := range s {
		s[i][size+i] = 1
	}
	if s.reduce(size) == 0 {
		return nil, ErrState
	}
	inverse := make([][]int64, size)
	for i, row := range s {
		inverse[i] = integersOf(row[size:])
	}
	return inverse, ErrNone
}

// SolveLinear returns the only list x for which the sums of the products of the numbers of the
// rows of a and of those of x are the numbers of right, in order; and ErrNone. Errors: ErrRange
// also if right does not have a number for each row; ErrState if there is not exactly one.
func SolveLinear(a [][]int64, right []int64) ([]int64, int64) {
	if !isMatrix(a) {
		return nil, ErrInvalid
	}
	if len(right) != len(a) || !areNumbers(right...) {
		return nil, ErrRange
	}
	size := len(a[0])
	s := systemOf(a, 1)
	for i := range s {
		s[i][size] = number(right[i])
	}
	if s.reduce(size) == 0 {
		return nil, ErrState
	}
	// The rows behind those of x have only 0 on the left by now: they need it on the right, too.
	x := make([]number, size)
	for i, row := range s {
		if i < size {
			x[i] = row[size]
		} else if row[size] != 0 {
			return nil, ErrState
		}
	}
	return integersOf(x), ErrNone
}
