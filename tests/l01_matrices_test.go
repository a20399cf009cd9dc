package tests

import (
	"fmt"
	"slices"
	"testing"

	"loop.example/g01100/impl"
)

// notMatrices are lists of rows that are none of a matrix.
func notMatrices() [][][]int64 {
	list := [][][]int64{
		nil, {}, {nil}, {{}}, {{}, {}}, {{1}, {}}, {{}, {1}}, {{1, 2}, {3}}, {{1}, {2, 3}}, {{1, 2}, {3, 4}, {5}},
		make([][]int64, impl.MaxRows), make([][]int64, impl.MaxRows+1), {make([]int64, impl.MaxRows+1)},
		square(impl.MaxRows + 1), square(impl.MaxRows + 1)[:impl.MaxRows],
	}
	tooTall := make([][]int64, impl.MaxRows+1)
	for i := range tooTall {
		tooTall[i] = []int64{1}
	}
	list = append(list, tooTall)
	for _, bad := range notNumbers {
		list = append(list, [][]int64{{bad}}, [][]int64{{1, 0}, {0, bad}}, [][]int64{{1, bad}}, [][]int64{{bad}, {1}})
	}
	return list
}

// square is the matrix with 1 where row and column are equal.
func square(size int) [][]int64 {
	matrix := make([][]int64, size)
	for i := range matrix {
		matrix[i] = make([]int64, size)
		matrix[i][i] = 1
	}
	return matrix
}

// plainProduct multiplies by the definition.
func plainProduct(a [][]int64, b [][]int64) [][]int64 {
	product := make([][]int64, len(a))
	for i := range a {
		product[i] = make([]int64, len(b[0]))
		for k := range b[0] {
			for j := range b {
				product[i][k] = (product[i][k] + a[i][j]*b[j][k]) % prime
			}
		}
	}
	return product
}

// plainDeterminant expands by the first row.
func plainDeterminant(a [][]int64) int64 {
	if len(a) == 0 {
		return 1
	}
	sum := int64(0)
	for k := range a {
		minor := make([][]int64, 0, len(a))
		for _, row := range a[1:] {
			minor = append(minor, slices.Concat(row[:k], row[k+1:]))
		}
		term := a[0][k] * plainDeterminant(minor) % prime
		if k%2 == 1 {
			term = -term
		}
		sum += term
	}
	return remainder(sum)
}

// someSquares are square matrices of all sizes, many of them with the determinant 0.
func someSquares() [][][]int64 {
	var list [][][]int64
	entries := []int64{0, 1, 2, 10006}
	for i := range 256 {
		list = append(list, [][]int64{{entries[i%4], entries[i/4%4]}, {entries[i/16%4], entries[i/64]}})
	}
	draw := drawer(2)
	for size := 1; size <= impl.MaxRows; size++ {
		list = append(list, square(size), draw.matrix(size, size))
		mirrored := square(size)
		slices.Reverse(mirrored)
		list = append(list, mirrored)
		// The product of a tall and a wide matrix has a rank less than its size.
		if size > 1 {
			list = append(list, plainProduct(draw.matrix(size, size-1), draw.matrix(size-1, size)))
		}
		zeroRow, zeroColumn := draw.matrix(size, size), draw.matrix(size, size)
		for i := range size {
			zeroRow[size-1][i], zeroColumn[i][size/2] = 0, 0
		}
		list = append(list, zeroRow, zeroColumn)
		for range 6 {
			sparse := make([][]int64, size)
			for i := range sparse {
				sparse[i] = make([]int64, size)
				for k := range sparse[i] {
					sparse[i][k] = entries[draw.below(4)] * draw.below(2)
				}
			}
			list = append(list, sparse)
		}
	}
	return list
}

func TestMultiplyMatrices(t *testing.T) {
	draw := drawer(3)
	for rows := 1; rows <= impl.MaxRows; rows++ {
		for inner := 1; inner <= impl.MaxRows; inner++ {
			for columns := 1; columns <= impl.MaxRows; columns++ {
				a, b := draw.matrix(rows, inner), draw.matrix(inner, columns)
				got, code := impl.MultiplyMatrices(a, b)
				wantRows(t, fmt.Sprintf("MultiplyMatrices(%v, %v)", a, b), got, code, plainProduct(a, b))
			}
		}
	}
}

func TestMultiplyMatricesFaults(t *testing.T) {
	for _, bad := range notMatrices() {
		// The good matrix has a shape that does not fit, which is found later.
		for _, c := range [][2][][]int64{{bad, {{1, 2, 3}}}, {{{1, 2, 3}}, bad}, {bad, bad}} {
			if got, code := impl.MultiplyMatrices(c[0], c[1]); len(got) != 0 || code != impl.ErrInvalid {
				t.Errorf("MultiplyMatrices(%v, %v) = %v, code %d", c[0], c[1], got, code)
			}
		}
	}
	for _, c := range [][2][][]int64{
		{{{1, 2}}, {{1, 2}}}, {{{1}}, {{1}, {2}}}, {{{1}, {2}}, {{1}, {2}}}, {square(8), square(7)}, {square(7), square(8)},
	} {
		if got, code := impl.MultiplyMatrices(c[0], c[1]); len(got) != 0 || code != impl.ErrState {
			t.Errorf("MultiplyMatrices(%v, %v) = %v, code %d", c[0], c[1], got, code)
		}
	}
}

func TestDeterminant(t *testing.T) {
	for _, a := range someSquares() {
		n, code := impl.Determinant(a)
		wantNumber(t, fmt.Sprintf("Determinant(%v)", a), n, code, plainDeterminant(a))
	}
	for _, a := range someNumbers {
		n, code := impl.Determinant([][]int64{{a}})
		wantNumber(t, fmt.Sprintf("Determinant of %d", a), n, code, a)
	}
}

// TestInverseMatrix holds the part of promise 1 about matrices.
func TestInverseMatrix(t *testing.T) {
	regular, singular := 0, 0
	for _, a := range someSquares() {
		inverse, code := impl.InverseMatrix(a)
		if n, _ := impl.Determinant(a); n == 0 {
			singular++
			if len(inverse) != 0 || code != impl.ErrState {
				t.Errorf("InverseMatrix(%v) = %v, code %d; the determinant is 0", a, inverse, code)
			}
			continue
		}
		regular++
		if code != impl.ErrNone || len(inverse) != len(a) || len(inverse[0]) != len(a) {
			t.Errorf("InverseMatrix(%v) = %v, code %d", a, inverse, code)
			continue
		}
		wantRows(t, "the inverse times the matrix", plainProduct(inverse, a), code, square(len(a)))
		wantRows(t, "the matrix times the inverse", plainProduct(a, inverse), code, square(len(a)))
		again, code := impl.InverseMatrix(inverse)
		wantRows(t, "the inverse of the inverse", again, code, a)
	}
	if regular < 40 || singular < 40 {
		t.Errorf("only %d regular and %d singular matrices were tried", regular, singular)
	}
}

func TestSquareMatrixFaults(t *testing.T) {
	for _, bad := range notMatrices() {
		n, code := impl.Determinant(bad)
		wantFault(t, fmt.Sprintf("Determinant(%v)", bad), n, code, impl.ErrInvalid)
		if got, code := impl.InverseMatrix(bad); len(got) != 0 || code != impl.ErrInvalid {
			t.Errorf("InverseMatrix(%v) = %v, code %d", bad, got, code)
		}
	}
	for _, a := range [][][]int64{{{1, 2}}, {{1}, {2}}, square(8)[:7], {{1, 0}, {0, 1}, {0, 0}}, {{1, 0, 0}, {0, 1, 0}}} {
		n, code := impl.Determinant(a)
		wantFault(t, fmt.Sprintf("Determinant(%v)", a), n, code, impl.ErrState)
		if got, code := impl.InverseMatrix(a); len(got) != 0 || code != impl.ErrState {
			t.Errorf("InverseMatrix(%v) = %v, code %d", a, got, code)
		}
	}
}

func TestSolveLinear(t *testing.T) {
	draw := drawer(4)
	for columns := 1; columns <= impl.MaxRows; columns++ {
		for rows := columns; rows <= impl.MaxRows; rows++ {
			a, x := draw.matrix(rows, columns), draw.list(columns)
			// Rows with 0 and equal rows ask for exchanges, and leave one solution where enough others stay.
			if rows > columns+1 {
				a[0], a[1] = make([]int64, columns), slices.Clone(a[rows-1])
			}
			right := make([]int64, rows)
			for i, row := range a {
				right[i], _ = impl.DotOf(row, x)
			}
			call := fmt.Sprintf("SolveLinear(%v, %v)", a, right)
			got, code := impl.SolveLinear(a, right)
			if !slices.Equal(got, x) || code != impl.ErrNone {
				t.Errorf("%s = %v, code %d; want %v", call, got, code, x)
			}
			if rows == columns {
				continue
			}
			right[rows-1] = (right[rows-1] + 1) % prime
			if got, code := impl.SolveLinear(a, right); len(got) != 0 || code != impl.ErrState {
				t.Errorf("SolveLinear(%v, %v) = %v, code %d; there is none", a, right, got, code)
			}
		}
	}
}

func TestSolveLinearFaults(t *testing.T) {
	for _, c := range []struct {
		a     [][]int64
		right []int64
	}{
		{[][]int64{{0}}, []int64{0}}, {[][]int64{{0}}, []int64{1}}, {[][]int64{{1, 1}, {2, 2}}, []int64{3, 6}},
		{[][]int64{{1, 1}, {2, 2}}, []int64{3, 5}}, {[][]int64{{1, 2}}, []int64{1}}, {[][]int64{{1}, {1}}, []int64{1, 2}},
		{[][]int64{{1, 0}, {0, 0}, {2, 0}}, []int64{1, 0, 2}}, {[][]int64{{0, 1}, {0, 2}}, []int64{1, 2}},
		{square(8)[:7], make([]int64, 7)}, {[][]int64{{1, 0}, {0, 1}, {0, 0}}, []int64{1, 2, 3}},
	} {
		if got, code := impl.SolveLinear(c.a, c.right); len(got) != 0 || code != impl.ErrState {
			t.Errorf("SolveLinear(%v, %v) = %v, code %d", c.a, c.right, got, code)
		}
	}
	for _, bad := range notMatrices() {
		for _, right := range [][]int64{nil, {1}, {1, 2}, {-1, prime}} {
			if got, code := impl.SolveLinear(bad, right); len(got) != 0 || code != impl.ErrInvalid {
				t.Errorf("SolveLinear(%v, %v) = %v, code %d", bad, right, got, code)
			}
		}
	}
	// These systems have no single solution either, which is found later.
	singular := [][]int64{{1, 1}, {2, 2}}
	rights := [][]int64{nil, {}, {1}, {1, 2, 3}, {-1}}
	for _, bad := range notNumbers {
		rights = append(rights, []int64{bad, 1}, []int64{1, bad})
	}
	for _, right := range rights {
		if got, code := impl.SolveLinear(singular, right); len(got) != 0 || code != impl.ErrRange {
			t.Errorf("SolveLinear(%v, %v) = %v, code %d", singular, right, got, code)
		}
	}
}

// TestMemory checks that arguments stay as they are, and that results are new memory.
func TestMemory(t *testing.T) {
	draw := drawer(5)
	first, second := draw.matrix(4, 4), draw.matrix(4, 4)
	// A row that begins with 0 makes eliminating exchange rows.
	first[0][0] = 0
	a, b, rows := guarded(first), guarded(second), guarded([][]int64{first[0], second[0]})
	for range 2 {
		impl.SumOf(rows[0])
		impl.DotOf(rows[0], rows[1])
		impl.Determinant(a)
		product, _ := impl.MultiplyMatrices(a, b)
		inverse, _ := impl.InverseMatrix(a)
		x, code := impl.SolveLinear(a, rows[1])
		if len(product) != 4 || len(inverse) != 4 || len(x) != 4 || code != impl.ErrNone {
			t.Fatalf("the results are %v, %v and %v", product, inverse, x)
		}
		wantApart(t, "matrices", slices.Concat(product, inverse, [][]int64{x})...)
		wantUntouched(t, "a function of matrices", a, first)
		wantUntouched(t, "a function of matrices", b, second)
		wantUntouched(t, "a function of lists", rows, [][]int64{first[0], second[0]})
	}
}
