package tests

import (
	"math"
	"slices"
	"testing"

	"loop.example/g01100/impl"
)

// notNumbers are integers just outside the field, and at both ends of int64.
var notNumbers = []int64{-1, impl.Prime, -impl.Prime, impl.Prime + 1, math.MinInt64, math.MaxInt64}

// someNumbers are numbers at both ends of the field, at short fractions and elsewhere.
var someNumbers = []int64{0, 1, 2, 3, 7, 70, 71, 100, 5003, 5004, 3336, 9936, 9937, 10005, 10006}

// wantNumber checks a number and a code that a call has returned.
func wantNumber(t *testing.T, call string, got int64, code int64, want int64) {
	t.Helper()
	if got != want || code != impl.ErrNone {
		t.Errorf("%s = %d, code %d; want %d", call, got, code, want)
	}
}

// wantFault checks that a call has returned an error code and 0.
func wantFault(t *testing.T, call string, got int64, code int64, want int64) {
	t.Helper()
	if got != 0 || code != want {
		t.Errorf("%s = %d, code %d; want 0, code %d", call, got, code, want)
	}
}

// wantList checks a list and a code that a call has returned.
func wantList(t *testing.T, call string, got []int64, code int64, want []int64) {
	t.Helper()
	if !slices.Equal(got, want) || code != impl.ErrNone {
		t.Errorf("%s = %v, code %d; want %v", call, got, code, want)
	}
}

// wantNone checks that a call has returned an error code and no list.
func wantNone[T any](t *testing.T, call string, got []T, code int64, want int64) {
	t.Helper()
	if len(got) != 0 || code != want {
		t.Errorf("%s = %v, code %d; want none, code %d", call, got, code, want)
	}
}

// wantText checks a text and a code that a call has returned.
func wantText(t *testing.T, call string, got string, code int64, want string) {
	t.Helper()
	if got != want || code != impl.ErrNone {
		t.Errorf("%s = %q, code %d; want %q", call, got, code, want)
	}
}

// wantTruth checks a bool and a code that a call has returned.
func wantTruth(t *testing.T, call string, got bool, code int64, want bool) {
	t.Helper()
	if got != want || code != impl.ErrNone {
		t.Errorf("%s = %v, code %d; want %v", call, got, code, want)
	}
}

// wantNoTruth checks that a call has returned an error code and false.
func wantNoTruth(t *testing.T, call string, got bool, code int64, want int64) {
	t.Helper()
	if got || code != want {
		t.Errorf("%s = %v, code %d; want false, code %d", call, got, code, want)
	}
}

// must leaves nothing of a result beside an error code.
func must[T any](list []T, code int64) []T {
	if code != impl.ErrNone {
		return nil
	}
	return list
}

// wantRows checks a list of lists and a code that a call has returned.
func wantRows(t *testing.T, call string, got [][]int64, code int64, want [][]int64) {
	t.Helper()
	if !slices.EqualFunc(got, want, slices.Equal) || code != impl.ErrNone {
		t.Errorf("%s = %v, code %d; want %v", call, got, code, want)
	}
}

// drawer draws numbers by a fixed rule, so that each run sees the same ones.
type drawer uint32

func (d *drawer) below(n int64) int64 {
	*d = *d*1664525 + 1013904223
	return int64(*d>>8) % n
}

func (d *drawer) list(length int) []int64 {
	list := make([]int64, length)
	for i := range list {
		list[i] = d.below(impl.Prime)
	}
	return list
}

func (d *drawer) matrix(rows int, columns int) [][]int64 {
	matrix := make([][]int64, rows)
	for i := range matrix {
		matrix[i] = d.list(columns)
	}
	return matrix
}

// guarded copies lists so that each has spare capacity with known numbers behind it.
func guarded(rows [][]int64) [][]int64 {
	copied := make([][]int64, len(rows), len(rows)+1)
	for i, row := range rows {
		copied[i] = append(append(make([]int64, 0, len(row)+2), row...), 77, 78)[:len(row)]
	}
	return copied
}

// wantUntouched checks that lists made by guarded, and what is behind them, are as they were.
func wantUntouched(t *testing.T, call string, got [][]int64, want [][]int64) {
	t.Helper()
	for i, row := range got {
		spare := row[len(row) : len(row)+2]
		if !slices.Equal(row, want[i]) || !slices.Equal(spare, []int64{77, 78}) {
			t.Errorf("%s has changed its argument to %v and %v; it was %v", call, row, spare, want[i])
		}
	}
	if got[:len(got)+1][len(got)] != nil {
		t.Errorf("%s has changed what is behind its argument", call)
	}
}

// wantApart checks that no list shares memory, spare capacity included, with another one.
func wantApart(t *testing.T, call string, lists ...[]int64) {
	t.Helper()
	for i, list := range lists {
		for k := range list[:cap(list)] {
			list[:cap(list)][k] = int64(-1 - i)
		}
	}
	for i, list := range lists {
		for _, a := range list[:cap(list)] {
			if a != int64(-1-i) {
				t.Errorf("%s: list %d shares memory with another one", call, i)
				break
			}
		}
	}
}
