package tests

import (
	"fmt"
	"math"
	"regexp"
	"slices"
	"strings"
	"testing"

	"loop.example/g01100/impl"
)

// tableauOf makes a tableau of texts of fractions: those of the rows of A, and behind them that of B.
func tableauOf(rows ...string) impl.Tableau {
	var x impl.Tableau
	for _, row := range rows {
		var list []int64
		for _, text := range strings.Fields(row) {
			a, _ := impl.ParseNumber(text)
			list = append(list, a)
		}
		x.A = append(x.A, list)
	}
	last := len(rows) - 1
	return impl.Tableau{A: x.A[:last:last], B: x.A[last]}
}

// rowsOf has the rows of A, and behind them B.
func rowsOf(x impl.Tableau) [][]int64 { return append(slices.Clone(x.A), x.B) }

func copyOf(x impl.Tableau) impl.Tableau {
	var a [][]int64
	for _, row := range x.A {
		a = append(a, slices.Clone(row))
	}
	return impl.Tableau{A: a, B: slices.Clone(x.B)}
}

func sameTableau(x impl.Tableau, y impl.Tableau) bool {
	return slices.EqualFunc(x.A, y.A, slices.Equal) && slices.Equal(x.B, y.B)
}

// wantTableau checks a tableau and a code that a call has returned.
func wantTableau(t *testing.T, call string, got impl.Tableau, code int64, want impl.Tableau) {
	t.Helper()
	if !sameTableau(got, want) || code != impl.ErrNone {
		t.Errorf("%s = %v, code %d; want %v", call, got, code, want)
	}
}

// wantNoTableau checks that a call has returned an error code and no tableau.
func wantNoTableau(t *testing.T, call string, got impl.Tableau, code int64, want int64) {
	t.Helper()
	if len(got.A) != 0 || len(got.B) != 0 || code != want {
		t.Errorf("%s = %v, code %d; want none, code %d", call, got, code, want)
	}
}

// tableau draws a tableau, in which some numbers are 0.
func (d *drawer) tableau(stages int) impl.Tableau {
	x := impl.Tableau{B: d.drawn(stages)}
	for range stages {
		x.A = append(x.A, d.drawn(stages))
	}
	return x
}

// explicit draws a tableau that is explicit.
func (d *drawer) explicit(stages int) impl.Tableau {
	x := d.tableau(stages)
	for i, row := range x.A {
		clear(row[i:])
	}
	return x
}

// everyStage is a tableau with the same number everywhere.
func everyStage(stages int, value int64) impl.Tableau {
	x := impl.Tableau{B: slices.Repeat([]int64{value}, stages)}
	for range stages {
		x.A = append(x.A, slices.Clone(x.B))
	}
	return x
}

// root3 is the least number whose square is 3.
func root3() int64 {
	for root := int64(0); ; root++ {
		if root*root%impl.Prime == 3 {
			return root
		}
	}
}

// A namedCase tells what is known of a tableau with a name.
type namedCase struct {
	name       string
	tableau    impl.Tableau
	nodes      []int64
	order      int64
	isExplicit bool
	isDiagonal bool
}

func namedCases() []namedCase {
	third, half, quarter := fraction(1, 3), fraction(1, 2), fraction(1, 4)
	shift := root3() * fraction(1, 6)
	gauss := impl.Tableau{
		A: [][]int64{{quarter, remainder(quarter - shift)}, {remainder(quarter + shift), quarter}},
		B: []int64{half, half},
	}
	gaussNodes := []int64{remainder(half - shift), remainder(half + shift)}
	return []namedCase{
		{"euler", tableauOf("0", "1"), []int64{0}, 1, true, true},
		{"gauss", gauss, gaussNodes, 4, false, false},
		{"heun", tableauOf("0 0", "1 0", "1/2 1/2"), []int64{0, 1}, 2, true, true},
		{"implicit", tableauOf("1", "1"), []int64{1}, 1, false, true},
		{"kutta", tableauOf("0 0 0", "1/2 0 0", "-1 2 0", "1/6 2/3 1/6"), []int64{0, half, 1}, 3, true, true},
		{"lobatto", tableauOf("0 0 0", "5/24 1/3 -1/24", "1/6 2/3 1/6", "1/6 2/3 1/6"), []int64{0, half, 1}, 4, false, false},
		{"middle", tableauOf("1/2", "1"), []int64{half}, 2, false, true},
		{"midpoint", tableauOf("0 0", "1/2 0", "0 1"), []int64{0, half}, 2, true, true},
		{"radau", tableauOf("5/12 -1/12", "3/4 1/4", "3/4 1/4"), []int64{third, 1}, 3, false, false},
		{"ralston", tableauOf("0 0", "2/3 0", "1/4 3/4"), []int64{0, fraction(2, 3)}, 2, true, true},
		{"runge", tableauOf("0 0 0 0", "1/2 0 0 0", "0 1/2 0 0", "0 0 1 0", "1/6 1/3 1/3 1/6"), []int64{0, half, half, 1}, 4, true, true},
		{"trapezoid", tableauOf("0 0", "1/2 1/2", "1/2 1/2"), []int64{0, 1}, 2, false, true},
	}
}

// padded adds a stage that no other one and no number of B asks for.
func padded(x impl.Tableau, row ...int64) impl.Tableau {
	y := impl.Tableau{B: append(slices.Clone(x.B), 0)}
	for _, old := range x.A {
		y.A = append(y.A, append(slices.Clone(old), 0))
	}
	y.A = append(y.A, row)
	return y
}

// fifth is the method of Dormand and Prince, which has the order 5.
func fifth() impl.Tableau {
	return tableauOf("0 0 0 0 0 0", "1/5 0 0 0 0 0", "3/40 9/40 0 0 0 0", "44/45 -56/15 32/9 0 0 0",
		"19372/6561 -25360/2187 64448/6561 -212/729 0 0", "9017/3168 -355/33 46732/5247 49/176 -5103/18656 0",
		"35/384 0 500/1113 125/192 -2187/6784 11/84")
}

// sixth is a method of Butcher, which has the order 6.
func sixth() impl.Tableau {
	return tableauOf("0 0 0 0 0 0 0", "1/3 0 0 0 0 0 0", "0 2/3 0 0 0 0 0", "1/12 1/3 -1/12 0 0 0 0", "-1/16 9/8 -3/16 -3/8 0 0 0",
		"0 9/8 -3/8 -3/4 1/2 0 0", "9/44 -9/11 63/44 18/11 0 -16/11 0", "11/120 0 27/40 27/40 -4/15 -4/15 11/120")
}

// someTableaus are the named ones, such as have high orders, simple ones and drawn ones.
func someTableaus() []impl.Tableau {
	draw := drawer(120)
	var list []impl.Tableau
	for _, named := range namedCases() {
		list = append(list, named.tableau)
	}
	list = append(list, fifth(), sixth(), padded(sixth(), draw.list(8)...), padded(tableauOf("1/2", "1"), 7, 9))
	for stages := 1; stages <= impl.MaxStages; stages++ {
		list = append(list, everyStage(stages, 0), everyStage(stages, 1), everyStage(stages, impl.Prime-1))
		list = append(list, draw.tableau(stages), draw.tableau(stages), draw.explicit(stages))
	}
	return list
}

// altered copies a tableau with another number in A, or in B if the row is that behind A.
func altered(x impl.Tableau, row int, column int, value int64) impl.Tableau {
	y := copyOf(x)
	rowsOf(y)[row][column] = value
	return y
}

// notTableaus are structs that are none: all but some of the last ones have wrong numbers of numbers.
func notTableaus() []impl.Tableau {
	list := []impl.Tableau{
		{}, {A: [][]int64{}, B: []int64{}}, {A: [][]int64{{}}, B: []int64{}}, {A: [][]int64{nil}, B: []int64{1}}, {A: nil, B: []int64{1}},
		{A: [][]int64{{0}}}, {A: [][]int64{{0}, {0}}, B: []int64{1}}, {A: [][]int64{{0}}, B: []int64{1, 1}}, {A: [][]int64{{0, 0}}, B: []int64{1}},
		{A: [][]int64{{0, 0}}, B: []int64{1, 1}}, {A: [][]int64{{0}, {0}}, B: []int64{1, 1}}, {A: [][]int64{{0, 0}, {0}}, B: []int64{1, 1}},
		{A: [][]int64{{0, 0}, {0, 0, 0}}, B: []int64{1, 1}}, {A: [][]int64{{0, 0}, nil}, B: []int64{1, 1}}, {A: [][]int64{nil, {0, 0}}, B: []int64{1, 1}},
		{A: [][]int64{{0}, {0, 0}}, B: []int64{1, 1}}, everyStage(9, 0), everyStage(9, 1), everyStage(16, 0), everyStage(64, 0), everyStage(300, 1),
	}
	for stages := 1; stages <= impl.MaxStages+1; stages++ {
		x := everyStage(stages, 0)
		list = append(list, impl.Tableau{A: x.A}, impl.Tableau{B: x.B}, impl.Tableau{A: x.A, B: x.B[1:]}, impl.Tableau{A: x.A, B: append(x.B, 0)})
		list = append(list, impl.Tableau{A: x.A[1:], B: x.B}, impl.Tableau{A: append(slices.Clone(x.A), x.B), B: x.B})
		for i := range x.A {
			short, long := slices.Clone(x.A), slices.Clone(x.A)
			short[i], long[i] = x.B[1:], append(slices.Clone(x.B), 0)
			list = append(list, impl.Tableau{A: short, B: x.B}, impl.Tableau{A: long, B: x.B})
		}
	}
	for _, bad := range append(slices.Clone(notNumbers), 1<<16+1, 1<<32, 1<<32+1) {
		list = append(list, everyStage(1, bad), everyStage(8, bad), everyStage(9, bad), impl.Tableau{A: [][]int64{{bad}}, B: []int64{}})
		for _, place := range []int{0, 1, 2} {
			list = append(list, altered(everyStage(2, 1), place, 0, bad), altered(everyStage(2, 1), place, 1, bad))
		}
	}
	return list
}

func TestTableauExamples(t *testing.T) {
	middle, heun := tableauOf("1/2", "1"), tableauOf("0 0", "1 0", "1/2 1/2")
	x, code := impl.ParseTableau("1/2|1")
	wantTableau(t, "ParseTableau(1/2|1)", x, code, middle)
	text, code := impl.TableauText(tableauOf("0 0", "1/2 0", "0 1"))
	wantText(t, "TableauText(midpoint)", text, code, "0 0;1/2 0|0 1")
	weights, code := impl.StageWeights(heun, []int64{0, 1})
	wantList(t, "StageWeights(heun, {0, 1})", weights, code, []int64{0, 1})
	n, code := impl.WeightOf(heun, []int64{0, 1})
	wantNumber(t, "WeightOf(heun, {0, 1})", n, code, 5004)
	for name, order := range map[string]int64{"euler": 1, "heun": 2, "kutta": 3, "runge": 4} {
		x, code := impl.NamedTableau(name)
		if code != impl.ErrNone {
			t.Errorf("NamedTableau(%q) has the code %d", name, code)
		}
		n, code := impl.OrderOf(x)
		wantNumber(t, "OrderOf "+name, n, code, order)
	}
	residuals, code := impl.ResidualsOf(tableauOf("0", "1"), 2)
	wantList(t, "ResidualsOf(euler, 2)", residuals, code, []int64{5003})
}

func TestIsTableau(t *testing.T) {
	if impl.MaxStages != 8 {
		t.Errorf("MaxStages = %d", impl.MaxStages)
	}
	for _, x := range someTableaus() {
		if !impl.IsTableau(x) {
			t.Errorf("%v is told to be no tableau", x)
		}
	}
	bad := notTableaus()
	for stages := 1; stages <= impl.MaxStages; stages++ {
		x := everyStage(stages, impl.Prime-1)
		for row := range stages + 1 {
			for column := range stages {
				bad = append(bad, altered(x, row, column, -1), altered(x, row, column, impl.Prime))
			}
		}
	}
	for _, x := range bad {
		if impl.IsTableau(x) {
			t.Errorf("%v is told to be a tableau", x)
		}
	}
}

// TestNamedTableaus checks all that is known of the tableaus with names.
func TestNamedTableaus(t *testing.T) {
	var names []string
	for _, named := range namedCases() {
		names = append(names, named.name)
		x, code := impl.NamedTableau(named.name)
		wantTableau(t, named.name, x, code, named.tableau)
		nodes, code := impl.NodesOf(x)
		wantList(t, "NodesOf "+named.name, nodes, code, named.nodes)
		is, code := impl.IsExplicit(x)
		wantTruth(t, "IsExplicit "+named.name, is, code, named.isExplicit)
		is, code = impl.IsDiagonal(x)
		wantTruth(t, "IsDiagonal "+named.name, is, code, named.isDiagonal)
		order, code := impl.OrderOf(x)
		wantNumber(t, "OrderOf "+named.name, order, code, named.order)
	}
	got := impl.TableauNames()
	if !slices.Equal(got, names) || !slices.IsSorted(got) {
		t.Errorf("TableauNames() = %q, want %q", got, names)
	}
	for _, name := range names {
		for _, bad := range []string{strings.ToUpper(name), strings.ToUpper(name[:1]) + name[1:], name + " ", " " + name, name + "\x00", name[1:], name[:len(name)-1], name + name} {
			x, code := impl.NamedTableau(bad)
			wantNoTableau(t, fmt.Sprintf("NamedTableau(%q)", bad), x, code, impl.ErrNotFound)
		}
	}
	for _, bad := range []string{"", " ", "-", "|", "0", "0|1", "neutral", "euler\n", "euler,gauss", "\xff", "\u00e9uler", strings.Repeat("euler", 1000)} {
		x, code := impl.NamedTableau(bad)
		wantNoTableau(t, fmt.Sprintf("NamedTableau(%q)", bad), x, code, impl.ErrNotFound)
	}
}

// TestNodesOf adds the numbers of rows one after the other.
func TestNodesOf(t *testing.T) {
	for _, x := range someTableaus() {
		var want []int64
		for _, row := range x.A {
			sum := int64(0)
			for _, a := range row {
				sum = (sum + a) % impl.Prime
			}
			want = append(want, sum)
		}
		got, code := impl.NodesOf(x)
		wantList(t, fmt.Sprintf("NodesOf(%v)", x), got, code, want)
	}
}

// TestKindsOfTableaus puts one number other than 0 at each place, and looks at drawn tableaus.
func TestKindsOfTableaus(t *testing.T) {
	draw := drawer(121)
	check := func(x impl.Tableau, isExplicit bool, isDiagonal bool) {
		t.Helper()
		is, code := impl.IsExplicit(x)
		wantTruth(t, fmt.Sprintf("IsExplicit(%v)", x), is, code, isExplicit)
		is, code = impl.IsDiagonal(x)
		wantTruth(t, fmt.Sprintf("IsDiagonal(%v)", x), is, code, isDiagonal)
	}
	for stages := 1; stages <= impl.MaxStages; stages++ {
		x := draw.explicit(stages)
		check(x, true, true)
		check(everyStage(stages, 0), true, true)
		check(everyStage(stages, 1), false, stages == 1)
		for i := range stages {
			for k := range stages {
				for _, value := range []int64{1, impl.Prime - 1} {
					check(altered(x, i, k, value), k < i, k <= i)
					check(altered(everyStage(stages, 0), i, k, value), k < i, k <= i)
				}
			}
			check(altered(everyStage(stages, 0), stages, i, 1), true, true)
		}
		for i := range stages {
			x = altered(x, i, i, 1+draw.below(impl.Prime-1))
			check(x, false, true)
		}
	}
}

// TestTableauText puts the texts of numbers together, and parses them again.
func TestTableauText(t *testing.T) {
	draw := drawer(122)
	list := someTableaus()
	for _, a := range someNumbers {
		list = append(list, everyStage(1, a), everyStage(2, a))
	}
	for range 50 {
		x := everyStage(1+int(draw.below(impl.MaxStages)), 0)
		for _, row := range rowsOf(x) {
			for k := range row {
				row[k] = someNumbers[draw.below(int64(len(someNumbers)))]
			}
		}
		list = append(list, x)
	}
	for _, x := range list {
		want := ""
		for i, row := range rowsOf(x) {
			for k, a := range row {
				text, _ := impl.NumberText(a)
				want += text
				if k < len(row)-1 {
					want += " "
				}
			}
			if i < len(x.A)-1 {
				want += ";"
			} else if i < len(x.A) {
				want += "|"
			}
		}
		text, code := impl.TableauText(x)
		wantText(t, fmt.Sprintf("TableauText(%v)", x), text, code, want)
		back, code := impl.ParseTableau(text)
		wantTableau(t, fmt.Sprintf("ParseTableau(%q)", text), back, code, x)
	}
	text, code := impl.TableauText(tableauOf("0 71 -70", "1/70 70/69 10006", "5003 -1/2 100", "1/71 2/4 -7/3"))
	wantText(t, "TableauText", text, code, fmt.Sprintf("0 71 -70;1/70 70/69 -1;-1/2 -1/2 100|%d 1/2 -7/3", fraction(1, 71)))
}

var numberForm = regexp.MustCompile(`^-?(0|[1-9][0-9]{0,8})(/[1-9][0-9]{0,8})?$`)

// plainParse reads a tableau by a form of numbers, and by their number.
func plainParse(text string) (impl.Tableau, bool) {
	parts := strings.Split(text, "|")
	if len(parts) != 2 {
		return impl.Tableau{}, false
	}
	rows := append(strings.Split(parts[0], ";"), parts[1])
	stages := len(rows) - 1
	for _, row := range rows {
		numbers := strings.Split(row, " ")
		if len(numbers) != stages || stages > 8 {
			return impl.Tableau{}, false
		}
		for _, a := range numbers {
			_, code := impl.ParseNumber(a)
			if !numberForm.MatchString(a) || strings.HasPrefix(a, "-0") || code != impl.ErrNone {
				return impl.Tableau{}, false
			}
		}
	}
	return tableauOf(rows...), true
}

// wantParsed compares ParseTableau with plainParse, and tells whether there is a tableau.
func wantParsed(t *testing.T, text string) bool {
	t.Helper()
	want, isTableau := plainParse(text)
	got, code := impl.ParseTableau(text)
	if isTableau {
		wantTableau(t, fmt.Sprintf("ParseTableau(%q)", text), got, code, want)
	} else {
		wantNoTableau(t, fmt.Sprintf("ParseTableau(%q)", text), got, code, impl.ErrSyntax)
	}
	return isTableau
}

// TestParseTableau takes texts of numbers that are not short, or not written as fractions are.
func TestParseTableau(t *testing.T) {
	for text, want := range map[string]impl.Tableau{
		"0|1":                               tableauOf("0", "1"),
		"2/4|5/5":                           tableauOf("1/2", "1"),
		"0/7|10008":                         tableauOf("0", "1"),
		"10007|-10006":                      tableauOf("0", "1"),
		"999999999|-999999999/999999999":    tableauOf("999999999", "-1"),
		"10007/2|1/10008":                   tableauOf("0", "1"),
		"0 0;30/15 0|3/6 5004":              tableauOf("0 0", "2 0", "1/2 1/2"),
		"1 2 3;4 5 6;7 8 9|-1 -2 -3":        tableauOf("1 2 3", "4 5 6", "7 8 9", "-1 -2 -3"),
		"0 0;1 0|1/2 1/2":                   tableauOf("0 0", "1 0", "1/2 1/2"),
		"10000 9999;5000 5003|9937 9936/1":  tableauOf("10000 9999", "5000 5003", "-70 -71"),
		"-10/100 1/10;-20/40 20/40|1/2 4/8": tableauOf("-1/10 1/10", "-1/2 1/2", "1/2 1/2"),
	} {
		got, code := impl.ParseTableau(text)
		wantTableau(t, fmt.Sprintf("ParseTableau(%q)", text), got, code, want)
	}
	for _, a := range []int64{0, 1, impl.Prime - 1} {
		for stages := 1; stages <= 12; stages++ {
			x := everyStage(stages, a)
			var rows []string
			for _, row := range rowsOf(x) {
				rows = append(rows, strings.Trim(fmt.Sprint(row), "[]"))
			}
			text := strings.Join(rows[:stages], ";") + "|" + rows[stages]
			if wantParsed(t, text) != (stages <= impl.MaxStages) {
				t.Errorf("the test reads %q in another way", text)
			}
		}
	}
}

// TestParseTableauSyntax has texts that are almost those of tableaus.
func TestParseTableauSyntax(t *testing.T) {
	for _, text := range []string{
		"", "|", "||", ";", "; |", " ", "0", "1", "0 1", "0;1", "0|", "|1", "0||1", "|0|1", "0|1|", "1|1|1", "0|1;", ";0|1", "0;|1", "0|;1", "0;|1 1", ";0|1 1",
		" 0|1", "0 |1", "0| 1", "0|1 ", "0  0;0 0|1 1", "0 0; 0 0|1 1", "0 0 ;0 0|1 1", "0 0;0 0 |1 1", "0 0;0 0| 1 1", "0 0;0 0|1 1 ", "0 0;0 0|1  1",
		"0 0;;0 0|1 1", "0 0;0 0;|1 1", "0 0;0 0|1;1", "0 0|1 1", "0 0;0 0|1", "0;0|1", "0;0|1 1", "0 0;0|1 1", "0;0 0|1 1", "0 0;0 0 0|1 1", "0 0 0;0 0 0|1 1",
		"1/10007|1", "0|1/10007", "1/20014|1", "0|0/10007", "1/0|1", "0|1/0", "0|0/0", "-0|1", "0|-0", "+1|1", "00|1", "01|1", "0|01", "1/02|1", "1/-2|1", "--1|1",
		"1/|1", "/1|1", "1/2/3|1", "1 /2|1", "0.5|1", "1e0|1", "x|1", "0|x", "1000000000|1", "0|1/1000000000", "-1000000000|1", "0,0;0,0|1,1", "0\t0;0\t0|1\t1",
		"0|1\n", "\n0|1", "0\n|1", "0|\n1", "0 0\n0 0|1 1", "0|1\x00", "\ufeff0|1", "\u0660|1", "0|\u00b9", "\xff|1", "0\u00a00;0 0|1 1", "0:1", "0/1",
		strings.Repeat(" ", 1000), strings.Repeat(";", 1000), strings.Repeat("|", 1000), strings.Repeat("0;", 1000) + "0|1", "0|" + strings.Repeat("1 ", 1000) + "1",
		strings.Repeat("0 ", 1000) + "0|1", strings.Repeat("1", 1000) + "|1",
	} {
		if wantParsed(t, text) {
			t.Errorf("the test reads %q", text)
		}
	}
}

// TestParseAllTexts takes all texts of some characters, and changes longer ones at each place.
func TestParseAllTexts(t *testing.T) {
	texts, found := []string{""}, 0
	for range 6 {
		var longer []string
		for _, text := range texts {
			for _, more := range []string{"0", "1", " ", ";", "|", "-", "/"} {
				longer = append(longer, text+more)
			}
		}
		texts = longer
		for _, text := range texts {
			if wantParsed(t, text) {
				found++
			}
		}
	}
	if found < 50 {
		t.Errorf("there are %d texts of tableaus", found)
	}
	for _, text := range []string{"0 0;1/2 0|0 1", "-1/2|10007", "1 2 3;4 5 6;7 8 9|-1 -2/3 4", "0 0;10/7 1/10006|-1 1"} {
		for i := range len(text) + 1 {
			for _, more := range []string{"0", "7", " ", ";", "|", "-", "/", "\n", "x", ",", "[", "\xff"} {
				wantParsed(t, text[:i]+more+text[i:])
				if i < len(text) {
					wantParsed(t, text[:i]+more+text[i+1:])
				}
			}
			wantParsed(t, text[:i])
			wantParsed(t, text[i:])
			if i < len(text) {
				wantParsed(t, text[:i]+text[i+1:])
			}
		}
	}
}

// beyondNodes are no numbers of nodes for which there are residuals.
var beyondNodes = append([]int64{0}, beyondOrders...)

// TestTableausInvalid has several wrong arguments at once: ErrInvalid comes first.
func TestTableausInvalid(t *testing.T) {
	for _, x := range notTableaus() {
		call := func(name string) string { return fmt.Sprintf("%s with %v", name, x) }
		list, code := impl.NodesOf(x)
		wantNone(t, call("NodesOf"), list, code, impl.ErrInvalid)
		list, code = impl.CharacterOf(x)
		wantNone(t, call("CharacterOf"), list, code, impl.ErrInvalid)
		is, code := impl.IsExplicit(x)
		wantNoTruth(t, call("IsExplicit"), is, code, impl.ErrInvalid)
		is, code = impl.IsDiagonal(x)
		wantNoTruth(t, call("IsDiagonal"), is, code, impl.ErrInvalid)
		n, code := impl.OrderOf(x)
		wantFault(t, call("OrderOf"), n, code, impl.ErrInvalid)
		text, code := impl.TableauText(x)
		if text != "" || code != impl.ErrInvalid {
			t.Errorf("%s = %q, code %d", call("TableauText"), text, code)
		}
		for _, tree := range [][]int64{{0}, {0, 1, 1}, {1}, nil, tall(8), tall(9)} {
			list, code = impl.StageWeights(x, tree)
			wantNone(t, call("StageWeights"), list, code, impl.ErrInvalid)
			n, code = impl.WeightOf(x, tree)
			wantFault(t, call("WeightOf"), n, code, impl.ErrInvalid)
		}
		for _, nodes := range append(slices.Clone(beyondNodes), 1, 2, impl.MaxOrder) {
			list, code = impl.ResidualsOf(x, nodes)
			wantNone(t, call("ResidualsOf"), list, code, impl.ErrInvalid)
			n, code = impl.FirstFault(x, nodes)
			wantFault(t, call("FirstFault"), n, code, impl.ErrInvalid)
		}
	}
	for _, x := range someTableaus() {
		for _, tree := range notLevels() {
			list, code := impl.StageWeights(x, tree)
			wantNone(t, fmt.Sprintf("StageWeights(%v, %v)", x, tree), list, code, impl.ErrInvalid)
			n, code := impl.WeightOf(x, tree)
			wantFault(t, fmt.Sprintf("WeightOf(%v, %v)", x, tree), n, code, impl.ErrInvalid)
		}
	}
}

// TestTableausRange has tableaus with and without faults, for which ErrNotFound comes later.
func TestTableausRange(t *testing.T) {
	for _, x := range someTableaus() {
		for _, n := range append(slices.Clone(beyondNodes), impl.MaxNodes, 1<<32+1, 1<<8+1, math.MinInt64+1) {
			list, code := impl.ResidualsOf(x, n)
			wantNone(t, fmt.Sprintf("ResidualsOf(%v, %d)", x, n), list, code, impl.ErrRange)
			index, code := impl.FirstFault(x, n)
			wantFault(t, fmt.Sprintf("FirstFault(%v, %d)", x, n), index, code, impl.ErrRange)
		}
	}
}

// resultsOfTableau calls all functions of chapter 9 that return numbers.
func resultsOfTableau(x impl.Tableau, tree []int64) [][]int64 {
	lists := [][]int64{must(impl.NodesOf(x)), must(impl.StageWeights(x, tree)), must(impl.StageWeights(x, []int64{0})), must(impl.CharacterOf(x))}
	for n := int64(1); n <= impl.MaxOrder; n++ {
		lists = append(lists, must(impl.ResidualsOf(x, n)))
	}
	return lists
}

// TestTableausMemory checks that arguments stay as they are, and that results are new memory.
func TestTableausMemory(t *testing.T) {
	draw := drawer(123)
	for stages := 1; stages <= impl.MaxStages; stages++ {
		x, tree := draw.tableau(stages), []int64{0, 1, 1, 2, 3, 2}
		rows, trees := guarded(rowsOf(x)), guarded([][]int64{tree})
		y := impl.Tableau{A: rows[:stages], B: rows[stages]}
		want := resultsOfTableau(x, tree)
		got := resultsOfTableau(y, trees[0])
		wantRows(t, "the functions of tableaus", got, impl.ErrNone, want)
		wantApart(t, "the functions of tableaus", append(got, resultsOfTableau(y, trees[0])...)...)
		wantRows(t, "the functions of tableaus", resultsOfTableau(y, trees[0]), impl.ErrNone, want)
		impl.IsTableau(y)
		impl.IsExplicit(y)
		impl.IsDiagonal(y)
		impl.WeightOf(y, trees[0])
		impl.OrderOf(y)
		impl.FirstFault(y, 6)
		impl.TableauText(y)
		wantUntouched(t, "a function of tableaus", rows, rowsOf(x))
		wantUntouched(t, "a function of tableaus", trees, [][]int64{tree})
	}
}

// TestNamesMemory writes into names and tableaus, which must not come back.
func TestNamesMemory(t *testing.T) {
	for range 2 {
		names := impl.TableauNames()
		spare := names[:cap(names)]
		for i := range spare {
			spare[i] = "none"
		}
		var rows [][]int64
		for _, named := range namedCases() {
			x, code := impl.NamedTableau(named.name)
			wantTableau(t, named.name, x, code, named.tableau)
			again, code := impl.NamedTableau(named.name)
			wantTableau(t, named.name, again, code, named.tableau)
			rows = append(append(rows, rowsOf(x)...), rowsOf(again)...)
			text, _ := impl.TableauText(x)
			read, code := impl.ParseTableau(text)
			wantTableau(t, text, read, code, named.tableau)
			rows = append(rows, rowsOf(read)...)
		}
		wantApart(t, "NamedTableau and ParseTableau", rows...)
		if names := impl.TableauNames(); len(names) != 12 || names[0] != "euler" || names[11] != "trapezoid" {
			t.Errorf("TableauNames() = %q", names)
		}
	}
	x, _ := impl.ParseTableau("0 0;1 0|1/2 1/2")
	spare := x.A[:cap(x.A)]
	for i := range spare {
		spare[i] = nil
	}
	x, code := impl.ParseTableau("0 0;1 0|1/2 1/2")
	wantTableau(t, "ParseTableau", x, code, tableauOf("0 0", "1 0", "1/2 1/2"))
}
