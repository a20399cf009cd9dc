package tests

import (
	"cmp"
	"fmt"
	"slices"
	"strings"
	"testing"

	"loop.example/g01100/impl"
)

// plainForests makes all forests with at most n nodes, by adding trees that do not come before the
// last one.
func plainForests(n int) [][][]int64 {
	trees := plainTrees(n)
	forests := [][][]int64{nil}
	last := []int{0}
	for k := 0; k < len(forests); k++ {
		for i := last[k]; i < len(trees); i++ {
			if plainNodes(forests[k])+len(trees[i].list()) <= n {
				forests = append(forests, append(slices.Clone(forests[k]), trees[i].list()))
				last = append(last, i)
			}
		}
	}
	return forests
}

func plainNodes(f [][]int64) int {
	return len(slices.Concat(f...))
}

// plainProductOf sorts the trees of forests.
func plainProductOf(forests ...[][]int64) [][]int64 {
	product := slices.Concat(forests...)
	slices.SortFunc(product, plainOrder)
	return product
}

func plainForestText(f [][]int64) string {
	text := ""
	for _, list := range f {
		text += plainText(list)
	}
	return cmp.Or(text, "-")
}

// shuffled changes the order of trees, and takes other lists of them.
func (d *drawer) shuffled(f [][]int64) [][]int64 {
	other := make([][]int64, len(f))
	for i, list := range f {
		lists := plainLike(list)
		other[i] = lists[d.below(int64(len(lists)))]
		k := d.below(int64(i + 1))
		other[i], other[k] = other[k], other[i]
	}
	return other
}

// copies is a list of equal lists.
func copies(list []int64, times int) [][]int64 {
	return slices.Repeat([][]int64{list}, times)
}

// notForests are lists of lists that are no forest.
func notForests() [][][]int64 {
	list := [][][]int64{
		{{0, 1}, {0}}, {{0}, {0, 1}, {0}}, {{0, 1, 1}, {0, 1, 2}}, {{0, 1, 1}, {0, 1}}, {{0}, {0, 1, 1}, {0, 1, 2}},
		{{0, 1, 1, 2}}, {{0}, {0, 1, 1, 2}}, {{0, 1, 1, 2}, {0, 1, 2, 1}}, {{0, 1, 2, 1}, {0, 1, 1, 2}}, {{0, 1, 1, 2, 2, 1}},
		copies([]int64{0}, impl.MaxNodes+1), copies([]int64{0, 1}, impl.MaxNodes/2+1), copies([]int64{0, 1, 2}, 3), copies([]int64{0}, 1000),
		{{0}, tall(impl.MaxNodes)}, {{0}, bush(impl.MaxNodes)}, copies(tall(impl.MaxNodes), 2), {tall(impl.MaxNodes), {0}},
		{tall(impl.MaxNodes), nil}, append(copies([]int64{0}, impl.MaxNodes), nil), append(copies([]int64{0}, impl.MaxNodes), []int64{1}),
		copies(nil, 3), copies(nil, 100),
	}
	for _, bad := range notLevels() {
		list = append(list, [][]int64{bad}, [][]int64{bad, {0}}, [][]int64{{0}, bad}, [][]int64{{0}, {0}, bad, {0, 1}})
	}
	return list
}

func TestIsForest(t *testing.T) {
	forests := plainForests(impl.MaxNodes)
	// There are as many forests with n nodes as trees with one more.
	counts := make([]int, impl.MaxNodes+1)
	for _, f := range forests {
		counts[plainNodes(f)]++
		if !impl.IsForest(f) {
			t.Errorf("IsForest(%v) is false", f)
		}
	}
	if !slices.Equal(counts, []int{1, 1, 2, 4, 9, 20, 48, 115, 286}) {
		t.Errorf("there are %v forests", counts)
	}
	for _, f := range notForests() {
		if impl.IsForest(f) {
			t.Errorf("IsForest(%v) is true", f)
		}
	}
}

// TestEachForest checks what makes forests and texts of them, and holds the part of promise 3 about
// the texts of forests.
func TestEachForest(t *testing.T) {
	draw := drawer(30)
	for _, f := range plainForests(impl.MaxNodes) {
		for range 3 {
			list := draw.shuffled(f)
			got, code := impl.ForestOf(list)
			wantRows(t, fmt.Sprintf("ForestOf(%v)", list), got, code, f)
			isForest := slices.EqualFunc(list, f, slices.Equal)
			if impl.IsForest(list) != isForest {
				t.Errorf("IsForest(%v) is %v", list, !isForest)
			}
		}
		text, code := impl.ForestText(f)
		wantText(t, fmt.Sprintf("ForestText(%v)", f), text, code, plainForestText(f))
		got, code := impl.ParseForest(text)
		wantRows(t, fmt.Sprintf("ParseForest(%q)", text), got, code, f)
	}
}

func TestEmptyForest(t *testing.T) {
	for _, none := range [][][]int64{nil, {}} {
		if !impl.IsForest(none) {
			t.Error("IsForest is false for the empty forest")
		}
		got, code := impl.ForestOf(none)
		wantRows(t, "ForestOf no lists", got, code, nil)
		got, code = impl.TimesForests(none, none)
		wantRows(t, "TimesForests of empty forests", got, code, nil)
		got, code = impl.TimesForests(none, [][]int64{{0}, {0, 1}})
		wantRows(t, "TimesForests of the empty forest", got, code, [][]int64{{0}, {0, 1}})
		text, code := impl.ForestText(none)
		wantText(t, "ForestText of the empty forest", text, code, "-")
		list, code := impl.RootOn(none)
		wantList(t, "RootOn the empty forest", list, code, []int64{0})
	}
	got, code := impl.ParseForest("-")
	wantRows(t, "ParseForest of the empty forest", got, code, nil)
	list, code := impl.ParseTree("-")
	wantNone(t, "ParseTree of the empty forest", list, code, impl.ErrSyntax)
}

func TestRootOn(t *testing.T) {
	made := map[string]bool{}
	for _, f := range plainForests(impl.MaxNodes) {
		call := fmt.Sprintf("RootOn(%v)", f)
		got, code := impl.RootOn(f)
		if plainNodes(f) == impl.MaxNodes {
			wantNone(t, call, got, code, impl.ErrLimit)
			continue
		}
		if code != impl.ErrNone || !impl.IsTree(got) || len(got) != plainNodes(f)+1 {
			t.Errorf("%s = %v, code %d", call, got, code)
			continue
		}
		wantRows(t, "the branches of "+call, plainBranches(got), code, f)
		branches, code := impl.BranchesOf(got)
		wantRows(t, "BranchesOf "+call, branches, code, f)
		made[fmt.Sprint(got)] = true
	}
	if len(made) != impl.AllTrees {
		t.Errorf("RootOn makes %d trees", len(made))
	}
}

// TestTimesForests holds the part of promise 3 about products.
func TestTimesForests(t *testing.T) {
	forests := plainForests(impl.MaxNodes)
	for _, f := range forests {
		for _, g := range forests {
			nodes := plainNodes(f) + plainNodes(g)
			if nodes > impl.MaxNodes+1 {
				continue
			}
			call := fmt.Sprintf("TimesForests(%v, %v)", f, g)
			got, code := impl.TimesForests(f, g)
			if nodes > impl.MaxNodes {
				wantNone(t, call, got, code, impl.ErrLimit)
			} else {
				wantRows(t, call, got, code, plainProductOf(f, g))
			}
		}
	}
	small := plainForests(3)
	for _, f := range small {
		for _, g := range small {
			for _, h := range small[:len(small)/2] {
				left, code := impl.TimesForests(must(impl.TimesForests(f, g)), h)
				if plainNodes(f)+plainNodes(g)+plainNodes(h) > impl.MaxNodes {
					wantNone(t, fmt.Sprintf("the product of %v, %v and %v", f, g, h), left, code, impl.ErrLimit)
					continue
				}
				wantRows(t, fmt.Sprintf("the product of %v, %v and %v", f, g, h), left, code, plainProductOf(f, g, h))
				right, code := impl.TimesForests(must(impl.TimesForests(h, g)), f)
				wantRows(t, fmt.Sprintf("the product of %v, %v and %v", h, g, f), right, code, left)
			}
		}
	}
	full := copies(tall(impl.MaxNodes), 1)
	got, code := impl.TimesForests(full, full)
	wantNone(t, "TimesForests of two forests with all nodes", got, code, impl.ErrLimit)
}

func TestForestOfLimit(t *testing.T) {
	for _, list := range [][][]int64{
		copies([]int64{0}, impl.MaxNodes+1), copies([]int64{0, 1}, impl.MaxNodes/2+1), copies([]int64{0, 1, 1}, 3), copies([]int64{0}, 1000),
		{{0}, tall(impl.MaxNodes)}, {tall(impl.MaxNodes), {0}}, copies(tall(impl.MaxNodes), 2), {{0, 1, 1, 2}, {0, 1, 1, 2, 2}},
	} {
		got, code := impl.ForestOf(list)
		wantNone(t, fmt.Sprintf("ForestOf(%v)", list), got, code, impl.ErrLimit)
	}
	for _, list := range [][][]int64{copies([]int64{0}, impl.MaxNodes), copies([]int64{0, 1}, impl.MaxNodes/2), {tall(impl.MaxNodes)}} {
		got, code := impl.ForestOf(list)
		wantRows(t, fmt.Sprintf("ForestOf(%v)", list), got, code, list)
	}
}

func TestForestsInvalid(t *testing.T) {
	for _, bad := range notForests() {
		list, code := impl.RootOn(bad)
		wantNone(t, fmt.Sprintf("RootOn(%v)", bad), list, code, impl.ErrInvalid)
		if text, code := impl.ForestText(bad); text != "" || code != impl.ErrInvalid {
			t.Errorf("ForestText(%v) = %q, code %d", bad, text, code)
		}
		// Where there is a bad forest, too many nodes together are not looked at.
		for _, good := range [][][]int64{nil, {{0}}, {{0}, {0, 1}}, copies([]int64{0}, impl.MaxNodes), {tall(impl.MaxNodes)}} {
			rows, code := impl.TimesForests(bad, good)
			wantNone(t, fmt.Sprintf("TimesForests(%v, %v)", bad, good), rows, code, impl.ErrInvalid)
			rows, code = impl.TimesForests(good, bad)
			wantNone(t, fmt.Sprintf("TimesForests(%v, %v)", good, bad), rows, code, impl.ErrInvalid)
		}
		rows, code := impl.TimesForests(bad, bad)
		wantNone(t, fmt.Sprintf("TimesForests(%v, the same)", bad), rows, code, impl.ErrInvalid)
	}
}

func TestForestOfInvalid(t *testing.T) {
	for _, bad := range notLevels() {
		for _, good := range [][][]int64{nil, {{0}}, {{0, 1, 1, 2}, {0}}, copies([]int64{0}, impl.MaxNodes), copies([]int64{0}, impl.MaxNodes+1), copies(tall(impl.MaxNodes), 3)} {
			for place := range len(good) + 1 {
				list := slices.Insert(slices.Clone(good), place, bad)
				got, code := impl.ForestOf(list)
				wantNone(t, fmt.Sprintf("ForestOf(%v)", list), got, code, impl.ErrInvalid)
			}
		}
	}
}

// TestEachText parses all texts of brackets with up to one node too many, and holds the part of
// promise 3 about texts: only those of trees and forests are read.
func TestEachText(t *testing.T) {
	trees, forests := map[string][]int64{}, map[string][][]int64{}
	for _, tree := range plainTrees(impl.MaxNodes) {
		trees[plainText(tree.list())] = tree.list()
	}
	for _, f := range plainForests(impl.MaxNodes) {
		forests[plainForestText(f)] = f
	}
	for length := 0; length <= 2*impl.MaxNodes+2; length++ {
		for bits := range 1 << length {
			text := bracketText(bits, length)
			list, code := impl.ParseTree(text)
			if want, isText := trees[text]; isText {
				wantList(t, fmt.Sprintf("ParseTree(%q)", text), list, code, want)
			} else if len(list) != 0 || code != impl.ErrSyntax {
				t.Fatalf("ParseTree(%q) = %v, code %d", text, list, code)
			}
			rows, code := impl.ParseForest(text)
			if want, isText := forests[text]; isText {
				wantRows(t, fmt.Sprintf("ParseForest(%q)", text), rows, code, want)
			} else if len(rows) != 0 || code != impl.ErrSyntax {
				t.Fatalf("ParseForest(%q) = %v, code %d", text, rows, code)
			}
		}
	}
}

// bracketText writes the lowest bits of an integer as brackets.
func bracketText(bits int, length int) string {
	text := make([]byte, length)
	for i := range text {
		text[i] = "[]"[bits>>i&1]
	}
	return string(text)
}

func TestTextsWithOtherBytes(t *testing.T) {
	texts := []string{
		"--", "- ", " -", "-\n", "0", "1", "{0}", "()", "<>", "null", "[0]", "[[],[]]", "[ ]", "[]\x00", "\uFF3B\uFF3D", "\u27E6\u27E7", "[\u00A0]",
		strings.Repeat("[]", 1000), strings.Repeat("[", 10000), strings.Repeat("]", 10000), strings.Repeat("[", 10000) + strings.Repeat("]", 10000),
		"[" + strings.Repeat("[]", 10000) + "]",
	}
	for _, good := range []string{"[]", "[[]]", "[[[]][]]", "[][[]]", "[][]", strings.Repeat("[]", impl.MaxNodes)} {
		for _, other := range []string{"-", " ", "\n", "\t", "\r\n", "\x00", "0", "x", "(", ")", "{", "}", "\\", "\xff", "\x1b", "\xc1\x9b", "\u00e9", "\U0001F333", "[", "]"} {
			for place := range len(good) + 1 {
				texts = append(texts, good[:place]+other+good[place:])
			}
		}
	}
	for _, text := range texts {
		list, code := impl.ParseTree(text)
		wantNone(t, fmt.Sprintf("ParseTree(%q)", text), list, code, impl.ErrSyntax)
		rows, code := impl.ParseForest(text)
		wantNone(t, fmt.Sprintf("ParseForest(%q)", text), rows, code, impl.ErrSyntax)
	}
}

// TestForestsMemory checks that arguments stay as they are, and that results are new memory.
func TestForestsMemory(t *testing.T) {
	for _, plain := range [][][]int64{nil, {{0}}, {{0}, {0}}, {{0}, {0, 1}}, {{0, 1}, {0, 1}}, {{0, 1, 2, 1}}} {
		rows := guarded(plain)
		for range 2 {
			results := [][]int64{must(impl.RootOn(rows))}
			for _, f := range [][][]int64{
				must(impl.ForestOf(rows)), must(impl.TimesForests(rows, rows)), must(impl.TimesForests(rows, nil)),
				must(impl.TimesForests(nil, rows)), must(impl.ParseForest("[][][[][]]")),
			} {
				results = append(results, f...)
			}
			impl.ForestText(rows)
			impl.IsForest(rows)
			wantApart(t, "the functions of forests", results...)
			wantUntouched(t, "a function of forests", rows, plain)
		}
	}
	disordered := [][]int64{{0, 1, 1, 2}, {0, 1}, {0}}
	rows := guarded(disordered)
	wantApart(t, "ForestOf", must(impl.ForestOf(rows))...)
	wantUntouched(t, "ForestOf", rows, disordered)
}
