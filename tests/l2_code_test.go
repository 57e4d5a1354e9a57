package tests

import (
	"cmp"
	"math"
	"slices"
	"strings"
	"testing"

	"loop.example/g01296/impl"
)

func TestCodeOf(t *testing.T) {
	for _, c := range sampleCuts() {
		g, _ := cellsOf(c)
		if code, ok := impl.CodeOf(c); !ok || !sameLists(code, codeByCells(g)) {
			t.Fatal(textOf(c), code, ok)
		}
	}
	// In split and in through there are squares at one level that do not go on with each other.
	for _, w := range []struct {
		c    impl.Cut
		code [][]int
	}{
		{one, [][]int{{1}}},
		{grown(one, 500), [][]int{{500}}},
		{three, [][]int{{2, 1}, {1}}},
		{four, [][]int{{1, 1}, {1, 1}}},
		{nine, [][]int{{18, 15}, {7, 8}, {14, 4}, {10, 1}, {9}}},
		{split, [][]int{{1, 2, 1}, {1}, {1}}},
		{through, [][]int{{3, 2}, {1, 1}, {2, 2, 1}, {1}}},
		{rowsOfOnes(30, 1), [][]int{slices.Repeat([]int{1}, 30)}},
		{rowsOfOnes(1, 30), slices.Repeat([][]int{{1}}, 30)},
	} {
		if code, ok := impl.CodeOf(w.c); !ok || !sameLists(code, w.code) {
			t.Error(textOf(w.c), code, ok)
		}
	}
	codeFailsFor(t, impl.CodeOf)
}

func codeFailsFor(t *testing.T, f func(impl.Cut) ([][]int, bool)) {
	t.Helper()
	for _, c := range noCuts() {
		if code, ok := f(c); ok || code != nil {
			t.Error(textOf(c), code, ok)
		}
	}
}

func TestCutOfCode(t *testing.T) {
	for _, c := range append(sampleCuts(), grown(one, 500), grown(rowsOfOnes(1, 2), 250)) {
		g, _ := cellsOf(c)
		if d, ok := impl.CutOfCode(codeByCells(g)); !ok || !same(c, d) {
			t.Fatal(textOf(c), d, ok)
		}
	}
	if c, ok := impl.CutOfCode([][]int{{18, 14}, {4, 10}, {15, 7}, {1, 9}, {8}}); !ok || textOf(c) != "32x33;0,0,18;18,0,14;18,14,4;22,14,10;0,18,15;15,18,7;22,24,1;23,24,9;15,25,8" {
		t.Error("the example", textOf(c), ok)
	}
	for _, code := range noCodes() {
		if c, ok := impl.CutOfCode(code); ok || !zero(c) {
			t.Errorf("%.80v %v %v", code, c, ok)
		}
	}
}

// shortLists are all lists of 1 up to length numbers, each in 1..most.
func shortLists(length, most int) [][]int {
	lists := [][]int{nil}
	for from := 0; len(lists[from]) < length; from++ {
		for n := 1; n <= most; n++ {
			lists = append(lists, append(slices.Clone(lists[from]), n))
		}
	}
	return lists[1:]
}

func TestCutOfSides(t *testing.T) {
	for _, sides := range shortLists(6, 3) {
		for width := 1; width <= 7; width++ {
			g, is := cellsOfSides(width, sides)
			c, ok := impl.CutOfSides(width, sides)
			if ok != is || is && !same(c, cutOfCells(g)) || !is && !zero(c) {
				t.Fatal(width, sides, c, ok)
			}
		}
	}
	for _, w := range []struct {
		width int
		sides []int
		c     impl.Cut
	}{
		{1, []int{1}, one},
		{3, []int{2, 1, 1}, three},
		{2, []int{2, 1, 1}, cut(2, 3, 0, 0, 2, 0, 2, 1, 1, 2, 1)},
		{4, []int{1, 2, 1, 1, 1}, split},
		{33, []int{18, 15, 7, 8, 14, 4, 10, 1, 9}, nine},
		{500, []int{500}, grown(one, 500)},
		{250, []int{250, 250}, grown(rowsOfOnes(1, 2), 250)},
		{500, []int{250, 250}, grown(rowsOfOnes(2, 1), 250)},
		{30, slices.Repeat([]int{1}, 30), rowsOfOnes(30, 1)},
		{1, slices.Repeat([]int{1}, 30), rowsOfOnes(1, 30)},
		{480, slices.Repeat([]int{16}, 30), grown(rowsOfOnes(30, 1), 16)},
	} {
		if c, ok := impl.CutOfSides(w.width, w.sides); !ok || !same(c, w.c) {
			t.Error(w.width, w.sides, c, ok)
		}
	}
}

func TestCutOfSidesFails(t *testing.T) {
	for _, w := range []struct {
		width int
		sides []int
	}{
		{1, nil}, {1, []int{}}, {0, nil}, {0, []int{0}}, {0, []int{1}}, {-1, []int{-1}}, {501, []int{501}}, {500, []int{501}},
		{501, []int{167, 167, 167}}, {500, []int{500, 1}}, {250, []int{250, 251}}, {251, []int{251, 251}},
		{31, slices.Repeat([]int{1}, 31)}, {1, slices.Repeat([]int{1}, 31)}, {1, slices.Repeat([]int{1}, 100000)},
		{3, []int{2, 1}}, {3, []int{2, 1, 1, 1}}, {3, []int{2, 1, 1, 0}}, {3, []int{2, 1, 1, -1}}, {3, []int{0, 2, 1, 1}}, {4, []int{2, 1, 1}}, {1, []int{2, 1, 1}},
		{33, []int{18, 15, 7, 8, 14, 4, 10, 9, 1}},
	} {
		if c, ok := impl.CutOfSides(w.width, w.sides); ok || !zero(c) {
			t.Errorf("%d %.80v %v %v", w.width, w.sides, c, ok)
		}
	}
	for _, n := range strangeInts() {
		if n == 1 {
			continue
		}
		for _, sides := range [][]int{{1}, {n, 1}, {1, n}, {n, n, 1}} {
			if c, ok := impl.CutOfSides(1, append(slices.Clone(sides), n)); ok || !zero(c) {
				t.Error(n, sides, c, ok)
			}
		}
		if c, ok := impl.CutOfSides(n, []int{1}); ok || !zero(c) {
			t.Error("width", n, c, ok)
		}
	}
}

// groupings are all ways to part a list into groups.
func groupings(list []int) [][][]int {
	ways := [][][]int{{list}}
	for k := 1; k < len(list); k++ {
		for _, rest := range groupings(list[k:]) {
			ways = append(ways, append([][]int{list[:k]}, rest...))
		}
	}
	return ways
}

func TestIsCutCode(t *testing.T) {
	count := 0
	for _, sides := range shortLists(6, 3) {
		for _, code := range groupings(sides) {
			g, is := cellsOfSides(sumOf(code[0]), sides)
			is = is && sameLists(codeByCells(g), code)
			if impl.IsCutCode(code) != is {
				t.Fatal(code, is)
			}
			if is {
				count++
			}
		}
	}
	if count < 50 {
		t.Error("codes", count)
	}
	for _, code := range codesInOrder() {
		if !impl.IsCutCode(code) {
			t.Error("a code", code)
		}
	}
	for _, code := range noCodes() {
		if impl.IsCutCode(code) {
			t.Errorf("no code %.80v", code)
		}
	}
}

func TestIsCutCodeAtLimits(t *testing.T) {
	ones := slices.Repeat([]int{1}, 31)
	for _, w := range []struct {
		code [][]int
		is   bool
	}{
		{[][]int{{500}}, true}, {[][]int{{501}}, false},
		{[][]int{{250, 250}}, true}, {[][]int{{251, 251}}, false},
		{[][]int{{250}, {250}}, true}, {[][]int{{251}, {251}}, false},
		{[][]int{ones[:30]}, true}, {[][]int{ones}, false},
		{[][]int{ones[:15], ones[:15]}, true}, {[][]int{ones[:16], ones[:16]}, false},
		{slices.Repeat([][]int{{1}}, impl.MaxGroups), true}, {slices.Repeat([][]int{{1}}, impl.MaxGroups+1), false},
		{slices.Repeat([][]int{{16}}, 30), true}, {slices.Repeat([][]int{{17}}, 30), false},
	} {
		if impl.IsCutCode(w.code) != w.is {
			t.Error(w.code, w.is)
		}
	}
}

func TestWidthAndOrderOfCode(t *testing.T) {
	for _, c := range append(sampleCuts(), grown(one, 500)) {
		g, _ := cellsOf(c)
		code := codeByCells(g)
		if width, height, ok := impl.WidthOfCode(code); !ok || width != c.Width || height != c.Height {
			t.Fatal(code, width, height, ok)
		}
		if order, ok := impl.OrderOfCode(code); !ok || order != len(c.Squares) {
			t.Fatal(code, order, ok)
		}
	}
	for _, code := range noCodes() {
		if width, height, ok := impl.WidthOfCode(code); ok || width != 0 || height != 0 {
			t.Errorf("%.80v %d %d %v", code, width, height, ok)
		}
		if order, ok := impl.OrderOfCode(code); ok || order != 0 {
			t.Errorf("%.80v %d %v", code, order, ok)
		}
	}
}

func TestTurnCodeAndMirrorCode(t *testing.T) {
	for _, c := range sampleCuts() {
		g, _ := cellsOf(c)
		code := codeByCells(g)
		if d, ok := impl.TurnCode(code); !ok || !sameLists(d, codeByCells(turnCells(g))) {
			t.Fatal("turned", code, d, ok)
		}
		if d, ok := impl.MirrorCode(code); !ok || !sameLists(d, codeByCells(mirrorCells(g))) {
			t.Fatal("mirrored", code, d, ok)
		}
	}
	if d, ok := impl.TurnCode([][]int{{2, 1}, {1}}); !ok || textOfCode(d) != "(2)(1,1)" {
		t.Error("the example turned", d, ok)
	}
	if d, ok := impl.MirrorCode([][]int{{2, 1}, {1}}); !ok || textOfCode(d) != "(1,2)(1)" {
		t.Error("the example mirrored", d, ok)
	}
	for _, code := range noCodes() {
		if d, ok := impl.TurnCode(code); ok || d != nil {
			t.Errorf("%.80v %v %v", code, d, ok)
		}
		if d, ok := impl.MirrorCode(code); ok || d != nil {
			t.Errorf("%.80v %v %v", code, d, ok)
		}
	}
}

func grownCode(code [][]int, k int) [][]int {
	var list [][]int
	for _, group := range code {
		sides := slices.Clone(group)
		for i := range sides {
			sides[i] *= k
		}
		list = append(list, sides)
	}
	return list
}

func TestGrowCode(t *testing.T) {
	long := [][]int{slices.Repeat([]int{1}, 30)}
	for _, w := range []struct {
		code [][]int
		most int
	}{{[][]int{{1}}, 500}, {[][]int{{500}}, 1}, {[][]int{{250}}, 2}, {[][]int{{2, 1}, {1}}, 166}, {[][]int{{2}, {1, 1}}, 166}, {[][]int{{18, 14}, {4, 10}, {15, 7}, {1, 9}, {8}}, 15}, {long, 16}} {
		for k := 1; k <= w.most; k++ {
			if d, ok := impl.GrowCode(w.code, k); !ok || !sameLists(d, grownCode(w.code, k)) {
				t.Fatal(w.code, k, d, ok)
			}
		}
		for _, k := range append(strangeInts(), w.most+1) {
			if k >= 1 && k <= w.most {
				continue
			}
			if d, ok := impl.GrowCode(w.code, k); ok || d != nil {
				t.Error(w.code, k, d, ok)
			}
		}
	}
	for _, code := range noCodes() {
		if d, ok := impl.GrowCode(code, 1); ok || d != nil {
			t.Errorf("%.80v %v %v", code, d, ok)
		}
	}
}

func TestFirstCode(t *testing.T) {
	for _, c := range sampleCuts() {
		g, _ := cellsOf(c)
		first, _ := cellsOf(firstByCells(g))
		if code, ok := impl.FirstCode(c); !ok || !sameLists(code, codeByCells(first)) {
			t.Fatal(textOf(c), code, ok)
		}
	}
	if code, ok := impl.FirstCode(three); !ok || textOfCode(code) != "(1,2)(1)" {
		t.Error(code, ok)
	}
	codeFailsFor(t, impl.FirstCode)
}

func TestLevelsOf(t *testing.T) {
	for _, c := range sampleCuts() {
		g, _ := cellsOf(c)
		if levels, ok := impl.LevelsOf(c); !ok || !slices.Equal(levels, levelsByCells(g)) {
			t.Fatal(textOf(c), levels, ok)
		}
	}
	for _, w := range []struct {
		c      impl.Cut
		levels []int
	}{
		{one, []int{0}}, {three, []int{0, 1}}, {split, []int{0, 1}}, {grown(split, 5), []int{0, 5}}, {rowsOfOnes(30, 1), []int{0}},
		{nine, []int{0, 15, 18, 22, 23}}, {grown(rowsOfOnes(1, 2), 250), []int{0, 250}},
	} {
		if levels, ok := impl.LevelsOf(w.c); !ok || !slices.Equal(levels, w.levels) {
			t.Error(textOf(w.c), levels, ok)
		}
	}
	for _, c := range noCuts() {
		if levels, ok := impl.LevelsOf(c); ok || levels != nil {
			t.Error(textOf(c), levels, ok)
		}
	}
}

func TestGroupOfSquare(t *testing.T) {
	for _, c := range sampleCuts() {
		g, _ := cellsOf(c)
		k := 0
		for index, group := range codeByCells(g) {
			for range group {
				if i, ok := impl.GroupOfSquare(c, k); !ok || i != index {
					t.Fatal(textOf(c), k, i, ok)
				}
				k++
			}
		}
		for _, k := range []int{math.MinInt, -1, len(c.Squares), len(c.Squares) + 1, math.MaxInt} {
			if i, ok := impl.GroupOfSquare(c, k); ok || i != 0 {
				t.Fatal(textOf(c), k, i, ok)
			}
		}
	}
	for k, index := range []int{0, 0, 0, 1, 2} {
		if i, ok := impl.GroupOfSquare(split, k); !ok || i != index {
			t.Error(k, i, ok)
		}
	}
	for _, c := range noCuts() {
		if i, ok := impl.GroupOfSquare(c, 0); ok || i != 0 {
			t.Error(textOf(c), i, ok)
		}
	}
}

func TestCompareCodes(t *testing.T) {
	codes := codesInOrder()
	for i, a := range codes {
		for j, b := range codes {
			if n, ok := impl.CompareCodes(a, b); !ok || n != cmp.Compare(i, j) {
				t.Error(a, b, n, ok)
			}
		}
	}
	for _, code := range noCodes() {
		for _, other := range [][][]int{{{1}}, {{2, 1}, {1}}, code} {
			if n, ok := impl.CompareCodes(code, other); ok || n != 0 {
				t.Errorf("%.80v %v %d %v", code, other, n, ok)
			}
			if n, ok := impl.CompareCodes(other, code); ok || n != 0 {
				t.Errorf("%v %.80v %d %v", other, code, n, ok)
			}
		}
	}
}

func TestCompareCodesOfSmallCuts(t *testing.T) {
	var codes [][][]int
	for _, size := range [][2]int{{1, 1}, {2, 2}, {1, 6}, {2, 3}, {3, 2}, {6, 1}, {3, 3}, {4, 3}, {3, 4}} {
		for _, c := range cutsOfSize(size[0], size[1]) {
			g, _ := cellsOf(c)
			codes = append(codes, codeByCells(g))
		}
	}
	for _, a := range codes {
		for _, b := range codes {
			sides := slices.Compare(slices.Concat(a...), slices.Concat(b...))
			if n, ok := impl.CompareCodes(a, b); !ok || n != cmp.Or(sides, cmp.Compare(sumOf(a[0]), sumOf(b[0]))) {
				t.Fatal(a, b, n, ok)
			}
		}
	}
}

func TestCodeText(t *testing.T) {
	for _, c := range append(sampleCuts(), grown(one, 500)) {
		g, _ := cellsOf(c)
		code := codeByCells(g)
		if s, ok := impl.CodeText(code); !ok || s != textOfCode(code) {
			t.Fatal(code, s, ok)
		}
	}
	if s, ok := impl.CodeText([][]int{{2, 1}, {1}}); !ok || s != "(2,1)(1)" {
		t.Error("the example", s, ok)
	}
	for _, code := range noCodes() {
		if s, ok := impl.CodeText(code); ok || s != "" {
			t.Errorf("%.80v %q %v", code, s, ok)
		}
	}
}

func TestParseCode(t *testing.T) {
	for _, c := range append(sampleCuts(), grown(one, 500), grown(four, 250)) {
		g, _ := cellsOf(c)
		code := codeByCells(g)
		if d, ok := impl.ParseCode(textOfCode(code)); !ok || !sameLists(code, d) {
			t.Fatal(code, d, ok)
		}
	}
	for _, code := range noCodes() {
		if d, ok := impl.ParseCode(textOfCode(code)); ok || d != nil {
			t.Errorf("%.80v %v %v", code, d, ok)
		}
	}
}

func TestParseCodeFails(t *testing.T) {
	texts := []string{
		"", "(", ")", "()", ")(", "((", "))", ",", "1", "(1", "1)", "(1)(", "(1))", "((1)", "((1))", "(1)()", "()(1)", "(1,)", "(,1)", "(1,,1)", "(,)",
		"(2,1)(1", "2,1)(1)", "(2,1),(1)", "(2,1) (1)", "(2,1)(1) ", " (2,1)(1)", "(2, 1)(1)", "(2,1)(1)\n", "(2,1)(1)\x00", "(2;1)(1)", "(2 1)(1)", "[2,1][1]", "(2,1)1", "(2,1(1)", "2,1,1",
		"(02,1)(1)", "(2,01)(1)", "(2,1)(+1)", "(2,1)(-1)", "(2,1)(1.0)", "(2,1)(1e0)", "(0x2,1)(1)", "(2,1)(1_0)", "(2,1)(١)", "(2,1)(\xff)", "(0)", "(-0)", "(00)", "(-1)",
		"(2,1)", "(2,1)(1)(1)", "(2)(1)(1)", "(2,1,1)", "(1,1)(1)(1)", "(501)", "(9223372036854775808)", "(18446744073709551617)", "(-18446744073709551615)",
		"(1" + strings.Repeat(",1", 30) + ")", "(1" + strings.Repeat(",1", 31) + ")", "(1" + strings.Repeat(",1", 29) + ",)",
		strings.Repeat("(1)", 31), strings.Repeat("(1)", 32), strings.Repeat("(1)", 30) + "(", strings.Repeat("(1)", 30) + "()",
		strings.Repeat("(", 100000), "(" + strings.Repeat(")(", 100000) + ")", "(" + strings.Repeat(",", 100000) + ")", "(" + strings.Repeat("1", 100000) + ")", strings.Repeat("(1)", 100000),
	}
	for _, s := range texts {
		if code, ok := impl.ParseCode(s); ok || code != nil {
			t.Errorf("%.60q %v %v", s, code, ok)
		}
	}
}

// TestParseCodeIsTheTextAlone changes each byte of a text: only texts that CodeText returns are taken.
func TestParseCodeIsTheTextAlone(t *testing.T) {
	text := "(1,2,1)(1)(1)"
	for i := range len(text) + 1 {
		for b := range 256 {
			for _, behind := range []string{text[i:], text[min(i+1, len(text)):]} {
				s := text[:i] + string([]byte{byte(b)}) + behind
				code, ok := impl.ParseCode(s)
				if ok && textOfCode(code) != s || !ok && code != nil {
					t.Errorf("%q %v", s, code)
				}
			}
		}
	}
}
