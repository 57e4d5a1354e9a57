package tests

import (
	"math"
	"slices"
	"strings"
	"testing"

	"loop.example/g01296/impl"
)

func TestIsCut(t *testing.T) {
	for _, c := range sampleCuts() {
		if !impl.IsCut(c) {
			t.Error("a cut", textOf(c))
		}
	}
	for _, c := range noCuts() {
		if impl.IsCut(c) {
			t.Error("no cut", textOf(c))
		}
	}
}

func TestIsCutAtLimits(t *testing.T) {
	valid := []impl.Cut{
		one, grown(one, 500), grown(rowsOfOnes(2, 1), 250), grown(rowsOfOnes(1, 2), 250),
		rowsOfOnes(30, 1), rowsOfOnes(1, 30), rowsOfOnes(5, 6), grown(rowsOfOnes(5, 4), 100),
	}
	for _, c := range valid {
		if !impl.IsCut(c) {
			t.Error("a cut", textOf(c))
		}
	}
	for _, c := range []impl.Cut{grown(one, 501), grown(rowsOfOnes(3, 1), 167), grown(rowsOfOnes(1, 3), 167), rowsOfOnes(31, 1)} {
		if impl.IsCut(c) {
			t.Error("beyond a limit", textOf(c))
		}
	}
}

// TestIsCutWithOneNumberChanged changes each number of each small cut a little: by cells it is seen what is a cut still.
func TestIsCutWithOneNumberChanged(t *testing.T) {
	for _, c := range cutsOfSize(4, 3) {
		for i := range c.Squares {
			for _, by := range []impl.Square{{X: 1}, {X: -1}, {Y: 1}, {Y: -1}, {Side: 1}, {Side: -1}} {
				d := impl.Cut{Width: c.Width, Height: c.Height, Squares: slices.Clone(c.Squares)}
				d.Squares[i].X += by.X
				d.Squares[i].Y += by.Y
				d.Squares[i].Side += by.Side
				if impl.IsCut(d) {
					t.Error("no cut", textOf(d))
				}
			}
		}
	}
}

func TestIsCutNeedsTheOrder(t *testing.T) {
	for _, c := range cutsOfSize(3, 3) {
		for i := range c.Squares {
			for j := range i {
				d := impl.Cut{Width: c.Width, Height: c.Height, Squares: slices.Clone(c.Squares)}
				d.Squares[i], d.Squares[j] = d.Squares[j], d.Squares[i]
				if impl.IsCut(d) {
					t.Error("out of order", textOf(d))
				}
			}
		}
	}
}

func TestOneSquare(t *testing.T) {
	for _, side := range []int{1, 2, 499, 500} {
		if c, ok := impl.OneSquare(side); !ok || !same(c, cut(side, side, 0, 0, side)) {
			t.Error(side, c, ok)
		}
	}
	for _, side := range []int{math.MinInt, -1, 0, 501, math.MaxInt} {
		if c, ok := impl.OneSquare(side); ok || !zero(c) {
			t.Error(side, c, ok)
		}
	}
}

func TestCutOf(t *testing.T) {
	for _, c := range sampleCuts() {
		mixed := slices.Clone(c.Squares)
		slices.Reverse(mixed)
		mixed = append(mixed[len(mixed)/2:], mixed[:len(mixed)/2]...)
		given := slices.Clone(mixed)
		if d, ok := impl.CutOf(c.Width, c.Height, mixed); !ok || !same(c, d) {
			t.Error(textOf(c), d, ok)
		}
		if !slices.Equal(mixed, given) {
			t.Error("squares are put in order in the argument", textOf(c))
		}
	}
}

func TestCutOfFails(t *testing.T) {
	for _, c := range noCuts() {
		ordered := slices.Clone(c.Squares)
		slices.SortFunc(ordered, func(a, b impl.Square) int { return slices.Compare([]int{a.Y, a.X}, []int{b.Y, b.X}) })
		if impl.IsCut(impl.Cut{Width: c.Width, Height: c.Height, Squares: ordered}) {
			continue
		}
		if d, ok := impl.CutOf(c.Width, c.Height, c.Squares); ok || !zero(d) {
			t.Error(textOf(c), d, ok)
		}
	}
	if d, ok := impl.CutOf(2, 3, three.Squares); ok || !zero(d) {
		t.Error("width and height exchanged", d)
	}
	if d, ok := impl.CutOf(31, 1, rowsOfOnes(31, 1).Squares); ok || !zero(d) {
		t.Error("31 squares", d)
	}
}

func TestSidesOf(t *testing.T) {
	for _, w := range []struct {
		c     impl.Cut
		sides []int
	}{{one, []int{1}}, {three, []int{2, 1, 1}}, {nine, []int{18, 15, 7, 8, 14, 4, 10, 1, 9}}, {split, []int{1, 2, 1, 1, 1}}} {
		if sides, ok := impl.SidesOf(w.c); !ok || !slices.Equal(sides, w.sides) {
			t.Error(textOf(w.c), sides, ok)
		}
	}
	for _, c := range noCuts() {
		if sides, ok := impl.SidesOf(c); ok || sides != nil {
			t.Error(textOf(c), sides, ok)
		}
	}
}

func TestIsPerfect(t *testing.T) {
	for _, c := range sampleCuts() {
		different := map[int]bool{}
		for _, s := range c.Squares {
			different[s.Side] = true
		}
		if is, ok := impl.IsPerfect(c); !ok || is != (len(different) == len(c.Squares)) {
			t.Fatal(textOf(c), is, ok)
		}
	}
	for _, w := range []struct {
		c  impl.Cut
		is bool
	}{{one, true}, {nine, true}, {grown(nine, 3), true}, {rowsOfOnes(2, 1), false}, {three, false}, {cut(3, 2, 0, 0, 1, 1, 0, 2, 0, 1, 1), false}} {
		if is, ok := impl.IsPerfect(w.c); !ok || is != w.is {
			t.Error(textOf(w.c), is, ok)
		}
	}
	for _, c := range noCuts() {
		if is, ok := impl.IsPerfect(c); ok || is {
			t.Error(textOf(c), is, ok)
		}
	}
}

func TestSquareAt(t *testing.T) {
	for _, c := range sampleCuts() {
		g, _ := cellsOf(c)
		for y := -1; y <= c.Height; y++ {
			for x := -1; x <= c.Width; x++ {
				k, ok := impl.SquareAt(c, x, y)
				in := x >= 0 && x < c.Width && y >= 0 && y < c.Height
				if ok != in || in && k != g[y][x] || !in && k != 0 {
					t.Fatal(textOf(c), x, y, k, ok)
				}
			}
		}
	}
	for _, c := range noCuts() {
		if k, ok := impl.SquareAt(c, 0, 0); ok || k != 0 {
			t.Error(textOf(c), k, ok)
		}
	}
	for _, n := range []int{math.MinInt, -1, 3, math.MaxInt} {
		if k, ok := impl.SquareAt(three, n, 1); ok || k != 0 {
			t.Error("x", n, k, ok)
		}
		if k, ok := impl.SquareAt(three, 2, n); ok || k != 0 {
			t.Error("y", n, k, ok)
		}
	}
}

func TestSquaresBeside(t *testing.T) {
	for _, c := range sampleCuts() {
		g, _ := cellsOf(c)
		for k := range c.Squares {
			if list, ok := impl.SquaresBeside(c, k); !ok || !slices.Equal(list, besideByCells(g, k)) {
				t.Fatal(textOf(c), k, list, ok)
			}
		}
	}
	if list, ok := impl.SquaresBeside(three, 0); !ok || !slices.Equal(list, []int{1, 2}) {
		t.Error("the example", list, ok)
	}
	if list, ok := impl.SquaresBeside(four, 0); !ok || !slices.Equal(list, []int{1, 2}) {
		t.Error("a corner alone is not beside", list, ok)
	}
	if list, ok := impl.SquaresBeside(one, 0); !ok || len(list) != 0 {
		t.Error("one square", list, ok)
	}
	for _, k := range []int{math.MinInt, -1, 3, 30, math.MaxInt} {
		if list, ok := impl.SquaresBeside(three, k); ok || list != nil {
			t.Error(k, list, ok)
		}
	}
	for _, c := range noCuts() {
		if list, ok := impl.SquaresBeside(c, 0); ok || list != nil {
			t.Error(textOf(c), list, ok)
		}
	}
}

func TestSquaresAtEdges(t *testing.T) {
	for _, c := range sampleCuts() {
		g, _ := cellsOf(c)
		if counts, ok := impl.SquaresAtEdges(c); !ok || !slices.Equal(counts, edgesByCells(g)) {
			t.Fatal(textOf(c), counts, ok)
		}
	}
	for _, w := range []struct {
		c      impl.Cut
		counts []int
	}{{one, []int{1, 1, 1, 1}}, {three, []int{2, 2, 2, 1}}, {nine, []int{2, 3, 3, 2}}, {rowsOfOnes(3, 1), []int{3, 1, 3, 1}}} {
		if counts, ok := impl.SquaresAtEdges(w.c); !ok || !slices.Equal(counts, w.counts) {
			t.Error(textOf(w.c), counts, ok)
		}
	}
	for _, c := range noCuts() {
		if counts, ok := impl.SquaresAtEdges(c); ok || counts != nil {
			t.Error(textOf(c), counts, ok)
		}
	}
}

func sameLists(a, b [][]int) bool {
	return slices.EqualFunc(a, b, slices.Equal)
}

func TestCrossesOf(t *testing.T) {
	for _, c := range sampleCuts() {
		g, _ := cellsOf(c)
		if list, ok := impl.CrossesOf(c); !ok || !sameLists(list, crossesByCells(g)) {
			t.Fatal(textOf(c), list, ok)
		}
	}
	for _, w := range []struct {
		c       impl.Cut
		crosses [][]int
	}{
		{one, nil}, {three, nil}, {nine, nil}, {rowsOfOnes(5, 1), nil},
		{four, [][]int{{1, 1}}},
		{rowsOfOnes(3, 3), [][]int{{1, 1}, {2, 1}, {1, 2}, {2, 2}}},
		{through, [][]int{{4, 3}}},
	} {
		if list, ok := impl.CrossesOf(w.c); !ok || !sameLists(list, w.crosses) {
			t.Error(textOf(w.c), list, ok)
		}
	}
	for _, c := range noCuts() {
		if list, ok := impl.CrossesOf(c); ok || list != nil {
			t.Error(textOf(c), list, ok)
		}
	}
}

func TestLongestLine(t *testing.T) {
	for _, c := range sampleCuts() {
		g, _ := cellsOf(c)
		if n, ok := impl.LongestLine(c); !ok || n != longestByCells(g) {
			t.Fatal(textOf(c), n, ok)
		}
	}
	// The edges are no lines within; lines go on through crosses; in split, two pieces at one level do not join.
	for _, w := range []struct {
		c      impl.Cut
		length int
	}{
		{one, 0}, {grown(one, 500), 0}, {three, 2}, {four, 2}, {rowsOfOnes(30, 1), 1}, {rowsOfOnes(3, 3), 3},
		{split, 2}, {grown(split, 3), 6}, {through, 5}, {nine, 22}, {grown(rowsOfOnes(2, 2), 250), 500},
	} {
		if n, ok := impl.LongestLine(w.c); !ok || n != w.length {
			t.Error(textOf(w.c), n, ok)
		}
	}
	for _, c := range noCuts() {
		if n, ok := impl.LongestLine(c); ok || n != 0 {
			t.Error(textOf(c), n, ok)
		}
	}
}

func TestPartsOf(t *testing.T) {
	for _, c := range append(cutsOfSize(4, 4), cutsOfSize(5, 3)...) {
		g, _ := cellsOf(c)
		if parts, ok := impl.PartsOf(c); !ok || !sameLists(parts, partsByCells(c, g)) {
			t.Fatal(textOf(c), parts, ok)
		}
	}
	for _, w := range []struct {
		c     impl.Cut
		parts [][]int
	}{
		{one, nil}, {rowsOfOnes(2, 1), nil}, {nine, nil},
		{three, [][]int{{1, 2}}},
		{rowsOfOnes(3, 1), [][]int{{0, 1}, {1, 2}}},
		{four, [][]int{{0, 1}, {0, 2}, {1, 3}, {2, 3}}},
		{rowsOfOnes(1, 4), [][]int{{0, 1}, {0, 1, 2}, {1, 2}, {1, 2, 3}, {2, 3}}},
		{split, [][]int{{0, 1, 3}, {0, 3}, {1, 2, 4}, {2, 4}}},
	} {
		if parts, ok := impl.PartsOf(w.c); !ok || !sameLists(parts, w.parts) {
			t.Error(textOf(w.c), parts, ok)
		}
	}
	if parts, ok := impl.PartsOf(rowsOfOnes(6, 5)); !ok || len(parts) != 21*15-30-1 {
		t.Error("all rectangles but the squares and the whole", len(parts), ok)
	}
	for _, c := range noCuts() {
		if parts, ok := impl.PartsOf(c); ok || parts != nil {
			t.Error(textOf(c), parts, ok)
		}
	}
}

func TestIsSimple(t *testing.T) {
	for _, c := range append(cutsOfSize(4, 4), cutsOfSize(5, 3)...) {
		g, _ := cellsOf(c)
		if is, ok := impl.IsSimple(c); !ok || is != (len(partsByCells(c, g)) == 0) {
			t.Fatal(textOf(c), is, ok)
		}
	}
	for _, w := range []struct {
		c  impl.Cut
		is bool
	}{{one, true}, {rowsOfOnes(2, 1), true}, {rowsOfOnes(1, 2), true}, {rowsOfOnes(3, 1), false}, {three, false}, {four, false}, {nine, true}, {grown(nine, 15), true}} {
		if is, ok := impl.IsSimple(w.c); !ok || is != w.is {
			t.Error(textOf(w.c), is, ok)
		}
	}
	for _, c := range noCuts() {
		if is, ok := impl.IsSimple(c); ok || is {
			t.Error(textOf(c), is, ok)
		}
	}
}

func TestTurnCut(t *testing.T) {
	for _, c := range sampleCuts() {
		g, _ := cellsOf(c)
		if d, ok := impl.TurnCut(c); !ok || !same(d, cutOfCells(turnCells(g))) {
			t.Fatal(textOf(c), d, ok)
		}
	}
	if d, ok := impl.TurnCut(three); !ok || !same(d, cut(2, 3, 0, 0, 2, 0, 2, 1, 1, 2, 1)) {
		t.Error("the example", d, ok)
	}
	failsFor(t, impl.TurnCut)
}

func TestMirrorCut(t *testing.T) {
	for _, c := range sampleCuts() {
		g, _ := cellsOf(c)
		if d, ok := impl.MirrorCut(c); !ok || !same(d, cutOfCells(mirrorCells(g))) {
			t.Fatal(textOf(c), d, ok)
		}
	}
	if d, ok := impl.MirrorCut(three); !ok || !same(d, cut(3, 2, 0, 0, 1, 1, 0, 2, 0, 1, 1)) {
		t.Error("the example", d, ok)
	}
	failsFor(t, impl.MirrorCut)
}

func failsFor(t *testing.T, f func(impl.Cut) (impl.Cut, bool)) {
	t.Helper()
	for _, c := range noCuts() {
		if d, ok := f(c); ok || !zero(d) {
			t.Error(textOf(c), d, ok)
		}
	}
}

func TestGrowCut(t *testing.T) {
	for _, w := range []struct {
		c impl.Cut
		k int
	}{{one, 1}, {one, 500}, {three, 1}, {three, 2}, {three, 166}, {nine, 15}, {rowsOfOnes(1, 30), 16}, {grown(one, 500), 1}, {grown(one, 250), 2}} {
		if d, ok := impl.GrowCut(w.c, w.k); !ok || !same(d, grown(w.c, w.k)) {
			t.Error(textOf(w.c), w.k, d, ok)
		}
	}
	for _, w := range []struct {
		c impl.Cut
		k int
	}{
		{one, 0}, {one, -1}, {one, 501}, {three, 167}, {nine, 16}, {rowsOfOnes(1, 30), 17}, {grown(one, 251), 2}, {grown(one, 500), 2},
		{one, math.MinInt}, {one, math.MaxInt}, {four, 1 << 62}, {four, 1 << 63 >> 1}, {grown(one, 4), 1 << 62}, {four, 1<<63 - 1}, {grown(one, 256), 1<<56 + 1},
	} {
		if d, ok := impl.GrowCut(w.c, w.k); ok || !zero(d) {
			t.Error(textOf(w.c), w.k, d, ok)
		}
	}
	failsFor(t, func(c impl.Cut) (impl.Cut, bool) { return impl.GrowCut(c, 1) })
}

func TestLowCut(t *testing.T) {
	for _, c := range cutsOfSize(4, 4) {
		sides, _ := impl.SidesOf(c)
		if slices.Min(sides) > 1 {
			continue // these have a common divisor themselves
		}
		for _, k := range []int{1, 2, 3, 125} {
			if d, ok := impl.LowCut(grown(c, k)); !ok || !same(d, c) {
				t.Error(textOf(c), k, d, ok)
			}
		}
	}
	for _, w := range []struct{ c, low impl.Cut }{
		{one, one}, {grown(one, 500), one}, {nine, nine}, {grown(nine, 6), nine}, {grown(rowsOfOnes(2, 2), 250), four},
		{cut(10, 6, 0, 0, 6, 6, 0, 4, 6, 4, 2, 8, 4, 2), cut(5, 3, 0, 0, 3, 3, 0, 2, 3, 2, 1, 4, 2, 1)},
	} {
		if d, ok := impl.LowCut(w.c); !ok || !same(d, w.low) {
			t.Error(textOf(w.c), d, ok)
		}
	}
	failsFor(t, impl.LowCut)
}

func TestFirstTurn(t *testing.T) {
	for _, c := range sampleCuts() {
		g, _ := cellsOf(c)
		if d, ok := impl.FirstTurn(c); !ok || !same(d, firstByCells(g)) {
			t.Fatal(textOf(c), d, ok)
		}
	}
	first := cut(3, 2, 0, 0, 1, 1, 0, 2, 0, 1, 1)
	for _, c := range []impl.Cut{three, first, cut(2, 3, 0, 0, 2, 0, 2, 1, 1, 2, 1), cut(2, 3, 0, 0, 1, 1, 0, 1, 0, 1, 2)} {
		if d, ok := impl.FirstTurn(c); !ok || !same(d, first) {
			t.Error(textOf(c), d, ok)
		}
	}
	failsFor(t, impl.FirstTurn)
}

func TestCutText(t *testing.T) {
	for _, c := range sampleCuts() {
		if s, ok := impl.CutText(c); !ok || s != textOf(c) {
			t.Fatal(textOf(c), s, ok)
		}
	}
	if s, ok := impl.CutText(three); !ok || s != "3x2;0,0,2;2,0,1;2,1,1" {
		t.Error("the example", s, ok)
	}
	for _, c := range noCuts() {
		if s, ok := impl.CutText(c); ok || s != "" {
			t.Error(textOf(c), s, ok)
		}
	}
}

func TestParseCut(t *testing.T) {
	for _, c := range append(sampleCuts(), grown(one, 500), grown(four, 250)) {
		if d, ok := impl.ParseCut(textOf(c)); !ok || !same(c, d) {
			t.Fatal(textOf(c), d, ok)
		}
	}
	for _, c := range noCuts() {
		if d, ok := impl.ParseCut(textOf(c)); ok || !zero(d) {
			t.Error(textOf(c), d, ok)
		}
	}
}

func TestParseCutFails(t *testing.T) {
	texts := []string{
		"", "x", ";", ",", "1", "1x1", "1x1;", "x;,,", "1x1;0,0", "1x1;0,0,", "1x1;0,0,1,", "1x1;0,0,1;", ";1x1;0,0,1",
		"1x1;0,0,1;0,0,1", "1x1;0,0,1,0", "1x1x1;0,0,1", "1,1;0,0,1", "1X1;0,0,1", "1x1,0,0,1", "1x1;0;0;1", "1x1 0,0,1",
		" 1x1;0,0,1", "1x1;0,0,1 ", "1x1; 0,0,1", "1x1;0,0,1\n", "1x1;0,0,1\x00", "1x1;0,0,1;;",
		"01x1;0,0,1", "1x01;0,0,1", "1x1;00,0,1", "1x1;0,0,01", "+1x1;0,0,1", "1x1;+0,0,1", "1x1;-0,0,1", "1x1;0,-0,1",
		"0x1;0,0,1", "1x1;0,0,0", "1x1;0,0,a", "1x1;0,0,1e0", "1x1;0,0,0x1", "1x1;0,0,1.0", "1x1;0,0,1_0", "1x1;0,0,١", "1x1;0,0,\xff",
		"3x2;2,0,1;0,0,2;2,1,1", "3x2;0,0,2;2,0,1", "3x2;0,0,2;2,0,1;2,1,1;2,1,1", "2x3;0,0,2;2,0,1;2,1,1",
		"9223372036854775808x1;0,0,1", "18446744073709551617x1;0,0,1", "1x1;0,0,18446744073709551617", "1x1;-9223372036854775808,0,1",
		textOf(rowsOfOnes(31, 1)), textOf(rowsOfOnes(32, 1)), textOf(rowsOfOnes(30, 1)) + ";", textOf(rowsOfOnes(30, 1)) + ";0,0,1",
		strings.Repeat(";", 100000), strings.Repeat("1", 100000), strings.Repeat("0,", 100000), "1x1;" + strings.Repeat("0,0,1;", 100000),
	}
	for _, s := range texts {
		if d, ok := impl.ParseCut(s); ok || !zero(d) {
			t.Errorf("%.60q %v %v", s, d, ok)
		}
	}
}

// TestParseCutIsTheTextAlone changes each byte of a text: only texts that CutText returns are taken.
func TestParseCutIsTheTextAlone(t *testing.T) {
	text := textOf(split)
	for i := range len(text) + 1 {
		for b := range 256 {
			for _, behind := range []string{text[i:], text[min(i+1, len(text)):]} {
				s := text[:i] + string([]byte{byte(b)}) + behind
				c, ok := impl.ParseCut(s)
				if ok && textOf(c) != s || !ok && !zero(c) {
					t.Errorf("%q %v", s, c)
				}
			}
		}
	}
}
