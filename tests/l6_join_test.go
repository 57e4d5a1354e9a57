package tests

import (
	"math"
	"slices"
	"strings"
	"testing"

	"loop.example/g01296/impl"
)

// pinwheel is as wide as it is high and has no line, but 13 squares: around one there are four rectangles of 3 by 2.
var pinwheel = cut(5, 5, 0, 0, 1, 1, 0, 2, 3, 0, 1, 4, 0, 1, 0, 1, 1, 3, 1, 2, 0, 2, 2, 2, 2, 1, 2, 3, 2, 4, 3, 1, 0, 4, 1, 1, 4, 1, 4, 4, 1)

func TestExampleOfChapter6(t *testing.T) {
	c, ok := impl.BesideCuts(one, rowsOfOnes(1, 2))
	if !ok || textOf(c) != "3x2;0,0,2;2,0,1;2,1,1" {
		t.Error("beside", textOf(c), ok)
	}
	if tree, ok := impl.TreeOfCut(c); !ok || tree != "bsuss" {
		t.Error("tree", tree, ok)
	}
	if d, ok := impl.PutSquare(c, 2); !ok || textOf(d) != "3x5;0,0,2;2,0,1;2,1,1;0,2,3" {
		t.Error("put", textOf(d), ok)
	}
	spiral, ok := impl.SpiralCut(4)
	if !ok || textOf(spiral) != "5x3;0,0,3;3,0,1;4,0,1;3,1,2" {
		t.Error("spiral", textOf(spiral), ok)
	}
	if lines, ok := impl.LinesDown(spiral); !ok || !slices.Equal(lines, []int{3}) {
		t.Error("lines", lines, ok)
	}
}

// joinedCuts are cuts of many sizes, with lines and without, few enough to be taken in pairs.
func joinedCuts() []impl.Cut {
	list := []impl.Cut{split, through, nine, grown(one, 6), grown(three, 2), rowsOfOnes(6, 5), rowsOfOnes(30, 1), rowsOfOnes(1, 29), rowsOfOnes(5, 5)}
	for width := 1; width <= 3; width++ {
		for height := 1; height <= 3; height++ {
			list = append(list, cutsOfSize(width, height)...)
		}
	}
	return list
}

// checkJoined makes a call for all pairs of cuts, and holds what it returns against what cells tell.
func checkJoined(t *testing.T, join func(a, b impl.Cut) (impl.Cut, bool), byCells func(a, b impl.Cut) impl.Cut) {
	t.Helper()
	for _, a := range joinedCuts() {
		for _, b := range joinedCuts() {
			want := byCells(a, b)
			if c, ok := join(a, b); ok == zero(want) || !same(c, want) {
				t.Fatal(textOf(a), textOf(b), textOf(c), ok, textOf(want))
			}
		}
	}
}

// joins are cuts that are put together, or fail to be where the zero cut is wanted.
type joins []struct{ a, b, want impl.Cut }

func (list joins) check(t *testing.T, join func(a, b impl.Cut) (impl.Cut, bool), turned bool) {
	t.Helper()
	for _, w := range list {
		if turned {
			w.a, w.b, w.want = exchangedByCells(w.a), exchangedByCells(w.b), exchangedByCells(w.want)
		}
		if c, ok := join(w.a, w.b); ok == zero(w.want) || !same(c, w.want) {
			t.Error(textOf(w.a), textOf(w.b), textOf(c), ok, textOf(w.want))
		}
	}
}

// joinsAtLimits are put beside each other, or with X and Y exchanged, under each other.
func joinsAtLimits() joins {
	none := impl.Cut{}
	return joins{
		{one, one, rowsOfOnes(2, 1)},
		{one, rowsOfOnes(1, 2), three},
		{rowsOfOnes(1, 2), one, cut(3, 2, 0, 0, 1, 1, 0, 2, 0, 1, 1)},
		// They are grown no more than is needed, but what is great already is not made less.
		{grown(one, 4), grown(one, 4), cut(8, 4, 0, 0, 4, 4, 0, 4)},
		{grown(one, 4), grown(one, 6), cut(24, 12, 0, 0, 12, 12, 0, 12)},
		{rowsOfOnes(1, 2), rowsOfOnes(1, 3), cut(5, 6, 0, 0, 3, 3, 0, 2, 3, 2, 2, 0, 3, 3, 3, 4, 2)},
		{rowsOfOnes(29, 1), one, rowsOfOnes(30, 1)},
		{one, rowsOfOnes(29, 1), rowsOfOnes(30, 1)},
		{rowsOfOnes(15, 1), rowsOfOnes(15, 1), rowsOfOnes(30, 1)},
		{rowsOfOnes(30, 1), one, none},
		{one, rowsOfOnes(30, 1), none},
		{rowsOfOnes(16, 1), rowsOfOnes(15, 1), none},
		{grown(one, 250), grown(one, 250), grown(rowsOfOnes(2, 1), 250)},
		{grown(one, 250), one, grown(rowsOfOnes(2, 1), 250)},
		{grown(one, 251), grown(one, 251), none},
		{grown(one, 251), one, none},
		{one, grown(one, 251), none},
		{grown(rowsOfOnes(2, 1), 166), grown(one, 166), grown(rowsOfOnes(3, 1), 166)},
		{grown(rowsOfOnes(2, 1), 167), grown(one, 167), none},
		// The width is not too great, but the height is 500, 504 and 3570.
		{grown(rowsOfOnes(1, 20), 25), grown(rowsOfOnes(1, 2), 125), cutOfRows(500, grown(rowsOfOnes(1, 20), 25), grown(rowsOfOnes(1, 2), 250))},
		{grown(rowsOfOnes(1, 14), 9), grown(rowsOfOnes(1, 12), 14), none},
		{grown(rowsOfOnes(1, 14), 17), rowsOfOnes(1, 15), none},
		{grown(one, 499), grown(one, 500), none},
		{grown(one, 500), grown(one, 499), none},
		{grown(one, 500), grown(one, 500), none},
		{grown(rowsOfOnes(1, 2), 250), grown(rowsOfOnes(1, 2), 250), cut(500, 500, 0, 0, 250, 250, 0, 250, 0, 250, 250, 250, 250, 250)},
	}
}

// cutOfRows puts cuts of one height beside each other without growing them.
func cutOfRows(height int, a, b impl.Cut) impl.Cut {
	g, _ := cellsOf(a)
	h, _ := cellsOf(b)
	for y := range height {
		for _, k := range h[y] {
			g[y] = append(g[y], len(a.Squares)+k)
		}
	}
	return cutOfCells(g)
}

// checkNoPair makes calls with what is no cut.
func checkNoPair(t *testing.T, join func(a, b impl.Cut) (impl.Cut, bool)) {
	t.Helper()
	for _, c := range noCuts() {
		for _, w := range [][2]impl.Cut{{c, one}, {one, c}, {c, three}, {three, c}, {c, c}} {
			if d, ok := join(w[0], w[1]); ok || !zero(d) {
				t.Error(textOf(w[0]), textOf(w[1]), textOf(d), ok)
			}
		}
	}
}

func TestBesideCuts(t *testing.T) {
	checkJoined(t, impl.BesideCuts, besideCutsByCells)
	joinsAtLimits().check(t, impl.BesideCuts, false)
	checkNoPair(t, impl.BesideCuts)
}

func TestUnderCuts(t *testing.T) {
	checkJoined(t, impl.UnderCuts, underCutsByCells)
	joinsAtLimits().check(t, impl.UnderCuts, true)
	checkNoPair(t, impl.UnderCuts)
	if c, ok := impl.UnderCuts(rowsOfOnes(2, 1), one); !ok || textOf(c) != "2x3;0,0,1;1,0,1;0,1,2" {
		t.Error("b is under a", textOf(c), ok)
	}
}

func TestPutSquare(t *testing.T) {
	for _, c := range sampleCuts() {
		g, _ := cellsOf(c)
		for edge := range 4 {
			want := cutOfCells(putByCells(g, edge, len(c.Squares)))
			if len(want.Squares) > 30 {
				want = impl.Cut{}
			}
			if d, ok := impl.PutSquare(c, edge); ok == zero(want) || !same(d, want) {
				t.Fatal(textOf(c), edge, textOf(d), ok)
			}
		}
		for _, edge := range []int{math.MinInt, -4, -1, 4, 5, 1 << 32, math.MaxInt} {
			if d, ok := impl.PutSquare(c, edge); ok || !zero(d) {
				t.Fatal(textOf(c), edge, textOf(d), ok)
			}
		}
	}
	for edge, text := range []string{"1x2;0,0,1;0,1,1", "2x1;0,0,1;1,0,1", "1x2;0,0,1;0,1,1", "2x1;0,0,1;1,0,1"} {
		if d, ok := impl.PutSquare(one, edge); !ok || textOf(d) != text {
			t.Error(edge, textOf(d), ok)
		}
	}
	for edge, text := range []string{"3x5;0,0,3;0,3,2;2,3,1;2,4,1", "5x2;0,0,2;2,0,1;3,0,2;2,1,1", "3x5;0,0,2;2,0,1;2,1,1;0,2,3", "5x2;0,0,2;2,0,2;4,0,1;4,1,1"} {
		if d, ok := impl.PutSquare(three, edge); !ok || textOf(d) != text {
			t.Error(edge, textOf(d), ok)
		}
	}
}

func TestPutSquareAtLimits(t *testing.T) {
	for _, w := range []struct {
		c    impl.Cut
		fine bool
	}{
		{grown(one, 250), true}, {grown(one, 251), false}, {grown(one, 500), false},
		{grown(three, 100), true}, {grown(three, 101), false}, {grown(exchangedByCells(three), 100), true}, {grown(exchangedByCells(three), 101), false},
		{grown(rowsOfOnes(19, 1), 25), true}, {grown(rowsOfOnes(1, 19), 25), true}, {grown(rowsOfOnes(20, 1), 24), false}, {grown(rowsOfOnes(1, 20), 24), false},
		{rowsOfOnes(29, 1), true}, {rowsOfOnes(1, 29), true}, {rowsOfOnes(30, 1), false}, {rowsOfOnes(1, 30), false}, {rowsOfOnes(6, 5), false},
	} {
		for edge := range 4 {
			d, ok := impl.PutSquare(w.c, edge)
			if ok != w.fine || w.fine != impl.IsCut(d) || !w.fine && !zero(d) {
				t.Error(textOf(w.c), edge, textOf(d), ok)
			}
		}
	}
	for _, c := range noCuts() {
		for edge := range 4 {
			if d, ok := impl.PutSquare(c, edge); ok || !zero(d) {
				t.Error(textOf(c), edge, textOf(d), ok)
			}
		}
	}
}

// checkParted holds the parts of a cut against the cells on both sides of the first line, if there is one.
func checkParted(t *testing.T, c impl.Cut) {
	t.Helper()
	g, _ := cellsOf(c)
	var first, second impl.Cut
	down, across := linesDownByCells(g), linesAcrossByCells(g)
	if len(down) > 0 {
		first, second = cutOfCells(columnsOf(g, 0, down[0])), cutOfCells(columnsOf(g, down[0], c.Width))
	}
	if a, b, ok := impl.PartDown(c); ok != (len(down) > 0) || !same(a, first) || !same(b, second) {
		t.Fatal("down", textOf(c), textOf(a), textOf(b), ok)
	}
	first, second = impl.Cut{}, impl.Cut{}
	if len(across) > 0 {
		first, second = cutOfCells(g[:across[0]]), cutOfCells(g[across[0]:])
	}
	if a, b, ok := impl.PartAcross(c); ok != (len(across) > 0) || !same(a, first) || !same(b, second) {
		t.Fatal("across", textOf(c), textOf(a), textOf(b), ok)
	}
}

func TestPartDownAndPartAcross(t *testing.T) {
	for _, c := range sampleCuts() {
		checkParted(t, c)
	}
	for _, c := range treesOfFive() {
		checkParted(t, c)
	}
	for _, w := range []struct {
		c, left, right, above, below impl.Cut
	}{
		{c: one}, {c: grown(one, 500)}, {c: nine}, {c: pinwheel}, {c: grown(pinwheel, 100)},
		{c: through, above: cut(5, 3, 0, 0, 3, 3, 0, 2, 3, 2, 1, 4, 2, 1), below: cut(5, 2, 0, 0, 2, 2, 0, 2, 4, 0, 1, 4, 1, 1)},
		{c: three, left: grown(one, 2), right: rowsOfOnes(1, 2)},
		{c: exchangedByCells(three), above: grown(one, 2), below: rowsOfOnes(2, 1)},
		{c: split, left: rowsOfOnes(1, 2), right: cut(3, 2, 0, 0, 2, 2, 0, 1, 2, 1, 1)},
		{c: four, left: rowsOfOnes(1, 2), right: rowsOfOnes(1, 2), above: rowsOfOnes(2, 1), below: rowsOfOnes(2, 1)},
		{c: rowsOfOnes(30, 1), left: one, right: rowsOfOnes(29, 1)},
		{c: rowsOfOnes(1, 30), above: one, below: rowsOfOnes(1, 29)},
		// Parts keep their lengths.
		{c: grown(three, 7), left: grown(one, 14), right: grown(rowsOfOnes(1, 2), 7)},
		{c: grown(rowsOfOnes(2, 1), 250), left: grown(one, 250), right: grown(one, 250)},
	} {
		if a, b, ok := impl.PartDown(w.c); ok == zero(w.left) || !same(a, w.left) || !same(b, w.right) {
			t.Error("down", textOf(w.c), textOf(a), textOf(b), ok)
		}
		if a, b, ok := impl.PartAcross(w.c); ok == zero(w.above) || !same(a, w.above) || !same(b, w.below) {
			t.Error("across", textOf(w.c), textOf(a), textOf(b), ok)
		}
	}
	for _, c := range noCuts() {
		a, b, ok := impl.PartDown(c)
		d, e, fine := impl.PartAcross(c)
		if ok || fine || !zero(a) || !zero(b) || !zero(d) || !zero(e) {
			t.Error(textOf(c), ok, fine)
		}
	}
}

func TestPartsShareNoMemory(t *testing.T) {
	for _, c := range sampleCuts() {
		for _, part := range []func(impl.Cut) (impl.Cut, impl.Cut, bool){impl.PartDown, impl.PartAcross} {
			first, second, ok := part(c)
			if !ok {
				continue
			}
			before := textOf(second)
			fillAll(first.Squares, impl.Square{X: 77})
			if textOf(second) != before {
				t.Fatal(textOf(c), before, textOf(second))
			}
		}
	}
}

// listsOf are all increasing lists of at least one of so many squares.
func listsOf(squares int) [][]int {
	var lists [][]int
	for set := 1; set < 1<<squares; set++ {
		var list []int
		for k := range squares {
			if set>>k&1 == 1 {
				list = append(list, k)
			}
		}
		lists = append(lists, list)
	}
	return lists
}

func TestTakePart(t *testing.T) {
	cuts := append(cutsOfSize(4, 3), three, four, nine, split, through, grown(split, 3), rowsOfOnes(9, 1), rowsOfOnes(1, 9), grown(one, 500))
	for _, c := range append(cuts, cutsOfSize(3, 3)...) {
		g, _ := cellsOf(c)
		if len(c.Squares) > 9 {
			continue
		}
		for _, list := range listsOf(len(c.Squares)) {
			want := takenByCells(g, list)
			if d, ok := impl.TakePart(c, list); ok == zero(want) || !same(d, want) {
				t.Fatal(textOf(c), list, textOf(d), ok)
			}
		}
	}
	for _, w := range []struct {
		c    impl.Cut
		list []int
		want impl.Cut
	}{
		{one, []int{0}, one}, {three, []int{0}, grown(one, 2)}, {three, []int{2}, one}, {three, []int{1, 2}, rowsOfOnes(1, 2)}, {three, []int{0, 1, 2}, three},
		{three, []int{0, 1}, impl.Cut{}}, {three, []int{0, 2}, impl.Cut{}}, {four, []int{0, 3}, impl.Cut{}}, {four, []int{1, 2}, impl.Cut{}}, {four, []int{1, 3}, rowsOfOnes(1, 2)},
		{four, []int{0, 1, 2}, impl.Cut{}}, {four, []int{1, 2, 3}, impl.Cut{}}, {nine, []int{0}, grown(one, 18)}, {nine, []int{7}, one},
		{rowsOfOnes(6, 5), []int{7, 8, 13, 14}, four}, {rowsOfOnes(6, 5), []int{7, 9, 13, 15}, impl.Cut{}}, {rowsOfOnes(6, 5), []int{5, 6}, impl.Cut{}}, {rowsOfOnes(6, 5), []int{24, 25, 26, 27, 28, 29}, rowsOfOnes(6, 1)},
	} {
		if d, ok := impl.TakePart(w.c, w.list); ok == zero(w.want) || !same(d, w.want) {
			t.Error(textOf(w.c), w.list, textOf(d), ok)
		}
	}
}

func TestTakePartFails(t *testing.T) {
	for _, c := range []impl.Cut{one, three, nine, rowsOfOnes(30, 1), rowsOfOnes(6, 5)} {
		for _, list := range noLists(len(c.Squares)) {
			if d, ok := impl.TakePart(c, list); ok || !zero(d) {
				t.Error(textOf(c), list[:min(len(list), 31)], textOf(d), ok)
			}
		}
	}
	// Without the order, or with a square told twice, these would be parts.
	for _, list := range [][]int{{2, 1}, {1, 1, 2}, {1, 2, 2}, {0, 2, 1}, {2, 1, 0}, {0, 0, 1, 2}} {
		if d, ok := impl.TakePart(three, list); ok || !zero(d) {
			t.Error(list, textOf(d), ok)
		}
	}
	for _, c := range noCuts() {
		for _, list := range [][]int{nil, {0}, {0, 1}, {1, 2}, {0, 1, 2}} {
			if d, ok := impl.TakePart(c, list); ok || !zero(d) {
				t.Error(textOf(c), list, textOf(d), ok)
			}
		}
	}
}

func TestReplaceSquare(t *testing.T) {
	into := []impl.Cut{one, grown(one, 2), grown(one, 6), four, rowsOfOnes(5, 5), through, grown(through, 2)}
	into = append(into, cutsOfSize(3, 3)...)
	for _, c := range append(joinedCuts(), grown(split, 6)) {
		for k := range c.Squares {
			for _, d := range into {
				want := replacedByCells(c, k, d)
				if e, ok := impl.ReplaceSquare(c, k, d); ok == zero(want) || !same(e, want) {
					t.Fatal(textOf(c), k, textOf(d), textOf(e), ok, textOf(want))
				}
			}
		}
	}
	for _, w := range []struct {
		c    impl.Cut
		k    int
		d    impl.Cut
		text string
	}{
		{one, 0, one, "1x1;0,0,1"}, {one, 0, four, "2x2;0,0,1;1,0,1;0,1,1;1,1,1"}, {three, 0, one, "3x2;0,0,2;2,0,1;2,1,1"},
		{three, 0, four, "3x2;0,0,1;1,0,1;2,0,1;0,1,1;1,1,1;2,1,1"}, {three, 2, four, "6x4;0,0,4;4,0,2;4,2,1;5,2,1;4,3,1;5,3,1"},
		// Both are grown: a side of 4 and a width of 6 become 12.
		{cut(4, 4, 0, 0, 4), 0, grown(rowsOfOnes(2, 2), 3), "12x12;0,0,6;6,0,6;0,6,6;6,6,6"}, {grown(one, 4), 0, grown(one, 6), "12x12;0,0,12"},
		{rowsOfOnes(2, 1), 1, grown(one, 2), "4x2;0,0,2;2,0,2"}, {grown(rowsOfOnes(2, 1), 2), 0, one, "4x2;0,0,2;2,0,2"},
	} {
		if e, ok := impl.ReplaceSquare(w.c, w.k, w.d); !ok || textOf(e) != w.text {
			t.Error(textOf(w.c), w.k, textOf(w.d), textOf(e), ok)
		}
	}
}

func TestReplaceSquareAtLimits(t *testing.T) {
	for _, w := range []struct {
		c    impl.Cut
		k    int
		d    impl.Cut
		fine bool
	}{
		{one, 0, grown(one, 500), true}, {grown(one, 500), 0, one, true}, {grown(one, 500), 0, grown(four, 250), true}, {grown(one, 499), 0, grown(one, 500), false},
		{grown(three, 83), 1, four, true}, {grown(three, 85), 1, four, false}, {grown(three, 85), 0, four, true}, {grown(exchangedByCells(three), 85), 2, four, false},
		{grown(rowsOfOnes(2, 1), 125), 0, four, true}, {grown(rowsOfOnes(2, 1), 127), 0, four, false},
		{rowsOfOnes(2, 1), 0, grown(one, 250), true}, {rowsOfOnes(2, 1), 1, grown(one, 251), false}, {rowsOfOnes(1, 2), 0, grown(one, 250), true}, {rowsOfOnes(1, 2), 1, grown(one, 251), false},
		{rowsOfOnes(27, 1), 5, four, true}, {rowsOfOnes(17, 1), 16, four, true}, {rowsOfOnes(30, 1), 29, one, true}, {rowsOfOnes(30, 1), 29, four, false}, {rowsOfOnes(28, 1), 0, four, false},
		{rowsOfOnes(6, 1), 3, rowsOfOnes(5, 5), true}, {rowsOfOnes(7, 1), 3, rowsOfOnes(5, 5), false}, {grown(rowsOfOnes(27, 1), 2), 26, four, true}, {grown(rowsOfOnes(28, 1), 2), 27, four, false},
	} {
		want := replacedByCells(w.c, w.k, w.d)
		e, ok := impl.ReplaceSquare(w.c, w.k, w.d)
		if !same(e, want) || ok == zero(want) || ok != w.fine {
			t.Error(textOf(w.c), w.k, textOf(w.d), textOf(e), ok)
		}
	}
}

func TestReplaceSquareFails(t *testing.T) {
	check := func(c impl.Cut, k int, d impl.Cut) {
		t.Helper()
		if e, ok := impl.ReplaceSquare(c, k, d); ok || !zero(e) {
			t.Error(textOf(c), k, textOf(d), textOf(e), ok)
		}
	}
	for _, c := range []impl.Cut{one, three, nine, rowsOfOnes(30, 1)} {
		for _, k := range append(strangeInts(), len(c.Squares), -len(c.Squares)) {
			if k < 0 || k >= len(c.Squares) {
				check(c, k, one)
			}
		}
	}
	for _, c := range noCuts() {
		check(c, 0, one)
		check(c, 0, four)
		check(one, 0, c)
		check(three, 2, c)
		check(c, 0, c)
	}
	for _, d := range []impl.Cut{three, exchangedByCells(three), split, nine, rowsOfOnes(2, 1), rowsOfOnes(1, 2), rowsOfOnes(30, 1)} {
		check(one, 0, d)
		check(three, 0, d)
	}
}

func TestSpiralCut(t *testing.T) {
	g := cells{{0}}
	for squares := 1; squares <= 12; squares++ {
		c, ok := impl.SpiralCut(squares)
		if !ok || !same(c, cutOfCells(g)) || len(c.Squares) != squares {
			t.Error(squares, textOf(c), ok)
		}
		g = putByCells(g, squares%4, squares)
	}
	for squares, text := range map[int]string{1: "1x1;0,0,1", 2: "2x1;0,0,1;1,0,1", 3: "2x3;0,0,1;1,0,1;0,1,2", 4: "5x3;0,0,3;3,0,1;4,0,1;3,1,2", 5: "5x8;0,0,5;0,5,3;3,5,1;4,5,1;3,6,2", 6: "13x8;0,0,5;5,0,8;0,5,3;3,5,1;4,5,1;3,6,2"} {
		if c, ok := impl.SpiralCut(squares); !ok || textOf(c) != text {
			t.Error(squares, textOf(c), ok)
		}
	}
	if c, ok := impl.SpiralCut(12); !ok || c.Width != 233 || c.Height != 144 {
		t.Error("twelve", c.Width, c.Height, ok)
	}
	for _, squares := range noWidths(12) {
		if c, ok := impl.SpiralCut(squares); ok || !zero(c) {
			t.Error(squares, textOf(c), ok)
		}
	}
}

func TestIsByLinesAndTreeOfCut(t *testing.T) {
	check := func(c impl.Cut) {
		t.Helper()
		g, _ := cellsOf(c)
		want := treeByCells(g)
		if tree, ok := impl.TreeOfCut(c); ok != (want != "") || tree != want {
			t.Error("tree", textOf(c), tree, ok, want)
		}
		if is, ok := impl.IsByLines(c); !ok || is != (want != "") {
			t.Error("by lines", textOf(c), is, ok)
		}
	}
	for _, c := range sampleCuts() {
		check(c)
	}
	for _, c := range treesOfFive() {
		check(c)
	}
	for _, w := range []struct {
		c    impl.Cut
		tree string
	}{
		{one, "s"}, {grown(one, 500), "s"}, {three, "bsuss"}, {grown(three, 100), "bsuss"}, {exchangedByCells(three), "usbss"}, {rowsOfOnes(3, 1), "bsbss"}, {rowsOfOnes(1, 3), "ususs"},
		// Lines down come before lines across.
		{four, "bussuss"}, {rowsOfOnes(3, 2), "bussbussuss"}, {split, "bussbsuss"},
		{rowsOfOnes(30, 1), strings.Repeat("bs", 29) + "s"}, {rowsOfOnes(1, 30), strings.Repeat("us", 29) + "s"}, {rowsOfOnes(2, 15), "b" + strings.Repeat(strings.Repeat("us", 14)+"s", 2)},
	} {
		if tree, ok := impl.TreeOfCut(w.c); !ok || tree != w.tree {
			t.Error(textOf(w.c), tree, ok)
		}
		if is, ok := impl.IsByLines(w.c); !ok || !is {
			t.Error(textOf(w.c), is, ok)
		}
	}
	inRow, _ := impl.BesideCuts(one, pinwheel)
	inColumn, _ := impl.UnderCuts(pinwheel, three)
	inside, _ := impl.ReplaceSquare(three, 2, pinwheel)
	for _, c := range []impl.Cut{nine, grown(nine, 2), pinwheel, inRow, inColumn, inside} {
		check(c)
		is, ok := impl.IsByLines(c)
		if tree, fine := impl.TreeOfCut(c); !ok || is || fine || tree != "" {
			t.Error(textOf(c), is, ok, tree, fine)
		}
	}
	for _, c := range noCuts() {
		is, ok := impl.IsByLines(c)
		if tree, fine := impl.TreeOfCut(c); ok || is || fine || tree != "" {
			t.Error(textOf(c), is, ok, tree, fine)
		}
	}
}

func TestCutOfTree(t *testing.T) {
	for text, want := range treesOfFive() {
		if c, ok := impl.CutOfTree(text); !ok || !same(c, want) {
			t.Fatal(text, textOf(c), ok, textOf(want))
		}
	}
	for _, w := range []struct{ tree, text string }{
		{"s", "1x1;0,0,1"}, {"bss", "2x1;0,0,1;1,0,1"}, {"uss", "1x2;0,0,1;0,1,1"}, {"bsuss", "3x2;0,0,2;2,0,1;2,1,1"}, {"busss", "3x2;0,0,1;1,0,2;0,1,1"}, {"bsusususs", "5x4;0,0,4;4,0,1;4,1,1;4,2,1;4,3,1"},
		// Texts that are made as a tree is need not be the tree of their cut.
		{"bbsss", "3x1;0,0,1;1,0,1;2,0,1"}, {"bsbss", "3x1;0,0,1;1,0,1;2,0,1"}, {"ubssbss", "2x2;0,0,1;1,0,1;0,1,1;1,1,1"}, {"bussuss", "2x2;0,0,1;1,0,1;0,1,1;1,1,1"},
		{"bussususs", "5x6;0,0,3;3,0,2;3,2,2;0,3,3;3,4,2"},
	} {
		if c, ok := impl.CutOfTree(w.tree); !ok || textOf(c) != w.text {
			t.Error(w.tree, textOf(c), ok)
		}
	}
}

func TestCutOfTreeAtLimits(t *testing.T) {
	row, column := strings.Repeat("bs", 29)+"s", strings.Repeat("us", 29)+"s"
	for _, w := range []struct {
		tree string
		want impl.Cut
	}{
		{row, rowsOfOnes(30, 1)}, {column, rowsOfOnes(1, 30)}, {strings.Repeat("b", 29) + strings.Repeat("s", 30), rowsOfOnes(30, 1)}, {strings.Repeat("u", 29) + strings.Repeat("s", 30), rowsOfOnes(1, 30)},
		// These have 60 signs, and 61.
		{row + "s", impl.Cut{}}, {"b" + row, impl.Cut{}}, {"bs" + row, impl.Cut{}}, {"us" + column, impl.Cut{}}, {"b" + row + "s", impl.Cut{}}, {"bs" + column, impl.Cut{}},
	} {
		if c, ok := impl.CutOfTree(w.tree); ok == zero(w.want) || !same(c, w.want) {
			t.Error(w.tree, textOf(c), ok)
		}
	}
	// Squares put at two sides by turns are too wide, or too high, long before there are too many of them.
	tree, width, height := "s", 1, 1
	for k := range 29 {
		sign := "bu"[k%2 : k%2+1]
		tree = sign + "s" + tree
		if sign == "b" {
			width += height
		} else {
			height += width
		}
		c, ok := impl.CutOfTree(tree)
		if fine := max(width, height) <= 500; ok != fine || fine && (c.Width != width || c.Height != height || len(c.Squares) != k+2) || !fine && !zero(c) {
			t.Error(tree, textOf(c), ok)
		}
	}
}

// textsUpTo are all texts of at most so many signs, each one of trees or an `x`.
func textsUpTo(length int) []string {
	all, longest := []string{""}, []string{""}
	for range length {
		var longer []string
		for _, text := range longest {
			longer = append(longer, text+"b", text+"u", text+"s", text+"x")
		}
		all, longest = append(all, longer...), longer
	}
	return all
}

func TestCutOfTreeFails(t *testing.T) {
	count := 0
	for _, text := range append(noTrees(), textsUpTo(7)...) {
		want, is := treesOfFive()[text]
		c, ok := impl.CutOfTree(text)
		if ok != is || !same(c, want) {
			t.Errorf("%.70q %s %v", text, textOf(c), ok)
		}
		if is {
			count++
		}
	}
	if count != 1+2+8+40 {
		t.Error("trees", count)
	}
}

func TestLinesDownAndLinesAcross(t *testing.T) {
	check := func(c impl.Cut) {
		t.Helper()
		g, _ := cellsOf(c)
		if lines, ok := impl.LinesDown(c); !ok || !slices.Equal(lines, linesDownByCells(g)) {
			t.Error("down", textOf(c), lines, ok)
		}
		if lines, ok := impl.LinesAcross(c); !ok || !slices.Equal(lines, linesAcrossByCells(g)) {
			t.Error("across", textOf(c), lines, ok)
		}
	}
	for _, c := range append(sampleCuts(), pinwheel, grown(one, 500), grown(pinwheel, 100)) {
		check(c)
	}
	for _, c := range treesOfFive() {
		check(c)
	}
	for _, w := range []struct {
		c            impl.Cut
		down, across []int
	}{
		{one, nil, nil}, {grown(one, 500), nil, nil}, {nine, nil, nil}, {pinwheel, nil, nil}, {three, []int{2}, nil}, {exchangedByCells(three), nil, []int{2}}, {four, []int{1}, []int{1}},
		{split, []int{1, 3}, nil}, {through, nil, []int{3}}, {grown(rowsOfOnes(2, 1), 250), []int{250}, nil}, {grown(rowsOfOnes(3, 2), 7), []int{7, 14}, []int{7}}, {rowsOfOnes(5, 4), []int{1, 2, 3, 4}, []int{1, 2, 3}},
	} {
		down, ok := impl.LinesDown(w.c)
		if across, fine := impl.LinesAcross(w.c); !ok || !fine || !slices.Equal(down, w.down) || !slices.Equal(across, w.across) {
			t.Error(textOf(w.c), down, across, ok, fine)
		}
	}
	for _, c := range noCuts() {
		down, ok := impl.LinesDown(c)
		if across, fine := impl.LinesAcross(c); ok || fine || len(down) > 0 || len(across) > 0 {
			t.Error(textOf(c), down, across, ok, fine)
		}
	}
}

func TestRowOfSquares(t *testing.T) {
	for count := 1; count <= 30; count++ {
		if c, ok := impl.RowOfSquares(count); !ok || !same(c, rowsOfOnes(count, 1)) {
			t.Error(count, textOf(c), ok)
		}
	}
	for _, count := range noWidths(30) {
		if c, ok := impl.RowOfSquares(count); ok || !zero(c) {
			t.Error(count, textOf(c), ok)
		}
	}
}

// joinedByCells puts one cut after the other beside those before it.
func joinedByCells(cuts []impl.Cut) impl.Cut {
	joined := cuts[0]
	for _, c := range cuts[1:] {
		if zero(joined) {
			break
		}
		joined = besideCutsByCells(joined, c)
	}
	return joined
}

func TestJoinMany(t *testing.T) {
	few := []impl.Cut{one, grown(one, 2), three, grown(four, 3), rowsOfOnes(1, 3), nine, rowsOfOnes(27, 1)}
	var lists [][]impl.Cut
	for _, a := range few {
		lists = append(lists, []impl.Cut{a})
		for _, b := range few {
			lists = append(lists, []impl.Cut{a, b})
			for _, c := range few {
				lists = append(lists, []impl.Cut{a, b, c})
			}
		}
	}
	// 30 cuts, and 31; 30 squares, and 31; a width of 500, and 501, of which one cut has but one.
	for _, count := range []int{29, 30, 31, 100} {
		lists = append(lists, slices.Repeat([]impl.Cut{one}, count), slices.Repeat([]impl.Cut{grown(one, 16)}, count))
	}
	lists = append(lists, []impl.Cut{rowsOfOnes(10, 1), rowsOfOnes(10, 1), rowsOfOnes(10, 1)}, []impl.Cut{rowsOfOnes(10, 1), rowsOfOnes(10, 1), rowsOfOnes(11, 1)},
		[]impl.Cut{grown(one, 125), grown(one, 125), grown(one, 125), grown(one, 125)}, []impl.Cut{grown(one, 126), one, one, one}, slices.Repeat([]impl.Cut{grown(one, 20)}, 25), slices.Repeat([]impl.Cut{grown(one, 20)}, 26),
		[]impl.Cut{grown(rowsOfOnes(2, 1), 50), grown(one, 50), grown(rowsOfOnes(7, 1), 50)}, []impl.Cut{grown(one, 500)}, []impl.Cut{grown(one, 500), one})
	for _, list := range lists {
		want := joinedByCells(list)
		if c, ok := impl.JoinMany(list); ok == zero(want) || !same(c, want) {
			t.Fatal(len(list), textOf(list[0]), textOf(c), ok, textOf(want))
		}
	}
	for _, w := range []struct {
		cuts []impl.Cut
		text string
	}{
		{[]impl.Cut{grown(one, 7)}, "7x7;0,0,7"}, {[]impl.Cut{one, grown(one, 3), grown(one, 2)}, "18x6;0,0,6;6,0,6;12,0,6"}, {[]impl.Cut{rowsOfOnes(1, 2), one, rowsOfOnes(1, 2)}, "4x2;0,0,1;1,0,2;3,0,1;0,1,1;3,1,1"},
		{[]impl.Cut{one, rowsOfOnes(1, 2), rowsOfOnes(1, 3)}, "11x6;0,0,6;6,0,3;9,0,2;9,2,2;6,3,3;9,4,2"},
	} {
		if c, ok := impl.JoinMany(w.cuts); !ok || textOf(c) != w.text {
			t.Error(textOf(c), ok, w.text)
		}
	}
}

func TestJoinManyFails(t *testing.T) {
	check := func(cuts ...impl.Cut) {
		t.Helper()
		if c, ok := impl.JoinMany(cuts); ok || !zero(c) {
			t.Error(len(cuts), textOf(c), ok)
		}
	}
	check()
	check([]impl.Cut{}...)
	check(make([]impl.Cut, 100000)...)
	check(slices.Repeat([]impl.Cut{one}, 31)...)
	check(slices.Repeat([]impl.Cut{one}, 100000)...)
	for _, c := range noCuts() {
		check(c)
		check(c, one)
		check(one, c)
		check(one, c, three)
		check(one, three, c)
	}
}
