package tests

import (
	"slices"
	"testing"

	"loop.example/g01296/impl"
)

// partedCuts are cuts with lines of many kinds and without.
func partedCuts() []impl.Cut {
	list := append(sampleCuts(), pinwheel, grown(three, 100), rowsOfOnes(2, 15), rowsOfOnes(15, 2))
	for _, c := range treesOfFive() {
		list = append(list, c)
	}
	return list
}

func TestPromise6LinesPartCutsIntoCutsThatArePutTogetherAgain(t *testing.T) {
	for _, w := range []struct {
		lines func(impl.Cut) ([]int, bool)
		part  func(impl.Cut) (impl.Cut, impl.Cut, bool)
		join  func(a, b impl.Cut) (impl.Cut, bool)
	}{
		{impl.LinesDown, impl.PartDown, impl.BesideCuts}, {impl.LinesAcross, impl.PartAcross, impl.UnderCuts},
	} {
		parted := 0
		for _, c := range partedCuts() {
			lines, ok := w.lines(c)
			a, b, fine := w.part(c)
			if !ok || fine != (len(lines) > 0) {
				t.Fatal(textOf(c), lines, ok, fine)
			}
			if !fine {
				continue
			}
			parted++
			if !impl.IsCut(a) || !impl.IsCut(b) || len(a.Squares)+len(b.Squares) != len(c.Squares) {
				t.Fatal(textOf(c), textOf(a), textOf(b))
			}
			if again, ok := w.join(a, b); !ok || !same(again, c) {
				t.Fatal(textOf(c), textOf(again), ok)
			}
		}
		if parted < 100 {
			t.Error("few have lines", parted)
		}
	}
}

// between returns the squares of a cut from one X on up to another one.
func between(c impl.Cut, from, to int) []int {
	var list []int
	for k, s := range c.Squares {
		if from <= s.X && s.X < to {
			list = append(list, k)
		}
	}
	return list
}

func TestPromise6EachLineDownPartsACut(t *testing.T) {
	for _, c := range partedCuts() {
		lines, _ := impl.LinesDown(c)
		for _, x := range lines {
			a, ok := impl.TakePart(c, between(c, 0, x))
			b, fine := impl.TakePart(c, between(c, x, c.Width))
			if !ok || !fine || a.Width != x || a.Height != c.Height || b.Width != c.Width-x || b.Height != c.Height {
				t.Fatal(textOf(c), x, textOf(a), textOf(b), ok, fine)
			}
			if again, ok := impl.BesideCuts(a, b); !ok || !same(again, c) {
				t.Fatal(textOf(c), x, textOf(again), ok)
			}
		}
		var columns []impl.Cut
		from := 0
		for _, x := range append(lines, c.Width) {
			column, ok := impl.TakePart(c, between(c, from, x))
			if inside, fine := impl.LinesDown(column); !ok || !fine || len(inside) > 0 {
				t.Fatal(textOf(c), from, x, textOf(column), inside)
			}
			columns = append(columns, column)
			from = x
		}
		if again, ok := impl.JoinMany(columns); !ok || !same(again, c) {
			t.Fatal(textOf(c), len(columns), textOf(again), ok)
		}
	}
}

func TestPromise6TurnedLinesAreTheSame(t *testing.T) {
	for _, c := range partedCuts() {
		turned, _ := impl.TurnCut(c)
		across, _ := impl.LinesAcross(c)
		down, ok := impl.LinesDown(turned)
		slices.Reverse(down)
		for i := range down {
			down[i] = turned.Width - down[i]
		}
		if !ok || !slices.Equal(across, down) {
			t.Fatal(textOf(c), across, down, ok)
		}
		is, _ := impl.IsByLines(c)
		if isTurned, ok := impl.IsByLines(turned); !ok || is != isTurned {
			t.Fatal(textOf(c), is, isTurned, ok)
		}
	}
}

func TestPromise6TreesPutCutsTogetherAgain(t *testing.T) {
	byLines := 0
	for _, c := range partedCuts() {
		is, ok := impl.IsByLines(c)
		tree, fine := impl.TreeOfCut(c)
		if g, _ := cellsOf(c); !ok || is != fine || is != isByLinesByCells(g) {
			t.Fatal(textOf(c), is, ok, tree, fine)
		}
		if !fine {
			continue
		}
		byLines++
		low, _ := impl.LowCut(c)
		if again, ok := impl.CutOfTree(tree); !ok || !same(again, low) {
			t.Fatal(textOf(c), tree, textOf(again), ok)
		}
	}
	if byLines < 500 {
		t.Error("few are by lines", byLines)
	}
	for text := range treesOfFive() {
		c, ok := impl.CutOfTree(text)
		tree, fine := impl.TreeOfCut(c)
		if again, good := impl.CutOfTree(tree); !ok || !fine || !good || !same(again, c) {
			t.Fatal(text, tree, textOf(c), textOf(again))
		}
		if is, ok := impl.IsByLines(c); !ok || !is {
			t.Fatal(text, is, ok)
		}
	}
}

func TestPromise6CutsByLinesAreByLines(t *testing.T) {
	for width := 1; width <= 20; width++ {
		for height := 1; height <= 20; height++ {
			lined, _ := impl.CutByLines(width, height)
			greedy, ok := impl.GreedyCut(width, height)
			if is, fine := impl.IsByLines(lined); !fine || !is {
				t.Fatal(textOf(lined), is, fine)
			}
			if is, fine := impl.IsByLines(greedy); ok != fine || is != ok {
				t.Fatal(textOf(greedy), is, ok, fine)
			}
		}
	}
	for squares := 1; squares <= 12; squares++ {
		c, _ := impl.SpiralCut(squares)
		if is, ok := impl.IsByLines(c); !ok || !is {
			t.Fatal(squares, is, ok)
		}
	}
}

func TestPromise6WhatIsPutOnIsTakenOffAgain(t *testing.T) {
	for _, c := range partedCuts() {
		for edge := range 4 {
			put, ok := impl.PutSquare(c, edge)
			if !ok {
				if len(c.Squares) < 30 && c.Width+c.Height <= 500 {
					t.Fatal(textOf(c), edge)
				}
				continue
			}
			corner := [4][2]int{{0, 0}, {put.Width - 1, 0}, {0, put.Height - 1}, {0, 0}}[edge]
			others := othersThan(put, corner[0], corner[1])
			if again, ok := impl.TakePart(put, others); !ok || !same(again, c) {
				t.Fatal(textOf(c), edge, textOf(put), others, textOf(again), ok)
			}
		}
	}
}

// othersThan returns all squares of a cut but for that at a cell.
func othersThan(c impl.Cut, x, y int) []int {
	var list []int
	for k, s := range c.Squares {
		if x < s.X || s.X+s.Side <= x || y < s.Y || s.Y+s.Side <= y {
			list = append(list, k)
		}
	}
	return list
}

func TestPromise6ReplacedSquaresAreTheCutsThatReplaceThem(t *testing.T) {
	for _, c := range []impl.Cut{one, three, split, through, pinwheel, grown(three, 5), rowsOfOnes(3, 2), nine} {
		for k, s := range c.Squares {
			// A square alone, or the cut's own square, changes nothing but lengths.
			own, _ := impl.TakePart(c, []int{k})
			if again, ok := impl.ReplaceSquare(c, k, own); !ok || !same(again, c) {
				t.Fatal(textOf(c), k, textOf(again), ok)
			}
			for _, d := range []impl.Cut{four, pinwheel, grown(four, 3)} {
				e, ok := impl.ReplaceSquare(c, k, d)
				if !ok || len(e.Squares) != len(c.Squares)-1+len(d.Squares) {
					t.Fatal(textOf(c), k, textOf(d), textOf(e), ok)
				}
				times := e.Width / c.Width
				var inside []int
				for i, part := range e.Squares {
					if s.X*times <= part.X && part.X < (s.X+s.Side)*times && s.Y*times <= part.Y && part.Y < (s.Y+s.Side)*times {
						inside = append(inside, i)
					}
				}
				part, ok := impl.TakePart(e, inside)
				if low, fine := impl.LowCut(part); !ok || !fine || !same(low, undoneGrowth(d)) || part.Width != s.Side*times {
					t.Fatal(textOf(c), k, textOf(d), textOf(part), ok, fine)
				}
			}
		}
	}
}

// undoneGrowth divides all lengths of a cut by the greatest number by which it may have been grown.
func undoneGrowth(c impl.Cut) impl.Cut {
	for k := min(c.Width, c.Height); k > 1; k-- {
		low := impl.Cut{Width: c.Width / k, Height: c.Height / k}
		for _, s := range c.Squares {
			low.Squares = append(low.Squares, impl.Square{X: s.X / k, Y: s.Y / k, Side: s.Side / k})
		}
		if same(grown(low, k), c) {
			return low
		}
	}
	return c
}
