package tests

import (
	"slices"
	"testing"

	"loop.example/g01296/impl"
)

// made returns what the functions of chapter 1 that return a cut make of one.
func made(c impl.Cut) map[string]impl.Cut {
	list := map[string]impl.Cut{}
	note := func(name string, d impl.Cut, ok bool) {
		if ok {
			list[name] = d
		}
	}
	mixed := slices.Clone(c.Squares)
	slices.Reverse(mixed)
	d, ok := impl.CutOf(c.Width, c.Height, mixed)
	note("CutOf", d, ok)
	d, ok = impl.OneSquare(c.Width)
	note("OneSquare", d, ok)
	d, ok = impl.TurnCut(c)
	note("TurnCut", d, ok)
	d, ok = impl.MirrorCut(c)
	note("MirrorCut", d, ok)
	d, ok = impl.GrowCut(c, 3)
	note("GrowCut", d, ok)
	d, ok = impl.LowCut(c)
	note("LowCut", d, ok)
	d, ok = impl.FirstTurn(c)
	note("FirstTurn", d, ok)
	s, _ := impl.CutText(c)
	d, ok = impl.ParseCut(s)
	note("ParseCut", d, ok)
	return list
}

func TestPromise1CutsFillTheirRectangleJustOnce(t *testing.T) {
	for _, c := range sampleCuts() {
		list := made(c)
		if len(list) != 8 {
			t.Error("a call fails", textOf(c))
		}
		for name, d := range list {
			g, ok := cellsOf(d)
			if !ok || !same(d, cutOfCells(g)) || !impl.IsCut(d) {
				t.Error(name, textOf(c), textOf(d))
			}
		}
	}
}

// TestPromise1NothingElseIsACut tries all short lists of squares in and around small rectangles.
func TestPromise1NothingElseIsACut(t *testing.T) {
	for _, w := range []struct{ least, greatest, count int }{{-1, 2, 3}, {0, 1, 4}} {
		var all []impl.Square
		for x := w.least; x <= w.greatest; x++ {
			for y := w.least; y <= w.greatest; y++ {
				for side := w.least; side <= 2; side++ {
					all = append(all, impl.Square{X: x, Y: y, Side: side})
				}
			}
		}
		for width := range 3 {
			for height := range 3 {
				tryLists(t, impl.Cut{Width: width, Height: height}, all, w.count)
			}
		}
	}
}

func tryLists(t *testing.T, c impl.Cut, all []impl.Square, count int) {
	g, fill := cellsOf(c)
	if is := fill && c.Width > 0 && c.Height > 0 && same(c, cutOfCells(g)); is != impl.IsCut(c) {
		t.Error(textOf(c), is)
	}
	if count == 0 {
		return
	}
	for _, s := range all {
		d := impl.Cut{Width: c.Width, Height: c.Height, Squares: append(slices.Clone(c.Squares), s)}
		tryLists(t, d, all, count-1)
	}
}

func TestPromise1EachCellIsInTheSquareThatIsTold(t *testing.T) {
	for _, c := range sampleCuts() {
		found := make([]int, len(c.Squares))
		for y := range c.Height {
			for x := range c.Width {
				k, ok := impl.SquareAt(c, x, y)
				if !ok {
					t.Fatal(textOf(c), x, y)
				}
				found[k]++
			}
		}
		for k, s := range c.Squares {
			if found[k] != s.Side*s.Side {
				t.Error(textOf(c), k, found[k])
			}
		}
	}
}

func TestPromise1FourTurnsComeBack(t *testing.T) {
	for _, c := range sampleCuts() {
		d := c
		for turns := 1; turns <= 4; turns++ {
			e, ok := impl.TurnCut(d)
			if !ok || e.Width != d.Height || e.Height != d.Width || len(e.Squares) != len(c.Squares) {
				t.Fatal(textOf(d), e, ok)
			}
			d = e
		}
		if !same(c, d) {
			t.Error("four turns", textOf(c), textOf(d))
		}
		once, _ := impl.MirrorCut(c)
		if twice, ok := impl.MirrorCut(once); !ok || !same(c, twice) {
			t.Error("mirrored twice", textOf(c), textOf(twice))
		}
	}
}

func TestPromise1TurnedCutsHaveOneFirstTurn(t *testing.T) {
	for _, c := range sampleCuts() {
		first, ok := impl.FirstTurn(c)
		if !ok || first.Width < first.Height {
			t.Fatal(textOf(c), first, ok)
		}
		turned, _ := impl.TurnCut(c)
		mirrored, _ := impl.MirrorCut(c)
		for _, d := range []impl.Cut{turned, mirrored, first} {
			if e, ok := impl.FirstTurn(d); !ok || !same(first, e) {
				t.Error(textOf(c), textOf(d), e, ok)
			}
		}
	}
}
