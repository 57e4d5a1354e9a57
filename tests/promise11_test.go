package tests

import (
	"fmt"
	"math"
	"reflect"
	"slices"
	"strings"
	"testing"

	"loop.example/g01296/impl"
)

// A call of a function with a cut, two numbers and a text, of which it takes what it needs.
type call func(c impl.Cut, m, n int, s string) []any

// callsOfChapter1 has a call for each function of the chapter; the last result tells whether it succeeds.
func callsOfChapter1() map[string]call {
	return map[string]call{
		"IsCut":          func(c impl.Cut, m, n int, s string) []any { return list(impl.IsCut(c), impl.IsCut(c)) },
		"OneSquare":      func(c impl.Cut, m, n int, s string) []any { return list(impl.OneSquare(m)) },
		"CutOf":          func(c impl.Cut, m, n int, s string) []any { return list(impl.CutOf(c.Width, c.Height, c.Squares)) },
		"CutOf numbers":  func(c impl.Cut, m, n int, s string) []any { return list(impl.CutOf(m, n, c.Squares)) },
		"SidesOf":        func(c impl.Cut, m, n int, s string) []any { return list(impl.SidesOf(c)) },
		"IsPerfect":      func(c impl.Cut, m, n int, s string) []any { return list(impl.IsPerfect(c)) },
		"SquareAt":       func(c impl.Cut, m, n int, s string) []any { return list(impl.SquareAt(c, m, n)) },
		"SquaresBeside":  func(c impl.Cut, m, n int, s string) []any { return list(impl.SquaresBeside(c, m)) },
		"SquaresAtEdges": func(c impl.Cut, m, n int, s string) []any { return list(impl.SquaresAtEdges(c)) },
		"CrossesOf":      func(c impl.Cut, m, n int, s string) []any { return list(impl.CrossesOf(c)) },
		"LongestLine":    func(c impl.Cut, m, n int, s string) []any { return list(impl.LongestLine(c)) },
		"IsSimple":       func(c impl.Cut, m, n int, s string) []any { return list(impl.IsSimple(c)) },
		"PartsOf":        func(c impl.Cut, m, n int, s string) []any { return list(impl.PartsOf(c)) },
		"TurnCut":        func(c impl.Cut, m, n int, s string) []any { return list(impl.TurnCut(c)) },
		"MirrorCut":      func(c impl.Cut, m, n int, s string) []any { return list(impl.MirrorCut(c)) },
		"GrowCut":        func(c impl.Cut, m, n int, s string) []any { return list(impl.GrowCut(c, m)) },
		"LowCut":         func(c impl.Cut, m, n int, s string) []any { return list(impl.LowCut(c)) },
		"FirstTurn":      func(c impl.Cut, m, n int, s string) []any { return list(impl.FirstTurn(c)) },
		"CutText":        func(c impl.Cut, m, n int, s string) []any { return list(impl.CutText(c)) },
		"ParseCut":       func(c impl.Cut, m, n int, s string) []any { return list(impl.ParseCut(s)) },
	}
}

func list(results ...any) []any {
	return results
}

func TestPromise11CallsAreOfAllFunctions(t *testing.T) {
	if n := len(callsOfChapter1()); n != 19+1 {
		t.Error("calls", n)
	}
}

// givenCuts are cuts of many kinds, and lists of squares that are none; the longest of them have far more squares than a cut.
func givenCuts() []impl.Cut {
	given := append(noCuts(), one, three, four, nine, split, through, grown(split, 125), grown(one, 500), rowsOfOnes(6, 5), rowsOfOnes(30, 1))
	given = append(given, rowsOfOnes(300, 300), impl.Cut{Width: 500, Height: 500, Squares: make([]impl.Square, 100000)})
	for _, m := range strangeInts() {
		for _, n := range strangeInts() {
			given = append(given, cut(m, n, 0, 0, m), cut(2, 1, 0, 0, 1, m, n, 1), cut(2, 2, m, 0, n), cut(n, n, m, m, n))
		}
	}
	return given
}

func givenTexts() []string {
	return []string{
		"", ";", "x", "1x1;0,0,1", textOf(nine), "3x2;0,0,2;2,0,1;2,1,1;", "\x00\xff\xfe", "ü1x1;0,0,1", "-1x-1;0,0,-1",
		fmt.Sprintf("%dx%d;%d,%d,%d", math.MaxInt, math.MaxInt, math.MinInt, 0, math.MaxInt),
		strings.Repeat("9", 5000) + "x1;0,0,1", strings.Repeat(";", 5000), strings.Repeat(",", 5000), strings.Repeat("x", 5000),
	}
}

// called reports a panic and returns no results then.
func called(t *testing.T, name string, f call, c impl.Cut, m, n int, s string) (results []any) {
	defer func() {
		if r := recover(); r != nil {
			t.Errorf("%s panics: %v: %.80s %d %d %.80q", name, r, textOf(c), m, n, s)
		}
	}()
	return f(c, m, n, s)
}

func TestPromise11NoPanicAndZeroResultsOfFailingCalls(t *testing.T) {
	check := func(name string, f call, c impl.Cut, m, n int, s string) {
		results := called(t, name, f, c, m, n, s)
		if len(results) == 0 || results[len(results)-1] == true {
			return
		}
		for _, r := range results {
			if d, is := r.(impl.Cut); is && !zero(d) || !is && !emptyValue(r) {
				t.Errorf("%s fails with results: %v %.80s %d %d %.80q", name, results, textOf(c), m, n, s)
			}
		}
	}
	for name, f := range callsOfChapter1() {
		for _, c := range givenCuts() {
			check(name, f, c, 1, 1, "1x1;0,0,1")
		}
		for _, m := range strangeInts() {
			for _, n := range strangeInts() {
				for _, c := range []impl.Cut{{}, one, three, nine, rowsOfOnes(30, 1)} {
					check(name, f, c, m, n, "1x1;0,0,1")
				}
			}
		}
		for _, s := range givenTexts() {
			check(name, f, three, 1, 1, s)
		}
	}
}

func emptyValue(r any) bool {
	v := reflect.ValueOf(r)
	return v.IsZero() || v.Kind() == reflect.Slice && v.Len() == 0
}

func TestPromise11NilAndEmptyAreTheSame(t *testing.T) {
	for name, f := range callsOfChapter1() {
		for _, size := range []int{0, 1, 2} {
			a := called(t, name, f, impl.Cut{Width: size, Height: size}, 0, 0, "")
			b := called(t, name, f, impl.Cut{Width: size, Height: size, Squares: []impl.Square{}}, 0, 0, "")
			if !reflect.DeepEqual(a, b) {
				t.Error(name, a, b)
			}
		}
	}
}

// roomy gives the squares room behind them that holds other squares.
func roomy(c impl.Cut) (impl.Cut, []impl.Square) {
	all := append(slices.Clone(c.Squares), impl.Square{X: 7, Y: 8, Side: 9}, impl.Square{X: -1, Y: 0, Side: 1}, impl.Square{Side: 1})
	c.Squares = all[:len(c.Squares)]
	return c, all
}

func TestPromise11ArgumentsAreNotModifiedAndNotShared(t *testing.T) {
	given := append(cutsOfSize(3, 3), three, nine, split, through, rowsOfOnes(6, 5), cut(3, 2, 2, 1, 1, 2, 0, 1, 0, 0, 2), cut(3, 2, 0, 0, 2), impl.Cut{})
	for name, f := range callsOfChapter1() {
		for _, plain := range given {
			c, all := roomy(plain)
			before := slices.Clone(all)
			first := called(t, name, f, c, 1, 1, textOf(plain))
			if !slices.Equal(all, before) {
				t.Fatal(name, "modifies its argument", textOf(plain))
			}
			text := fmt.Sprint(first...)
			overwrite(first)
			if !slices.Equal(all, before) {
				t.Fatal(name, "shares memory with its argument", textOf(plain))
			}
			if again := fmt.Sprint(called(t, name, f, plain, 1, 1, textOf(plain))...); again != text {
				t.Fatal(name, "gives something else the second time", textOf(plain), text, again)
			}
		}
	}
}

// overwrite writes over all memory of results, the room behind the slices too.
func overwrite(results []any) {
	for _, r := range results {
		switch x := r.(type) {
		case impl.Cut:
			fillAll(x.Squares, impl.Square{X: 77, Y: 77, Side: 77})
		case []int:
			fillAll(x, 77)
		case [][]int:
			for _, inner := range x {
				fillAll(inner, 77)
			}
			fillAll(x, []int{77})
		}
	}
}

func fillAll[T any](s []T, v T) {
	s = s[:cap(s)]
	for i := range s {
		s[i] = v
	}
}

func TestPromise11SlicesOfOneResultShareNoMemory(t *testing.T) {
	for _, f := range []func(impl.Cut) ([][]int, bool){impl.CrossesOf, impl.PartsOf} {
		for _, c := range append(cutsOfSize(4, 4), rowsOfOnes(6, 5)) {
			lists, ok := f(c)
			if !ok {
				t.Fatal(textOf(c))
			}
			for i, inner := range lists {
				before := fmt.Sprint(lists[:i], lists[i+1:])
				fillAll(inner, -77)
				if fmt.Sprint(lists[:i], lists[i+1:]) != before {
					t.Fatal(textOf(c), i)
				}
			}
		}
	}
}
