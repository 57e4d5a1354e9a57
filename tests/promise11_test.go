package tests

import (
	"fmt"
	"math"
	"reflect"
	"slices"
	"strings"
	"testing"

	"loop.example/g01296/impl"
)

// givenCuts are cuts of many kinds, and lists of squares that are none; the longest of them have far more squares than a cut.
func givenCuts() []impl.Cut {
	given := append(noCuts(), one, three, four, nine, split, through, grown(split, 125), grown(one, 500), rowsOfOnes(6, 5), rowsOfOnes(30, 1), rowsOfOnes(1, 30))
	given = append(given, rowsOfOnes(300, 300), impl.Cut{Width: 500, Height: 500, Squares: make([]impl.Square, 100000)})
	for _, m := range strangeInts() {
		for _, n := range strangeInts() {
			given = append(given, cut(m, n, 0, 0, m), cut(2, 1, 0, 0, 1, m, n, 1), cut(2, 2, m, 0, n), cut(n, n, m, m, n))
		}
	}
	return given
}

// givenCodes have among them groups that together are longer than memory is, as they are one group many times.
func givenCodes() [][][]int {
	given := append(noCodes(), codesInOrder()...)
	given = append(given, slices.Repeat([][]int{make([]int, 1<<20)}, 1<<20))
	for _, m := range strangeInts() {
		for _, n := range strangeInts() {
			given = append(given, [][]int{{m, n}}, [][]int{{m}, {n}}, [][]int{{m, n}, {m, n}}, [][]int{{m, n, m, n, 1}, {1}})
		}
	}
	return given
}

// givenNets are nets of many kinds, and lists of wires that are none: with nodes that there are none of, from a node to itself, or not joining all nodes.
func givenNets() []impl.Net {
	given := slices.Concat(noNets(), greatNets(), []impl.Net{oneWire, backWire, ofThree, {Nodes: 2, Wires: make([]impl.Wire, 100000)}, {Nodes: math.MaxInt, Wires: wires(100000, 0, math.MaxInt)}})
	for _, m := range strangeInts() {
		for _, n := range strangeInts() {
			given = append(given, net(m, 0, n), net(m, n, 0, 1, n), net(2, m, n), net(3, 0, 1, 1, 2, m, n), net(12, m, n))
		}
	}
	return given
}

// givenNumbers are sides, currents, or quotients.
func givenNumbers() [][]int {
	given := [][]int{nil, {}, {1}, {0}, {2, 1, 1}, {-2, -1, -1}, slices.Repeat([]int{1}, 30), slices.Repeat([]int{1}, 31), make([]int, 100000)}
	given = append(given, []int{2, 3}, slices.Repeat([]int{2}, 20), slices.Repeat([]int{2}, 21), slices.Repeat([]int{math.MaxInt}, 20), append(slices.Repeat([]int{1}, 13), 2))
	for _, n := range append(strangeInts(), 1000, 1001, 1000000, -1000000, 1000001, -1000001) {
		given = append(given, []int{n}, []int{1, n}, []int{n, 2}, []int{n, n}, []int{n, 1, n}, []int{n, n, n})
	}
	return given
}

// givenLists are lists of cuts, valid and not, and such as are too long.
func givenLists() [][]impl.Cut {
	given := [][]impl.Cut{nil, {}, {{}}, {one}, {three, one}, {one, nine, three}, make([]impl.Cut, 100000), slices.Repeat([]impl.Cut{one}, 30), slices.Repeat([]impl.Cut{one}, 31), slices.Repeat([]impl.Cut{nine}, 100000)}
	for _, c := range givenCuts() {
		given = append(given, []impl.Cut{c}, []impl.Cut{c, one}, []impl.Cut{one, three, c}, []impl.Cut{c, c})
	}
	return given
}

func givenTexts() []string {
	return append(slices.Concat(noWords(), noTrees(), somePuzzleTexts()), []string{
		"", ";", "x", "1x1;0,0,1", textOf(nine), "3x2;0,0,2;2,0,1;2,1,1;", "\x00\xff\xfe", "ü1x1;0,0,1", "-1x-1;0,0,-1",
		fmt.Sprintf("%dx%d;%d,%d,%d", math.MaxInt, math.MaxInt, math.MinInt, 0, math.MaxInt),
		strings.Repeat("9", 5000) + "x1;0,0,1", strings.Repeat(";", 5000), strings.Repeat(",", 5000), strings.Repeat("x", 5000),
		"(", ")", "()", ")(", "(1)", "(2,1)(1)", "(2,1)(1))", "(\x00)(\xff)", "(ü)", "(-1)(-1)",
		fmt.Sprintf("(%d,%d)(%d)", math.MaxInt, math.MaxInt, math.MinInt),
		"(" + strings.Repeat("9", 5000) + ")", strings.Repeat("(", 5000), strings.Repeat(")", 5000), strings.Repeat("(1)", 5000), "(" + strings.Repeat("1,", 5000) + "1)",
		":", "2:", ":0-1", "2:0-1", "3:0-2,0-1,1-2", "3:0-1", "2:0-0", "2:-1-0", "2:0-1\x00", "\xff:0-1", "2:ü-1",
		fmt.Sprintf("%d:%d-%d", math.MaxInt, math.MinInt, math.MaxInt),
		strings.Repeat("9", 5000) + ":0-1", strings.Repeat(":", 5000), strings.Repeat("-", 5000), "2:" + strings.Repeat("0-1,", 5000) + "0-1",
		"s", "bss", "bsuss", "bbsss", strings.Repeat("bs", 29) + "s", strings.Repeat("u", 29) + strings.Repeat("s", 30), strings.Repeat("bsus", 14) + "s",
		"b", "u", "uubb", byTurns(14), byTurns(15), byTurns(16), byTurns(20), strings.Repeat("b", 20), strings.Repeat("u", 20),
	}...)
}

// ratioInts are numbers around the limits of ratios, of words and of squares in all.
func ratioInts() []int {
	return append(strangeInts(), 7, 8, 9, 14, 15, 16, 17, 19, 20, 21, 22, 610, 987, 999, 1000, 1001)
}

// fewInts are numbers around the limits of the widths and heights of which the fewest squares are told.
func fewInts() []int {
	return append(strangeInts(), 8, 9, 10, 12, 13, 14, 59, 60, 61)
}

// countInts are numbers around the limits of widths, heights, products, sides and ranks of cuts that are counted or listed.
func countInts() []int {
	return []int{math.MinInt, -1, 0, 1, 2, 3, 4, 5, 6, 7, 8, 16, 17, 39, 40, 41, 1 << 32, 1 << 62, math.MaxInt}
}

// stripInts are numbers around the limits of heights, lengths, sides, places and ranks of strips.
func stripInts() []int {
	return []int{math.MinInt, math.MinInt + 1, -1, 0, 1, 2, 3, 4, 5, 8, 10, 11, 15, 16, 29, 30, 31, 88, 89, 1346268, 1346269, 72003911101088, 72003911101089, 1 << 32, 1<<32 + 1, 1 << 62, math.MaxInt - 1, math.MaxInt}
}

// stripSizes are heights and lengths of strips, and such as exceed a limit by one: of the last three strips there are more than are listed.
func stripSizes() [][2]int {
	return [][2]int{{1, 1}, {1, 30}, {2, 1}, {2, 3}, {2, 30}, {3, 2}, {3, 10}, {4, 1}, {4, 4}, {4, 7}, {4, 30}, {0, 1}, {1, 0}, {5, 1}, {5, 30}, {1, 31}, {4, 31}, {2, 11}, {3, 7}, {4, 5}}
}

// givenFills are lists of sides with which strips are filled, or are not.
func givenFills() [][]int {
	fills := slices.Concat(givenNumbers(), noFills(), sidesUpTo(3))
	for _, c := range append(longStrips(), noStrips()[len(noCuts()):]...) {
		fills = append(fills, fillSidesByCells(c))
	}
	return fills
}

// givenPuzzles are puzzles of many kinds, and such as are none: by their sizes, by too many clues, or by one clue.
func givenPuzzles() []impl.Puzzle {
	given := []impl.Puzzle{puzzle(1, 1), puzzle(4, 3), puzzle(6, 2), firstOnly, ofExample, noOneHas, allKinds, puzzle(4, 3, slices.Repeat([]impl.Clue{clue(1, 3, 1)}, 6)...), puzzle(4, 3, slices.Repeat([]impl.Clue{clue(1, 3, 1)}, 7)...), puzzle(3, 2, make([]impl.Clue, 100000)...), puzzle(3, 2, slices.Repeat([]impl.Clue{clue(0, 3, 0)}, 100000)...)}
	for _, size := range noHiddenSizes() {
		given = append(given, puzzle(size[0], size[1]), puzzle(size[0], size[1], clue(2, 0, 1)))
	}
	for _, c := range givenClues() {
		given = append(given, puzzle(3, 2, c), puzzle(3, 2, clue(0, 3, 0), c, clue(2, 0, 2)), puzzle(6, 2, append(slices.Clone(allKinds.Clues[:5]), c)...))
	}
	return given
}

// givenClues are clues of all kinds with their numbers at the limits, and such as exceed a limit by one or by far.
func givenClues() []impl.Clue {
	var given []impl.Clue
	for kind := range 6 {
		for _, n := range []int{-1, 0, 1, 3, 4, 5, 6, 7, 11, 12, 13} {
			given = append(given, clue(kind, n, 0), clue(kind, n, 1), clue(kind, 1, n))
		}
		for _, n := range []int{math.MinInt, math.MinInt + 1, -1 << 32, 1 << 32, 1<<32 + 1, 1 << 62, math.MaxInt - 1, math.MaxInt} {
			given = append(given, clue(kind, n, 0), clue(kind, 1, n), clue(kind, n, n), clue(n, 1, 0))
		}
	}
	for _, kind := range []int{-2, -1, 6, 7} {
		given = append(given, clue(kind, 0, 0), clue(kind, 1, 0), clue(kind, 1, 1))
	}
	return given
}

// somePuzzleTexts are few enough for all calls.
func somePuzzleTexts() []string {
	texts := []string{"1x1:", "4x3:", "3x2:0.3.0,2.0.2", "3x2:0.1.0", textOfPuzzle(allKinds), textOfPuzzle(allKinds) + ",0.3.0"}
	for k, s := range noPuzzleTexts() {
		if k < 100 || k%29 == 0 {
			texts = append(texts, s)
		}
	}
	return texts
}

// givenScripts are lines and scripts of many kinds, and such as are too long, have too many lines, or no newline at the end.
func givenScripts() []string {
	given := slices.Concat(noLines(), noScripts(), []string{"\n", "\n\n", "keep\n", "swap\n", "turn\r\n", "\xff\n", "\x00\n\xfe\n", "turn\n" + strings.Repeat("x", 2994) + "\n", strings.Repeat("\n", 50), strings.Repeat("put 1\n", 50), strings.Repeat("keep\nbeside\n", 25), strings.Repeat("into 0\n", 50)})
	for k, line := range plainLines() {
		if k%11 == 0 || k < 100 {
			given = append(given, line, line+"\n", "greedy 13 8\nkeep\n"+line+"\n"+line+"\nby\n")
		}
	}
	for k, lines := range someScripts() {
		if k%9 == 0 {
			given = append(given, scriptOf(lines...))
		}
	}
	return given
}

// linesOfDesks are few enough for all desks: what they make of a cut needs all of its numbers.
func linesOfDesks() []string {
	return slices.Concat(wordsOfLines()[0], []string{"grow 2", "put 0", "put 1", "into 0", "into 29", "word b", "tree s", "greedy 3 2", "quot 7 3", "fly", ""})
}

// givenArgs differ from arguments with which most calls succeed by one argument, or by the numbers and one more.
func givenArgs() []args {
	plain := args{c: three, d: one, cuts: []impl.Cut{three, one}, code: [][]int{{2, 1}, {1}}, other: [][]int{{1}}, net: ofThree, puzzle: ofExample, clue: clue(2, 0, 2), desk: desk(three, four), numbers: []int{2, 1, 1}, m: 3, n: 1, k: 3, s: "1x1;0,0,1"}
	given := []args{{}, plain}
	add := func(change func(a *args)) {
		a := plain
		change(&a)
		given = append(given, a)
	}
	for _, c := range givenCuts() {
		add(func(a *args) { a.c = c })
		add(func(a *args) { a.d, a.m = c, 1 })
	}
	for _, cuts := range givenLists() {
		add(func(a *args) { a.cuts = cuts })
	}
	for _, code := range givenCodes() {
		add(func(a *args) { a.code = code })
		add(func(a *args) { a.other = code })
	}
	for _, n := range givenNets() {
		add(func(a *args) { a.net, a.m, a.n = n, 0, 1 })
		add(func(a *args) { a.net, a.numbers = n, make([]int, len(n.Wires)) })
	}
	for _, numbers := range givenNumbers() {
		for _, m := range strangeInts() {
			add(func(a *args) { a.numbers, a.m = numbers, m })
		}
		for _, n := range []impl.Net{{}, oneWire, chain(2, 2), chain(2, 30), net(3, 0, 1)} {
			add(func(a *args) { a.net, a.numbers = n, numbers })
		}
		for _, c := range []impl.Cut{{}, one, nine, rowsOfOnes(30, 1)} {
			add(func(a *args) { a.c, a.numbers = c, numbers })
		}
	}
	for _, m := range strangeInts() {
		for _, n := range strangeInts() {
			for _, c := range []impl.Cut{{}, one, three, nine, rowsOfOnes(30, 1)} {
				add(func(a *args) { a.c, a.m, a.n = c, m, n })
			}
		}
		for _, code := range codesInOrder() {
			add(func(a *args) { a.code, a.m = code, m })
		}
	}
	for _, c := range []impl.Cut{one, three, nine, rowsOfOnes(30, 1)} {
		for _, numbers := range noLists(len(c.Squares)) {
			add(func(a *args) { a.c, a.numbers = c, numbers })
		}
		for _, d := range []impl.Cut{four, nine, grown(one, 500), rowsOfOnes(1, 30)} {
			for _, m := range strangeInts() {
				add(func(a *args) { a.c, a.d, a.m = c, d, m })
			}
		}
	}
	for _, m := range ratioInts() {
		for _, n := range ratioInts() {
			add(func(a *args) { a.m, a.n = m, n })
			add(func(a *args) { a.m, a.k = m, n })
		}
	}
	for _, m := range fewInts() {
		for _, n := range fewInts() {
			add(func(a *args) { a.m, a.n = m, n })
		}
	}
	for _, m := range countInts() {
		for _, n := range countInts() {
			add(func(a *args) { a.m, a.n = m, n })
		}
		for _, size := range [][2]int{{3, 2}, {4, 4}, {6, 3}, {7, 2}} {
			add(func(a *args) { a.m, a.n, a.k = size[0], size[1], m })
		}
	}
	for _, size := range [][2]int{{1, 1}, {3, 2}, {4, 4}, {6, 3}, {7, 2}} {
		for _, numbers := range slices.Concat(givenNumbers(), noSideLists(), [][]int{slices.Repeat([]int{1}, 16), {1, 2, 1}, {6}}) {
			add(func(a *args) { a.m, a.n, a.numbers = size[0], size[1], numbers })
		}
	}
	for _, m := range stripInts() {
		for _, n := range stripInts() {
			add(func(a *args) { a.m, a.n, a.k = m, n, 1 })
		}
		for _, size := range stripSizes() {
			add(func(a *args) { a.m, a.n, a.k = size[0], size[1], m })
		}
	}
	for _, c := range append(longStrips(), noStrips()...) {
		add(func(a *args) { a.c = c })
	}
	for _, numbers := range givenFills() {
		for height := 0; height <= 5; height++ {
			add(func(a *args) { a.m, a.numbers = height, numbers })
		}
	}
	addForPuzzles(add)
	for _, s := range slices.Concat(givenTexts(), givenScripts()) {
		add(func(a *args) { a.s = s })
	}
	addForDesks(add)
	return given
}

// addForDesks adds desks of which one cut, or both, may be none, each with some lines.
func addForDesks(add func(change func(a *args))) {
	lines := linesOfDesks()
	for k, c := range givenCuts() {
		for i, line := range lines {
			if k < 100 || i%20 == k%20 {
				add(func(a *args) { a.desk, a.s = desk(c, one), line })
				add(func(a *args) { a.desk, a.s = desk(three, c), line })
				add(func(a *args) { a.desk, a.s = desk(c, c), line })
			}
		}
	}
	for _, d := range someDesks() {
		for _, line := range lines {
			add(func(a *args) { a.desk, a.s = d, line })
		}
	}
}

// addForPuzzles adds arguments of which clues, puzzles, hidden cuts, indices of clues, numbers of clues or seeds are changed.
func addForPuzzles(add func(change func(a *args))) {
	for _, p := range givenPuzzles() {
		add(func(a *args) { a.puzzle, a.m = p, 0 })
	}
	for _, c := range givenClues() {
		add(func(a *args) { a.clue, a.m, a.n = c, 3, 2 })
		add(func(a *args) { a.clue, a.c, a.puzzle = c, four, puzzle(2, 2) })
	}
	for _, c := range append(noHidden()[len(noCuts()):], rowsOfOnes(6, 2), rowsOfOnes(4, 3), rowsOfOnes(2, 6)) {
		add(func(a *args) { a.c = c })
	}
	for _, size := range append(noHiddenSizes()[:20], [2]int{4, 3}, [2]int{6, 2}, [2]int{7, 1}, [2]int{5, 3}) {
		add(func(a *args) { a.clue, a.m, a.n = clue(2, 11, 1), size[0], size[1] })
	}
	// Numbers of clues and seeds, with and without a cut that is hidden; indices of clues.
	for _, m := range append(countInts(), 9998, 9999, 10000, 10007) {
		for _, n := range append(countInts(), 9998, 9999, 10000, 10007) {
			add(func(a *args) { a.m, a.n = m, n })
			add(func(a *args) { a.c, a.m, a.n = nine, m, n })
		}
		for _, p := range []impl.Puzzle{{}, puzzle(3, 2), ofExample, allKinds} {
			add(func(a *args) { a.puzzle, a.m = p, m })
		}
	}
}

// short tells arguments, of which those that are too long are cut off.
func short(a args) string {
	var parts []string
	for _, c := range append([]impl.Cut{a.c, a.d, a.desk.Cut, a.desk.Kept}, a.cuts[:min(len(a.cuts), 4)]...) {
		parts = append(parts, textOf(impl.Cut{Width: c.Width, Height: c.Height, Squares: c.Squares[:min(len(c.Squares), 31)]}))
	}
	for _, code := range [][][]int{a.code, a.other} {
		parts = append(parts, fmt.Sprintf("%.80s", textOfCode(code[:min(len(code), 1)])))
	}
	p := puzzle(a.puzzle.Width, a.puzzle.Height, a.puzzle.Clues[:min(len(a.puzzle.Clues), 7)]...)
	return fmt.Sprintf("%v %.200s %s %v %v %d %d %d %.80q", parts, textOfNet(a.net), textOfPuzzle(p), a.clue, a.numbers[:min(len(a.numbers), 31)], a.m, a.n, a.k, a.s)
}

// called reports a panic and returns no results then.
func called(t *testing.T, name string, f call, a args) (results []any) {
	defer func() {
		if r := recover(); r != nil {
			t.Errorf("%s panics: %v: %s", name, r, short(a))
		}
	}()
	return f(a)
}

func TestPromise11NoPanicAndZeroResultsOfFailingCalls(t *testing.T) {
	given := givenArgs()
	for name, f := range allCalls() {
		for _, a := range given {
			results := called(t, name, f, a)
			if len(results) == 0 || results[len(results)-1] == true {
				continue
			}
			if slices.ContainsFunc(results, isSomething) {
				t.Errorf("%s fails with results: %v %s", name, results, short(a))
			}
		}
	}
}

func isSomething(r any) bool {
	switch x := r.(type) {
	case impl.Cut:
		return !zero(x)
	case impl.Net:
		return !zeroNet(x)
	case impl.Puzzle:
		return !zeroPuzzle(x)
	case impl.Desk:
		return !zeroDesk(x)
	}
	v := reflect.ValueOf(r)
	return !v.IsZero() && (v.Kind() != reflect.Slice || v.Len() > 0)
}

func TestPromise11NilAndEmptyAreTheSame(t *testing.T) {
	empty := args{c: impl.Cut{Squares: []impl.Square{}}, d: impl.Cut{Squares: []impl.Square{}}, cuts: []impl.Cut{}, code: [][]int{}, other: [][]int{}, net: impl.Net{Wires: []impl.Wire{}}, puzzle: impl.Puzzle{Clues: []impl.Clue{}}, desk: desk(impl.Cut{Squares: []impl.Square{}}, impl.Cut{Squares: []impl.Square{}}), numbers: []int{}}
	nilGroup := args{code: [][]int{nil}, other: [][]int{{1}, nil}, cuts: []impl.Cut{one, {}}, c: one}
	emptyGroup := args{code: [][]int{{}}, other: [][]int{{1}, {}}, cuts: []impl.Cut{one, {Squares: []impl.Square{}}}, c: one, numbers: []int{}}
	for name, f := range allCalls() {
		for _, two := range [][2]args{{{}, empty}, {nilGroup, emptyGroup}} {
			for size := range 3 {
				var results [2][]any
				for i, a := range two {
					a.c.Width, a.c.Height, a.net.Nodes, a.m, a.n = size, size, size, size, size+1
					a.puzzle.Width, a.puzzle.Height, a.clue = size, size, clue(0, 1, 0)
					results[i] = called(t, name, f, a)
				}
				if !reflect.DeepEqual(results[0], results[1]) {
					t.Error(name, results)
				}
			}
		}
	}
}

// roomy gives a copy of a list room behind it that holds something else.
func roomy[T any](list []T, behind ...T) []T {
	all := append(slices.Clone(list), behind...)
	return all[:len(list)]
}

func roomyCode(code [][]int) [][]int {
	list := roomy(code, []int{7}, nil)
	for i, group := range list {
		list[i] = roomy(group, 7, -1)
	}
	return list
}

func roomyCut(c impl.Cut) impl.Cut {
	c.Squares = roomy(c.Squares, impl.Square{X: 7, Y: 8, Side: 9}, impl.Square{X: -1, Y: 0, Side: 1}, impl.Square{Side: 1})
	return c
}

func roomyDesk(d impl.Desk) impl.Desk {
	return desk(roomyCut(d.Cut), roomyCut(d.Kept))
}

func roomyCuts(cuts []impl.Cut) []impl.Cut {
	list := roomy(cuts, one, impl.Cut{Width: -1})
	for i, c := range list {
		list[i] = roomyCut(c)
	}
	return list
}

// allMemory tells all that is in the memory of arguments, the room behind the lists too.
func allMemory(a args) string {
	text := fmt.Sprint(a.c.Squares[:cap(a.c.Squares)], a.d.Squares[:cap(a.d.Squares)], a.net.Wires[:cap(a.net.Wires)], a.puzzle.Clues[:cap(a.puzzle.Clues)], a.desk.Cut.Squares[:cap(a.desk.Cut.Squares)], a.desk.Kept.Squares[:cap(a.desk.Kept.Squares)], a.numbers[:cap(a.numbers)])
	for _, c := range a.cuts[:cap(a.cuts)] {
		text += fmt.Sprint(c.Width, c.Height, c.Squares[:cap(c.Squares)])
	}
	for _, code := range [][][]int{a.code, a.other} {
		for _, group := range code[:cap(code)] {
			text += fmt.Sprint(group[:cap(group)])
		}
	}
	return text
}

// plainArgs are short, so that each call can be made with room behind all lists.
func plainArgs() []args {
	var given []args
	for _, c := range append(cutsOfSize(3, 3), three, nine, split, through, rowsOfOnes(6, 5), cut(3, 2, 2, 1, 1, 2, 0, 1, 0, 0, 2), cut(3, 2, 0, 0, 2), impl.Cut{}) {
		given = append(given, args{c: c, m: 1, n: 1, s: textOf(c)})
		given = append(given, args{c: c, d: four, cuts: []impl.Cut{c}, numbers: []int{0, 1}, m: 0}, args{c: four, d: c, cuts: []impl.Cut{one, c, three}, numbers: []int{1, 3}, m: 3})
	}
	for _, tree := range []string{"s", "bsuss", "bbsss", "ubssbss", "bsu"} {
		given = append(given, args{c: three, d: one, cuts: []impl.Cut{three, one, three}, numbers: []int{1, 2}, m: 2, s: tree}, args{c: three, numbers: []int{2, 1}, m: 12, s: tree})
	}
	for _, code := range append(codesInOrder(), [][]int{{2, 1}}, [][]int{{1}, nil}, [][]int{{}}, nil) {
		sides := slices.Concat(code...)
		for _, other := range [][][]int{{{2, 1}, {1}}, nil} {
			given = append(given, args{code: code, other: other, numbers: sides, m: 1, s: textOfCode(code)})
		}
		given = append(given, args{numbers: sides, m: 2}, args{numbers: sides, m: 3})
	}
	for _, n := range []impl.Net{oneWire, chain(2, 2), ofThree, bridge, backBridge, icosahedron(), chain(2, 30), chain(12, 1), net(3, 0, 1), net(2, 0, 0), {}} {
		given = append(given, args{net: n, numbers: make([]int, len(n.Wires)), m: 0, n: 1, s: textOfNet(n)}, args{net: n, m: 1, n: 0})
	}
	for _, size := range [][2]int{{1, 1}, {5, 2}, {2, 5}, {9, 8}, {8, 7}, {7, 8}, {13, 11}, {13, 13}, {1, 13}, {31, 1}, {60, 59}, {60, 60}} {
		given = append(given, args{m: size[0], n: size[1]})
	}
	for _, size := range [][2]int{{2, 2}, {3, 2}, {4, 4}, {6, 2}, {3, 5}, {6, 1}, {6, 3}, {6, 6}, {7, 2}} {
		for _, numbers := range [][]int{{1, 2, 1}, {1, 1, 2, 1, 2, 1, 2}, {0}, nil} {
			given = append(given, args{m: size[0], n: size[1], k: len(numbers) - 1, numbers: numbers})
		}
	}
	for _, size := range stripSizes() {
		given = append(given, args{m: size[0], n: size[1], k: 1}, args{m: size[0], n: size[1], k: 4})
	}
	for _, c := range append(longStrips(), cut(3, 3, 0, 0, 1, 1, 0, 2, 0, 1, 1, 0, 2, 1, 1, 2, 1, 2, 2, 1), grown(one, 4), grown(one, 5)) {
		given = append(given, args{c: c, m: c.Height, n: c.Width, numbers: fillSidesByCells(c)})
	}
	for _, p := range []impl.Puzzle{puzzle(1, 1), puzzle(4, 3), puzzle(2, 2), firstOnly, ofExample, noOneHas, allKinds, puzzle(3, 2, allKinds.Clues[:5]...), puzzle(3, 2, append(slices.Clone(allKinds.Clues), clue(0, 3, 0))...), puzzle(3, 2, clue(6, 0, 0)), puzzle(3, 2, clue(2, 0, 2), clue(-1, 0, 0)), puzzle(7, 1), {}} {
		for _, own := range []impl.Clue{clue(5, 2, 0), clue(2, 0, 1), clue(6, 0, 0)} {
			given = append(given, args{c: three, puzzle: p, clue: own, m: 0, n: 9999, s: textOfPuzzle(p)}, args{c: rowsOfOnes(6, 2), puzzle: p, clue: own, m: len(p.Clues) - 1, n: 0}, args{c: four, puzzle: p, clue: own, m: 6, n: 2})
		}
	}
	for _, numbers := range [][]int{{1}, {2, 3}, {3, 2, 2}, {333, 3}, {2, 1}, {501, 2}, {0}} {
		given = append(given, args{numbers: numbers, m: 7, n: 3, k: 5, s: "uubb"}, args{numbers: numbers, m: 3, n: 2, k: 5, s: "b"}, args{numbers: numbers, m: 8, n: 1000, k: 1, s: byTurns(20)})
	}
	return append(given, plainArgsOfDesks()...)
}

// plainArgsOfDesks have each kind of line, and desks of which both cuts share their memory.
func plainArgsOfDesks() []args {
	var given []args
	for _, d := range []impl.Desk{desk(three, four), desk(four, four), desk(one, nine), desk(rowsOfOnes(6, 5), one), desk(three, impl.Cut{}), {}} {
		for _, line := range append(linesOfDesks(), "cut 1x1;0,0,1", "cut 1x1;0,0,2", "code (2,1)(1)", "code (2,1)", "word ub", "tree bsuss", "tree bs", "greedy 7 3", "ratio 7 3", "strips 3 3", "whole 3 2", "turn ") {
			given = append(given, args{desk: d, s: line})
		}
	}
	for _, script := range []string{"\n", "keep\n", "swap\n", "grow 0\nfly\n\nturn\nword x\n", "keep\nturn\nbeside\nswap\nby\n", "cut 2x2;0,0,1;1,0,1;0,1,1;1,1,1\nkeep\ninto 0\nunder\n", "keep\nkeep\nshow\n", "keep"} {
		given = append(given, args{s: script})
	}
	return given
}

func TestPromise11ArgumentsAreNotModifiedAndNotShared(t *testing.T) {
	for name, f := range allCalls() {
		for _, plain := range plainArgs() {
			a := plain
			a.c, a.d, a.cuts = roomyCut(plain.c), roomyCut(plain.d), roomyCuts(plain.cuts)
			a.code, a.other, a.numbers = roomyCode(plain.code), roomyCode(plain.other), roomy(plain.numbers, 1, 7)
			a.desk = roomyDesk(plain.desk)
			a.net.Wires = roomy(plain.net.Wires, impl.Wire{From: 0, To: 1}, impl.Wire{From: 7, To: -1})
			a.puzzle.Clues = roomy(plain.puzzle.Clues, clue(0, 3, 0), clue(7, -1, 7))
			before := allMemory(a)
			first := called(t, name, f, a)
			if allMemory(a) != before {
				t.Fatal(name, "modifies its argument", short(plain))
			}
			text := fmt.Sprint(first...)
			overwrite(first)
			if allMemory(a) != before {
				t.Fatal(name, "shares memory with its argument", short(plain))
			}
			if again := fmt.Sprint(called(t, name, f, plain)...); again != text {
				t.Fatal(name, "gives something else the second time", short(plain), text, again)
			}
		}
	}
}

// overwrite writes over all memory of results, the room behind the slices too.
func overwrite(results []any) {
	for _, r := range results {
		switch x := r.(type) {
		case impl.Cut:
			fillAll(x.Squares, impl.Square{X: 77, Y: 77, Side: 77})
		case impl.Net:
			fillAll(x.Wires, impl.Wire{From: 77, To: 77})
		case impl.Puzzle:
			fillAll(x.Clues, clue(77, 77, 77))
		case impl.Desk:
			fillAll(x.Cut.Squares, impl.Square{X: 77, Y: 77, Side: 77})
			fillAll(x.Kept.Squares, impl.Square{X: 77, Y: 77, Side: 77})
		case []string:
			fillAll(x, "77")
		case []impl.Cut:
			for _, inner := range x {
				fillAll(inner.Squares, impl.Square{X: 77, Y: 77, Side: 77})
			}
			fillAll(x, impl.Cut{Width: 77})
		case []int:
			fillAll(x, 77)
		case [][]int:
			for _, inner := range x {
				fillAll(inner, 77)
			}
			fillAll(x, []int{77})
		}
	}
}

func fillAll[T any](s []T, v T) {
	s = s[:cap(s)]
	for i := range s {
		s[i] = v
	}
}

func TestPromise11SlicesOfOneResultShareNoMemory(t *testing.T) {
	given := plainArgs()
	for _, c := range cutsOfSize(4, 4) {
		given = append(given, args{c: c})
	}
	for name, f := range allCalls() {
		for _, a := range given {
			// Several cuts may be one result each, or one result together.
			var cuts []impl.Cut
			for _, r := range called(t, name, f, a) {
				switch x := r.(type) {
				case [][]int:
					shareNothing(t, name, x, func(inner []int) { fillAll(inner, -77) })
				case []impl.Cut:
					cuts = append(cuts, x...)
				case impl.Cut:
					cuts = append(cuts, x)
				case impl.Desk:
					cuts = append(cuts, x.Cut, x.Kept)
				}
			}
			shareNothing(t, name, cuts, func(inner impl.Cut) { fillAll(inner.Squares, impl.Square{X: -77}) })
		}
	}
}

// shareNothing writes over one element after the other, which must not change the others.
func shareNothing[T any](t *testing.T, name string, list []T, overwrite func(T)) {
	t.Helper()
	for i, inner := range list {
		before := fmt.Sprint(list[:i], list[i+1:])
		overwrite(inner)
		if fmt.Sprint(list[:i], list[i+1:]) != before {
			t.Fatal(name, list, i)
		}
	}
}
