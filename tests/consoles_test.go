package tests

import (
	"fmt"
	"regexp"
	"slices"
	"strconv"
	"strings"
	"sync"
	"testing"

	"loop.example/g01296/impl"
)

// The functions of this file find by patterns of lines and by cells of side 1 what the program must find of lines of text and of scripts.

func desk(c, kept impl.Cut) impl.Desk {
	return impl.Desk{Cut: c, Kept: kept}
}

func textOfDesk(d impl.Desk) string {
	return textOf(d.Cut) + " " + textOf(d.Kept)
}

func sameDesk(d, e impl.Desk) bool {
	return same(d.Cut, e.Cut) && same(d.Kept, e.Kept)
}

func zeroDesk(d impl.Desk) bool {
	return sameDesk(d, impl.Desk{})
}

// action returns the Cut and the Kept behind a line and its reply; an empty reply is `no`.
type action func(d impl.Desk, parts []string) (impl.Desk, string)

// making is an action by which the Cut becomes another one, or fails if that is the zero cut.
func making(f func(d impl.Desk, parts []string) impl.Cut) action {
	return func(d impl.Desk, parts []string) (impl.Desk, string) {
		c := f(d, parts)
		if zero(c) {
			return d, ""
		}
		return desk(c, d.Kept), textOf(c)
	}
}

// telling is an action that changes nothing, of the cells of the Cut.
func telling(f func(d impl.Desk, g cells) string) action {
	return func(d impl.Desk, parts []string) (impl.Desk, string) {
		g, _ := cellsOf(d.Cut)
		return d, f(d, g)
	}
}

// counting is an action that changes nothing, of two numbers.
func counting(f func(n, k int) string) action {
	return func(d impl.Desk, parts []string) (impl.Desk, string) {
		return d, f(number(parts[0]), number(parts[1]))
	}
}

func number(part string) int {
	n, err := strconv.Atoi(part)
	if err != nil {
		panic(err)
	}
	return n
}

func commas(numbers []int) string {
	if len(numbers) == 0 {
		return "-"
	}
	return strings.Trim(strings.ReplaceAll(fmt.Sprint(numbers), " ", ","), "[]")
}

// withinLimits returns the zero cut if cells are too many in a row or a column, or have too many squares.
func withinLimits(g cells) impl.Cut {
	c := cutOfCells(g)
	if c.Width > 500 || c.Height > 500 || len(c.Squares) > 30 {
		return impl.Cut{}
	}
	return c
}

// actions has for each kind of line a pattern of all such lines: `%` is for a number.
var actions = sync.OnceValue(func() map[*regexp.Regexp]action {
	all := map[*regexp.Regexp]action{}
	for pattern, act := range actionsByText() {
		pattern = strings.ReplaceAll(pattern, "%", "(0|[1-9][0-9]{0,5})")
		all[regexp.MustCompile(`^(?s:`+pattern+`)$`)] = act
	}
	return all
})

func actionsByText() map[string]action {
	return map[string]action{
		"word ([bu]{0,20})": making(func(_ impl.Desk, parts []string) impl.Cut { return cutOfWordByCells(parts[0]) }),
		"tree ([^ ]*)":      making(func(_ impl.Desk, parts []string) impl.Cut { return cutOfTreeByCells(parts[0]) }),
		"greedy % %": making(func(_ impl.Desk, parts []string) impl.Cut {
			return greedyCutByCells(number(parts[0]), number(parts[1]))
		}),
		"turn":   making(func(d impl.Desk, _ []string) impl.Cut { return byCells(d.Cut, turnCells) }),
		"mirror": making(func(d impl.Desk, _ []string) impl.Cut { return byCells(d.Cut, mirrorCells) }),
		"low":    making(func(d impl.Desk, _ []string) impl.Cut { return undoneGrowth(d.Cut) }),
		"first": making(func(d impl.Desk, _ []string) impl.Cut {
			g, _ := cellsOf(d.Cut)
			return firstByCells(g)
		}),
		"grow %": making(func(d impl.Desk, parts []string) impl.Cut { return grownByCells(d.Cut, number(parts[0])) }),
		"put %":  making(func(d impl.Desk, parts []string) impl.Cut { return withSquare(d.Cut, number(parts[0])) }),
		"beside": making(func(d impl.Desk, _ []string) impl.Cut { return besideCutsByCells(d.Cut, d.Kept) }),
		"under":  making(func(d impl.Desk, _ []string) impl.Cut { return underCutsByCells(d.Cut, d.Kept) }),
		"into %": making(func(d impl.Desk, parts []string) impl.Cut { return withinOther(d.Cut, number(parts[0]), d.Kept) }),
		"keep":   func(d impl.Desk, _ []string) (impl.Desk, string) { return desk(d.Cut, d.Cut), textOf(d.Cut) },
		"swap":   func(d impl.Desk, _ []string) (impl.Desk, string) { return desk(d.Kept, d.Cut), textOf(d.Kept) },
		"show":   telling(func(d impl.Desk, _ cells) string { return textOf(d.Cut) }),
		"sides":  telling(func(d impl.Desk, g cells) string { return commas(sidesByCells(g, len(d.Cut.Squares))) }),
		"bouw":   telling(func(_ impl.Desk, g cells) string { return textOfCode(codeByCells(g)) }),
		"by":     telling(func(_ impl.Desk, g cells) string { return treeByCells(g) }),
		"down":   telling(func(_ impl.Desk, g cells) string { return commas(linesDownByCells(g)) }),
		"across": telling(func(_ impl.Desk, g cells) string { return commas(linesAcrossByCells(g)) }),
		"perfect": telling(func(d impl.Desk, g cells) string {
			different := map[int]bool{}
			for _, side := range sidesByCells(g, len(d.Cut.Squares)) {
				different[side] = true
			}
			return map[bool]string{true: "yes", false: "nay"}[len(different) == len(d.Cut.Squares)]
		}),
		"quot % %":   counting(quotientsText),
		"ratio % %":  counting(wordText),
		"strips % %": counting(stripsText),
		"whole % %":  counting(wholeText),
	}
}

// executed returns the desk behind a line of text, and its reply.
func executed(d impl.Desk, line string) (impl.Desk, string) {
	// These two ask for what no pattern tells.
	if text, is := strings.CutPrefix(line, "cut "); is {
		c := cutOfText(text)
		if zero(c) {
			return d, "what"
		}
		return desk(c, d.Kept), text
	}
	if text, is := strings.CutPrefix(line, "code "); is {
		c := cutOfCodeText(text)
		if zero(c) {
			return d, "what"
		}
		return desk(c, d.Kept), textOf(c)
	}
	for pattern, act := range actions() {
		if match := pattern.FindStringSubmatch(line); match != nil {
			after, reply := act(d, match[1:])
			if reply == "" {
				return d, "no"
			}
			return after, reply
		}
	}
	return d, "what"
}

var (
	allNumbers    = regexp.MustCompile(`[0-9]+`)
	likeCutText   = regexp.MustCompile(`^[0-9]{1,3}x[0-9]{1,3}(;[0-9]{1,3},[0-9]{1,3},[0-9]{1,3}){1,30}$`)
	likeCodeText  = regexp.MustCompile(`^(\([0-9]{1,3}(,[0-9]{1,3})*\))+$`)
	groupsOfCodes = regexp.MustCompile(`\([0-9,]+\)`)
)

func numbersIn(text string) []int {
	var numbers []int
	for _, digits := range allNumbers.FindAllString(text, -1) {
		numbers = append(numbers, number(digits))
	}
	return numbers
}

// cutOfText returns the zero cut for what is no text of a cut.
func cutOfText(text string) impl.Cut {
	if !likeCutText.MatchString(text) {
		return impl.Cut{}
	}
	numbers := numbersIn(text)
	c := cut(numbers[0], numbers[1], numbers[2:]...)
	if textOf(c) != text || c.Width < 1 || c.Width > 500 || c.Height < 1 || c.Height > 500 {
		return impl.Cut{}
	}
	if g, ok := cellsOf(c); !ok || !same(cutOfCells(g), c) {
		return impl.Cut{}
	}
	return c
}

// cutOfCodeText returns the zero cut for what is no text of a code.
func cutOfCodeText(text string) impl.Cut {
	if !likeCodeText.MatchString(text) {
		return impl.Cut{}
	}
	width, area := sumOf(numbersIn(groupsOfCodes.FindString(text))), 0
	sides := numbersIn(text)
	for _, side := range sides {
		area += side * side
	}
	if width < 1 || width > 500 || area > width*500 || len(sides) > 30 || slices.Contains(sides, 0) {
		return impl.Cut{}
	}
	g, ok := cellsOfSides(width, sides)
	if !ok || textOfCode(codeByCells(g)) != text {
		return impl.Cut{}
	}
	return cutOfCells(g)
}

// cutOfWordByCells returns the zero cut if there is none.
func cutOfWordByCells(w string) impl.Cut {
	// Longer words with their signs by turns are of too many cells for memory, and all of them of too many in a row.
	if width, height := ratioOfSigns(w); width > 500 || height > 500 {
		return impl.Cut{}
	}
	return withinLimits(cellsOfWord(w))
}

func ratioOfSigns(w string) (int, int) {
	width, height := 1, 1
	for _, sign := range w {
		if sign == 'b' {
			width += height
		} else {
			height += width
		}
	}
	return width, height
}

// cutOfTreeByCells returns the zero cut if there is none.
func cutOfTreeByCells(text string) impl.Cut {
	if len(text) > 60 {
		return impl.Cut{}
	}
	c, behind := treeAtFront(text)
	if behind != "" {
		return impl.Cut{}
	}
	return c
}

func treeAtFront(text string) (impl.Cut, string) {
	if text == "" || !strings.Contains("sbu", text[:1]) {
		return impl.Cut{}, text
	}
	if text[0] == 's' {
		return one, text[1:]
	}
	a, behind := treeAtFront(text[1:])
	b, behind := treeAtFront(behind)
	if zero(a) || zero(b) {
		return impl.Cut{}, behind
	}
	if text[0] == 'b' {
		return besideCutsByCells(a, b), behind
	}
	return underCutsByCells(a, b), behind
}

func isRatio(n, k int) bool {
	return 1 <= n && n <= 1000 && 1 <= k && k <= 1000
}

// greedyCutByCells returns the zero cut if there is none.
func greedyCutByCells(n, k int) impl.Cut {
	if !isRatio(n, k) || max(n, k) > 500 || sumOf(quotientsByFraction(n, k)) > 30 {
		return impl.Cut{}
	}
	g, _ := greedyByCells(n, k)
	return cutOfCells(g)
}

func byCells(c impl.Cut, f func(g cells) cells) impl.Cut {
	g, _ := cellsOf(c)
	return cutOfCells(f(g))
}

// grownByCells returns the zero cut if there is none.
func grownByCells(c impl.Cut, k int) impl.Cut {
	if k < 1 || k > 500 || max(c.Width, c.Height)*k > 500 {
		return impl.Cut{}
	}
	g, _ := cellsOf(c)
	return cutOfCells(growCells(g, k))
}

// withSquare returns the zero cut if there is none.
func withSquare(c impl.Cut, edge int) impl.Cut {
	if edge > 3 {
		return impl.Cut{}
	}
	g, _ := cellsOf(c)
	return withinLimits(putByCells(g, edge, len(c.Squares)))
}

// withinOther returns the zero cut if there is none.
func withinOther(c impl.Cut, k int, d impl.Cut) impl.Cut {
	if k >= len(c.Squares) || d.Width != d.Height {
		return impl.Cut{}
	}
	return replacedByCells(c, k, d)
}

func quotientsText(n, k int) string {
	if !isRatio(n, k) {
		return ""
	}
	return commas(quotientsByFraction(n, k))
}

var wordsByRatio = sync.OnceValue(wordsOfRatios)

func wordText(n, k int) string {
	if !isRatio(n, k) {
		return ""
	}
	w, is := wordsByRatio()[[2]int(lowest(n, k))]
	if is && w == "" {
		return "-"
	}
	return w
}

func stripsText(n, k int) string {
	tallies, is := stripTallies()[[2]int{n, k}]
	if !is {
		return ""
	}
	return strconv.Itoa(countOfTallies(tallies))
}

func wholeText(n, k int) string {
	if n < 1 || n > 4 || k < 1 || k > 30 {
		return ""
	}
	row := knownWhole()[n-1]
	return strconv.Itoa(row[min(k, len(row))-1])
}

// session is what lines of text, one after the other, come to.
type session struct {
	desk    impl.Desk
	replies []string
	failed  []int
}

// sessionOf begins with the first desk.
func sessionOf(lines []string) session {
	s := session{desk: desk(three, one)}
	for k, line := range lines {
		d, reply := executed(s.desk, line)
		s.desk = d
		s.replies = append(s.replies, reply)
		if reply == "no" || reply == "what" {
			s.failed = append(s.failed, k+1)
		}
	}
	return s
}

// scriptOf ends each line with a newline.
func scriptOf(lines ...string) string {
	var text strings.Builder
	for _, line := range lines {
		text.WriteString(line + "\n")
	}
	return text.String()
}

// someDesks have cuts with lines and without, by lines or not, small ones and such as can't be grown or have no room for another square.
func someDesks() []impl.Desk {
	cuts := []impl.Cut{one, three, four, nine, split, through, pinwheel, grown(one, 4), grown(one, 500), grown(split, 125), grown(three, 100), rowsOfOnes(30, 1), rowsOfOnes(1, 29), rowsOfOnes(6, 5), rowsOfOnes(3, 3)}
	var list []impl.Desk
	for k, c := range cuts {
		list = append(list, desk(c, c), desk(c, one), desk(one, c), desk(c, cuts[(k*4+3)%len(cuts)]))
	}
	return list
}

// wordsOfLines are all first parts of lines by how many parts are behind them.
func wordsOfLines() [][]string {
	return [][]string{
		{"turn", "mirror", "low", "first", "beside", "under", "keep", "swap", "show", "sides", "bouw", "by", "down", "across", "perfect"},
		{"cut", "code", "word", "tree", "grow", "put", "into"},
		{"greedy", "quot", "ratio", "strips", "whole"},
	}
}

// numberTexts are numbers that lines may have, at the limits of what they are told for and at the greatest of all.
func numberTexts() []string {
	return []string{"0", "1", "2", "3", "4", "5", "7", "29", "30", "31", "125", "499", "500", "501", "999", "1000", "1001", "99999", "100000", "999999"}
}

// noNumberTexts are no numbers of lines, each for a reason of its own: some of those at the end are 3 if they are told by too few bits.
func noNumberTexts() []string {
	return []string{
		"", "00", "01", "007", "0000003", "+3", "-3", "-0", "+0", "--3", "3-", "3.0", "3,0", "3;", "0x3", "3e2", "1e0", "1_0", "three", "x", "٣", "³", "3\x00", "\xff", "3\xff", "\t3", "3\r", "3\t",
		"1000000", "1000001", "9999999", "999999999", "2147483651", "4294967299", "9223372036854775807", "9223372036854775808", "18446744073709551619", strings.Repeat("9", 1400), strings.Repeat("0", 1400) + "3",
	}
}

// textsForLines are texts of cuts, codes, words and trees, and such as are none.
func textsForLines() []string {
	texts := []string{"", "-", "_", "ü", "\xff", "\x00", "s\t", "3", "0", "999999"}
	for _, c := range []impl.Cut{one, three, four, nine, through, pinwheel, grown(one, 500), rowsOfOnes(30, 1), rowsOfOnes(31, 1), rowsOfOnes(1, 30), grown(one, 501), cut(3, 2, 0, 0, 2, 2, 1, 1, 2, 0, 1), cut(3, 2, 0, 0, 2, 2, 0, 1), cut(2, 2, 0, 0, 1, 1, 0, 1), cut(1, 1), cut(0, 0)} {
		texts = append(texts, textOf(c))
	}
	for _, code := range append(codesInOrder(), [][]int{{2, 1}, {2}}, [][]int{{2, 1, 1}}, [][]int{{2, 1}}, [][]int{{1}, nil}, [][]int{{251, 250}}, [][]int{slices.Repeat([]int{1}, 31)}) {
		texts = append(texts, textOfCode(code))
	}
	texts = append(texts, "03x2;0,0,2;2,0,1;2,1,1", "3x2;0,0,2;2,0,1;2,1,1;", "3x2;0,0,2;2,0,1;2,1,01", "3x2;-0,0,2;2,0,1;2,1,1", "3x2,0,0,2;2,0,1;2,1,1", "(2,1)(01)", "(2,1)1", "(2,1)(1))", "(2,1),(1)", "(1", "1)", "()", "(0)")
	texts = append(texts, "b", "u", "uubb", byTurns(12), byTurns(13), byTurns(14), byTurns(20), byTurns(21), strings.Repeat("b", 20), strings.Repeat("b", 21), "ubx", "B", "s", "bss", "bsuss", "bbsss", "ubssbss", "bs", "ss", "bsu", strings.Repeat("us", 29)+"s", strings.Repeat("bs", 30)+"s")
	texts = append(texts, strings.Repeat("b", 14)+strings.Repeat("s", 15), strings.Repeat("bsus", 4)+"s", strings.Repeat("bsus", 7)+"s", strings.Repeat("s", 60), strings.Repeat("s", 61), strings.Repeat("b", 60), strings.Repeat("s", 2900))
	return texts
}

// plainLines have the right number of parts, of which each may be what it should be.
func plainLines() []string {
	words := wordsOfLines()
	lines := slices.Clone(words[0])
	for _, word := range words[1] {
		for _, text := range slices.Concat(textsForLines(), numberTexts(), noNumberTexts()) {
			lines = append(lines, word+" "+text)
		}
	}
	for _, word := range words[2] {
		for _, n := range numberTexts() {
			for _, k := range numberTexts() {
				lines = append(lines, word+" "+n+" "+k)
			}
		}
		for _, n := range append(noNumberTexts(), "s", "(1)", "1x1;0,0,1") {
			lines = append(lines, word+" "+n+" 3", word+" 3 "+n, word+" 0 "+n, word+" "+n+" 0", word+" "+n+" "+n)
		}
	}
	return lines
}

// noLines are none of the lines, each for a reason of its own: the reply to all of them is `what`, whatever the desk is.
func noLines() []string {
	lines := []string{
		"", " ", "  ", "   ", "what", "no", "yes", "nay", "-", "fly", "help", "_", "cut _", "code _", "word _", "grow _", "put _", "into _", "greedy _ _", "quot _ _", "ratio _ _", "strips _ _", "whole _ _",
		"\x00", "\xff", "\xff\xfe", "ü", "\t", "\r", "turn\r", "turn\t", "turn\x00", "turn\xff", "\xffturn", "türn", "turn;", "turn,mirror", "3", "1x1;0,0,1", "(1)", "s", "uubb", "grow2", "grow\t2", "grow=2", "cut1x1;0,0,1",
		"turnmirror", "tur", "turns", "kee", "keeps", "cuts 1x1;0,0,1", "cu 1x1;0,0,1", "trees s", "w s", "lines", "Turn", "TURN", "Cut 1x1;0,0,1", "firsts", "bouwt", "bys",
		strings.Repeat(" ", 3000), strings.Repeat("x", 3000), strings.Repeat("x ", 1500), "turn" + strings.Repeat(" ", 2996), strings.Repeat(" ", 2996) + "turn", "grow " + strings.Repeat("1", 2995), "quot 7 3" + strings.Repeat(" 3", 1496),
	}
	// A blank too many at the beginning, in the middle or at the end makes an empty part more; a part may be missing.
	for parts, words := range wordsOfLines() {
		for _, word := range words {
			whole := word + strings.Repeat(" 1", parts)
			lines = append(lines, " "+whole, whole+" ", whole+" 1", whole+"  1", " "+whole+" ", strings.ToUpper(whole), whole+strings.Repeat(" 1", 20))
			if parts > 0 {
				lines = append(lines, word, strings.TrimSuffix(whole, " 1"), word+" "+strings.Repeat(" 1", parts))
			}
		}
	}
	return append(lines, "cut  1x1;0,0,1", "code  (1)", "word  b", "tree  s", "cut 1x1;0,0,1 ", "code (1) ", "word b ", "tree s ", "cut 1x1; 0,0,1", "code (2, 1)(1)", "code (2,1) (1)", "word u b", "tree b s s", "tree  ", "word  ", "quot 7  3", "quot  7 3", "quot 7 3 ", "quot  ", "grow ", "put ", "into ", "quot 7 ", "cut ", "code ")
}

// someScripts have lines of all kinds in many orders, with empty lines and others that are none among them.
var someScripts = sync.OnceValue(func() [][]string {
	lines := slices.Concat(wordsOfLines()[0], []string{"turn", "put 0", "put 1", "put 2", "put 3", "put 4", "grow 2", "grow 0", "into 0", "into 1", "into 40", "beside", "under", "keep", "swap", "low", "by", "low"})
	lines = append(lines, "cut 1x2;0,0,1;0,1,1", "cut 2x2;0,0,1;1,0,1;0,1,1;1,1,1", "cut 2x2;0,0,1", "code (18,14)(4,10)(15,7)(1,9)(8)", "code (2,1)", "word", "word ", "word ub", "tree bsuss", "tree bs", "greedy 7 3", "greedy 0 3", "quot 12 5", "ratio 1 1", "strips 3 3", "whole 4 9", "", "fly")
	list := [][]string{nil, {""}, {"", ""}, {"keep"}, {"swap"}, {"fly"}, {"grow 0"}, slices.Repeat([]string{""}, 50), slices.Repeat([]string{"turn"}, 50), slices.Repeat([]string{"swap"}, 49), slices.Repeat([]string{"put 1"}, 50), slices.Repeat([]string{"keep", "beside"}, 25)}
	for k := range 300 {
		var script []string
		for i := range k%50 + 1 {
			script = append(script, lines[(k*k*7+i*(k%13+1)*11+i*i*(k%5))%len(lines)])
		}
		list = append(list, script)
	}
	return list
})

// noScripts are no scripts, each for a reason of its own: some would be if they had a byte less or a newline at the end.
func noScripts() []string {
	return []string{
		"turn", "fly", " ", "x", "\r", "\x00", "\xff", "turn\nmirror", "turn\n ", "turn\n\nx", "\nturn", "turn\r", "turn\n\r", "turn;", strings.Repeat("x", 3000),
		strings.Repeat("\n", 51), strings.Repeat("turn\n", 51), strings.Repeat("\n", 3000), strings.Repeat("\n", 50) + "turn", strings.Repeat("turn\n", 50) + "x", strings.Repeat("turn\n", 50) + "\n",
		strings.Repeat("x", 3000) + "\n", "turn\n" + strings.Repeat("x", 2995) + "\n", strings.Repeat("\n", 49) + strings.Repeat(" ", 2951) + "\n", "turn\n" + strings.Repeat("x", 2996), strings.Repeat("\n", 3001), strings.Repeat("turn\n", 100000), strings.Repeat("x", 1<<20),
	}
}

func TestConsolesAreWhatTheyShouldBe(t *testing.T) {
	for _, w := range []struct{ line, reply string }{
		{"cut 1x1;0,0,1", "1x1;0,0,1"}, {"cut 1x1;0,0,01", "what"}, {"cut 1x1;0,0,2", "what"}, {"code (1)(1)", "1x2;0,0,1;0,1,1"}, {"code (1)(2)", "what"}, {"word ", "1x1;0,0,1"}, {"word b", "2x1;0,0,1;1,0,1"}, {"word s", "what"}, {"tree ", "no"}, {"tree bss", "2x1;0,0,1;1,0,1"},
		{"low", "3x2;0,0,2;2,0,1;2,1,1"}, {"first", "3x2;0,0,1;1,0,2;0,1,1"}, {"grow 167", "no"}, {"grow 0", "no"}, {"grow 00", "what"}, {"sides", "2,1,1"}, {"perfect", "nay"}, {"across", "-"}, {"ratio 5 5", "-"}, {"quot 1000 1", "1000"}, {"whole 4 30", "2"}, {"strips 4 30", "72003911101089"}, {"strips 4 31", "no"}, {"strips 4 1000000", "what"},
	} {
		if _, reply := executed(desk(three, one), w.line); reply != w.reply {
			t.Error(w.line, reply)
		}
	}
	replies := map[string]int{}
	for _, d := range someDesks() {
		for _, c := range []impl.Cut{d.Cut, d.Kept} {
			if !same(cutOfText(textOf(c)), c) {
				t.Error(textOf(c))
			}
			g, _ := cellsOf(c)
			if !same(cutOfCodeText(textOfCode(codeByCells(g))), c) {
				t.Error("code", textOf(c))
			}
		}
	}
	for _, script := range someScripts() {
		if len(script) > 50 || len(scriptOf(script...)) > 3000 {
			t.Error("no script", script)
		}
		for _, reply := range sessionOf(script).replies {
			replies[reply]++
		}
	}
	if len(replies) < 500 || replies["no"] < 100 || replies["what"] < 100 {
		t.Error("too few replies", len(replies), replies["no"], replies["what"])
	}
}
