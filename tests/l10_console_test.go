package tests

import (
	"math"
	"slices"
	"strings"
	"testing"

	"loop.example/g01296/impl"
)

func TestExampleOfChapter10(t *testing.T) {
	lines := []string{"bouw", "by", "down", "turn", "across", "put 1", "perfect", "word uubb", "quot 7 3", "ratio 7 3", "strips 3 3", "tree bss", "under", "low", "code (1", "grow 0", "fly"}
	want := []string{
		"(2,1)(1)", "bsuss", "2", "2x3;0,0,2;0,2,1;1,2,1", "2", "5x3;0,0,2;2,0,3;0,2,1;1,2,1", "nay", "7x3;0,0,1;1,0,3;4,0,3;0,1,1;0,2,1", "2,3", "uubb", "6",
		"2x1;0,0,1;1,0,1", "2x3;0,0,1;1,0,1;0,1,2", "2x3;0,0,1;1,0,1;0,1,2", "what", "no", "what",
	}
	if replies, ok := impl.RunScript(scriptOf(lines...)); !ok || !slices.Equal(replies, want) {
		t.Error("replies", replies, ok)
	}
	if failed, ok := impl.FailedLines(scriptOf(lines...)); !ok || !slices.Equal(failed, []int{15, 16, 17}) {
		t.Error("failed", failed, ok)
	}
	if d, ok := impl.DeskAfter(scriptOf(lines...)); !ok || textOfDesk(d) != "2x3;0,0,1;1,0,1;0,1,2 1x1;0,0,1" {
		t.Error("desk", textOfDesk(d), ok)
	}
}

func TestLimitsOfChapter10(t *testing.T) {
	if impl.MaxScript != 3000 || impl.MaxLines != 50 {
		t.Error(impl.MaxScript, impl.MaxLines)
	}
}

func TestFirstDesk(t *testing.T) {
	if d := impl.FirstDesk(); textOfDesk(d) != "3x2;0,0,2;2,0,1;2,1,1 1x1;0,0,1" || !sameDesk(d, desk(three, one)) {
		t.Error(textOfDesk(d))
	}
	// Each one has its own memory.
	d := impl.FirstDesk()
	fillAll(d.Cut.Squares, impl.Square{Side: 77})
	fillAll(d.Kept.Squares, impl.Square{Side: 77})
	if e := impl.FirstDesk(); !sameDesk(e, desk(three, one)) {
		t.Error("again", textOfDesk(e))
	}
}

func TestIsDesk(t *testing.T) {
	for _, d := range someDesks() {
		if !impl.IsDesk(d) {
			t.Error(textOfDesk(d))
		}
	}
	if impl.IsDesk(impl.Desk{}) || !impl.IsDesk(impl.FirstDesk()) {
		t.Error("zero or first")
	}
	for _, c := range noCuts() {
		if impl.IsDesk(desk(c, one)) || impl.IsDesk(desk(three, c)) || impl.IsDesk(desk(c, c)) {
			t.Error(textOf(c))
		}
	}
}

// checkLine holds the desk behind a line and its reply against what they should be.
func checkLine(t *testing.T, d impl.Desk, line string, want impl.Desk, reply string) {
	t.Helper()
	after, r, ok := impl.DeskLine(d, line)
	if !ok || r != reply || !sameDesk(after, want) {
		t.Errorf("%s: %.100q: %.200q, not %.200q; %s, not %s %v", textOfDesk(d), line, r, reply, textOfDesk(after), textOfDesk(want), ok)
	}
}

func TestDeskLine(t *testing.T) {
	// What tells of no desk is asked on few of them.
	for k, d := range someDesks() {
		for i, line := range plainLines() {
			if i < len(wordsOfLines()[0]) || strings.HasPrefix(line, "grow ") || strings.HasPrefix(line, "put ") || strings.HasPrefix(line, "into ") || i%60 == k {
				want, reply := executed(d, line)
				checkLine(t, d, line, want, reply)
			}
		}
	}
	for _, d := range []impl.Desk{desk(three, one), desk(nine, four)} {
		for _, line := range noLines() {
			checkLine(t, d, line, d, "what")
		}
	}
}

func TestDeskLineWithEffects(t *testing.T) {
	d := desk(three, four)
	becomes := func(line string, c impl.Cut) {
		t.Helper()
		checkLine(t, d, line, desk(c, four), textOf(c))
	}
	becomes("cut 1x1;0,0,1", one)
	becomes("cut "+textOf(nine), nine)
	becomes("cut "+textOf(rowsOfOnes(6, 5)), rowsOfOnes(6, 5))
	becomes("cut 500x500;0,0,500", grown(one, 500))
	becomes("code (1)", one)
	becomes("code (1,1)(1,1)", four)
	becomes("code (500)", grown(one, 500))
	becomes("word ", one)
	becomes("word b", rowsOfOnes(2, 1))
	becomes("word u", rowsOfOnes(1, 2))
	becomes("word ub", twoRight)
	becomes("word bbbbbbbbbbbbbbbbbbbb", rowsOfOnes(21, 1))
	becomes("tree s", one)
	becomes("tree bsuss", three)
	becomes("tree ubssbss", four)
	becomes("greedy 3 2", three)
	becomes("greedy 1 1", one)
	becomes("greedy 30 1", rowsOfOnes(30, 1))
	becomes("greedy 500 500", grown(one, 500))
	becomes("turn", cut(2, 3, 0, 0, 2, 0, 2, 1, 1, 2, 1))
	becomes("mirror", twoRight)
	becomes("low", three)
	becomes("first", twoRight)
	becomes("grow 1", three)
	becomes("grow 166", grown(three, 166))
	becomes("put 0", cut(3, 5, 0, 0, 3, 0, 3, 2, 2, 3, 1, 2, 4, 1))
	becomes("put 1", cut(5, 2, 0, 0, 2, 2, 0, 1, 3, 0, 2, 2, 1, 1))
	becomes("put 2", cut(3, 5, 0, 0, 2, 2, 0, 1, 2, 1, 1, 0, 2, 3))
	becomes("put 3", cut(5, 2, 0, 0, 2, 2, 0, 2, 4, 0, 1, 4, 1, 1))
	// The Cut is at the left and above, Kept at the right and below.
	becomes("beside", cut(5, 2, 0, 0, 2, 2, 0, 1, 3, 0, 1, 4, 0, 1, 2, 1, 1, 3, 1, 1, 4, 1, 1))
	becomes("under", cut(6, 10, 0, 0, 4, 4, 0, 2, 4, 2, 2, 0, 4, 3, 3, 4, 3, 0, 7, 3, 3, 7, 3))
	becomes("into 0", rowsOfOnes(3, 2))
	becomes("into 2", cut(6, 4, 0, 0, 4, 4, 0, 2, 4, 2, 1, 5, 2, 1, 4, 3, 1, 5, 3, 1))
	checkLine(t, d, "keep", desk(three, three), textOf(three))
	checkLine(t, d, "swap", desk(four, three), textOf(four))
	checkLine(t, desk(grown(three, 7), four), "low", desk(three, four), textOf(three))
	checkLine(t, desk(cut(2, 3, 0, 0, 2, 0, 2, 1, 1, 2, 1), four), "first", desk(twoRight, four), "3x2;0,0,1;1,0,2;0,1,1")
	checkLine(t, desk(one, nine), "keep", desk(one, one), "1x1;0,0,1")
	checkLine(t, desk(one, grown(one, 3)), "beside", desk(grown(rowsOfOnes(2, 1), 3), grown(one, 3)), "6x3;0,0,3;3,0,3")
}

func TestDeskLineWithoutEffects(t *testing.T) {
	for _, w := range []struct {
		c           impl.Cut
		line, reply string
	}{
		{three, "show", "3x2;0,0,2;2,0,1;2,1,1"}, {one, "show", "1x1;0,0,1"}, {grown(one, 500), "show", "500x500;0,0,500"},
		{three, "sides", "2,1,1"}, {one, "sides", "1"}, {nine, "sides", "18,15,7,8,14,4,10,1,9"},
		{three, "bouw", "(2,1)(1)"}, {one, "bouw", "(1)"}, {four, "bouw", "(1,1)(1,1)"}, {nine, "bouw", "(18,15)(7,8)(14,4)(10,1)(9)"},
		{three, "by", "bsuss"}, {one, "by", "s"}, {four, "by", "bussuss"}, {nine, "by", "no"}, {pinwheel, "by", "no"},
		{three, "down", "2"}, {one, "down", "-"}, {nine, "down", "-"}, {rowsOfOnes(4, 1), "down", "1,2,3"}, {rowsOfOnes(1, 4), "down", "-"},
		{three, "across", "-"}, {one, "across", "-"}, {four, "across", "1"}, {rowsOfOnes(1, 4), "across", "1,2,3"}, {rowsOfOnes(4, 1), "across", "-"},
		{three, "perfect", "nay"}, {one, "perfect", "yes"}, {nine, "perfect", "yes"}, {four, "perfect", "nay"},
		{three, "quot 7 3", "2,3"}, {three, "quot 3 7", "2,3"}, {three, "quot 1 1", "1"}, {three, "quot 1000 1", "1000"}, {three, "quot 1000 999", "1,999"}, {three, "quot 1001 1", "no"}, {three, "quot 0 1", "no"}, {three, "quot 1 0", "no"}, {three, "quot 999999 999999", "no"},
		{three, "ratio 7 3", "uubb"}, {three, "ratio 14 6", "uubb"}, {three, "ratio 1 1", "-"}, {three, "ratio 1000 1000", "-"}, {three, "ratio 21 1", "bbbbbbbbbbbbbbbbbbbb"}, {three, "ratio 22 1", "no"}, {three, "ratio 1 21", "uuuuuuuuuuuuuuuuuuuu"}, {three, "ratio 0 0", "no"}, {three, "ratio 1001 1001", "no"},
		{three, "strips 3 3", "6"}, {three, "strips 1 30", "1"}, {three, "strips 4 30", "72003911101089"}, {three, "strips 2 3", "3"}, {three, "strips 5 1", "no"}, {three, "strips 1 31", "no"}, {three, "strips 0 1", "no"}, {three, "strips 30 1", "no"},
		{three, "whole 2 2", "1"}, {three, "whole 3 2", "2"}, {three, "whole 2 3", "0"}, {three, "whole 4 30", "2"}, {three, "whole 5 5", "no"}, {three, "whole 4 31", "no"}, {three, "whole 0 0", "no"},
	} {
		d := desk(w.c, four)
		checkLine(t, d, w.line, d, w.reply)
	}
}

func TestDeskLineRefusesLines(t *testing.T) {
	ones := textOf(rowsOfOnes(30, 1))
	// A function fails, so the reply is `no`; or a part is not what it should be, and it is `what`.
	for _, w := range []struct {
		c, kept     impl.Cut
		line, reply string
	}{
		{three, one, "cut", "what"}, {three, one, "cut ", "what"}, {three, one, "cut 1x1", "what"}, {three, one, "cut 01x1;0,0,1", "what"}, {three, one, "cut 2x2;0,0,1", "what"}, {three, one, "cut 3x2;0,0,2;2,1,1;2,0,1", "what"}, {three, one, "cut 501x501;0,0,501", "what"}, {three, one, "cut " + strings.Replace(ones, "30", "31", 1) + ";30,0,1", "what"}, {three, one, "cut (1)", "what"},
		{three, one, "code", "what"}, {three, one, "code ", "what"}, {three, one, "code (1", "what"}, {three, one, "code ()", "what"}, {three, one, "code (2,1)(2)", "what"}, {three, one, "code (01)", "what"}, {three, one, "code (501)", "what"}, {three, one, "code (-1)", "what"}, {three, one, "code 1x1;0,0,1", "what"},
		{three, one, "word", "what"}, {three, one, "word -", "what"}, {three, one, "word B", "what"}, {three, one, "word bs", "what"}, {three, one, "word " + strings.Repeat("b", 21), "what"}, {three, one, "word ü", "what"},
		// The last one of these words makes a cut of 377 by 610.
		{three, one, "word " + byTurns(13), "no"}, {three, one, "word " + byTurns(20), "no"},
		// T is any text, so that a tree that is none makes the function fail.
		{three, one, "tree", "what"}, {three, one, "tree ", "no"}, {three, one, "tree b", "no"}, {three, one, "tree ss", "no"}, {three, one, "tree x", "no"}, {three, one, "tree \xff\x00", "no"}, {three, one, "tree -", "no"}, {three, one, "tree " + strings.Repeat("bs", 30) + "s", "no"}, {three, one, "tree " + strings.Repeat("s", 2995), "no"}, {three, one, "tree b s s", "what"},
		{three, one, "greedy 0 1", "no"}, {three, one, "greedy 1 0", "no"}, {three, one, "greedy 31 1", "no"}, {three, one, "greedy 501 501", "no"}, {three, one, "greedy 1001 1001", "no"}, {three, one, "greedy 999999 999999", "no"}, {three, one, "greedy 1000000 1", "what"}, {three, one, "greedy 1 1000000", "what"}, {three, one, "greedy 7", "what"}, {three, one, "greedy 7 3 1", "what"}, {three, one, "greedy 0 x", "what"}, {three, one, "greedy x 0", "what"}, {three, one, "greedy 07 3", "what"}, {three, one, "greedy 7 +3", "what"},
		{three, one, "grow 0", "no"}, {three, one, "grow 167", "no"}, {three, one, "grow 999999", "no"}, {three, one, "grow 1000000", "what"}, {three, one, "grow 00", "what"}, {three, one, "grow 01", "what"}, {three, one, "grow -1", "what"}, {three, one, "grow +1", "what"}, {three, one, "grow -0", "what"}, {three, one, "grow ", "what"}, {three, one, "grow", "what"}, {three, one, "grow 1 1", "what"}, {three, one, "grow 9223372036854775808", "what"}, {three, one, "grow 18446744073709551617", "what"},
		{three, one, "put 4", "no"}, {three, one, "put 999999", "no"}, {three, one, "put -1", "what"}, {three, one, "put", "what"}, {three, one, "put above", "what"}, {rowsOfOnes(30, 1), one, "put 1", "no"}, {grown(one, 251), one, "put 2", "no"},
		{rowsOfOnes(30, 1), one, "beside", "no"}, {grown(one, 500), one, "beside", "no"}, {grown(one, 500), one, "under", "no"}, {rowsOfOnes(1, 30), one, "under", "no"}, {three, one, "beside ", "what"}, {three, one, "under 1", "what"},
		{three, one, "into 3", "no"}, {three, one, "into 999999", "no"}, {three, one, "into 1000000", "what"}, {three, three, "into 0", "no"}, {rowsOfOnes(6, 5), four, "into 0", "no"}, {grown(three, 100), grown(one, 499), "into 0", "no"}, {three, one, "into", "what"}, {three, one, "into 00", "what"},
		{three, one, "turn ", "what"}, {three, one, " turn", "what"}, {three, one, "keep ", "what"}, {three, one, "swap swap", "what"}, {three, one, "show 1", "what"}, {three, one, "sides ", "what"}, {three, one, "bouw (1)", "what"}, {three, one, "perfect ", "what"}, {three, one, "quot 7", "what"}, {three, one, "ratio 7  3", "what"}, {three, one, "strips 3 3 ", "what"}, {three, one, "whole 3 3 3", "what"}, {three, one, "", "what"}, {three, one, " ", "what"},
	} {
		d := desk(w.c, w.kept)
		checkLine(t, d, w.line, d, w.reply)
	}
}

func TestDeskLineFails(t *testing.T) {
	fails := func(d impl.Desk, line string) {
		t.Helper()
		if after, reply, ok := impl.DeskLine(d, line); ok || reply != "" || !zeroDesk(after) {
			t.Errorf("%.200s: %.100q %q %s %v", textOfDesk(d), line, reply, textOfDesk(after), ok)
		}
	}
	for _, c := range noCuts() {
		for _, line := range []string{"show", "turn", "keep", "swap", "cut 1x1;0,0,1", "quot 7 3", "fly", "", "grow 0"} {
			fails(desk(c, one), line)
			fails(desk(three, c), line)
			fails(desk(c, c), line)
		}
	}
	for _, line := range []string{"\n", "turn\n", "\nturn", "turn\nmirror", "turn\n\n", "\n\n", "fly\n", "tree s\n", "tree \ns", "word \n", "grow 2\n", "\xff\n", "\x00\n", "\r\n", strings.Repeat("x", 2999) + "\n", strings.Repeat("\n", 3000)} {
		fails(desk(three, one), line)
	}
	// Lines of MaxScript bytes are executed, those with a byte more are not.
	for _, w := range []struct{ begin, fill, reply string }{{"", "x", "what"}, {"", " ", "what"}, {"tree ", "s", "no"}, {"word ", "b", "what"}, {"grow ", "1", "what"}, {"turn", " ", "what"}, {"tree ", "\xff", "no"}} {
		line := w.begin + strings.Repeat(w.fill, 3000-len(w.begin))
		checkLine(t, desk(three, one), line, desk(three, one), w.reply)
		fails(desk(three, one), line+w.fill)
		fails(desk(three, one), line+"\n")
		fails(desk(three, one), line+strings.Repeat(w.fill, 100000))
	}
}

func TestScripts(t *testing.T) {
	for _, lines := range someScripts() {
		want := sessionOf(lines)
		script := scriptOf(lines...)
		if replies, ok := impl.RunScript(script); !ok || !slices.Equal(replies, want.replies) {
			t.Errorf("replies: %q %q %q %v", script, replies, want.replies, ok)
		}
		if d, ok := impl.DeskAfter(script); !ok || !sameDesk(d, want.desk) {
			t.Errorf("desk: %q %s %s %v", script, textOfDesk(d), textOfDesk(want.desk), ok)
		}
		if failed, ok := impl.FailedLines(script); !ok || !slices.Equal(failed, want.failed) {
			t.Errorf("failed: %q %v %v %v", script, failed, want.failed, ok)
		}
	}
}

func TestScriptsThatAreTold(t *testing.T) {
	// The longest script has a line that is none, of which no byte counts.
	longest := "turn\n" + strings.Repeat("x", 2994) + "\n"
	longOnes := strings.Repeat("\n", 49) + strings.Repeat(" ", 2950) + "\n"
	for _, w := range []struct {
		script  string
		replies []string
		desk    string
		failed  []int
	}{
		{"", nil, "3x2;0,0,2;2,0,1;2,1,1 1x1;0,0,1", nil},
		{"\n", []string{"what"}, "3x2;0,0,2;2,0,1;2,1,1 1x1;0,0,1", []int{1}},
		{"\n\nshow\n\n", []string{"what", "what", "3x2;0,0,2;2,0,1;2,1,1", "what"}, "3x2;0,0,2;2,0,1;2,1,1 1x1;0,0,1", []int{1, 2, 4}},
		{"keep\n", []string{"3x2;0,0,2;2,0,1;2,1,1"}, "3x2;0,0,2;2,0,1;2,1,1 3x2;0,0,2;2,0,1;2,1,1", nil},
		{"swap\n", []string{"1x1;0,0,1"}, "1x1;0,0,1 3x2;0,0,2;2,0,1;2,1,1", nil},
		{"swap\nbeside\nswap\nshow\n", []string{"1x1;0,0,1", "5x2;0,0,2;2,0,2;4,0,1;4,1,1", "3x2;0,0,2;2,0,1;2,1,1", "3x2;0,0,2;2,0,1;2,1,1"}, "3x2;0,0,2;2,0,1;2,1,1 5x2;0,0,2;2,0,2;4,0,1;4,1,1", nil},
		{"cut 2x2;0,0,1;1,0,1;0,1,1;1,1,1\nkeep\ngrow 300\ngrow 2\nquux\ninto 0\nword \n", []string{"2x2;0,0,1;1,0,1;0,1,1;1,1,1", "2x2;0,0,1;1,0,1;0,1,1;1,1,1", "no", "4x4;0,0,2;2,0,2;0,2,2;2,2,2", "what", "4x4;0,0,1;1,0,1;2,0,2;0,1,1;1,1,1;0,2,2;2,2,2", "1x1;0,0,1"}, "1x1;0,0,1 2x2;0,0,1;1,0,1;0,1,1;1,1,1", []int{3, 5}},
		{"turn\r\n", []string{"what"}, "3x2;0,0,2;2,0,1;2,1,1 1x1;0,0,1", []int{1}},
		{"\xff\n\x00\nturn\n", []string{"what", "what", "2x3;0,0,2;0,2,1;1,2,1"}, "2x3;0,0,2;0,2,1;1,2,1 1x1;0,0,1", []int{1, 2}},
		{longest, []string{"2x3;0,0,2;0,2,1;1,2,1", "what"}, "2x3;0,0,2;0,2,1;1,2,1 1x1;0,0,1", []int{2}},
		{longOnes, slices.Repeat([]string{"what"}, 50), "3x2;0,0,2;2,0,1;2,1,1 1x1;0,0,1", countedTo(50)},
		{strings.Repeat("turn\n", 50), slices.Repeat([]string{"2x3;0,0,2;0,2,1;1,2,1", "3x2;0,0,1;1,0,2;0,1,1", "2x3;0,0,1;1,0,1;0,1,2", "3x2;0,0,2;2,0,1;2,1,1"}, 13)[:50], "3x2;0,0,1;1,0,2;0,1,1 1x1;0,0,1", nil},
	} {
		if replies, ok := impl.RunScript(w.script); !ok || !slices.Equal(replies, w.replies) {
			t.Errorf("replies: %.100q %q %v", w.script, replies, ok)
		}
		if d, ok := impl.DeskAfter(w.script); !ok || textOfDesk(d) != w.desk {
			t.Errorf("desk: %.100q %s %v", w.script, textOfDesk(d), ok)
		}
		if failed, ok := impl.FailedLines(w.script); !ok || !slices.Equal(failed, w.failed) {
			t.Errorf("failed: %.100q %v %v", w.script, failed, ok)
		}
	}
	if len(longest) != 3000 || len(longOnes) != 3000 {
		t.Error("bytes", len(longest), len(longOnes))
	}
}

func countedTo(last int) []int {
	var numbers []int
	for n := 1; n <= last; n++ {
		numbers = append(numbers, n)
	}
	return numbers
}

func TestScriptsFail(t *testing.T) {
	for _, s := range noScripts() {
		if replies, ok := impl.RunScript(s); ok || len(replies) > 0 {
			t.Errorf("replies: %.100q %d %v", s, len(replies), ok)
		}
		if d, ok := impl.DeskAfter(s); ok || !zeroDesk(d) {
			t.Errorf("desk: %.100q %s %v", s, textOfDesk(d), ok)
		}
		if failed, ok := impl.FailedLines(s); ok || len(failed) > 0 {
			t.Errorf("failed: %.100q %d %v", s, len(failed), ok)
		}
	}
}

func TestNumbersOfLines(t *testing.T) {
	// Each number has just one text, and no number is greater than 999999.
	for _, n := range append(strangeInts(), 9, 10, 11, 99, 100, 101, 4294967297, 999998, 999999, 1000000, 1000001, math.MaxInt32, math.MinInt32) {
		reply := "what"
		if 0 <= n && n <= 999999 {
			reply = "no"
		}
		if 1 <= n && n <= 500 {
			reply = textOf(grown(one, n))
		}
		_, r, ok := impl.DeskLine(desk(one, three), "grow "+commas([]int{n}))
		if !ok || r != reply {
			t.Error(n, r, reply, ok)
		}
		for _, before := range []string{"0", "00", "+", "-", "_", ",", "\t"} {
			checkLine(t, desk(one, three), "grow "+before+commas([]int{max(n, 0)}), desk(one, three), "what")
		}
	}
}
