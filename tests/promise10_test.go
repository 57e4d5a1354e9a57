package tests

import (
	"fmt"
	"slices"
	"strconv"
	"strings"
	"testing"

	"loop.example/g01296/impl"
)

// manyDesks are some desks, and those that scripts leave.
func manyDesks(t *testing.T) []impl.Desk {
	t.Helper()
	list := someDesks()
	for k, lines := range someScripts() {
		d, ok := impl.DeskAfter(scriptOf(lines...))
		if !ok || !impl.IsDesk(d) {
			t.Fatalf("%q %s %v", lines, textOfDesk(d), ok)
		}
		if k%3 == 0 {
			list = append(list, d)
		}
	}
	return list
}

// callsOfEffects are the calls that lines with an effect on the Cut name.
func callsOfEffects() map[string]func(d impl.Desk) (impl.Cut, bool) {
	calls := map[string]func(d impl.Desk) (impl.Cut, bool){
		"turn":   func(d impl.Desk) (impl.Cut, bool) { return impl.TurnCut(d.Cut) },
		"mirror": func(d impl.Desk) (impl.Cut, bool) { return impl.MirrorCut(d.Cut) },
		"low":    func(d impl.Desk) (impl.Cut, bool) { return impl.LowCut(d.Cut) },
		"first":  func(d impl.Desk) (impl.Cut, bool) { return impl.FirstTurn(d.Cut) },
		"beside": func(d impl.Desk) (impl.Cut, bool) { return impl.BesideCuts(d.Cut, d.Kept) },
		"under":  func(d impl.Desk) (impl.Cut, bool) { return impl.UnderCuts(d.Cut, d.Kept) },
	}
	for _, n := range []int{0, 1, 2, 3, 4, 5, 29, 30, 62, 63, 100, 125, 166, 167, 500, 501, 999999} {
		calls[fmt.Sprint("grow ", n)] = func(d impl.Desk) (impl.Cut, bool) { return impl.GrowCut(d.Cut, n) }
		calls[fmt.Sprint("put ", n)] = func(d impl.Desk) (impl.Cut, bool) { return impl.PutSquare(d.Cut, n) }
		calls[fmt.Sprint("into ", n)] = func(d impl.Desk) (impl.Cut, bool) { return impl.ReplaceSquare(d.Cut, n, d.Kept) }
	}
	return calls
}

// callsOfTexts are those that need no desk.
func callsOfTexts() map[string]func(d impl.Desk) (impl.Cut, bool) {
	calls := map[string]func(d impl.Desk) (impl.Cut, bool){}
	for _, n := range []int{0, 1, 2, 3, 5, 8, 13, 16, 30, 31, 480, 500, 501, 1000, 1001, 999999} {
		for _, k := range []int{0, 1, 2, 3, 5, 8, 13, 16, 30, 31, 480, 500, 501, 1000, 1001, 999999} {
			calls[fmt.Sprintf("greedy %d %d", n, k)] = func(impl.Desk) (impl.Cut, bool) { return impl.GreedyCut(n, k) }
		}
	}
	for _, c := range append(cutsOfSize(3, 3), nine, through, pinwheel, rowsOfOnes(6, 5), grown(one, 500)) {
		text, _ := impl.CutText(c)
		calls["cut "+text] = func(impl.Desk) (impl.Cut, bool) { return impl.ParseCut(text) }
		code, _ := impl.CodeOf(c)
		groups, _ := impl.CodeText(code)
		calls["code "+groups] = func(impl.Desk) (impl.Cut, bool) { return impl.CutOfCode(code) }
	}
	for _, w := range append(slices.Concat(wordsOfLength(0), wordsOfLength(1), wordsOfLength(5)), byTurns(12), byTurns(13), byTurns(20), strings.Repeat("u", 20)) {
		calls["word "+w] = func(impl.Desk) (impl.Cut, bool) { return impl.CutOfWord(w) }
	}
	for tree := range treesOfFive() {
		calls["tree "+tree] = func(impl.Desk) (impl.Cut, bool) { return impl.CutOfTree(tree) }
	}
	for _, text := range noTrees() {
		if !strings.ContainsAny(text, " \n") && len(text) < 2000 {
			calls["tree "+text] = func(impl.Desk) (impl.Cut, bool) { return impl.CutOfTree(text) }
		}
	}
	return calls
}

// replyOf returns `no` for a call that fails.
func replyOf(text string, ok bool) string {
	if !ok {
		return "no"
	}
	return text
}

func TestPromise10LinesWithEffectsDoWhatTheirCallsDo(t *testing.T) {
	check := func(d impl.Desk, line string, c impl.Cut, ok bool) {
		t.Helper()
		want := d
		if ok {
			want.Cut = c
		}
		text, _ := impl.CutText(c)
		checkLine(t, d, line, want, replyOf(text, ok))
	}
	for k, d := range manyDesks(t) {
		for line, call := range callsOfEffects() {
			c, ok := call(d)
			check(d, line, c, ok)
		}
		if k%20 == 0 {
			for line, call := range callsOfTexts() {
				c, ok := call(d)
				check(d, line, c, ok)
			}
		}
		text, _ := impl.CutText(d.Cut)
		checkLine(t, d, "keep", desk(d.Cut, d.Cut), text)
		text, _ = impl.CutText(d.Kept)
		checkLine(t, d, "swap", desk(d.Kept, d.Cut), text)
	}
}

func TestPromise10LinesWithoutEffectsReplyWhatTheirCallsReturn(t *testing.T) {
	for _, d := range manyDesks(t) {
		check := func(line, reply string, ok bool) {
			t.Helper()
			checkLine(t, d, line, d, replyOf(reply, ok))
		}
		text, ok := impl.CutText(d.Cut)
		check("show", text, ok)
		sides, ok := impl.SidesOf(d.Cut)
		check("sides", commas(sides), ok)
		code, ok := impl.CodeOf(d.Cut)
		text, _ = impl.CodeText(code)
		check("bouw", text, ok)
		text, ok = impl.TreeOfCut(d.Cut)
		check("by", text, ok)
		down, ok := impl.LinesDown(d.Cut)
		check("down", commas(down), ok)
		across, ok := impl.LinesAcross(d.Cut)
		check("across", commas(across), ok)
		is, ok := impl.IsPerfect(d.Cut)
		check("perfect", map[bool]string{true: "yes", false: "nay"}[is], ok)
	}
}

func TestPromise10LinesOfNumbersReplyWhatTheirCallsReturn(t *testing.T) {
	d := desk(nine, four)
	for _, n := range append(strangeInts(), 7, 20, 21, 22, 999, 1000, 1001, 999999) {
		for _, k := range append(strangeInts(), 7, 20, 21, 22, 999, 1000, 1001, 999999) {
			if n < 0 || n > 999999 || k < 0 || k > 999999 {
				continue
			}
			check := func(word, reply string, ok bool) {
				t.Helper()
				checkLine(t, d, fmt.Sprintf("%s %d %d", word, n, k), d, replyOf(reply, ok))
			}
			quotients, ok := impl.QuotientsOf(n, k)
			check("quot", commas(quotients), ok)
			w, ok := impl.WordOfRatio(n, k)
			if w == "" {
				w = "-"
			}
			check("ratio", w, ok)
			count, ok := impl.CountStrips(n, k)
			check("strips", strconv.Itoa(count), ok)
			count, ok = impl.CountWholeStrips(n, k)
			check("whole", strconv.Itoa(count), ok)
		}
	}
}

// fold executes lines one after the other, and returns the desk, the replies and the numbers of those that are refused.
func fold(t *testing.T, d impl.Desk, lines []string) (impl.Desk, []string, []int) {
	t.Helper()
	var replies []string
	var failed []int
	for k, line := range lines {
		after, reply, ok := impl.DeskLine(d, line)
		if !ok || !impl.IsDesk(after) {
			t.Fatalf("%s %q %q %v", textOfDesk(d), line, reply, ok)
		}
		if reply == "no" || reply == "what" {
			failed = append(failed, k+1)
			if !sameDesk(d, after) {
				t.Errorf("%s %q %s", textOfDesk(d), line, textOfDesk(after))
			}
		}
		replies = append(replies, reply)
		d = after
	}
	return d, replies, failed
}

func TestPromise10ScriptsAreLinesOneAfterTheOther(t *testing.T) {
	for _, lines := range someScripts() {
		script := scriptOf(lines...)
		d, replies, failed := fold(t, impl.FirstDesk(), lines)
		if list, ok := impl.RunScript(script); !ok || !slices.Equal(list, replies) {
			t.Errorf("%q %q %q", lines, list, replies)
		}
		if after, ok := impl.DeskAfter(script); !ok || !sameDesk(after, d) {
			t.Errorf("%q %s %s", lines, textOfDesk(after), textOfDesk(d))
		}
		if list, ok := impl.FailedLines(script); !ok || !slices.Equal(list, failed) {
			t.Errorf("%q %v %v", lines, list, failed)
		}
	}
}

func TestPromise10ScriptsGoOn(t *testing.T) {
	for k, first := range someScripts() {
		second := someScripts()[(k*7+5)%len(someScripts())]
		if len(first)+len(second) > 50 {
			continue
		}
		both := scriptOf(first...) + scriptOf(second...)
		middle, _ := impl.DeskAfter(scriptOf(first...))
		begun, _ := impl.RunScript(scriptOf(first...))
		failed, _ := impl.FailedLines(scriptOf(first...))
		d, replies, others := fold(t, middle, second)
		for _, n := range others {
			failed = append(failed, len(first)+n)
		}
		if after, ok := impl.DeskAfter(both); !ok || !sameDesk(after, d) {
			t.Errorf("%q %s %s", both, textOfDesk(after), textOfDesk(d))
		}
		if list, ok := impl.RunScript(both); !ok || !slices.Equal(list, append(begun, replies...)) {
			t.Errorf("%q %q", both, list)
		}
		if list, ok := impl.FailedLines(both); !ok || !slices.Equal(list, failed) {
			t.Errorf("%q %v %v", both, list, failed)
		}
	}
}

func TestPromise10RefusedLinesChangeNothing(t *testing.T) {
	none := []string{"fly", "", "grow 0", "tree b", "cut 1x1", "put 4", "greedy 0 0", "turn ", "keep keep", "swap 1", "into 30", "code (2,1)", "word x", "\xff"}
	for k, lines := range someScripts() {
		at, line := k%(len(lines)+1), none[k%len(none)]
		longer := slices.Insert(slices.Clone(lines), at, line)
		if len(longer) > 50 {
			continue
		}
		before, _ := impl.DeskAfter(scriptOf(lines...))
		after, ok := impl.DeskAfter(scriptOf(longer...))
		if !ok || !sameDesk(before, after) {
			t.Errorf("%q %s %s", longer, textOfDesk(before), textOfDesk(after))
		}
		replies, _ := impl.RunScript(scriptOf(longer...))
		failed, ok := impl.FailedLines(scriptOf(longer...))
		if !ok || !slices.Contains(failed, at+1) {
			t.Errorf("%q %v", longer, failed)
		}
		if list, _ := impl.RunScript(scriptOf(lines...)); !slices.Equal(list, slices.Delete(replies, at, at+1)) {
			t.Errorf("%q %q", longer, list)
		}
	}
}

func TestPromise10RepliesTellTheCutAgain(t *testing.T) {
	for _, d := range manyDesks(t) {
		for _, w := range [][2]string{{"show", "cut "}, {"bouw", "code "}, {"by", "tree "}} {
			_, reply, _ := impl.DeskLine(d, w[0])
			again, text, ok := impl.DeskLine(desk(one, four), w[1]+reply)
			want := d.Cut
			if w[0] == "by" {
				// Trees tell nothing of how far a cut is grown, and of cuts that are not by lines there are none.
				want = undoneGrowth(d.Cut)
				if reply == "no" {
					continue
				}
			}
			if !ok || text != textOf(want) || !sameDesk(again, desk(want, four)) {
				t.Error(textOfDesk(d), w, reply, textOfDesk(again), text, ok)
			}
		}
		// What is kept comes back, and what is exchanged twice, turned four times or mirrored twice too.
		for _, lines := range [][]string{{"swap", "swap"}, {"turn", "turn", "turn", "turn"}, {"mirror", "mirror"}, {"grow 1"}} {
			if after, _, _ := fold(t, d, lines); !sameDesk(after, d) {
				t.Error(textOfDesk(d), lines, textOfDesk(after))
			}
		}
		if after, _, _ := fold(t, d, []string{"keep", "word bub", "turn", "swap"}); !same(after.Cut, d.Cut) {
			t.Error(textOfDesk(d), textOfDesk(after))
		}
	}
}
