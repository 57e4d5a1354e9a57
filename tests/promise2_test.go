package tests

import (
	"testing"

	"loop.example/g01296/impl"
)

func TestPromise2CodesTellCutsAgain(t *testing.T) {
	cutOf := map[string]string{}
	for _, c := range sampleCuts() {
		code, ok := impl.CodeOf(c)
		if d, fine := impl.CutOfCode(code); !ok || !fine || !same(c, d) {
			t.Fatal(textOf(c), code, d, ok, fine)
		}
		sides, _ := impl.SidesOf(c)
		if d, ok := impl.CutOfSides(c.Width, sides); !ok || !same(c, d) {
			t.Fatal(textOf(c), sides, d, ok)
		}
		text, ok := impl.CodeText(code)
		if again, fine := impl.ParseCode(text); !ok || !fine || !sameLists(code, again) {
			t.Fatal(textOf(c), text, again, ok, fine)
		}
		if other, is := cutOf[text]; is && other != textOf(c) {
			t.Error("two cuts have the code", text, textOf(c), other)
		}
		cutOf[text] = textOf(c)
	}
}

func sumOf(list []int) int {
	sum := 0
	for _, n := range list {
		sum += n
	}
	return sum
}

func TestPromise2FirstGroupsAreAsLongAsTheEdgeAbove(t *testing.T) {
	check := func(c impl.Cut, width int, code [][]int, ok bool) {
		t.Helper()
		if !ok || sumOf(code[0]) != width {
			t.Fatal(textOf(c), code, ok)
		}
		if w, _, ok := impl.WidthOfCode(code); !ok || w != width {
			t.Fatal(textOf(c), code, w, ok)
		}
	}
	for _, c := range sampleCuts() {
		code, ok := impl.CodeOf(c)
		check(c, c.Width, code, ok)
		other, ok := impl.TurnCode(code)
		check(c, c.Height, other, ok)
		other, ok = impl.MirrorCode(code)
		check(c, c.Width, other, ok)
		other, ok = impl.GrowCode(code, 2)
		check(c, 2*c.Width, other, ok)
		other, ok = impl.FirstCode(c)
		check(c, max(c.Width, c.Height), other, ok)
		counts, _ := impl.SquaresAtEdges(c)
		if len(code[0]) != counts[0] {
			t.Fatal("squares at the edge above", textOf(c), code)
		}
	}
}

func TestPromise2TurnedAndMirroredCodesComeBack(t *testing.T) {
	for _, c := range sampleCuts() {
		code, _ := impl.CodeOf(c)
		again := code
		for range 4 {
			again, _ = impl.TurnCode(again)
		}
		if !sameLists(code, again) {
			t.Fatal("four turns", textOf(c), again)
		}
		once, _ := impl.MirrorCode(code)
		if twice, ok := impl.MirrorCode(once); !ok || !sameLists(code, twice) {
			t.Fatal("mirrored twice", textOf(c), twice)
		}
	}
}
