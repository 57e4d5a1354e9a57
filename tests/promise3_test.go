package tests

import (
	"slices"
	"testing"

	"loop.example/g01296/impl"
)

func TestPromise3FullCurrentsAreAFlowThatIsBalanced(t *testing.T) {
	for _, n := range slices.Concat(smallNets(), greatNets()) {
		full, ok := impl.CurrentsOf(n)
		low, fine := impl.LowCurrents(n)
		if !ok || !fine || !isFlowByNodes(n, full) || !isFlowByNodes(n, low) {
			t.Fatal("a flow", textOfNet(n), full, low)
		}
		potentials, _ := impl.PotentialsOf(n)
		if !slices.Equal(full, currentsOf(n, potentials)) || potentials[n.Nodes-1] != 0 {
			t.Fatal("balanced", textOfNet(n), full, potentials)
		}
		trees, _ := impl.TreesOf(n)
		if goesIn(n, full, 0) != trees || goesIn(n, full, n.Nodes-1) != -trees {
			t.Fatal("from pole to pole", textOfNet(n), full, trees)
		}
		if joined, ok := impl.JoinedTrees(n); !ok || joined != potentials[0] {
			t.Fatal("the first pole", textOfNet(n), joined, potentials)
		}
		given := [][]int{low}
		if slices.Max(potentials) <= 1000000 {
			given = append(given, full)
		}
		for _, currents := range given {
			if is, ok := impl.IsFlow(n, currents); !ok || !is {
				t.Fatal("IsFlow", textOfNet(n), currents)
			}
			if is, ok := impl.IsBalanced(n, currents); !ok || !is {
				t.Fatal("IsBalanced", textOfNet(n), currents)
			}
		}
	}
}

func TestPromise3NetsOfCutsFlowByTheirSides(t *testing.T) {
	count := 0
	for _, c := range append(sampleCuts(), rowsOfOnes(1, 11), grown(nine, 15), grown(four, 250)) {
		n, sides, ok := impl.NetOfCut(c)
		if !ok {
			continue
		}
		count++
		flow, one := impl.IsFlow(n, sides)
		balanced, two := impl.IsBalanced(n, sides)
		if !one || !two || !flow || !balanced || !isFlowByNodes(n, sides) {
			t.Fatal("sides", textOf(c), textOfNet(n), sides)
		}
		if goesIn(n, sides, 0) != c.Width {
			t.Fatal("width", textOf(c), sides)
		}
		if low, ok := impl.LowCurrents(n); !ok || !slices.Equal(low, lowest(sides...)) {
			t.Fatal("low currents", textOf(c), low)
		}
		ratio := lowest(c.Width, c.Height)
		if a, b, ok := impl.RatioOfNet(n); !ok || a != ratio[0] || b != ratio[1] {
			t.Fatal("ratio", textOf(c), a, b)
		}
		lines, _ := impl.LinesOf(c)
		potentials, _ := impl.PotentialsOf(n)
		for k, line := range lines {
			if potentials[k]*c.Height != potentials[0]*(c.Height-line[0]) {
				t.Fatal("heights", textOf(c), lines, potentials)
			}
		}
	}
	if count < 500 {
		t.Error("nets of cuts", count)
	}
}

func TestPromise3ChangedNetsAreNets(t *testing.T) {
	for _, n := range greatNets() {
		back, ok := impl.BackNet(n)
		full, _ := impl.CurrentsOf(n)
		if other, fine := impl.CurrentsOf(back); !ok || !fine || !slices.Equal(full, other) {
			t.Fatal("told from the last node on", textOfNet(n), full, other)
		}
		if again, ok := impl.BackNet(back); !ok || !sameNet(n, again) {
			t.Fatal("back twice", textOfNet(n), again)
		}
		if more, ok := impl.AddWire(n, impl.Wire{From: 0, To: n.Nodes - 1}); ok {
			// Each tree with the new wire is one if the poles are one node.
			trees, _ := impl.TreesOf(n)
			joined, _ := impl.JoinedTrees(n)
			if all, ok := impl.TreesOf(more); !ok || all != trees+joined {
				t.Fatal("a wire between the poles", textOfNet(n), all, trees, joined)
			}
			if less, ok := impl.DropWire(more, len(n.Wires)); !ok || !sameNet(n, less) {
				t.Fatal("a wire put in and taken out", textOfNet(n), less)
			}
		}
		text, _ := impl.NetText(n)
		if again, ok := impl.ParseNet(text); !ok || !sameNet(n, again) {
			t.Fatal("text", text, again)
		}
	}
}
