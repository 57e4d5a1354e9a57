package tests

import (
	"math"
	"slices"
	"strings"
	"testing"

	"loop.example/g01296/impl"
)

func TestIsNet(t *testing.T) {
	for _, n := range slices.Concat(shortNets(1, 3, -1, 1), shortNets(2, 3, -1, 2), shortNets(3, 3, -1, 3), shortNets(4, 4, 0, 3)) {
		if is := isNetByLabels(n); impl.IsNet(n) != is {
			t.Fatal(textOfNet(n), is)
		}
	}
	for _, n := range greatNets() {
		if !impl.IsNet(n) {
			t.Error("a net", textOfNet(n))
		}
	}
	for _, n := range noNets() {
		if impl.IsNet(n) {
			t.Errorf("no net %.200s", textOfNet(n))
		}
	}
}

// TestIsNetInWhateverOrder has chains whose wires are told from the end, so that one look at each wire does not come to all nodes.
func TestIsNetInWhateverOrder(t *testing.T) {
	for nodes := 2; nodes <= 12; nodes++ {
		n := chain(nodes, 1)
		slices.Reverse(n.Wires)
		if !impl.IsNet(n) || !impl.IsNet(backOf(n)) {
			t.Error("a net", textOfNet(n))
		}
		n.Wires = slices.Delete(n.Wires, (nodes-1)/2, (nodes-1)/2+1)
		if impl.IsNet(n) {
			t.Error("not joined", textOfNet(n))
		}
	}
}

func TestIsNetAtLimits(t *testing.T) {
	for _, w := range []struct {
		n  impl.Net
		is bool
	}{
		{chain(2, 1), true}, {chain(1, 1), false}, {chain(12, 1), true}, {chain(13, 1), false},
		{chain(2, 30), true}, {chain(2, 31), false}, {chain(11, 3), true}, {chain(12, 3), false}, {icosahedron(), true},
	} {
		if impl.IsNet(w.n) != w.is {
			t.Error(textOfNet(w.n), w.is)
		}
	}
}

func TestLinesOf(t *testing.T) {
	for _, c := range sampleCuts() {
		g, _ := cellsOf(c)
		if lines, ok := impl.LinesOf(c); !ok || !sameLists(lines, linesByCells(g)) {
			t.Fatal(textOf(c), lines, ok)
		}
	}
	// In split there are two lines at one level, in through lines go on through the cross; there may be more lines than a net has nodes.
	for _, w := range []struct {
		c     impl.Cut
		lines [][]int
	}{
		{one, [][]int{{0, 0, 1}, {1, 0, 1}}},
		{grown(one, 500), [][]int{{0, 0, 500}, {500, 0, 500}}},
		{three, [][]int{{0, 0, 3}, {1, 2, 3}, {2, 0, 3}}},
		{four, [][]int{{0, 0, 2}, {1, 0, 2}, {2, 0, 2}}},
		{split, [][]int{{0, 0, 4}, {1, 0, 1}, {1, 3, 4}, {2, 0, 4}}},
		{through, [][]int{{0, 0, 5}, {2, 3, 5}, {3, 0, 5}, {4, 4, 5}, {5, 0, 5}}},
		{nine, [][]int{{0, 0, 33}, {15, 18, 33}, {18, 0, 18}, {22, 14, 25}, {23, 24, 33}, {32, 0, 33}}},
	} {
		if lines, ok := impl.LinesOf(w.c); !ok || !sameLists(lines, w.lines) {
			t.Error(textOf(w.c), lines, ok)
		}
	}
	if lines, ok := impl.LinesOf(rowsOfOnes(1, 30)); !ok || len(lines) != 31 {
		t.Error("31 lines", lines, ok)
	}
	for _, c := range noCuts() {
		if lines, ok := impl.LinesOf(c); ok || lines != nil {
			t.Error(textOf(c), lines, ok)
		}
	}
}

func TestNetOfCut(t *testing.T) {
	for _, c := range sampleCuts() {
		want := netByCells(c)
		n, sides, ok := impl.NetOfCut(c)
		if want.Nodes > 12 {
			if ok || !zeroNet(n) || sides != nil {
				t.Fatal("too many lines", textOf(c), n, sides, ok)
			}
			continue
		}
		wantSides, _ := impl.SidesOf(c)
		if !ok || !sameNet(n, want) || !slices.Equal(sides, wantSides) {
			t.Fatal(textOf(c), n, sides, ok)
		}
	}
	for _, w := range []struct {
		c    impl.Cut
		text string
	}{
		{one, "2:0-1"}, {grown(one, 500), "2:0-1"}, {three, "3:0-2,0-1,1-2"}, {four, "3:0-1,0-1,1-2,1-2"}, {rowsOfOnes(3, 1), "2:0-1,0-1,0-1"},
		{split, "4:0-1,0-3,0-2,1-3,2-3"}, {nine, "6:0-2,0-1,1-3,1-4,2-5,2-3,3-5,3-4,4-5"},
	} {
		if n, sides, ok := impl.NetOfCut(w.c); !ok || textOfNet(n) != w.text || len(sides) != len(w.c.Squares) {
			t.Error(textOf(w.c), n, sides, ok)
		}
	}
}

func TestNetOfCutFails(t *testing.T) {
	if n, sides, ok := impl.NetOfCut(rowsOfOnes(1, 11)); !ok || !sameNet(n, chain(12, 1)) || !slices.Equal(sides, slices.Repeat([]int{1}, 11)) {
		t.Error("12 lines", n, sides, ok)
	}
	for _, c := range append(noCuts(), rowsOfOnes(1, 12), rowsOfOnes(2, 12), rowsOfOnes(1, 30)) {
		if n, sides, ok := impl.NetOfCut(c); ok || !zeroNet(n) || sides != nil {
			t.Error(textOf(c), n, sides, ok)
		}
	}
}

func TestTreesOfAndJoinedTrees(t *testing.T) {
	check := func(n impl.Net, trees, joined int) {
		t.Helper()
		if count, ok := impl.TreesOf(n); !ok || count != trees {
			t.Error("trees", textOfNet(n), count, ok)
		}
		if count, ok := impl.JoinedTrees(n); !ok || count != joined {
			t.Error("joined", textOfNet(n), count, ok)
		}
	}
	for _, n := range smallNets() {
		check(n, treesByChoice(n), joinedByChoice(n))
	}
	for _, n := range greatNets() {
		trees, potentials := exactly(n)
		check(n, trees, potentials[0])
	}
	check(oneWire, 1, 1)
	check(backWire, 1, 1)
	check(ofThree, 3, 2)
	check(net(2, 0, 1, 1, 0), 2, 1)
	check(chain(2, 30), 30, 1)
	check(chain(12, 1), 1, 11)
	check(chain(12, 2), 1<<11, 11<<10)
	check(ring(12), 12, 11)
	check(complete(8, 0), 8*8*8*8*8*8, 2*8*8*8*8*8)
}

func TestTreesOfNetsWithManyTrees(t *testing.T) {
	// As many as Cayley's formula, that for nets of two parts and the known number for the icosahedron say.
	for _, w := range []struct {
		n     impl.Net
		trees int
	}{{complete(4, 0), 16}, {complete(7, 0), 16807}, {complete(8, 0), 262144}, {complete(11, 5), 4050000}, {icosahedron(), 5184000}} {
		for _, n := range []impl.Net{w.n, backOf(w.n)} {
			if count, ok := impl.TreesOf(n); !ok || count != w.trees {
				t.Error(textOfNet(n), count, ok)
			}
		}
	}
}

func TestTreesOfAndJoinedTreesFail(t *testing.T) {
	for _, n := range noNets() {
		if count, ok := impl.TreesOf(n); ok || count != 0 {
			t.Errorf("%.200s %d %v", textOfNet(n), count, ok)
		}
		if count, ok := impl.JoinedTrees(n); ok || count != 0 {
			t.Errorf("%.200s %d %v", textOfNet(n), count, ok)
		}
		if a, b, ok := impl.RatioOfNet(n); ok || a != 0 || b != 0 {
			t.Errorf("%.200s %d %d %v", textOfNet(n), a, b, ok)
		}
	}
}

func TestPotentialsAndCurrents(t *testing.T) {
	check := func(n impl.Net, potentials []int) {
		t.Helper()
		if list, ok := impl.PotentialsOf(n); !ok || !slices.Equal(list, potentials) {
			t.Error("potentials", textOfNet(n), list, ok)
		}
		full := currentsOf(n, potentials)
		if list, ok := impl.CurrentsOf(n); !ok || !slices.Equal(list, full) {
			t.Error("full", textOfNet(n), list, ok)
		}
		if list, ok := impl.LowCurrents(n); !ok || !slices.Equal(list, lowest(full...)) {
			t.Error("low", textOfNet(n), list, ok)
		}
	}
	for _, n := range smallNets() {
		check(n, potentialsByChoice(n))
	}
	for _, n := range greatNets() {
		_, potentials := exactly(n)
		check(n, potentials)
	}
	check(oneWire, []int{1, 0})
	check(backWire, []int{1, 0})
	check(chain(2, 30), []int{1, 0})
	check(ofThree, []int{2, 1, 0})
	check(bridge, []int{8, 4, 4, 0})
	check(deadEnd, []int{2, 1, 1, 0})
	check(chain(12, 1), []int{11, 10, 9, 8, 7, 6, 5, 4, 3, 2, 1, 0})
}

func TestCurrentsOfSomeNets(t *testing.T) {
	for _, w := range []struct {
		n         impl.Net
		full, low []int
	}{
		{oneWire, []int{1}, []int{1}},
		{backWire, []int{-1}, []int{-1}},
		{net(2, 0, 1, 1, 0), []int{1, -1}, []int{1, -1}},
		{ofThree, []int{2, 1, 1}, []int{2, 1, 1}},
		{net(3, 1, 0, 2, 1), []int{-1, -1}, []int{-1, -1}},
		{net(3, 1, 0, 1, 0, 2, 1, 1, 2), []int{-2, -2, -2, 2}, []int{-1, -1, -1, 1}},
		{bridge, []int{4, 4, 0, 4, 4}, []int{1, 1, 0, 1, 1}},
		{deadEnd, []int{1, 0, 1}, []int{1, 0, 1}},
	} {
		if list, ok := impl.CurrentsOf(w.n); !ok || !slices.Equal(list, w.full) {
			t.Error("full", textOfNet(w.n), list, ok)
		}
		if list, ok := impl.LowCurrents(w.n); !ok || !slices.Equal(list, w.low) {
			t.Error("low", textOfNet(w.n), list, ok)
		}
	}
	if list, ok := impl.CurrentsOf(backBridge); !ok || list[3] >= 0 {
		t.Error("the bridge goes the other way", list, ok)
	}
	for _, n := range noNets() {
		for name, f := range map[string]func(impl.Net) ([]int, bool){"PotentialsOf": impl.PotentialsOf, "CurrentsOf": impl.CurrentsOf, "LowCurrents": impl.LowCurrents} {
			if list, ok := f(n); ok || list != nil {
				t.Errorf("%s %.200s %v %v", name, textOfNet(n), list, ok)
			}
		}
	}
}

func TestRatioOfNet(t *testing.T) {
	for _, n := range slices.Concat(smallNets(), greatNets()) {
		trees, potentials := exactly(n)
		want := lowest(trees, potentials[0])
		if a, b, ok := impl.RatioOfNet(n); !ok || a != want[0] || b != want[1] {
			t.Fatal(textOfNet(n), a, b, ok)
		}
	}
	for _, w := range []struct {
		n    impl.Net
		a, b int
	}{{oneWire, 1, 1}, {ofThree, 3, 2}, {chain(2, 30), 30, 1}, {chain(12, 1), 1, 11}, {chain(12, 2), 2, 11}, {bridge, 1, 1}, {complete(8, 0), 4, 1}} {
		if a, b, ok := impl.RatioOfNet(w.n); !ok || a != w.a || b != w.b {
			t.Error(textOfNet(w.n), a, b, ok)
		}
	}
}

// someCurrents are all currents in -2..2 for so many wires.
func someCurrents(count int) [][]int {
	lists := [][]int{nil}
	for k := 0; len(lists[k]) < count; k++ {
		for n := -2; n <= 2; n++ {
			lists = append(lists, append(slices.Clone(lists[k]), n))
		}
	}
	return slices.DeleteFunc(lists, func(list []int) bool { return len(list) < count })
}

// goesIn returns how much goes from a node into the net.
func goesIn(n impl.Net, currents []int, node int) int {
	sum := 0
	for i, w := range n.Wires {
		if w.From == node {
			sum += currents[i]
		}
		if w.To == node {
			sum -= currents[i]
		}
	}
	return sum
}

// isFlowByNodes looks at each node between the poles for itself.
func isFlowByNodes(n impl.Net, currents []int) bool {
	for v := 1; v < n.Nodes-1; v++ {
		if goesIn(n, currents, v) != 0 {
			return false
		}
	}
	return true
}

// isBalancedByTrial tries all potentials of up to 3 nodes that currents of at most 2 can make.
func isBalancedByTrial(n impl.Net, currents []int) bool {
	for one := -4; one <= 4; one++ {
		for two := -4; two <= 4; two++ {
			if slices.Equal(currentsOf(n, []int{0, one, two}), currents) {
				return true
			}
		}
	}
	return false
}

func TestIsFlowAndIsBalanced(t *testing.T) {
	flows, balances := 0, 0
	for _, n := range smallNets() {
		if n.Nodes > 3 || len(n.Wires) > 3 {
			continue
		}
		for _, currents := range someCurrents(len(n.Wires)) {
			isFlow, isBalanced := isFlowByNodes(n, currents), isBalancedByTrial(n, currents)
			if is, ok := impl.IsFlow(n, currents); !ok || is != isFlow {
				t.Fatal("flow", textOfNet(n), currents, is, ok)
			}
			if is, ok := impl.IsBalanced(n, currents); !ok || is != isBalanced {
				t.Fatal("balanced", textOfNet(n), currents, is, ok)
			}
			if isFlow {
				flows++
			}
			if isBalanced {
				balances++
			}
		}
	}
	if flows < 1000 || balances < 1000 {
		t.Error(flows, balances)
	}
}

// TestOneCurrentChanged makes one of the low currents greater: they are a flow still just where the wire goes from pole to pole, and balanced just where nothing else joins its nodes.
func TestOneCurrentChanged(t *testing.T) {
	for _, n := range greatNets() {
		_, potentials := exactly(n)
		currents := lowest(currentsOf(n, potentials)...)
		if is, ok := impl.IsFlow(n, currents); !ok || !is {
			t.Fatal("flow", textOfNet(n), is, ok)
		}
		if is, ok := impl.IsBalanced(n, currents); !ok || !is {
			t.Fatal("balanced", textOfNet(n), is, ok)
		}
		for i, w := range n.Wires {
			currents[i]++
			last := n.Nodes - 1
			if is, ok := impl.IsFlow(n, currents); !ok || is != (w.From%last == 0 && w.To%last == 0) {
				t.Fatal("flow", textOfNet(n), i, is, ok)
			}
			alone := countLabels(n.Nodes, slices.Concat(n.Wires[:i], n.Wires[i+1:])) == 2
			if is, ok := impl.IsBalanced(n, currents); !ok || is != alone {
				t.Fatal("balanced", textOfNet(n), i, is, ok)
			}
			currents[i]--
		}
	}
}

func TestIsFlowAndIsBalancedAtLimits(t *testing.T) {
	most := 1000000
	for _, w := range []struct {
		n                impl.Net
		currents         []int
		flow, isBalanced bool
	}{
		{oneWire, []int{most}, true, true}, {oneWire, []int{-most}, true, true}, {oneWire, []int{0}, true, true},
		{net(2, 0, 1, 0, 1), []int{most, most}, true, true}, {net(2, 0, 1, 1, 0), []int{most, -most}, true, true},
		{net(2, 0, 1, 0, 1), []int{most, -most}, true, false}, {net(2, 0, 1, 1, 0), []int{most, most}, true, false},
		{ofThree, []int{2, 1, 1}, true, true}, {ofThree, []int{3, 1, 1}, true, false}, {ofThree, []int{3, 2, 1}, false, true}, {ofThree, []int{1, 2, 1}, false, false},
		{ofThree, []int{-2, -1, -1}, true, true}, {ofThree, []int{0, 1, -1}, false, true}, {ofThree, []int{0, most, -most}, false, true},
		{chain(12, 1), slices.Repeat([]int{most}, 11), true, true}, {chain(12, 1), slices.Repeat([]int{-most}, 11), true, true},
		{ring(12), slices.Repeat([]int{most}, 12), true, false}, {ring(12), append(slices.Repeat([]int{90909}, 11), -999999), true, true},
	} {
		if is, ok := impl.IsFlow(w.n, w.currents); !ok || is != w.flow {
			t.Error("flow", textOfNet(w.n), w.currents, is, ok)
		}
		if is, ok := impl.IsBalanced(w.n, w.currents); !ok || is != w.isBalanced {
			t.Error("balanced", textOfNet(w.n), w.currents, is, ok)
		}
	}
}

func TestIsFlowAndIsBalancedFail(t *testing.T) {
	fails := func(n impl.Net, currents ...int) {
		t.Helper()
		if is, ok := impl.IsFlow(n, currents); is || ok {
			t.Errorf("flow %.200s %.80v %v %v", textOfNet(n), currents, is, ok)
		}
		if is, ok := impl.IsBalanced(n, currents); is || ok {
			t.Errorf("balanced %.200s %.80v %v %v", textOfNet(n), currents, is, ok)
		}
	}
	for _, c := range []int{1000001, -1000001, 1 << 31, -1 << 31, 1 << 32, math.MinInt, math.MinInt + 1, math.MaxInt} {
		fails(oneWire, c)
		fails(ofThree, c, 0, c)
		fails(ofThree, 0, c, c)
	}
	fails(ofThree)
	fails(ofThree, 2, 1)
	fails(ofThree, 2, 1, 1, 0)
	fails(ofThree, make([]int, 100000)...)
	fails(chain(2, 30), make([]int, 29)...)
	fails(chain(2, 30), make([]int, 31)...)
	for _, n := range noNets() {
		fails(n, make([]int, len(n.Wires))...)
		fails(n)
	}
}

func TestAddWire(t *testing.T) {
	for _, n := range append(greatNets(), oneWire, backWire, ofThree) {
		for from := -1; from <= n.Nodes; from++ {
			for to := -1; to <= n.Nodes; to++ {
				w := impl.Wire{From: from, To: to}
				want := impl.Net{Nodes: n.Nodes, Wires: append(slices.Clone(n.Wires), w)}
				is := isNetByLabels(want)
				d, ok := impl.AddWire(n, w)
				if ok != is || is && !sameNet(d, want) || !is && !zeroNet(d) {
					t.Fatal(textOfNet(n), w, d, ok)
				}
			}
		}
	}
	if d, ok := impl.AddWire(chain(2, 29), impl.Wire{From: 1, To: 0}); !ok || len(d.Wires) != 30 || d.Wires[29] != (impl.Wire{From: 1, To: 0}) {
		t.Error("the wire 30", d, ok)
	}
	if d, ok := impl.AddWire(chain(2, 30), impl.Wire{From: 0, To: 1}); ok || !zeroNet(d) {
		t.Error("the wire 31", d, ok)
	}
	for _, n := range noNets() {
		for _, w := range []impl.Wire{{From: 0, To: 1}, {From: 1, To: 2}, {From: 0, To: 3}} {
			if d, ok := impl.AddWire(n, w); ok || !zeroNet(d) {
				t.Errorf("no net %.200s %v %v %v", textOfNet(n), w, d, ok)
			}
		}
	}
	for _, k := range strangeInts() {
		for _, w := range []impl.Wire{{From: k, To: k}, {From: 0, To: k}, {From: k, To: 1}} {
			_, ok := impl.AddWire(oneWire, w)
			if is := w == (impl.Wire{From: 0, To: 1}); ok != is {
				t.Error(w, ok)
			}
		}
	}
}

func TestDropWire(t *testing.T) {
	dropped := 0
	for _, n := range append(greatNets(), oneWire, backWire, ofThree, chain(2, 2)) {
		for k := range n.Wires {
			want := impl.Net{Nodes: n.Nodes, Wires: slices.Concat(n.Wires[:k], n.Wires[k+1:])}
			is := isNetByLabels(want)
			d, ok := impl.DropWire(n, k)
			if ok != is || is && !sameNet(d, want) || !is && !zeroNet(d) {
				t.Fatal(textOfNet(n), k, d, ok)
			}
			if is {
				dropped++
			}
		}
		for _, k := range []int{math.MinInt, -1, len(n.Wires), len(n.Wires) + 1, math.MaxInt} {
			if d, ok := impl.DropWire(n, k); ok || !zeroNet(d) {
				t.Fatal(textOfNet(n), k, d, ok)
			}
		}
	}
	if dropped < 1000 {
		t.Error("wires dropped", dropped)
	}
	if d, ok := impl.DropWire(ofThree, 0); !ok || textOfNet(d) != "3:0-1,1-2" {
		t.Error(d, ok)
	}
	if d, ok := impl.DropWire(oneWire, 0); ok || !zeroNet(d) {
		t.Error("a net without wires", d, ok)
	}
	for _, n := range noNets() {
		for _, k := range []int{0, 1, 10, 30} {
			if d, ok := impl.DropWire(n, k); ok || !zeroNet(d) {
				t.Errorf("no net %.200s %d %v %v", textOfNet(n), k, d, ok)
			}
		}
	}
}

func TestBackNet(t *testing.T) {
	for _, n := range slices.Concat(smallNets(), greatNets()) {
		if d, ok := impl.BackNet(n); !ok || !sameNet(d, backOf(n)) {
			t.Fatal(textOfNet(n), d, ok)
		}
	}
	for from, back := range map[string]string{"2:0-1": "2:0-1", "2:1-0": "2:1-0", "3:0-2,0-1,1-2": "3:0-2,1-2,0-1", "4:0-1,1-2,1-3": "4:2-3,1-2,0-2"} {
		n, _ := impl.ParseNet(from)
		if d, ok := impl.BackNet(n); !ok || textOfNet(d) != back {
			t.Error(from, d, ok)
		}
	}
	for _, n := range noNets() {
		if d, ok := impl.BackNet(n); ok || !zeroNet(d) {
			t.Errorf("%.200s %v %v", textOfNet(n), d, ok)
		}
	}
}

func TestNetTextAndParseNet(t *testing.T) {
	for _, n := range slices.Concat(smallNets(), greatNets()) {
		if s, ok := impl.NetText(n); !ok || s != textOfNet(n) {
			t.Fatal(textOfNet(n), s, ok)
		}
		if d, ok := impl.ParseNet(textOfNet(n)); !ok || !sameNet(d, n) {
			t.Fatal(textOfNet(n), d, ok)
		}
	}
	for text, n := range map[string]impl.Net{"2:0-1": oneWire, "2:1-0": backWire, "3:0-2,0-1,1-2": ofThree, "12:0-1,1-2,2-3,3-4,4-5,5-6,6-7,7-8,8-9,9-10,10-11": chain(12, 1)} {
		if s, ok := impl.NetText(n); !ok || s != text {
			t.Error(text, s, ok)
		}
		if d, ok := impl.ParseNet(text); !ok || !sameNet(d, n) {
			t.Error(text, d, ok)
		}
	}
	for _, n := range noNets() {
		if s, ok := impl.NetText(n); ok || s != "" {
			t.Errorf("%.200q %v", s, ok)
		}
		if d, ok := impl.ParseNet(textOfNet(n)); ok || !zeroNet(d) {
			t.Errorf("%.200s %v %v", textOfNet(n), d, ok)
		}
	}
}

func TestParseNetFails(t *testing.T) {
	texts := []string{
		"", ":", "-", ",", "2", "2:", ":0-1", "2:0", "2:-", "2:0-", "2:-1", "2:0-1,", "2:,0-1", "2:0-1,,0-1", "2:0-1-", "2:0-1-0", "2:0-1:", "2::0-1", "2:0-1:0-1", "2 :0-1", "2: 0-1", "2:0 -1", "2:0- 1",
		" 2:0-1", "2:0-1 ", "2:0-1\n", "2:0-1\x00", "2;0-1", "2:0,1", "2:0+1", "2:0–1", "2:0-1;0-1", "2:0-1, 0-1", "2:0-1.", "2:0-١", "2:0-\xff", "٢:0-1", "0-1", "0-1,0-1", "2,0-1",
		"02:0-1", "2:00-1", "2:0-01", "+2:0-1", "-2:0-1", "2:+0-1", "2:0-+1", "2:-0-1", "2:0--1", "2:0-1e0", "2:0x0-1", "2.0:0-1", "1_2:0-1", "2:0-1_0",
		"1:0-0", "2:0-0", "2:0-2", "2:2-0", "3:0-1", "3:0-2", "4:0-1,2-3", "13:" + textOfNet(chain(13, 1))[3:], "0:0-1", "1:0-1",
		"9223372036854775808:0-1", "18446744073709551618:0-1", "2:0-18446744073709551617", "2:18446744073709551616-1", "-18446744073709551614:0-1",
		"2:0-1" + strings.Repeat(",0-1", 30), "2:0-1" + strings.Repeat(",0-1", 31), "2:0-1" + strings.Repeat(",0-1", 29) + ",",
		strings.Repeat(":", 100000), strings.Repeat("2", 100000), "2:" + strings.Repeat(",", 100000), "2:" + strings.Repeat("-", 100000), "2:0-" + strings.Repeat("1", 100000), "2:0-1" + strings.Repeat(",0-1", 100000),
	}
	for _, s := range texts {
		if n, ok := impl.ParseNet(s); ok || !zeroNet(n) {
			t.Errorf("%.60q %v %v", s, n, ok)
		}
	}
}

// TestParseNetIsTheTextAlone changes each byte of a text: only texts that NetText returns are taken.
func TestParseNetIsTheTextAlone(t *testing.T) {
	text := "11:0-1,10-0,2-10,2-3,3-4,4-5,5-6,6-7,7-8,8-9"
	if _, ok := impl.ParseNet(text); !ok {
		t.Fatal(text)
	}
	for i := range len(text) + 1 {
		for b := range 256 {
			for _, behind := range []string{text[i:], text[min(i+1, len(text)):]} {
				s := text[:i] + string([]byte{byte(b)}) + behind
				n, ok := impl.ParseNet(s)
				if ok && textOfNet(n) != s || !ok && !zeroNet(n) {
					t.Errorf("%q %v", s, n)
				}
			}
		}
	}
}

func TestExampleOfChapter3(t *testing.T) {
	if lines, ok := impl.LinesOf(three); !ok || !sameLists(lines, [][]int{{0, 0, 3}, {1, 2, 3}, {2, 0, 3}}) {
		t.Error("lines", lines, ok)
	}
	n, sides, ok := impl.NetOfCut(three)
	if text, fine := impl.NetText(n); !ok || !fine || text != "3:0-2,0-1,1-2" || !slices.Equal(sides, []int{2, 1, 1}) {
		t.Error("net", text, sides)
	}
	trees, _ := impl.TreesOf(n)
	if joined, ok := impl.JoinedTrees(n); !ok || trees != 3 || joined != 2 {
		t.Error("trees", trees, joined, ok)
	}
	if currents, ok := impl.CurrentsOf(n); !ok || !slices.Equal(currents, sides) {
		t.Error("full currents", currents, ok)
	}
	if a, b, ok := impl.RatioOfNet(n); !ok || a != 3 || b != 2 {
		t.Error("ratio", a, b, ok)
	}
	if potentials, ok := impl.PotentialsOf(n); !ok || !slices.Equal(potentials, []int{2, 1, 0}) {
		t.Error("potentials", potentials, ok)
	}
}
