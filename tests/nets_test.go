package tests

import (
	"fmt"
	"math"
	"math/big"
	"slices"
	"strings"
	"testing"

	"loop.example/g01296/impl"
)

// net makes a net of the From and To of its wires.
func net(nodes int, ends ...int) impl.Net {
	n := impl.Net{Nodes: nodes}
	for two := range slices.Chunk(ends, 2) {
		n.Wires = append(n.Wires, impl.Wire{From: two[0], To: two[1]})
	}
	return n
}

// wires repeats a wire.
func wires(times, from, to int) []impl.Wire {
	return slices.Repeat([]impl.Wire{{From: from, To: to}}, times)
}

// chain joins each node to the next one by so many wires.
func chain(nodes, times int) impl.Net {
	n := impl.Net{Nodes: nodes}
	for k := 1; k < nodes; k++ {
		n.Wires = append(n.Wires, wires(times, k-1, k)...)
	}
	return n
}

// ring is a chain whose last node is joined to the first one too.
func ring(nodes int) impl.Net {
	n := chain(nodes, 1)
	n.Wires = append(n.Wires, impl.Wire{From: nodes - 1, To: 0})
	return n
}

// complete has a wire between each two nodes of which one is in the first part and the other one is not; of 0 nodes in the first part, between each two.
func complete(nodes, part int) impl.Net {
	n := impl.Net{Nodes: nodes}
	for to := range nodes {
		for from := range to {
			if part == 0 || from < part && to >= part {
				n.Wires = append(n.Wires, impl.Wire{From: from, To: to})
			}
		}
	}
	return n
}

// icosahedron is a net at both limits, of which there are very many trees.
func icosahedron() impl.Net {
	n := impl.Net{Nodes: 12}
	for k := range 5 {
		above, below := 1+k, 6+k
		nextAbove, nextBelow := 1+(k+1)%5, 6+(k+1)%5
		for _, w := range [][2]int{{0, above}, {above, nextAbove}, {above, below}, {nextAbove, below}, {below, nextBelow}, {below, 11}} {
			n.Wires = append(n.Wires, impl.Wire{From: w[0], To: w[1]})
		}
	}
	return n
}

var (
	oneWire  = net(2, 0, 1)
	backWire = net(2, 1, 0)
	ofThree  = net(3, 0, 2, 0, 1, 1, 2)
	// In the bridge 1-2 there is no current, in the second one it goes the other way.
	bridge     = net(4, 0, 1, 0, 2, 1, 2, 1, 3, 2, 3)
	backBridge = net(4, 0, 1, 0, 2, 0, 2, 1, 2, 1, 3, 1, 3, 2, 3)
	deadEnd    = net(4, 0, 1, 1, 2, 1, 3)
)

// shortNets are all lists of up to count wires with ends in least..most.
func shortNets(nodes, count, least, most int) []impl.Net {
	nets := []impl.Net{{Nodes: nodes}}
	for k := 0; k < len(nets) && len(nets[k].Wires) < count; k++ {
		for from := least; from <= most; from++ {
			for to := least; to <= most; to++ {
				nets = append(nets, impl.Net{Nodes: nodes, Wires: append(slices.Clone(nets[k].Wires), impl.Wire{From: from, To: to})})
			}
		}
	}
	return nets
}

// smallNets are all nets of 2 nodes and up to 4 wires, of 3 and up to 4, and of 4 and up to 4.
func smallNets() []impl.Net {
	var nets []impl.Net
	for nodes := 2; nodes <= 4; nodes++ {
		for _, n := range shortNets(nodes, 4, 0, nodes-1) {
			if isNetByLabels(n) {
				nets = append(nets, n)
			}
		}
	}
	return nets
}

// greatNets are nets of all sizes, and at the limits.
func greatNets() []impl.Net {
	nets := []impl.Net{
		icosahedron(), ring(12), complete(8, 0), complete(11, 5), chain(12, 2), bridge, backBridge, deadEnd,
		{Nodes: 2, Wires: wires(30, 0, 1)},
		{Nodes: 2, Wires: wires(30, 1, 0)},
		{Nodes: 12, Wires: slices.Concat(chain(12, 2).Wires, wires(8, 5, 6))},
		{Nodes: 12, Wires: slices.Concat(chain(12, 1).Wires, wires(19, 0, 11))},
		{Nodes: 12, Wires: slices.Concat(chain(12, 1).Wires, wires(19, 11, 10))},
		{Nodes: 12, Wires: slices.Concat(chain(12, 1).Wires, complete(7, 0).Wires[2:])},
	}
	for nodes := 2; nodes <= 12; nodes++ {
		nets = append(nets, chain(nodes, 1))
		for count := nodes - 1; count <= 30; count++ {
			for seed := range 3 {
				nets = append(nets, madeNet(nodes, count, seed))
			}
		}
	}
	return nets
}

// madeNet joins each node to one before it, and then any two of them.
func madeNet(nodes, count, seed int) impl.Net {
	z := seed*1009 + nodes*31 + count
	next := func(below int) int {
		z = (z*1103515245 + 12345) % (1 << 31)
		return z >> 8 % below
	}
	n := impl.Net{Nodes: nodes}
	for k := range count {
		a := k + 1
		if a >= nodes {
			a = 1 + next(nodes-1)
		}
		b := next(a)
		if next(2) == 0 {
			a, b = b, a
		}
		// The poles are exchanged for other nodes, so that they are not always joined first.
		n.Wires = append(n.Wires, impl.Wire{From: (a + seed*3) % nodes, To: (b + seed*3) % nodes})
	}
	return n
}

// noNets are not valid, each for a reason of its own.
func noNets() []impl.Net {
	list := []impl.Net{
		{}, {Nodes: 1}, {Nodes: 2}, {Nodes: 2, Wires: []impl.Wire{}}, {Nodes: 12}, {Nodes: 0, Wires: wires(1, 0, 1)}, {Nodes: 12, Wires: make([]impl.Wire, 100000)},
		net(1, 0, 0), net(1, 0, 1), net(2, 0, 0), net(2, 1, 1), net(2, 0, 1, 1, 1), net(2, 0, 1, 0, 0), net(2, 0, 2), net(2, 2, 0), net(2, 0, 1, 1, 2), net(2, -1, 0), net(2, 0, -1), net(2, 0, 1, -1, 1),
		net(3, 0, 1), net(3, 0, 2), net(3, 1, 2), net(3, 0, 1, 0, 1, 1, 0), net(3, 0, 2, 2, 0), net(4, 0, 1, 2, 3), net(4, 0, 1, 1, 0, 2, 3, 3, 2), net(4, 0, 1, 1, 2, 2, 0), net(4, 1, 2, 2, 3, 3, 1),
		net(-2, 0, -1), chain(13, 1), ring(13), complete(9, 0), complete(12, 4),
		{Nodes: 2, Wires: wires(31, 0, 1)},
		{Nodes: 12, Wires: append(icosahedron().Wires, impl.Wire{From: 0, To: 11})},
		{Nodes: 12, Wires: chain(11, 2).Wires},
		{Nodes: 12, Wires: chain(12, 1).Wires[1:]},
		{Nodes: 12, Wires: append(chain(11, 1).Wires, impl.Wire{From: 11, To: 12})},
	}
	for _, n := range []int{math.MinInt, math.MinInt + 1, -1 << 32, -1, 13, 1 << 31, 1 << 32, 1<<32 + 1, 1 << 62, math.MaxInt - 1, math.MaxInt} {
		list = append(list, net(n, 0, 1), net(n, 0, n-1), net(2, 0, n), net(2, n, 1), net(2, n, n), net(2, 0, 1, n, 0), net(12, 0, 1, 1, n))
	}
	return list
}

// labelsOf puts the same label on nodes that wires join.
func labelsOf(nodes int, wires []impl.Wire) []int {
	labels := make([]int, nodes)
	for v := range labels {
		labels[v] = v
	}
	for _, w := range wires {
		from, to := labels[w.From], labels[w.To]
		for v, label := range labels {
			if label == from {
				labels[v] = to
			}
		}
	}
	return labels
}

func countLabels(nodes int, wires []impl.Wire) int {
	labels := labelsOf(nodes, wires)
	slices.Sort(labels)
	return len(slices.Compact(labels))
}

func isNetByLabels(n impl.Net) bool {
	for _, w := range n.Wires {
		if w.From < 0 || w.To < 0 || w.From >= n.Nodes || w.To >= n.Nodes || w.From == w.To {
			return false
		}
	}
	return n.Nodes >= 2 && n.Nodes <= 12 && len(n.Wires) <= 30 && countLabels(n.Nodes, n.Wires) == 1
}

// forests calls what for each choice of wires that leaves so many pieces and has no more wires than it needs.
func forests(n impl.Net, pieces int, what func(chosen []impl.Wire)) {
	for bits := range 1 << len(n.Wires) {
		var chosen []impl.Wire
		for k, w := range n.Wires {
			if bits>>k&1 == 1 {
				chosen = append(chosen, w)
			}
		}
		if len(chosen) == n.Nodes-pieces && countLabels(n.Nodes, chosen) == pieces {
			what(chosen)
		}
	}
}

func treesByChoice(n impl.Net) int {
	count := 0
	forests(n, 1, func([]impl.Wire) { count++ })
	return count
}

// joinedByChoice makes one node of both poles.
func joinedByChoice(n impl.Net) int {
	joined := impl.Net{Nodes: n.Nodes - 1}
	for _, w := range n.Wires {
		joined.Wires = append(joined.Wires, impl.Wire{From: w.From % joined.Nodes, To: w.To % joined.Nodes})
	}
	return treesByChoice(joined)
}

// potentialsByChoice counts for each node the ways to join all nodes in two pieces, one with this node and the first pole, the other one with the last pole.
func potentialsByChoice(n impl.Net) []int {
	potentials := make([]int, n.Nodes)
	forests(n, 2, func(chosen []impl.Wire) {
		labels := labelsOf(n.Nodes, chosen)
		for v, label := range labels {
			if label == labels[0] && label != labels[n.Nodes-1] {
				potentials[v]++
			}
		}
	})
	return potentials
}

// exactly finds trees and potentials by fractions of numbers of any size.
func exactly(n impl.Net) (int, []int) {
	size := n.Nodes - 1
	rows := make([][]*big.Rat, size)
	for i := range rows {
		rows[i] = make([]*big.Rat, size+1)
		for j := range rows[i] {
			rows[i][j] = big.NewRat(int64(countBetween(n, i, j)), 1)
		}
	}
	rows[0][size].Add(rows[0][size], big.NewRat(1, 1))
	trees := big.NewRat(1, 1)
	for k, row := range rows {
		pivot := new(big.Rat).Set(row[k])
		trees.Mul(trees, pivot)
		for _, x := range row {
			x.Quo(x, pivot)
		}
		for i, other := range rows {
			factor := new(big.Rat).Set(other[k])
			for j := range other {
				if i != k {
					other[j].Sub(other[j], new(big.Rat).Mul(factor, row[j]))
				}
			}
		}
	}
	potentials := make([]int, n.Nodes)
	for v, row := range rows {
		potentials[v] = wholeOf(new(big.Rat).Mul(row[size], trees))
	}
	return wholeOf(trees), potentials
}

func wholeOf(x *big.Rat) int {
	if !x.IsInt() || !x.Num().IsInt64() {
		panic("no whole number: " + x.String())
	}
	return int(x.Num().Int64())
}

// countBetween returns less than 0 how many wires are between two nodes, or how many a node has; the last pole, at the end of a row, counts as none.
func countBetween(n impl.Net, i, j int) int {
	count := 0
	for _, w := range n.Wires {
		switch {
		case j == n.Nodes-1:
		case i == j && (w.From == i || w.To == i):
			count++
		case w.From == i && w.To == j || w.From == j && w.To == i:
			count--
		}
	}
	return count
}

func currentsOf(n impl.Net, potentials []int) []int {
	var currents []int
	for _, w := range n.Wires {
		currents = append(currents, potentials[w.From]-potentials[w.To])
	}
	return currents
}

// lowest divides numbers by their greatest common divisor.
func lowest(numbers ...int) []int {
	divisor := new(big.Int)
	for _, n := range numbers {
		divisor.GCD(nil, nil, divisor, big.NewInt(int64(max(n, -n))))
	}
	var low []int
	for _, n := range numbers {
		low = append(low, n/int(divisor.Int64()))
	}
	return low
}

func backOf(n impl.Net) impl.Net {
	back := impl.Net{Nodes: n.Nodes}
	for _, w := range n.Wires {
		back.Wires = append(back.Wires, impl.Wire{From: n.Nodes - 1 - w.To, To: n.Nodes - 1 - w.From})
	}
	return back
}

func textOfNet(n impl.Net) string {
	var fields []string
	for _, w := range n.Wires {
		fields = append(fields, fmt.Sprintf("%d-%d", w.From, w.To))
	}
	return fmt.Sprintf("%d:%s", n.Nodes, strings.Join(fields, ","))
}

func sameNet(a, b impl.Net) bool {
	return a.Nodes == b.Nodes && slices.Equal(a.Wires, b.Wires)
}

func zeroNet(n impl.Net) bool {
	return sameNet(n, impl.Net{})
}

// linesByCells goes along each level and looks where the cells above and below are of different squares.
func linesByCells(g cells) [][]int {
	var lines [][]int
	for y := range len(g) + 1 {
		open := false
		for x := range g[0] {
			is := y == 0 || y == len(g) || g[y-1][x] != g[y][x]
			if is && !open {
				lines = append(lines, []int{y, x, x})
			}
			if is {
				lines[len(lines)-1][2]++
			}
			open = is
		}
	}
	return lines
}

// netByCells looks for the lines above and below the cell at the corner of each square.
func netByCells(c impl.Cut) impl.Net {
	g, _ := cellsOf(c)
	lines := linesByCells(g)
	find := func(x, y int) int {
		for k, l := range lines {
			if l[0] == y && l[1] <= x && x+1 <= l[2] {
				return k
			}
		}
		return -1
	}
	n := impl.Net{Nodes: len(lines)}
	for _, s := range c.Squares {
		n.Wires = append(n.Wires, impl.Wire{From: find(s.X, s.Y), To: find(s.X, s.Y+s.Side)})
	}
	return n
}

func TestNetsAreWhatTheyShouldBe(t *testing.T) {
	for _, n := range slices.Concat(smallNets(), greatNets()) {
		if !isNetByLabels(n) {
			t.Error("no net", textOfNet(n))
		}
	}
	for _, n := range noNets() {
		if isNetByLabels(n) {
			t.Error("a net", textOfNet(n))
		}
	}
	if nets := smallNets(); len(nets) < 10000 {
		t.Error("small nets", len(nets))
	}
	// The two ways to find what the program must find agree.
	for _, n := range []impl.Net{oneWire, backWire, ofThree, bridge, backBridge, deadEnd, ring(6), madeNet(5, 9, 1)} {
		trees, potentials := exactly(n)
		if trees != treesByChoice(n) || potentials[0] != joinedByChoice(n) || !slices.Equal(potentials, potentialsByChoice(n)) {
			t.Error(textOfNet(n), trees, potentials)
		}
	}
}
