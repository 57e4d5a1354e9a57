package impl

import (
	"cmp"
	"slices"
	"strconv"
	"strings"
)

const MaxWide = 500
const MaxSquares = 30

type Square struct {
	X    int
	Y    int
	Side int
}

type Cut struct {
	Width   int
	Height  int
	Squares []Square
}

// cell is a cell of side 1, told by its corner above at the left, x first: so corners of squares are cells too.
type cell [2]int

// IsCut reports whether c, whose numbers may be any, is a cut.
func IsCut(c Cut) bool {
	if !areUpTo(MaxWide, c.Width, c.Height) || len(c.Squares) > MaxSquares {
		return false
	}
	free := c.Width * c.Height
	for i, s := range c.Squares {
		if !isWithin(s, c.Width, c.Height) || overlapsAny(s, c.Squares[:i]) {
			return false
		}
		free -= s.Side * s.Side
	}
	// Squares without a common cell leave none free just if their areas say so.
	return free == 0 && slices.IsSortedFunc(c.Squares, compareCorners)
}

func isLength(n int) bool {
	return isUpTo(MaxWide, n)
}

func isUpTo(most int, n int) bool {
	return 1 <= n && n <= most
}

func areUpTo(most int, width int, height int) bool {
	return isUpTo(most, width) && isUpTo(most, height)
}

// isWithin takes the side from the length, as adding it to a place that may be any number could wrap around.
func isWithin(s Square, width int, height int) bool {
	return s.Side >= 1 &&
		0 <= s.X && s.X <= width-s.Side &&
		0 <= s.Y && s.Y <= height-s.Side
}

func overlapsAny(s Square, others []Square) bool {
	for _, o := range others {
		across, down := commonLengths(s, o)
		if across > 0 && down > 0 {
			return true
		}
	}
	return false
}

// commonLengths returns how far two squares go along with each other: 0 if they only touch, less if they are apart.
func commonLengths(a Square, b Square) (int, int) {
	across := min(a.X+a.Side, b.X+b.Side) - max(a.X, b.X)
	down := min(a.Y+a.Side, b.Y+b.Side) - max(a.Y, b.Y)
	return across, down
}

func compareCorners(a Square, b Square) int {
	return cmp.Or(cmp.Compare(a.Y, b.Y), cmp.Compare(a.X, b.X))
}

// OneSquare returns the cut of one square with a side, 1..MaxWide.
func OneSquare(side int) (Cut, bool) {
	if !isLength(side) {
		return Cut{}, false
	}
	return Cut{Width: side, Height: side, Squares: []Square{{Side: side}}}, true
}

// CutOf returns the cut of a width and a height with squares in whichever order. It fails if they are none.
func CutOf(width int, height int, squares []Square) (Cut, bool) {
	if len(squares) > MaxSquares {
		return Cut{}, false
	}
	c := inOrder(width, height, slices.Clone(squares))
	if !IsCut(c) {
		return Cut{}, false
	}
	return c, true
}

// inOrder keeps the squares that it is given, so they must be no one else's.
func inOrder(width int, height int, squares []Square) Cut {
	slices.SortFunc(squares, compareCorners)
	return Cut{Width: width, Height: height, Squares: squares}
}

// SidesOf returns the sides of all squares, in their order.
func SidesOf(c Cut) ([]int, bool) {
	if !IsCut(c) {
		return nil, false
	}
	sides := make([]int, len(c.Squares))
	for i, s := range c.Squares {
		sides[i] = s.Side
	}
	return sides, true
}

// IsPerfect reports whether a cut is perfect.
func IsPerfect(c Cut) (bool, bool) {
	sides, ok := SidesOf(c)
	if !ok {
		return false, false
	}
	slices.Sort(sides)
	return len(slices.Compact(sides)) == len(c.Squares), true
}

// SquareAt returns the square that the cell of side 1 at x, y is in, x in 0..Width - 1, y in 0..Height - 1.
func SquareAt(c Cut, x int, y int) (int, bool) {
	if !IsCut(c) {
		return 0, false
	}
	// A cell without the rectangle is in no square, so it needs no check of its own.
	for i, s := range c.Squares {
		if s.X <= x && x < s.X+s.Side && s.Y <= y && y < s.Y+s.Side {
			return i, true
		}
	}
	return 0, false
}

// SquaresBeside returns the squares beside a square, increasing.
func SquaresBeside(c Cut, k int) ([]int, bool) {
	if !IsCut(c) || k < 0 || k >= len(c.Squares) {
		return nil, false
	}
	var beside []int
	for i, s := range c.Squares {
		across, down := commonLengths(s, c.Squares[k])
		if min(across, down) == 0 && max(across, down) > 0 {
			beside = append(beside, i)
		}
	}
	return beside, true
}

// SquaresAtEdges returns how many squares are at the edge above, at the right, below and at the left.
func SquaresAtEdges(c Cut) ([]int, bool) {
	if !IsCut(c) {
		return nil, false
	}
	counts := make([]int, 4)
	for _, s := range c.Squares {
		at := [4]bool{s.Y == 0, s.X+s.Side == c.Width, s.Y+s.Side == c.Height, s.X == 0}
		for edge, is := range at {
			if is {
				counts[edge]++
			}
		}
	}
	return counts, true
}

// CrossesOf returns X and Y of all crosses, ordered by Y, then by X.
func CrossesOf(c Cut) ([][]int, bool) {
	if !IsCut(c) {
		return nil, false
	}
	var crosses [][]int
	// One of the four squares begins at the cross, so each cross comes once, in the order of the squares.
	for _, s := range c.Squares {
		if isCross(c, cell{s.X, s.Y}) {
			crosses = append(crosses, []int{s.X, s.Y})
		}
	}
	return crosses, true
}

func isCross(c Cut, at cell) bool {
	count := 0
	for _, s := range c.Squares {
		for _, corner := range cornersOf(s) {
			if corner == at {
				count++
			}
		}
	}
	return count == 4
}

func cornersOf(s Square) [4]cell {
	right, below := s.X+s.Side, s.Y+s.Side
	return [4]cell{{s.X, s.Y}, {right, s.Y}, {s.X, below}, {right, below}}
}

// LongestLine returns the greatest length of a straight line within the rectangle, across or down, of which all is made of sides of squares: 0 for one square.
func LongestLine(c Cut) (int, bool) {
	if !IsCut(c) {
		return 0, false
	}
	return max(longestAcross(c), longestAcross(turned(c))), true
}

// longestAcross looks at sides below alone: above each part of a line within the rectangle there is a square that ends at it.
func longestAcross(c Cut) int {
	longest := 0
	for _, s := range c.Squares {
		level := s.Y + s.Side
		if level < c.Height {
			longest = max(longest, endOfLine(c, cell{s.X, level})-s.X)
		}
	}
	return longest
}

// endOfLine begins anew behind each square that ends at the line, as the next one may be ordered before it.
func endOfLine(c Cut, from cell) int {
	for _, s := range c.Squares {
		if from == (cell{s.X, s.Y + s.Side}) {
			return endOfLine(c, cell{s.X + s.Side, from[1]})
		}
	}
	return from[0]
}

// IsSimple reports whether a cut is simple.
func IsSimple(c Cut) (bool, bool) {
	if !IsCut(c) {
		return false, false
	}
	simple := true
search:
	for _, first := range c.Squares {
		for _, last := range c.Squares {
			if isPart(c, squaresBetween(c, first, last)) {
				simple = false
				break search
			}
		}
	}
	return simple, true
}

// PartsOf returns all its parts, each as an increasing list of squares, ordered lexicographically.
func PartsOf(c Cut) ([][]int, bool) {
	if !IsCut(c) {
		return nil, false
	}
	var parts [][]int
	// The squares at two opposite corners tell a rectangle, so each part comes once.
	for _, first := range c.Squares {
		for _, last := range c.Squares {
			if part := squaresBetween(c, first, last); isPart(c, part) {
				parts = append(parts, part)
			}
		}
	}
	slices.SortFunc(parts, slices.Compare)
	return parts, true
}

// squaresBetween returns the squares of the rectangle from the beginning of first to the end of last, or none if squares do not fill it.
func squaresBetween(c Cut, first Square, last Square) []int {
	// If last ends before first begins, no square is within.
	width, height := last.X+last.Side-first.X, last.Y+last.Side-first.Y
	free := width * height
	var inside []int
	for i, s := range c.Squares {
		s.X -= first.X
		s.Y -= first.Y
		if isWithin(s, width, height) {
			inside = append(inside, i)
			free -= s.Side * s.Side
		}
	}
	if free != 0 {
		return nil
	}
	return inside
}

func isPart(c Cut, squares []int) bool {
	return 2 <= len(squares) && len(squares) < len(c.Squares)
}

// TurnCut returns the cut turned by a quarter to the right: what is above is at the right then.
func TurnCut(c Cut) (Cut, bool) {
	if !IsCut(c) {
		return Cut{}, false
	}
	return turned(c), true
}

func turned(c Cut) Cut {
	squares := make([]Square, len(c.Squares))
	for i, s := range c.Squares {
		squares[i] = Square{X: c.Height - s.Y - s.Side, Y: s.X, Side: s.Side}
	}
	return inOrder(c.Height, c.Width, squares)
}

// MirrorCut returns the cut with left and right exchanged.
func MirrorCut(c Cut) (Cut, bool) {
	if !IsCut(c) {
		return Cut{}, false
	}
	return mirrored(c), true
}

func mirrored(c Cut) Cut {
	squares := make([]Square, len(c.Squares))
	for i, s := range c.Squares {
		squares[i] = Square{X: c.Width - s.X - s.Side, Y: s.Y, Side: s.Side}
	}
	return inOrder(c.Width, c.Height, squares)
}

// GrowCut returns the cut with all lengths k times as great, k at least 1.
func GrowCut(c Cut, k int) (Cut, bool) {
	// The bound comes before the product, which could wrap around.
	if !IsCut(c) || k < 1 || k > MaxWide/max(c.Width, c.Height) {
		return Cut{}, false
	}
	return scaled(c, k, 1), true
}

// LowCut returns the cut with all lengths divided by their greatest common divisor.
func LowCut(c Cut) (Cut, bool) {
	if !IsCut(c) {
		return Cut{}, false
	}
	// Width, Height and places are sums of sides: what divides all sides divides them too.
	divisor := 0
	for _, s := range c.Squares {
		divisor = commonDivisor(divisor, s.Side)
	}
	return scaled(c, 1, divisor), true
}

func commonDivisor(a int, b int) int {
	for b != 0 {
		a, b = b, a%b
	}
	return a
}

func lowestTerms(a int, b int) (int, int) {
	divisor := commonDivisor(a, b)
	return a / divisor, b / divisor
}

func scaled(c Cut, times int, divisor int) Cut {
	squares := make([]Square, len(c.Squares))
	for i, s := range c.Squares {
		squares[i] = Square{X: s.X * times / divisor, Y: s.Y * times / divisor, Side: s.Side * times / divisor}
	}
	return Cut{Width: c.Width * times / divisor, Height: c.Height * times / divisor, Squares: squares}
}

// FirstTurn returns, of the up to eight cuts that turning and mirroring make, and are as wide as they are high, or wider, the first one. If the width is less than the height, they are turned.
func FirstTurn(c Cut) (Cut, bool) {
	if !IsCut(c) {
		return Cut{}, false
	}
	if c.Width < c.Height {
		c = turned(c)
	}
	first := mirrored(c)
	for range 4 {
		c = turned(c)
		if c.Width >= c.Height {
			first = slices.MinFunc([]Cut{first, c, mirrored(c)}, compareCuts)
		}
	}
	return first, true
}

// compareCuts compares cuts of one size.
func compareCuts(a Cut, b Cut) int {
	return slices.CompareFunc(a.Squares, b.Squares, compareSquares)
}

func compareSquares(a Square, b Square) int {
	return cmp.Or(cmp.Compare(a.X, b.X), cmp.Compare(a.Y, b.Y), cmp.Compare(a.Side, b.Side))
}

// CutText returns Width, x, Height, and for each square ;, X, ,, Y, , and Side.
func CutText(c Cut) (string, bool) {
	if !IsCut(c) {
		return "", false
	}
	fields := []string{numbersText("x", c.Width, c.Height)}
	for _, s := range c.Squares {
		fields = append(fields, numbersText(",", s.X, s.Y, s.Side))
	}
	return strings.Join(fields, ";"), true
}

// numbersText returns numbers with a mark between them.
func numbersText(mark string, numbers ...int) string {
	fields := make([]string, len(numbers))
	for i, n := range numbers {
		fields[i] = strconv.Itoa(n)
	}
	return strings.Join(fields, mark)
}

// ParseCut returns the cut with a CutText. It fails if there is none.
func ParseCut(s string) (Cut, bool) {
	// One field more than a cut can have keeps the end of a longer text, which is no square.
	fields := strings.SplitN(s, ";", MaxSquares+2)
	size, ok := parseNumbers(fields[0], "x", 2)
	if !ok {
		return Cut{}, false
	}
	c := Cut{Width: size[0], Height: size[1]}
	for _, field := range fields[1:] {
		square, ok := parseNumbers(field, ",", 3)
		if !ok {
			return Cut{}, false
		}
		c.Squares = append(c.Squares, Square{X: square[0], Y: square[1], Side: square[2]})
	}
	if !IsCut(c) {
		return Cut{}, false
	}
	return c, true
}

// parseNumbers returns just count numbers with a mark between them.
func parseNumbers(s string, mark string, count int) ([]int, bool) {
	// What is behind the last mark that there should be stays one field, which is no number if it has a mark.
	fields := strings.SplitN(s, mark, count)
	if len(fields) != count {
		return nil, false
	}
	numbers := make([]int, count)
	for i, field := range fields {
		n, err := strconv.Atoi(field)
		// Atoi takes signs and superfluous zeros too; only the text of the number itself counts.
		if err != nil || n < 0 || strconv.Itoa(n) != field {
			return nil, false
		}
		numbers[i] = n
	}
	return numbers, true
}
