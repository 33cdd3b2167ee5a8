package facet_test

import (
	"regexp"
	"strconv"
	"strings"

	"facet/facet"
)

// The oracles here say over again what DOC.md says, by other means than the
// program's: a pattern and tried endings for the text, whole numbers and
// fractions for the edges.

var pointPattern = regexp.MustCompile(`^(0|-?[1-9][0-9]{0,2}),(0|-?[1-9][0-9]{0,2})$`)

// isTextOfCorners holds a text against the definition.
func isTextOfCorners(text string) bool {
	points := strings.Split(text, " ")
	for _, p := range points {
		if !pointPattern.MatchString(p) {
			return false
		}
	}
	return 3 <= len(points) && len(points) <= 16
}

// beginsSome tells whether some text of corners begins with these bytes: it
// ends the number or the point that is under way, then adds points.
func beginsSome(begin string) bool {
	for _, end := range []string{"", "1", ",1", "1,1"} {
		for more := 0; more < 3; more++ {
			if isTextOfCorners(begin + end + strings.Repeat(" 1,1", more)) {
				return true
			}
		}
	}
	return false
}

// wantedPlace is the place of ErrText, tried byte by byte.
func wantedPlace(text string) int {
	for i := range len(text) {
		if !beginsSome(text[:i+1]) {
			return i
		}
	}
	return len(text)
}

// wantedCheck is what Check must answer.
func wantedCheck(text string) (facet.Errno, int) {
	if len(text) > 160 {
		return facet.ErrLong, 0
	}
	if !isTextOfCorners(text) {
		return facet.ErrText, wantedPlace(text)
	}
	points := pointsOf(text)
	for i := range points {
		for j := range points {
			if i != j && mustNotMeet(points, i, j) {
				return facet.ErrMeet, i
			}
		}
	}
	return facet.OK, 0
}

// mustNotMeet tells whether edges i and j have a point in common which they
// must not have.
func mustNotMeet(points []facet.Point, i, j int) bool {
	n := len(points)
	first, last, some := common(points[i], points[(i+1)%n], points[j], points[(j+1)%n])
	if j == (i+1)%n || i == (j+1)%n {
		return first.below(last) || isDot(points, i) || isDot(points, j)
	}
	return some
}

func isDot(points []facet.Point, i int) bool {
	return points[i] == points[(i+1)%len(points)]
}

// share is a part of the way along an edge: the whole of it is 1 in 1.
type share struct{ part, in int }

func (s share) below(other share) bool { return s.part*other.in < other.part*s.in }

// common answers from where to where along the line from a to b it has points
// in common with that from c to d, and whether there are some. It clips the
// first line by what holds of every point of the second one.
func common(a, b, c, d facet.Point) (first, last share, some bool) {
	first, last, some = share{0, 1}, share{1, 1}, true
	if a == b {
		last = first
	}
	clip := func(at, by int) { // keeps the shares s with at + by * s not below 0
		edge := share{at, -by}
		if by > 0 {
			edge = share{-at, by}
		}
		switch {
		case by == 0:
			some = some && at >= 0
		case by > 0 && first.below(edge):
			first = edge
		case by < 0 && edge.below(last):
			last = edge
		}
	}
	dx, dy := b.X-a.X, b.Y-a.Y
	clip(a.X-min(c.X, d.X), dx)
	clip(max(c.X, d.X)-a.X, -dx)
	clip(a.Y-min(c.Y, d.Y), dy)
	clip(max(c.Y, d.Y)-a.Y, -dy)
	off := (d.X-c.X)*(a.Y-c.Y) - (d.Y-c.Y)*(a.X-c.X)
	by := (d.X-c.X)*dy - (d.Y-c.Y)*dx
	clip(off, by)
	clip(-off, -by)
	return first, last, some && !last.below(first)
}

func pointsOf(text string) []facet.Point {
	var points []facet.Point
	for _, word := range strings.Split(text, " ") {
		x, y, _ := strings.Cut(word, ",")
		right, _ := strconv.Atoi(x)
		up, _ := strconv.Atoi(y)
		points = append(points, facet.Point{X: right, Y: up})
	}
	return points
}

func textOf(points []facet.Point) string {
	var words []string
	for _, p := range points {
		words = append(words, strconv.Itoa(p.X)+","+strconv.Itoa(p.Y))
	}
	return strings.Join(words, " ")
}

// wantedArea adds triangles that all have corner 0, in whole numbers.
func wantedArea(points []facet.Point) int {
	sum := 0
	o := points[0]
	for i := 2; i < len(points); i++ {
		a, b := points[i-1], points[i]
		sum += (a.X-o.X)*(b.Y-o.Y) - (a.Y-o.Y)*(b.X-o.X)
	}
	return sum
}

// wantedWhere is what Where must answer of a point in a polygon.
func wantedWhere(points []facet.Point, p facet.Point) (int, int) {
	for i, corner := range points {
		if corner == p {
			return 3, i
		}
	}
	for i, from := range points {
		if _, _, some := common(from, points[(i+1)%len(points)], p, p); some {
			return 2, i
		}
	}
	return crossings(points, p) % 2, 0
}

// crossings counts the edges that a line from p crosses. It goes down, not to
// the right, so it is not the program's count; whether the count is odd is
// the same all the way round. It leans so little that it cannot hit a point
// with whole numbers in the range.
func crossings(points []facet.Point, p facet.Point) int {
	const steep = 9999
	side := func(q facet.Point) int { return (q.Y - p.Y) - steep*(q.X-p.X) }
	count := 0
	for i, a := range points {
		b := points[(i+1)%len(points)]
		from, to := side(a), side(b)
		if (from > 0) == (to > 0) {
			continue
		}
		// How far down the edge is met, times what the sides differ by.
		met := -((a.Y-p.Y)*to - (b.Y-p.Y)*from)
		if to < from {
			met = -met
		}
		if met > 0 {
			count++
		}
	}
	return count
}
