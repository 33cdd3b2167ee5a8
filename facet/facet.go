// Package facet: polygons, cut into triangles as well as can be: see DOC.md.
package facet

import "slices"

const (
	maxPoints = 40
	furthest  = 999 // to each side of 0, as for the numbers of a text
)

// Errno is what a call answers: OK or the reason for a refusal.
type Errno int

const (
	OK       Errno = 0
	ErrLong  Errno = 1 // a text, or a list, above its bound
	ErrText  Errno = 2 // no text of corners
	ErrMeet  Errno = 3 // edges that meet where they must not
	ErrRange Errno = 4 // a point that is too far away
)

// Point is how far to the right, and how far up.
type Point struct{ X, Y int }

// Triangle is three numbers of corners.
type Triangle struct{ A, B, C int }

// Check tells whether a text is that of a polygon's corners (P3).
func Check(corners string) (Errno, int) {
	_, errno, place := readPolygon(corners)
	return errno, place
}

// Area tells twice the area (P4).
func Area(corners string) (int, Errno, int) {
	p, errno, place := readPolygon(corners)
	if errno != OK {
		return 0, errno, place
	}
	return p.doubleArea(), OK, 0
}

// Where tells where a point lies (P5).
func Where(corners string, p Point) (int, int, Errno, int) {
	outline, errno, place := readForPoint(corners, p)
	if errno != OK {
		return 0, 0, errno, place
	}
	found := outline.spotOf(p.asComplex())
	return found.kind, found.number, OK, 0
}

// Wheres tells where many points lie (P6).
func Wheres(corners string, points []Point) ([]int, Errno, int) {
	outline, errno, place := readPolygon(corners)
	if errno != OK {
		return nil, errno, place
	}
	if len(points) > maxPoints {
		return nil, ErrLong, 0
	}
	if number := slices.IndexFunc(points, Point.isTooFar); number >= 0 {
		return nil, ErrRange, number
	}
	return outline.kindsOf(points), OK, 0
}

// Cut cuts a polygon into triangles (P7).
func Cut(corners string) ([]Triangle, Errno, int) {
	outline, errno, place := readPolygon(corners)
	if errno != OK {
		return nil, errno, place
	}
	m := meshOf(outline)
	return m.triangles, OK, 0
}

// Find tells in which triangle a point lies (P8).
func Find(corners string, p Point) (int, Errno, int) {
	outline, errno, place := readForPoint(corners, p)
	if errno != OK {
		return 0, errno, place
	}
	m := meshOf(outline)
	return m.firstHolding(p.asComplex()), OK, 0
}

// readPolygon is where every call begins, so that all of them refuse a text
// in the same way: the error, and its place, are those of Check.
func readPolygon(text string) (polygon, Errno, int) {
	if len(text) > maxText {
		return polygon{}, ErrLong, 0
	}
	corners, wrong := readCorners(text)
	if wrong != nowhere {
		return polygon{}, ErrText, wrong
	}
	p := polygon{corners}
	if clash := p.firstClash(); clash != noEdge {
		return polygon{}, ErrMeet, clash
	}
	return p, OK, 0
}

// readForPoint is where a call about one point begins: the errors are those
// of Where.
func readForPoint(text string, point Point) (polygon, Errno, int) {
	p, errno, place := readPolygon(text)
	if errno == OK && point.isTooFar() {
		return polygon{}, ErrRange, 0
	}
	return p, errno, place
}

// isTooFar must be asked ahead of asComplex: in a complex number great ones are
// not exact.
func (p Point) isTooFar() bool {
	return p.X < -furthest || p.X > furthest || p.Y < -furthest || p.Y > furthest
}

func (p Point) asComplex() complex128 {
	return complex(float64(p.X), float64(p.Y))
}
