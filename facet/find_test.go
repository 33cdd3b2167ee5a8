package facet_test

import (
	"testing"

	"facet/facet"
)

// TestFind has polygons with one good cut only.
func TestFind(t *testing.T) {
	const (
		kite      = "0,0 8,-3 16,0 8,3" // 0 1 3, 1 2 3
		clockwise = "0,0 8,3 16,0 8,-3" // 0 3 1, 1 3 2
		dent      = "0,0 9,0 9,9 5,1"   // 0 1 3, 1 2 3
		lined     = "0,0 1,0 2,0 3,0 1,9"
		side      = "0,0 4,0 8,0 8,8 0,8" // 0 1 4, 1 2 3, 1 3 4
		whole     = "-999,-999 999,-999 999,998 -999,999"
	)
	for _, c := range []struct {
		name    string
		corners string
		p       facet.Point
		want    int
	}{
		{"in the first triangle", kite, facet.Point{X: 5, Y: 1}, 0},
		{"in the second triangle", kite, facet.Point{X: 11, Y: 1}, 1},
		{"on the edge that both have", kite, facet.Point{X: 8, Y: 1}, 0},
		{"at a corner that both have", kite, facet.Point{X: 8, Y: -3}, 0},
		{"at the other corner that both have", kite, facet.Point{X: 8, Y: 3}, 0},
		{"at a corner of the first one", kite, facet.Point{X: 0, Y: 0}, 0},
		{"at a corner of the second one", kite, facet.Point{X: 16, Y: 0}, 1},
		{"outside to the right", kite, facet.Point{X: 17, Y: 0}, -1},
		{"outside, beside an edge", kite, facet.Point{X: 4, Y: 2}, -1},
		{"clockwise: in the first triangle", clockwise, facet.Point{X: 5, Y: 1}, 0},
		{"clockwise: in the second triangle", clockwise, facet.Point{X: 11, Y: 1}, 1},
		{"clockwise: on the edge that both have", clockwise, facet.Point{X: 8, Y: 0}, 0},
		{"clockwise: outside", clockwise, facet.Point{X: 4, Y: 2}, -1},
		{"within a dent", dent, facet.Point{X: 5, Y: 2}, -1},
		{"beside a dent", dent, facet.Point{X: 8, Y: 4}, 1},
		{"on a polygon's edge, of the second one", dent, facet.Point{X: 9, Y: 5}, 1},
		{"on a polygon's edge, of the first one", dent, facet.Point{X: 4, Y: 0}, 0},
		{"on the first part of a line", side, facet.Point{X: 2, Y: 0}, 0},
		{"on the second part of a line", side, facet.Point{X: 6, Y: 0}, 1},
		{"at the middle of a line", side, facet.Point{X: 4, Y: 0}, 0},
		{"in the third triangle", side, facet.Point{X: 4, Y: 4}, 2},
		{"on an edge of the first and the third one", side, facet.Point{X: 3, Y: 2}, 0},
		{"on an edge of the second and the third one", side, facet.Point{X: 5, Y: 2}, 1},
		{"at a corner of the second and the third one", side, facet.Point{X: 8, Y: 8}, 1},
		{"on an edge of the third one only", side, facet.Point{X: 4, Y: 8}, 2},
		{"a corner of all", lined, facet.Point{X: 1, Y: 9}, 0},
		{"a corner of the last one", lined, facet.Point{X: 3, Y: 0}, 2},
		{"the furthest corner to the left and down", whole, facet.Point{X: -999, Y: -999}, 0},
		{"the furthest corner to the right and down", whole, facet.Point{X: 999, Y: -999}, 0},
		{"the furthest corner to the left and up", whole, facet.Point{X: -999, Y: 999}, 1},
		{"the furthest point that is outside", whole, facet.Point{X: 999, Y: 999}, -1},
		{"far outside", kite, facet.Point{X: -999, Y: 999}, -1},
	} {
		number, errno, place := facet.Find(c.corners, c.p)
		if number != c.want || errno != facet.OK || place != 0 {
			t.Errorf("P8: %s: Find(%q, %v) = %d, %d, %d, want %d, 0, 0", c.name, c.corners, c.p, number, errno, place, c.want)
		}
	}
}

// TestFindWrong: the errors are those of Where.
func TestFindWrong(t *testing.T) {
	for _, c := range wrongForPoint() {
		number, errno, place := facet.Find(c.corners, c.p)
		if number != 0 || errno != c.errno || place != c.place {
			t.Errorf("P8: %s: Find(%q, %v) = %d, %d, %d, want 0, %d, %d", c.name, c.corners, c.p, number, errno, place, c.errno, c.place)
		}
	}
}

// holdFind asks in which triangle points lie, by what Cut answers.
func holdFind(t *testing.T, corners, points []facet.Point) {
	t.Helper()
	text := textOf(corners)
	list, _, _ := facet.Cut(text)
	for _, p := range points {
		want := wantedFind(corners, list, p)
		number, errno, place := facet.Find(text, p)
		if number != want || errno != facet.OK || place != 0 {
			t.Fatalf("P8: Find(%q, %v) = %d, %d, %d, want %d, 0, 0", text, p, number, errno, place, want)
		}
	}
}

// TestFindShapes asks of points all around, many of them corners and on edges.
func TestFindShapes(t *testing.T) {
	d := dice(6)
	for _, text := range shapes() {
		corners := pointsOf(text)
		for range 10 {
			holdFind(t, corners, pointsNear(&d, corners))
		}
		holdFind(t, corners, gridAround(17))
	}
}
