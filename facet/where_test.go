package facet_test

import (
	"fmt"
	"slices"
	"strings"
	"testing"

	"facet/facet"
)

type whereCase struct {
	name    string
	corners string
	p       facet.Point
	kind    int
	number  int
}

func runWhere(t *testing.T, cases []whereCase) {
	t.Helper()
	for _, c := range cases {
		kind, number, errno, place := facet.Where(c.corners, c.p)
		if kind != c.kind || number != c.number || errno != facet.OK || place != 0 {
			t.Errorf("P5: %s: Where(%q, %v) = %d, %d, %d, %d, want %d, %d, 0, 0", c.name, c.corners, c.p, kind, number, errno, place, c.kind, c.number)
		}
		kinds, errno, place := facet.Wheres(c.corners, []facet.Point{c.p})
		if !slices.Equal(kinds, []int{c.kind}) || errno != facet.OK || place != 0 {
			t.Errorf("P6: %s: Wheres(%q, [%v]) = %v, %d, %d, want [%d], 0, 0", c.name, c.corners, c.p, kinds, errno, place, c.kind)
		}
	}
}

func TestWhere(t *testing.T) {
	const (
		square    = "0,0 6,0 6,6 0,6"
		clockwise = "0,0 0,6 6,6 6,0"
		dent      = "0,0 8,0 8,8 4,1 0,8"
		comb      = "0,0 9,0 9,5 7,5 7,2 5,2 5,5 3,5 3,2 1,2 1,5 0,5"
		lined     = "0,0 3,0 7,0 7,7"
	)
	runWhere(t, []whereCase{
		{"inside", square, facet.Point{X: 1, Y: 5}, 1, 0},
		{"outside to the right", square, facet.Point{X: 7, Y: 3}, 0, 0},
		{"outside to the left", square, facet.Point{X: -1, Y: 3}, 0, 0},
		{"outside above", square, facet.Point{X: 3, Y: 7}, 0, 0},
		{"outside below", square, facet.Point{X: 3, Y: -1}, 0, 0},
		{"on the first edge", square, facet.Point{X: 1, Y: 0}, 2, 0},
		{"on the second edge", square, facet.Point{X: 6, Y: 1}, 2, 1},
		{"on the last edge", square, facet.Point{X: 0, Y: 1}, 2, 3},
		{"at the first corner", square, facet.Point{X: 0, Y: 0}, 3, 0},
		{"at the second corner", square, facet.Point{X: 6, Y: 0}, 3, 1},
		{"at the last corner", square, facet.Point{X: 0, Y: 6}, 3, 3},
		{"clockwise: inside", clockwise, facet.Point{X: 1, Y: 5}, 1, 0},
		{"clockwise: outside", clockwise, facet.Point{X: -1, Y: 3}, 0, 0},
		{"clockwise: on the first edge", clockwise, facet.Point{X: 0, Y: 1}, 2, 0},
		{"clockwise: on the last edge", clockwise, facet.Point{X: 1, Y: 0}, 2, 3},
		{"clockwise: at the last corner", clockwise, facet.Point{X: 6, Y: 0}, 3, 3},
		{"within a dent", dent, facet.Point{X: 4, Y: 5}, 0, 0},
		{"beside a dent", dent, facet.Point{X: 1, Y: 5}, 1, 0},
		{"below a dent", dent, facet.Point{X: 3, Y: 1}, 1, 0},
		{"at the corner that juts in", dent, facet.Point{X: 4, Y: 1}, 3, 3},
		{"in a comb's last tooth", comb, facet.Point{X: 8, Y: 4}, 1, 0},
		{"between a comb's teeth", comb, facet.Point{X: 6, Y: 4}, 0, 0},
		{"in a comb's middle tooth", comb, facet.Point{X: 4, Y: 4}, 1, 0},
		{"left of a comb", comb, facet.Point{X: -3, Y: 4}, 0, 0},
		{"at the middle of three corners on a line", lined, facet.Point{X: 3, Y: 0}, 3, 1},
		{"on the line ahead of the middle", lined, facet.Point{X: 2, Y: 0}, 2, 0},
		{"on the line behind the middle", lined, facet.Point{X: 4, Y: 0}, 2, 1},
		{"on the line beyond its end", lined, facet.Point{X: 8, Y: 0}, 0, 0},
		{"on the line ahead of its beginning", lined, facet.Point{X: -1, Y: 0}, 0, 0},
		{"on an edge that leans", "0,0 6,4 0,9", facet.Point{X: 3, Y: 2}, 2, 0},
		{"barely beside an edge that leans", "-999,-999 999,998 998,998", facet.Point{X: 0, Y: -1}, 0, 0},
		{"far along an edge that leans", "-999,-999 999,998 998,998", facet.Point{X: 0, Y: 0}, 2, 2},
		{"in a sliver", "0,0 999,998 999,999 1,2", facet.Point{X: 500, Y: 500}, 1, 0},
	})
}

// TestWhereLevel: points that are level with a corner, or with a whole edge,
// where a line to the right would run into it.
func TestWhereLevel(t *testing.T) {
	const (
		diamond = "4,0 8,4 4,8 0,4"
		stairs  = "0,0 9,0 9,3 6,3 6,6 3,6 3,9 0,9"
		peak    = "0,0 4,3 8,0 8,6 4,9 0,6"
		steps   = "5,0 9,4 9,9 7,4 6,4 5,9 3,4 0,9"
	)
	runWhere(t, []whereCase{
		{"inside, level with a corner to the right", diamond, facet.Point{X: 4, Y: 4}, 1, 0},
		{"outside, level with two corners to the right", diamond, facet.Point{X: -2, Y: 4}, 0, 0},
		{"outside, level with corners to the left", diamond, facet.Point{X: 9, Y: 4}, 0, 0},
		{"outside, level with the lowest corner", diamond, facet.Point{X: 0, Y: 0}, 0, 0},
		{"outside, level with the highest corner", diamond, facet.Point{X: 0, Y: 8}, 0, 0},
		{"inside, level with an edge to the right", stairs, facet.Point{X: 1, Y: 3}, 1, 0},
		{"inside, level with a higher edge to the right", stairs, facet.Point{X: 1, Y: 6}, 1, 0},
		{"outside, level with an edge to the right", stairs, facet.Point{X: -1, Y: 3}, 0, 0},
		{"outside, level with the lowest edge", stairs, facet.Point{X: -1, Y: 0}, 0, 0},
		{"outside, level with the highest edge", stairs, facet.Point{X: -1, Y: 9}, 0, 0},
		{"outside, level with an edge to the left", stairs, facet.Point{X: 10, Y: 3}, 0, 0},
		{"outside, above an edge, level with a higher one", stairs, facet.Point{X: 7, Y: 6}, 0, 0},
		{"inside, level with a corner that juts in from below", peak, facet.Point{X: 1, Y: 3}, 1, 0},
		{"outside, level with a corner that juts in from below", peak, facet.Point{X: -1, Y: 3}, 0, 0},
		{"inside, level with two corners at the sides", peak, facet.Point{X: 1, Y: 6}, 1, 0},
		{"inside, level with corners and an edge", steps, facet.Point{X: 5, Y: 4}, 1, 0},
		{"outside, level with corners and an edge", steps, facet.Point{X: 1, Y: 4}, 0, 0},
		{"inside, level with a corner beyond an edge", steps, facet.Point{X: 8, Y: 4}, 1, 0},
	})
}

func TestWhereFar(t *testing.T) {
	const whole = "-999,-999 999,-999 999,999 -999,999"
	runWhere(t, []whereCase{
		{"the furthest corner", whole, facet.Point{X: 999, Y: 999}, 3, 2},
		{"the furthest corner below", whole, facet.Point{X: -999, Y: -999}, 3, 0},
		{"the furthest edge to the left", whole, facet.Point{X: -999, Y: 998}, 2, 3},
		{"the furthest edge below", whole, facet.Point{X: 998, Y: -999}, 2, 0},
		{"the furthest inside", whole, facet.Point{X: 998, Y: -998}, 1, 0},
		{"far outside to the right and up", "0,0 4,0 4,4 0,4", facet.Point{X: 999, Y: 999}, 0, 0},
		{"far outside to the left and down", "0,0 4,0 4,4 0,4", facet.Point{X: -999, Y: -999}, 0, 0},
	})
}

// tooFar are points one beyond the range and as far beyond as can be.
func tooFar() []facet.Point {
	most := int(^uint(0) >> 1)
	return []facet.Point{
		{X: 1000, Y: 0}, {X: -1000, Y: 0}, {X: 0, Y: 1000}, {X: 0, Y: -1000},
		{X: 1000, Y: -1000}, {X: most, Y: 0}, {X: 0, Y: -most - 1}, {X: 1 << 32, Y: 1 << 32},
	}
}

// wrongCase is a wrong text, a wrong point, or both.
type wrongCase struct {
	name    string
	corners string
	p       facet.Point
	errno   facet.Errno
	place   int
}

// wrongForPoint is for all calls that have the errors of Where.
func wrongForPoint() []wrongCase {
	near, far := facet.Point{X: 1, Y: 1}, facet.Point{X: 0, Y: 1000}
	cases := []wrongCase{
		{"long", longest() + " 1", near, facet.ErrLong, 0},
		{"text", "2,3 7,3 7,9 2;9", near, facet.ErrText, 13},
		{"text that wants more", "2,3 7,3 ", near, facet.ErrText, 8},
		{"meet", "-5,-5 9,-5 9,0 0,0 0,4 5,0 0,9", near, facet.ErrMeet, 2},
		{"long ahead of range", longest() + " 1", far, facet.ErrLong, 0},
		{"text ahead of range", "2,3 7,3 7,9 2;9", far, facet.ErrText, 13},
		{"meet ahead of range", "-5,-5 9,-5 9,0 0,0 0,4 5,0 0,9", far, facet.ErrMeet, 2},
	}
	for _, p := range tooFar() {
		cases = append(cases, wrongCase{"range", "0,0 4,0 4,4 0,4", p, facet.ErrRange, 0})
	}
	return cases
}

func TestWhereWrong(t *testing.T) {
	for _, c := range wrongForPoint() {
		kind, number, errno, place := facet.Where(c.corners, c.p)
		if kind != 0 || number != 0 || errno != c.errno || place != c.place {
			t.Errorf("P5: %s: Where(%q, %v) = %d, %d, %d, %d, want 0, 0, %d, %d", c.name, c.corners, c.p, kind, number, errno, place, c.errno, c.place)
		}
	}
}

func TestWheres(t *testing.T) {
	const dent = "0,0 8,0 8,8 4,1 0,8"
	mixed := []facet.Point{{4, 5}, {1, 5}, {8, 3}, {4, 1}, {1, 1}, {999, -999}, {0, 0}, {1, 5}}
	most := make([]facet.Point, 0, 40)
	for i := range 40 {
		most = append(most, mixed[i%len(mixed)])
	}
	for _, c := range []struct {
		name   string
		points []facet.Point
		want   []int
	}{
		{"no points", []facet.Point{}, nil},
		{"no list", nil, nil},
		{"all kinds", mixed, []int{0, 1, 2, 3, 1, 0, 3, 1}},
		{"MaxPoints points", most, slices.Repeat([]int{0, 1, 2, 3, 1, 0, 3, 1}, 5)},
		{"all inside", slices.Repeat(mixed[1:2], 40), slices.Repeat([]int{1}, 40)},
		{"all outside", slices.Repeat(mixed[:1], 40), slices.Repeat([]int{0}, 40)},
		{"one inside, at the end", []facet.Point{{9, 9}, {9, 8}, {1, 1}}, []int{0, 0, 1}},
		{"one outside, at the end", []facet.Point{{1, 1}, {1, 2}, {9, 9}}, []int{1, 1, 0}},
	} {
		kinds, errno, place := facet.Wheres(dent, c.points)
		if !slices.Equal(kinds, c.want) || errno != facet.OK || place != 0 {
			t.Errorf("P6: %s: Wheres(%q, %v) = %v, %d, %d, want %v, 0, 0", c.name, dent, c.points, kinds, errno, place, c.want)
		}
	}
}

func TestWheresWrong(t *testing.T) {
	const (
		square = "0,0 4,0 4,4 0,4"
		cross  = "-5,9 0,0 4,4 4,0 0,4"
	)
	near, far := facet.Point{X: 1, Y: 1}, facet.Point{X: -1000, Y: 1}
	type wrong struct {
		name    string
		corners string
		points  []facet.Point
		errno   facet.Errno
		place   int
	}
	cases := []wrong{
		{"long text", longest() + " 1", []facet.Point{near}, facet.ErrLong, 0},
		{"text", "0,0 4,0 4,4 x", []facet.Point{near}, facet.ErrText, 12},
		{"text, no points", "0,0 4,0 ", nil, facet.ErrText, 8},
		{"meet", cross, []facet.Point{near}, facet.ErrMeet, 1},
		{"one beyond MaxPoints", square, slices.Repeat([]facet.Point{near}, 41), facet.ErrLong, 0},
		{"far beyond MaxPoints", square, make([]facet.Point, 1<<20), facet.ErrLong, 0},
		{"first point", square, []facet.Point{far, near, near}, facet.ErrRange, 0},
		{"first of several", square, []facet.Point{near, near, far, near, far, far}, facet.ErrRange, 2},
		{"last point of the most", square, append(slices.Repeat([]facet.Point{near}, 39), far), facet.ErrRange, 39},
		{"text ahead of long list", "0,0 4,0 4,4 x", slices.Repeat([]facet.Point{near}, 41), facet.ErrText, 12},
		{"meet ahead of long list", cross, slices.Repeat([]facet.Point{near}, 41), facet.ErrMeet, 1},
		{"meet ahead of range", cross, []facet.Point{near, near, far}, facet.ErrMeet, 1},
		{"text ahead of range", "0,0 4,0 4,4 x", []facet.Point{near, far}, facet.ErrText, 12},
		{"long text ahead of range", strings.Repeat("0", 161), []facet.Point{near, far}, facet.ErrLong, 0},
		{"long list ahead of range", square, append([]facet.Point{near, far}, make([]facet.Point, 39)...), facet.ErrLong, 0},
		{"long list ahead of range beyond MaxPoints", square, append(slices.Repeat([]facet.Point{near}, 40), far), facet.ErrLong, 0},
	}
	for i, p := range tooFar() {
		points := append(make([]facet.Point, i), p)
		cases = append(cases, wrong{fmt.Sprint("point ", p), square, points, facet.ErrRange, i})
	}
	for _, c := range cases {
		kinds, errno, place := facet.Wheres(c.corners, c.points)
		if len(kinds) != 0 || errno != c.errno || place != c.place {
			t.Errorf("P6: %s: Wheres(%q, %d points) = %v, %d, %d, want [], %d, %d", c.name, c.corners, len(c.points), kinds, errno, place, c.errno, c.place)
		}
	}
}
