package facet_test

import (
	"slices"
	"strings"
	"sync"
	"testing"

	"facet/facet"
)

// TestCut has polygons with one good cut only.
func TestCut(t *testing.T) {
	for _, c := range []struct {
		name    string
		corners string
		want    []facet.Triangle
	}{
		{"a triangle", "0,0 1,0 0,1", []facet.Triangle{{0, 1, 2}}},
		{"a triangle, clockwise", "0,0 0,1 1,0", []facet.Triangle{{0, 2, 1}}},
		{"a kite", "0,0 4,-1 8,0 4,1", []facet.Triangle{{0, 1, 3}, {1, 2, 3}}},
		{"a kite from its next corner on", "4,-1 8,0 4,1 0,0", []facet.Triangle{{0, 1, 2}, {0, 2, 3}}},
		{"a kite, clockwise", "0,0 4,1 8,0 4,-1", []facet.Triangle{{0, 3, 1}, {1, 3, 2}}},
		{"a corner that juts in", "0,0 9,0 9,9 5,1", []facet.Triangle{{0, 1, 3}, {1, 2, 3}}},
		{"a corner that juts in, first", "5,1 0,0 9,0 9,9", []facet.Triangle{{0, 1, 2}, {0, 2, 3}}},
		{"three corners on one line", "0,0 3,0 7,0 7,7", []facet.Triangle{{0, 1, 3}, {1, 2, 3}}},
		{"three corners on one line, clockwise", "7,7 7,0 3,0 0,0", []facet.Triangle{{0, 2, 1}, {0, 3, 2}}},
		{"three corners on one line, across the beginning", "3,0 7,0 7,7 0,0", []facet.Triangle{{0, 1, 2}, {0, 2, 3}}},
		{"four corners on one line", "0,0 1,0 2,0 3,0 1,9", []facet.Triangle{{0, 1, 4}, {1, 2, 4}, {2, 3, 4}}},
		{"a corner on a side of a square", "0,0 1,0 2,0 2,2 0,2", []facet.Triangle{{0, 1, 4}, {1, 2, 3}, {1, 3, 4}}},
		{"a hook around a corner", "0,0 6,0 6,6 5,6 5,1 0,1", []facet.Triangle{{0, 1, 4}, {0, 4, 5}, {1, 2, 4}, {2, 3, 4}}},
		{"the furthest corners, the third a bit nearer", "-999,-999 999,-999 999,998 -999,999", []facet.Triangle{{0, 1, 2}, {0, 2, 3}}},
		{"the furthest corners, the last a bit nearer", "-999,-999 999,-999 999,999 -998,999", []facet.Triangle{{0, 1, 3}, {1, 2, 3}}},
		{"the third one the furthest", "-998,-998 998,-998 998,999 -998,998", []facet.Triangle{{0, 1, 3}, {1, 2, 3}}},
		{"the last one the furthest", "-998,-998 998,-998 998,998 -998,999", []facet.Triangle{{0, 1, 2}, {0, 2, 3}}},
	} {
		list, errno, place := facet.Cut(c.corners)
		if fault := faultOfCut(pointsOf(c.corners), list); fault != "" || errno != facet.OK || place != 0 {
			t.Errorf("P7: %s: Cut(%q) = %v, %d, %d: %s", c.name, c.corners, list, errno, place, fault)
		}
		if !slices.Equal(list, c.want) {
			t.Errorf("P7: %s: Cut(%q) = %v, want %v", c.name, c.corners, list, c.want)
		}
	}
}

// shapes are polygons of up to MaxCorners corners that are hard to cut.
func shapes() []string {
	return []string{
		longest(),
		"0,0 8,0 8,8 6,8 6,2 2,2 2,8 0,8", // a dent as wide as an arm
		"0,0 9,0 9,5 7,5 7,2 5,2 5,5 3,5 3,2 1,2 1,5 0,5",                      // a comb
		"0,0 9,0 9,9 1,9 1,3 6,3 6,6 4,6 4,5 5,5 5,4 2,4 2,8 8,8 8,1 0,1",      // a spiral
		"5,0 4,3 3,4 0,5 -3,4 -4,3 -5,0 -4,-3 -3,-4 0,-5 3,-4 4,-3",            // on one circle
		"7,4 4,7 1,8 -1,8 -4,7 -7,4 -8,1 -8,-1 -7,-4 -4,-7 -1,-8 1,-8",         // on another one
		"0,0 1,0 2,0 3,0 4,0 4,1 4,2 4,3 4,4 3,4 2,4 1,4 0,4 0,3 0,2 0,1",      // many on each side
		"0,0 0,1 0,2 0,3 0,4 1,4 2,4 3,4 4,4 4,3 4,2 4,1 4,0 3,0 2,0 1,0",      // clockwise
		"0,0 10,0 20,0 20,9 11,9 11,1 9,1 9,9 0,9",                             // a slit
		"0,0 3,1 6,0 5,3 6,6 3,5 0,6 1,3",                                      // a star
		"-999,-999 0,-1 999,-999 1,0 999,999 0,1 -999,999 -1,0",                // a star with long arms
		"0,0 999,1 0,2 999,3 0,4 999,5 0,6 999,7 0,8 999,9 0,10 -9,5",          // teeth like needles
		"0,0 2,0 2,2 4,2 4,4 6,4 6,6 8,6 8,8 10,8 10,10 12,10 12,12 0,12",      // stairs: corners that jut in on one line
		"0,0 9,0 9,9 6,6 6,3 3,3 0,9",                                          // a line through three corners that jut in
		"0,0 4,4 8,0 12,4 16,0 16,12 12,8 8,12 4,8 0,12",                       // tips that face each other
		"-999,-999 999,998 999,999 -999,-998",                                  // a sliver
		"-999,0 -998,1 -997,2 -996,3 -995,4 999,5 -994,5 -995,5 -996,4 -999,1", // many in a row, and a needle
	}
}

// TestCutShapes turns each shape: from each corner on, either way round, and
// by a quarter.
func TestCutShapes(t *testing.T) {
	for _, text := range shapes() {
		corners := pointsOf(text)
		for range corners {
			corners = append(corners[1:], corners[0])
			back := slices.Clone(corners)
			slices.Reverse(back)
			for _, points := range [][]facet.Point{corners, back, turned(corners), turned(back)} {
				if errno := holdAgainstOracle(t, textOf(points)); errno != facet.OK {
					t.Errorf("%q is no polygon: %d", textOf(points), errno)
				}
			}
		}
	}
}

func turned(corners []facet.Point) []facet.Point {
	var points []facet.Point
	for _, c := range corners {
		points = append(points, facet.Point{X: -c.Y, Y: c.X})
	}
	return points
}

// TestCutNearCircles takes four corners far apart that are all but on one
// circle, just within or just outside, or on it.
func TestCutNearCircles(t *testing.T) {
	d := dice(5)
	var within, on, beyond int
	for range 4000 {
		corners := []facet.Point{{-999 + d.below(9), 0}, {0, -999 + d.below(9)}, {999 - d.below(9), 0}, {0, 999 - d.below(9)}}
		for i := range corners {
			corners[i].X += d.below(5) - 2
			corners[i].Y += d.below(5) - 2
			corners[i] = facet.Point{X: min(max(corners[i].X, -999), 999), Y: min(max(corners[i].Y, -999), 999)}
		}
		holdAgainstOracle(t, textOf(corners))
		switch {
		case isWithin(corners[3], corners[0], corners[1], corners[2]):
			within++
		case isWithin(corners[0], corners[1], corners[2], corners[3]):
			beyond++
		default:
			on++
		}
	}
	if within == 0 || beyond == 0 || on == 0 {
		t.Errorf("%d within, %d on it, %d beyond", within, on, beyond)
	}
}

// TestAllPolygonsOfGrid goes through all polygons with corners of a grid of
// three by three: most have many corners on one line, or on one circle.
func TestAllPolygonsOfGrid(t *testing.T) {
	var seen [10]int
	var points []facet.Point
	var lay func()
	lay = func() {
		if len(points) >= 3 && holdAgainstOracle(t, textOf(points)) == facet.OK {
			seen[len(points)]++
		}
		for cell := range 9 {
			p := facet.Point{X: cell % 3, Y: cell / 3}
			if !slices.Contains(points, p) && !barsTheWay(points, p) {
				points = append(points, p)
				lay()
				points = points[:len(points)-1]
			}
		}
	}
	lay()
	for n := 3; n <= 9; n++ {
		if seen[n] == 0 {
			t.Errorf("no polygon of %d corners", n)
		}
	}
}

// barsTheWay tells whether the edge to a further corner meets one ahead of it
// whatever may come behind it.
func barsTheWay(points []facet.Point, p facet.Point) bool {
	last := len(points) - 1
	for i := 0; i < last; i++ {
		first, end, some := common(points[i], points[i+1], points[last], p)
		if some && (i < last-1 || first.below(end)) {
			return true
		}
	}
	return false
}

func TestCutWrong(t *testing.T) {
	for _, c := range []struct {
		name    string
		corners string
		errno   facet.Errno
		place   int
	}{
		{"no text", "", facet.ErrText, 0},
		{"long", longest() + " 1", facet.ErrLong, 0},
		{"long ahead of text", strings.Repeat("x", 161), facet.ErrLong, 0},
		{"two corners", "0,0 4,0", facet.ErrText, 7},
		{"too many corners", longest()[:len("-999,-999")] + strings.Repeat(" 1,1", 16), facet.ErrText, 69},
		{"text", "2,3 7,3 7,9 2;9", facet.ErrText, 13},
		{"text ahead of meet", "0,0 4,4 4,0 0,4 ", facet.ErrText, 16},
		{"one beyond to the right", "0,0 1000,0 0,9", facet.ErrText, 7},
		{"one beyond below", "0,0 9,0 0,-1000", facet.ErrText, 14},
		{"meet", "-5,-5 9,-5 9,0 0,0 0,4 5,0 0,9", facet.ErrMeet, 2},
		{"all on one line", "0,0 1,1 2,2", facet.ErrMeet, 0},
		{"the same corner twice", "9,0 9,9 0,9 0,0 0,0", facet.ErrMeet, 2},
	} {
		list, errno, place := facet.Cut(c.corners)
		if len(list) != 0 || errno != c.errno || place != c.place {
			t.Errorf("P7: %s: Cut(%q) = %v, %d, %d, want [], %d, %d", c.name, c.corners, list, errno, place, c.errno, c.place)
		}
	}
}

// TestCutsApart: the list is the caller's, and new each time.
func TestCutsApart(t *testing.T) {
	for _, text := range shapes() {
		first, _, _ := facet.Cut(text)
		want := slices.Clone(first)
		for i := range first {
			first[i] = facet.Triangle{A: 99, B: 99, C: 99}
		}
		second, _, _ := facet.Cut(text)
		if !slices.Equal(second, want) {
			t.Errorf("P2: Cut(%q) = %v, then %v", text, want, second)
		}
		for _, c := range first {
			if c.A != 99 {
				t.Errorf("P2: Cut(%q) writes into an earlier answer", text)
			}
		}
	}
}

// TestCutsAtOnce: many calls at the same time answer what one call does.
func TestCutsAtOnce(t *testing.T) {
	var all sync.WaitGroup
	for _, text := range shapes() {
		want, _, _ := facet.Cut(text)
		middle := facet.Point{X: 4, Y: 4}
		number, _, _ := facet.Find(text, middle)
		for range 4 {
			all.Go(func() {
				for range 20 {
					list, _, _ := facet.Cut(text)
					found, _, _ := facet.Find(text, middle)
					if !slices.Equal(list, want) || found != number {
						t.Errorf("P2: Cut(%q) = %v, want %v; Find = %d, want %d", text, list, want, found, number)
					}
				}
			})
		}
	}
	all.Wait()
}

// TestFaultOfCut: the oracle knows what is no good cut.
func TestFaultOfCut(t *testing.T) {
	const (
		kite   = "0,0 4,-1 8,0 4,1"
		dent   = "0,0 9,0 9,9 5,1"
		lined  = "0,0 3,0 7,0 7,7"
		square = "0,0 4,0 4,4 0,4"
		five   = "0,0 4,0 6,4 3,6 0,4"
	)
	for _, c := range []struct {
		name    string
		corners string
		list    []facet.Triangle
		good    bool
	}{
		{"good", kite, []facet.Triangle{{0, 1, 3}, {1, 2, 3}}, true},
		{"on one circle", square, []facet.Triangle{{0, 1, 3}, {1, 2, 3}}, true},
		{"on one circle, the other way", square, []facet.Triangle{{0, 1, 2}, {0, 2, 3}}, true},
		{"not good", kite, []facet.Triangle{{0, 1, 2}, {0, 2, 3}}, false},
		{"falling", kite, []facet.Triangle{{1, 2, 3}, {0, 1, 3}}, false},
		{"one too few", kite, []facet.Triangle{{0, 1, 3}}, false},
		{"one too many", kite, []facet.Triangle{{0, 1, 3}, {1, 2, 3}, {1, 3, 2}}, false},
		{"clockwise", kite, []facet.Triangle{{0, 3, 1}, {1, 2, 3}}, false},
		{"not the lowest first", kite, []facet.Triangle{{0, 1, 3}, {2, 3, 1}}, false},
		{"no corner", kite, []facet.Triangle{{0, 1, 3}, {1, 2, 4}}, false},
		{"twice the same", kite, []facet.Triangle{{0, 1, 3}, {0, 1, 3}}, false},
		{"across a dent", dent, []facet.Triangle{{0, 1, 2}, {0, 2, 3}}, false},
		{"on one line", lined, []facet.Triangle{{0, 1, 2}, {0, 2, 3}}, false},
		{"one over another", five, []facet.Triangle{{0, 1, 2}, {0, 1, 3}, {0, 3, 4}}, false},
	} {
		if fault := faultOfCut(pointsOf(c.corners), c.list); (fault == "") != c.good {
			t.Errorf("%s: the fault of %v of %q is %q", c.name, c.list, c.corners, fault)
		}
	}
}
