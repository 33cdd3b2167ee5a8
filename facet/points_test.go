package facet_test

import (
	"runtime"
	"slices"
	"sync"
	"testing"

	"facet/facet"
)

// holdPoints asks where points lie in a polygon, one by one and all at once.
func holdPoints(t *testing.T, corners, points []facet.Point) {
	t.Helper()
	text := textOf(corners)
	var want []int
	for _, p := range points {
		wantKind, wantNumber := wantedWhere(corners, p)
		want = append(want, wantKind)
		kind, number, errno, place := facet.Where(text, p)
		if kind != wantKind || number != wantNumber || errno != facet.OK || place != 0 {
			t.Fatalf("P5: Where(%q, %v) = %d, %d, %d, %d, want %d, %d, 0, 0", text, p, kind, number, errno, place, wantKind, wantNumber)
		}
	}
	kinds, errno, place := facet.Wheres(text, points)
	if !slices.Equal(kinds, want) || errno != facet.OK || place != 0 {
		t.Fatalf("P6: Wheres(%q, %v) = %v, %d, %d, want %v, 0, 0", text, points, kinds, errno, place, want)
	}
}

// gridAround is a small grid that begins at -1, with what is just beyond it.
func gridAround(wide int) []facet.Point {
	var points []facet.Point
	for x := -2; x < wide; x++ {
		for y := -2; y < wide; y++ {
			points = append(points, facet.Point{X: x, Y: y})
		}
	}
	return points
}

// pointsNear are MaxPoints points, of which many are corners, on edges, beside
// these, or level with a corner.
func pointsNear(d *dice, corners []facet.Point) []facet.Point {
	var points []facet.Point
	for range 40 {
		i := d.below(len(corners))
		a, b := corners[i], corners[(i+1)%len(corners)]
		p := facet.Point{X: d.below(1999) - 999, Y: d.below(1999) - 999}
		switch d.below(6) {
		case 0:
			p = a
		case 1:
			p = onTheWay(a, b, d)
		case 2:
			p = facet.Point{X: (a.X + b.X) / 2, Y: (a.Y + b.Y) / 2}
		case 3:
			p.Y = a.Y
		case 4:
			other := corners[d.below(len(corners))]
			p = facet.Point{X: other.X, Y: a.Y}
		}
		if d.below(4) == 0 {
			p.X += d.below(3) - 1
			p.Y += d.below(3) - 1
		}
		points = append(points, facet.Point{X: min(max(p.X, -999), 999), Y: min(max(p.Y, -999), 999)})
	}
	return points
}

// onTheWay is a point with whole numbers on the line from a to b.
func onTheWay(a, b facet.Point, d *dice) facet.Point {
	steps := divisor(b.X-a.X, b.Y-a.Y)
	step := d.below(steps + 1)
	return facet.Point{X: a.X + (b.X-a.X)/steps*step, Y: a.Y + (b.Y-a.Y)/steps*step}
}

func divisor(a, b int) int {
	for b != 0 {
		a, b = b, a%b
	}
	return max(a, -a)
}

// TestAllPlaces goes through every point of a patch around polygons that jut
// in, both ways round and from every corner on.
func TestAllPlaces(t *testing.T) {
	for _, text := range []string{
		"0,0 8,0 8,8 4,1 0,8",
		"0,0 9,0 9,5 7,5 7,2 5,2 5,5 3,5 3,2 1,2 1,5 0,5",
		"0,0 2,3 4,6 6,9 9,9 9,0 6,0 3,0",
		"5,0 9,4 9,9 7,4 6,4 5,9 3,4 0,9",
	} {
		corners := pointsOf(text)
		for range corners {
			corners = append(corners[1:], corners[0])
			back := slices.Clone(corners)
			slices.Reverse(back)
			for y := -2; y < 12; y++ {
				var row []facet.Point
				for x := -2; x < 12; x++ {
					row = append(row, facet.Point{X: x, Y: y})
				}
				holdPoints(t, corners, row)
				holdPoints(t, back, row)
			}
		}
	}
}

// TestListsApart: the list that is handed in stays as it was, and the one that
// is answered is new each time.
func TestListsApart(t *testing.T) {
	const square = "0,0 6,0 6,6 0,6"
	for _, points := range [][]facet.Point{
		{{1, 1}, {0, 0}, {7, 7}, {3, 0}},
		{{1, 1}, {1000, 0}, {0, 0}},
		slices.Repeat([]facet.Point{{1, 1}}, 41),
	} {
		// There is room behind the list's end, which is not the call's either.
		room := append(slices.Clone(points), facet.Point{X: 77, Y: 77})
		for _, text := range []string{square, "x"} {
			first, _, _ := facet.Wheres(text, room[:len(points)])
			want := slices.Clone(first)
			for i := range first {
				first[i] = 99
			}
			second, _, _ := facet.Wheres(text, room[:len(points)])
			if !slices.Equal(second, want) {
				t.Errorf("P2: Wheres(%q, %v) = %v, then %v", text, points, want, second)
			}
			for i := range first {
				if first[i] != 99 {
					t.Errorf("P2: Wheres(%q, %v) writes into an earlier answer", text, points)
				}
			}
		}
		if !slices.Equal(room[:len(points)], points) || room[len(points)].X != 77 {
			t.Errorf("P2: Wheres changes the list %v to %v", points, room)
		}
	}
}

// TestManyAtOnce: however many run at the same time, and on however few
// processors, Wheres answers the same, and leaves nothing running.
func TestManyAtOnce(t *testing.T) {
	corners := pointsOf("0,0 9,0 9,5 7,5 7,2 5,2 5,5 3,5 3,2 1,2 1,5 0,5")
	text := textOf(corners)
	d := dice(3)
	points := pointsNear(&d, corners)
	want, _, _ := facet.Wheres(text, points)
	before := runtime.NumGoroutine()
	defer runtime.GOMAXPROCS(runtime.GOMAXPROCS(0))
	for _, processors := range []int{1, 2, 8} {
		runtime.GOMAXPROCS(processors)
		var all sync.WaitGroup
		for range 20 {
			all.Go(func() {
				for range 50 {
					if kinds, _, _ := facet.Wheres(text, points); !slices.Equal(kinds, want) {
						t.Errorf("P2: Wheres(%q, %v) = %v, want %v", text, points, kinds, want)
					}
				}
			})
		}
		all.Wait()
	}
	// Those that are joined may still be on their way out.
	for tries := 0; runtime.NumGoroutine() > before && tries < 1000000; tries++ {
		runtime.Gosched()
	}
	if after := runtime.NumGoroutine(); after > before {
		t.Errorf("%d goroutines before, %d behind", before, after)
	}
}
