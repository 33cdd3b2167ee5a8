package facet_test

import (
	"strings"
	"sync"
	"testing"

	"facet/facet"
)

// holdAgainstOracle asks the calls about a text alone, and tells what is not as
// it must be.
func holdAgainstOracle(t *testing.T, text string) facet.Errno {
	t.Helper()
	wantErrno, wantPlace := wantedCheck(text)
	errno, place := facet.Check(text)
	if errno != wantErrno || place != wantPlace {
		t.Fatalf("P3: Check(%q) = %d, %d, want %d, %d", text, errno, place, wantErrno, wantPlace)
	}
	wantArea := 0
	if wantErrno == facet.OK {
		wantArea = wantedArea(pointsOf(text))
	}
	area, errno, place := facet.Area(text)
	if area != wantArea || errno != wantErrno || place != wantPlace {
		t.Fatalf("P4: Area(%q) = %d, %d, %d, want %d, %d, %d", text, area, errno, place, wantArea, wantErrno, wantPlace)
	}
	list, errno, place := facet.Cut(text)
	fault := ""
	if wantErrno == facet.OK {
		fault = faultOfCut(pointsOf(text), list)
	} else if len(list) != 0 {
		fault = "triangles beside an error"
	}
	if fault != "" || errno != wantErrno || place != wantPlace {
		t.Fatalf("P7: Cut(%q) = %v, %d, %d, want %d, %d: %s", text, list, errno, place, wantErrno, wantPlace, fault)
	}
	return errno
}

// TestAllSmallPolygons goes through all ways to lay few corners on a small grid.
func TestAllSmallPolygons(t *testing.T) {
	for _, c := range []struct{ corners, wide int }{{3, 4}, {4, 3}, {5, 3}} {
		var met, fine int
		points := make([]facet.Point, c.corners)
		for code := range power(c.wide*c.wide, c.corners) {
			for i := range points {
				cell := code % (c.wide * c.wide)
				code /= c.wide * c.wide
				points[i] = facet.Point{X: cell%c.wide - 1, Y: cell/c.wide - 1}
			}
			if holdAgainstOracle(t, textOf(points)) == facet.OK {
				holdPoints(t, points, gridAround(c.wide))
				holdFind(t, points, gridAround(c.wide))
				fine++
			} else {
				met++
			}
		}
		if met == 0 || fine == 0 {
			t.Errorf("%d corners: %d polygons, %d others", c.corners, fine, met)
		}
	}
}

func power(base, times int) int {
	answer := 1
	for range times {
		answer *= base
	}
	return answer
}

// dice throws numbers that are the same in every run.
type dice uint64

func (d *dice) below(n int) int {
	*d = *d*6364136223846793005 + 1442695040888963407
	return int(uint64(*d)>>33) % n
}

// TestManyPolygons lays corners over the whole range and over small grids,
// most of them around a middle, so that many of them are polygons.
func TestManyPolygons(t *testing.T) {
	d := dice(1)
	var fine, met [17]int
	for range 20000 {
		n := 3 + d.below(14)
		far := []int{2, 5, 30, 999}[d.below(4)]
		astray := []int{2, 5, 20}[d.below(3)]
		points := make([]facet.Point, n)
		for i := range points {
			points[i] = rounded(i, n, far, d.below(3)+1)
			if d.below(astray) == 0 {
				points[i] = facet.Point{X: d.below(2*far+1) - far, Y: d.below(2*far+1) - far}
			}
		}
		if holdAgainstOracle(t, textOf(points)) == facet.OK {
			near := pointsNear(&d, points)
			holdPoints(t, points, near)
			holdFind(t, points, near[:8])
			fine[n]++
		} else {
			met[n]++
		}
	}
	for n := 3; n <= 16; n++ {
		if fine[n] < 20 || met[n] < 20 {
			t.Errorf("%d corners: %d polygons, %d others", n, fine[n], met[n])
		}
	}
}

// rounded is a point on one side of a square around the middle, so that those
// of rising i go round it.
func rounded(i, n, far, part int) facet.Point {
	way := 8 * far * i / n
	side, along := way/(2*far), way%(2*far)-far
	near := far * part / 3
	return []facet.Point{{along, -near}, {near, along}, {-along, near}, {-near, -along}}[side]
}

// TestManyTexts changes, takes away and adds bytes in texts of corners.
func TestManyTexts(t *testing.T) {
	const pool = "0123456789-, x\x00\xff"
	begins := []string{"", "0,0 1,0 0,1", "-999,-999 999,-999 999,999 -999,999", longest(), strings.Repeat("0,0 ", 15) + "0,0"}
	d := dice(2)
	seen := map[facet.Errno]int{}
	for range 20000 {
		text := begins[d.below(len(begins))]
		for range 1 + d.below(4) {
			at := d.below(len(text) + 1)
			tail := at + d.below(2)
			if tail > len(text) {
				tail = at
			}
			middle := ""
			if d.below(4) > 0 {
				i := d.below(len(pool))
				middle = pool[i : i+1]
			}
			text = text[:at] + middle + text[tail:]
		}
		seen[holdAgainstOracle(t, text)]++
	}
	for _, errno := range []facet.Errno{facet.OK, facet.ErrLong, facet.ErrText, facet.ErrMeet} {
		if seen[errno] == 0 {
			t.Errorf("no text with error %d: %v", errno, seen)
		}
	}
}

// TestAllBeginnings: each beginning of a text of corners is one, or could
// become one by more bytes alone.
func TestAllBeginnings(t *testing.T) {
	for _, text := range []string{longest(), "0,0 10,0 100,-1 -10,-100 -1,7"} {
		for end := range len(text) + 1 {
			holdAgainstOracle(t, text[:end])
		}
	}
}

// TestNoPanic: all calls end, whatever they are given.
func TestNoPanic(t *testing.T) {
	texts := []string{"", " ", "-", ",", "0,0 1,0 0,1", "0,0 0,0 0,0", longest(), strings.Repeat("\x00", 1000), strings.Repeat("9", 1<<20), "\xff\xfe\x80"}
	for b := range 256 {
		texts = append(texts, string([]byte{byte(b)}), "0,0 1,0 0,1"+string([]byte{byte(b)}))
	}
	most := int(^uint(0) >> 1)
	points := []facet.Point{{}, {999, -999}, {1000, 0}, {most, -most - 1}, {-most - 1, most}}
	for _, text := range texts {
		facet.Check(text)
		facet.Area(text)
		facet.Cut(text)
		facet.Wheres(text, nil)
		facet.Wheres(text, points)
		facet.Wheres(text, make([]facet.Point, 100000))
		for _, p := range points {
			facet.Where(text, p)
			facet.Find(text, p)
		}
	}
}

// TestSameAnswers: many calls at the same time, and over again, answer what
// one call does.
func TestSameAnswers(t *testing.T) {
	texts := []string{"0,0 5,0 5,5 0,5", "0,0 4,4 4,0 0,4", "0,0 1,0 0,x", "0,0 4,0 4,4 4,2 0,2", longest(), strings.Repeat(" ", 161)}
	var all sync.WaitGroup
	for i := range 60 {
		text := texts[i%len(texts)]
		all.Go(func() {
			wantErrno, wantPlace := wantedCheck(text)
			for range 50 {
				errno, place := facet.Check(text)
				area, again, there := facet.Area(text)
				if errno != wantErrno || place != wantPlace || again != wantErrno || there != wantPlace {
					t.Errorf("P2: %q: %d, %d and %d, %d, want %d, %d", text, errno, place, again, there, wantErrno, wantPlace)
				}
				if wantErrno == facet.OK && area != wantedArea(pointsOf(text)) {
					t.Errorf("P2: Area(%q) = %d", text, area)
				}
			}
		})
	}
	all.Wait()
}

// TestNames: the errors have the numbers that the document gives them.
func TestNames(t *testing.T) {
	got := [...]facet.Errno{facet.OK, facet.ErrLong, facet.ErrText, facet.ErrMeet, facet.ErrRange}
	if got != [...]facet.Errno{0, 1, 2, 3, 4} {
		t.Errorf("the errors are %v", got)
	}
}
