package facet_test

import (
	"slices"
	"testing"

	"facet/facet"
)

func TestArea(t *testing.T) {
	for _, c := range []struct {
		corners string
		want    int
	}{
		{"0,0 1,0 0,1", 1},
		{"0,0 0,1 1,0", -1},
		{"2,3 7,3 7,9 2,9", 60},
		{"2,3 2,9 7,9 7,3", -60},
		{"-2,-3 -7,-3 -7,-9 -2,-9", 60},
		{"0,0 3,0 7,0 7,7", 49},
		{"0,0 8,0 8,8 4,1 0,8", 72},
		{"-999,-999 999,-999 999,999 -999,999", 7984008},
		{"-999,-999 -999,999 999,999 999,-999", -7984008},
		{"-999,-999 999,998 998,998", 1997},
		{longest(), wantedArea(pointsOf(longest()))},
	} {
		area, errno, place := facet.Area(c.corners)
		if area != c.want || errno != facet.OK || place != 0 {
			t.Errorf("P4: Area(%q) = %d, %d, %d, want %d, 0, 0", c.corners, area, errno, place, c.want)
		}
	}
}

func TestAreaWrong(t *testing.T) {
	for _, c := range []struct {
		corners string
		errno   facet.Errno
		place   int
	}{
		{longest() + " 1", facet.ErrLong, 0},
		{"2,3 7,3 7,9 2,9 ", facet.ErrText, 16},
		{"2,3 7,3 7,9 2;9", facet.ErrText, 13},
		{"-5,-5 9,-5 9,0 0,0 0,4 5,0 0,9", facet.ErrMeet, 2},
	} {
		area, errno, place := facet.Area(c.corners)
		if area != 0 || errno != c.errno || place != c.place {
			t.Errorf("P4: Area(%q) = %d, %d, %d, want 0, %d, %d", c.corners, area, errno, place, c.errno, c.place)
		}
	}
}

// TestAreaAnyBeginning: it does not matter at which corner one begins, and
// the other way round the area is the same below 0.
func TestAreaAnyBeginning(t *testing.T) {
	points := pointsOf("0,0 90,10 180,0 170,70 95,20 20,80")
	for range points {
		points = append(points[1:], points[0])
		if area, _, _ := facet.Area(textOf(points)); area != 14750 {
			t.Errorf("P4: Area(%q) = %d, want 14750", textOf(points), area)
		}
		back := slices.Clone(points)
		slices.Reverse(back)
		if area, _, _ := facet.Area(textOf(back)); area != -14750 {
			t.Errorf("P4: Area(%q) = %d, want -14750", textOf(back), area)
		}
	}
}
