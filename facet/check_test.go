package facet_test

import (
	"strings"
	"testing"

	"facet/facet"
)

// longest is a polygon in as many bytes as a text of corners can have: 16
// corners on a bow, each number with a sign and three digits.
func longest() string {
	var points []facet.Point
	for i := range 16 {
		points = append(points, facet.Point{X: -100 - 20*i, Y: -100 - 3*i*i})
	}
	return textOf(points)
}

type checkCase struct {
	name    string
	corners string
	errno   facet.Errno
	place   int
}

func runCheck(t *testing.T, promise string, cases []checkCase) {
	t.Helper()
	for _, c := range cases {
		errno, place := facet.Check(c.corners)
		if errno != c.errno || place != c.place {
			t.Errorf("%s: %s: Check(%.170q) = %d, %d, want %d, %d", promise, c.name, c.corners, errno, place, c.errno, c.place)
		}
		area, errno, place := facet.Area(c.corners)
		if errno != c.errno || place != c.place {
			t.Errorf("P4: %s: Area(%.170q) tells %d, %d, want %d, %d", c.name, c.corners, errno, place, c.errno, c.place)
		}
		if (area != 0) != (c.errno == facet.OK) {
			t.Errorf("P1: %s: Area(%.170q) = %d beside error %d", c.name, c.corners, area, errno)
		}
	}
}

func TestCheckPolygons(t *testing.T) {
	runCheck(t, "P3", []checkCase{
		{"against the clock", "0,0 5,0 5,5 0,5", facet.OK, 0},
		{"with the clock", "0,0 0,5 5,5 5,0", facet.OK, 0},
		{"three corners", "1,1 7,2 3,9", facet.OK, 0},
		{"a dent", "0,0 8,0 8,8 4,1 0,8", facet.OK, 0},
		{"the middle of three on a line between", "0,0 3,0 7,0 7,7", facet.OK, 0},
		{"so at the last corner", "3,0 7,0 7,7 0,7 0,0", facet.OK, 0},
		{"so at an angle", "0,0 2,3 4,6 0,6", facet.OK, 0},
		{"edges on one line that do not touch", "0,0 1,0 1,2 2,2 2,0 3,0 3,3 0,3", facet.OK, 0},
		{"the furthest points", "-999,-999 999,-999 999,999 -999,999", facet.OK, 0},
		{"a sliver", "-999,-999 999,998 998,998", facet.OK, 0},
		{"a corner barely beside an edge", "-999,-999 999,-999 998,997 999,998", facet.OK, 0},
		{"the most bytes", longest(), facet.OK, 0},
	})
	if len(longest()) != 159 {
		t.Errorf("the longest text has %d bytes", len(longest()))
	}
}

func TestCheckLong(t *testing.T) {
	runCheck(t, "P3", []checkCase{
		{"MaxText bytes", longest() + " ", facet.ErrText, 159},
		{"MaxText bytes of no kind", strings.Repeat("x", 160), facet.ErrText, 0},
		{"one beyond MaxText", longest() + " 1", facet.ErrLong, 0},
		{"one beyond MaxText, of no kind", strings.Repeat("x", 161), facet.ErrLong, 0},
		{"one beyond MaxText, all zero", strings.Repeat("\x00", 161), facet.ErrLong, 0},
		{"far beyond MaxText", strings.Repeat("0,0 ", 100000), facet.ErrLong, 0},
	})
}

func TestCheckText(t *testing.T) {
	sixteen := "0,0 1,0 2,0 3,0 4,0 5,0 6,0 7,0 7,1 6,1 5,1 4,1 3,1 2,1 1,1 0,1"
	runCheck(t, "P3", []checkCase{
		{"nothing", "", facet.ErrText, 0},
		{"a sign only", "-", facet.ErrText, 1},
		{"a number only", "12", facet.ErrText, 2},
		{"a number of three digits only", "-123", facet.ErrText, 4},
		{"no second number", "1,", facet.ErrText, 2},
		{"one point", "1,1", facet.ErrText, 3},
		{"two points", "1,1 2,2", facet.ErrText, 7},
		{"two points and a blank", "1,1 2,2 ", facet.ErrText, 8},
		{"half of a third point", "0,0 1,0 0", facet.ErrText, 9},
		{"half of a third point and a comma", "0,0 1,0 0,", facet.ErrText, 10},
		{"half of a third point and a sign", "0,0 1,0 0,-", facet.ErrText, 11},
		{"a blank at the end", "0,0 1,0 0,1 ", facet.ErrText, 12},
		{"half of a fourth point", "0,0 1,0 0,1 -5", facet.ErrText, 14},
		{"a blank at the beginning", " 0,0 1,0 0,1", facet.ErrText, 0},
		{"two blanks", "0,0 1,0  0,1", facet.ErrText, 8},
		{"another blank", "0,0\t1,0 0,1", facet.ErrText, 3},
		{"a line's end", "0,0 1,0 0,1\n", facet.ErrText, 11},
		{"a zero byte behind", "0,0 1,0 0,1\x00", facet.ErrText, 11},
		{"a zero byte ahead of the third point", "0,0 1,0\x00", facet.ErrText, 7},
		{"0 ahead of a digit", "0,0 1,0 0,01", facet.ErrText, 11},
		{"0 ahead of a digit, first number", "01,0 1,0 0,1", facet.ErrText, 1},
		{"less than 0 by nothing", "0,-0 1,0 0,1", facet.ErrText, 3},
		{"a sign and 0 ahead of a digit", "-01,0 1,0 0,1", facet.ErrText, 1},
		{"two signs", "0,--1 1,0 0,1", facet.ErrText, 3},
		{"the other sign", "+1,0 1,0 0,1", facet.ErrText, 0},
		{"a sign behind a digit", "1-,0 1,0 0,1", facet.ErrText, 1},
		{"999 to the right", "0,0 999,0 0,1", facet.OK, 0},
		{"1000 to the right", "0,0 1000,0 0,1", facet.ErrText, 7},
		{"-999 up", "0,0 0,-999 1,1", facet.OK, 0},
		{"-1000 up", "0,0 0,-1000 1,1", facet.ErrText, 10},
		{"a point of one number", "0 1,0 0,1", facet.ErrText, 1},
		{"a point of three numbers", "0,0,0 1,0 0,1", facet.ErrText, 3},
		{"no number ahead of a comma", ",0 1,0 0,1", facet.ErrText, 0},
		{"no number behind a comma", "0, 1,0 0,1", facet.ErrText, 2},
		{"a fraction", "0,0 1.5,0 0,1", facet.ErrText, 5},
		{"a letter", "0,0 1,0 a,1", facet.ErrText, 8},
		{"the byte ahead of digit 0", "0,0 /,0 0,1", facet.ErrText, 4},
		{"the byte behind digit 9", "0,0 :,0 0,1", facet.ErrText, 4},
		{"no text of runes", "0,0 1,0 \xff", facet.ErrText, 8},
		{"another script's digits", "0,0 1,0 \u0661,1", facet.ErrText, 8},
		{"MaxCorners corners", sixteen, facet.OK, 0},
		{"MaxCorners corners and a blank", sixteen + " ", facet.ErrText, 63},
		{"one beyond MaxCorners", sixteen + " -1,0", facet.ErrText, 63},
		{"MaxCorners corners without the last number", sixteen[:62], facet.ErrText, 62},
	})
}

func TestCheckMeet(t *testing.T) {
	runCheck(t, "P3", []checkCase{
		{"edges that cross", "0,0 4,4 4,0 0,4", facet.ErrMeet, 0},
		{"edges that cross, not the first", "0,-9 0,0 4,4 4,0 0,4 -4,0", facet.ErrMeet, 1},
		{"a corner on an edge", "0,0 4,0 4,4 2,0 0,4", facet.ErrMeet, 0},
		{"a corner on an edge, not the first", "-5,-5 9,-5 9,0 0,0 0,4 5,0 0,9", facet.ErrMeet, 2},
		{"a corner on a corner", "0,0 4,4 8,0 8,8 4,4 0,8", facet.ErrMeet, 0},
		{"edge 0 not among those that meet", "0,-9 8,0 4,4 8,8 0,8 4,4 0,0", facet.ErrMeet, 1},
		{"back the same way", "0,0 4,0 4,4 4,2 0,2", facet.ErrMeet, 1},
		{"back beyond where it came from", "0,0 9,0 9,4 9,-3", facet.ErrMeet, 0},
		{"the last edge back over the first one", "0,0 4,0 4,4 7,0", facet.ErrMeet, 0},
		{"three on one line", "0,0 1,1 2,2", facet.ErrMeet, 0},
		{"four on one line", "0,0 1,0 2,0 3,0", facet.ErrMeet, 0},
		{"edges on one line that overlap", "0,0 6,0 6,3 9,3 9,0 3,0 3,-3 0,-3", facet.ErrMeet, 0},
		{"edges on one line that touch", "0,0 2,0 2,3 5,3 5,0 2,0 2,-3 0,-3", facet.ErrMeet, 0},
		{"the same corner twice, at the beginning", "1,1 1,1 5,1 5,5", facet.ErrMeet, 0},
		{"the same corner twice, further on", "0,0 5,0 5,5 5,5 3,6 0,5", facet.ErrMeet, 1},
		{"the same corner twice, at the end", "0,0 5,0 5,5 0,5 0,5", facet.ErrMeet, 2},
		{"the last corner is the first one", "0,0 5,0 5,5 0,5 0,0", facet.ErrMeet, 0},
		{"all corners the same", "7,7 7,7 7,7", facet.ErrMeet, 0},
		{"there and back", "0,0 3,3 0,0", facet.ErrMeet, 0},
		{"there and back, four corners", "0,0 3,3 0,0 3,3", facet.ErrMeet, 0},
		{"far edges that barely cross", "-999,-999 999,998 999,-999 998,997 0,500", facet.ErrMeet, 0},
	})
}

func TestErrorsInTheirOrder(t *testing.T) {
	runCheck(t, "P1", []checkCase{
		{"long ahead of text and meet", strings.Repeat("0,0 ", 41), facet.ErrLong, 0},
		{"long ahead of text", "x" + strings.Repeat(" ", 160), facet.ErrLong, 0},
		{"text ahead of meet", "0,0 0,0 0,0 x", facet.ErrText, 12},
		{"text ahead of meet, too many corners", strings.Repeat("0,0 ", 16) + "0,0", facet.ErrText, 63},
		{"text ahead of meet, at the end", "0,0 4,4 4,0 0,4 ", facet.ErrText, 16},
	})
}
