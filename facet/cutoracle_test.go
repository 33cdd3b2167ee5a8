package facet_test

import (
	"fmt"

	"facet/facet"
)

// faultOfCut tells what keeps a list from being a good cut as DOC.md says it,
// with triangles that rise; "" if nothing does. There may be several good
// ones, so none is made here to hold an answer against.
func faultOfCut(points []facet.Point, list []facet.Triangle) string {
	if len(list) != len(points)-2 {
		return fmt.Sprintf("%d triangles of %d corners", len(list), len(points))
	}
	for i, t := range list {
		if fault := faultOfTriangle(points, t); fault != "" {
			return fault
		}
		if i > 0 && !isBelow(list[i-1], t) {
			return fmt.Sprint(t, " does not rise above ", list[i-1])
		}
	}
	if fault := faultOfEdges(points, list); fault != "" {
		return fault
	}
	return faultOfCircles(points, list)
}

func faultOfTriangle(points []facet.Point, t facet.Triangle) string {
	if t.A < 0 || t.B <= t.A || t.C <= t.A || t.B >= len(points) || t.C >= len(points) {
		return fmt.Sprint(t, " has not its lowest number first, or has no number of a corner")
	}
	if wantedArea([]facet.Point{points[t.A], points[t.B], points[t.C]}) <= 0 {
		return fmt.Sprint(t, " does not go round against the clock")
	}
	return ""
}

func isBelow(t, other facet.Triangle) bool {
	if t.A != other.A {
		return t.A < other.A
	}
	if t.B != other.B {
		return t.B < other.B
	}
	return t.C < other.C
}

// way is a directed edge.
type way struct{ from, to int }

func waysOf(t facet.Triangle) []way {
	return []way{{t.A, t.B}, {t.B, t.C}, {t.C, t.A}}
}

// faultOfEdges lets those that go both ways cancel one another, and then takes
// away the polygon's.
func faultOfEdges(points []facet.Point, list []facet.Triangle) string {
	left := map[way]int{}
	add := func(w way, count int) {
		left[w] += count
		left[way{w.to, w.from}] -= count
	}
	for _, t := range list {
		for _, w := range waysOf(t) {
			add(w, 1)
		}
	}
	for i := range points {
		next := (i + 1) % len(points)
		if wantedArea(points) > 0 {
			add(way{i, next}, -1)
		} else {
			add(way{next, i}, -1)
		}
	}
	for w, count := range left {
		if count > 0 {
			return fmt.Sprintf("%d of the edge %v are left, or missing the other way", count, w)
		}
	}
	return ""
}

func faultOfCircles(points []facet.Point, list []facet.Triangle) string {
	for _, t := range list {
		for _, other := range list {
			for _, corner := range []int{other.A, other.B, other.C} {
				if haveEdge(t, other) && isWithin(points[corner], points[t.A], points[t.B], points[t.C]) {
					return fmt.Sprintf("corner %d of %v is within the circle of %v", corner, other, t)
				}
			}
		}
	}
	return ""
}

// haveEdge tells whether two triangles have an edge in common.
func haveEdge(t, other facet.Triangle) bool {
	for _, w := range waysOf(t) {
		for _, back := range waysOf(other) {
			if w == (way{back.to, back.from}) {
				return true
			}
		}
	}
	return false
}

// isWithin tells whether p is strictly within the circle through three points
// that go round against the clock: if they are lifted, each as high as the
// square of its distance from p, the plane through the three runs above p.
func isWithin(p, a, b, c facet.Point) bool {
	high := func(q facet.Point) int { return (q.X-p.X)*(q.X-p.X) + (q.Y-p.Y)*(q.Y-p.Y) }
	area := func(q, r facet.Point) int { return wantedArea([]facet.Point{p, q, r}) }
	return high(a)*area(b, c)+high(b)*area(c, a)+high(c)*area(a, b) > 0
}

// wantedFind is what Find must answer of a point, by what Cut answers.
func wantedFind(points []facet.Point, list []facet.Triangle, p facet.Point) int {
	if kind, _ := wantedWhere(points, p); kind == 0 {
		return -1
	}
	for i, t := range list {
		if kind, _ := wantedWhere([]facet.Point{points[t.A], points[t.B], points[t.C]}, p); kind != 0 {
			return i
		}
	}
	return -2 // a gap in the cut
}
