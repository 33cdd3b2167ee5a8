package facet

import (
	"cmp"
	"math"
	"slices"
)

// mesh is a polygon with the triangles that it is cut into.
type mesh struct {
	polygon
	triangles []Triangle
}

// meshOf makes a good cut, on from the last edge: the line from corner 0 to
// the last corner has all others behind it.
func meshOf(p polygon) mesh {
	m := mesh{polygon: p}
	m.cutBehind(0, len(m.corners)-1)
	slices.SortFunc(m.triangles, compareTriangles)
	return m
}

// cutBehind cuts what lies behind the line between two joined corners, on the
// side of those that are numbered between them.
func (m *mesh) cutBehind(first, last int) {
	if last-first < 2 {
		return
	}
	tip := m.widestTip(first, last)
	m.triangles = append(m.triangles, m.triangle(first, tip, last))
	m.cutBehind(first, tip)
	m.cutBehind(tip, last)
}

// widestTip answers the corner that sees the line between two others under
// the widest angle, of those that can make a triangle with it. This makes the
// cut good: the further corner of the next triangle, were it within the circle
// through these three, could make one with the line, too, and would see it
// under a wider angle still. There is always such a corner, as what lies behind
// the line is a polygon, too. All products are exact: none is above 2^53.
func (m *mesh) widestTip(first, last int) int {
	tip, widest := first+1, complex(1, 0) // an angle of no width
	for corner := first + 1; corner < last; corner++ {
		if !m.joins(first, corner) || !m.joins(corner, last) {
			continue
		}
		angle := m.angleAt(corner, first, last)
		if imag(conjugate(widest)*angle) > 0 {
			tip, widest = corner, angle
		}
	}
	return tip
}

// angleAt is the same whichever way round the corners go.
func (m *mesh) angleAt(tip, first, last int) complex128 {
	t := turn(m.corners[tip], m.corners[first], m.corners[last])
	return complex(real(t), math.Abs(imag(t)))
}

// triangle takes its corners by rising numbers, so the first one stays ahead
// whichever way round they go.
func (m *mesh) triangle(first, tip, last int) Triangle {
	if imag(turn(m.corners[first], m.corners[tip], m.corners[last])) > 0 {
		return Triangle{first, tip, last}
	}
	return Triangle{first, last, tip}
}

// firstHolding answers the number of the first triangle in which a point
// lies, on its edges, too, or -1.
func (m *mesh) firstHolding(point complex128) int {
	return slices.IndexFunc(m.triangles, func(t Triangle) bool {
		return m.outlineOf(t).spotOf(point).kind != outside
	})
}

func (m *mesh) outlineOf(t Triangle) polygon {
	return polygon{[]complex128{m.corners[t.A], m.corners[t.B], m.corners[t.C]}}
}

func compareTriangles(t, other Triangle) int {
	return cmp.Or(cmp.Compare(t.A, other.A), cmp.Compare(t.B, other.B), cmp.Compare(t.C, other.C))
}
