package facet

// noEdge stands where the number of an edge is asked for and there is none.
const noEdge = -1

// polygon has its corners as complex numbers: how far to the right is the
// real part, how far up the imaginary one.
type polygon struct {
	corners []complex128
}

// edge is a line from one corner to another one, with both ends; those of a
// polygon go to the next one. Its number is that of the corner where it
// begins; end is that of the other one.
type edge struct {
	number, end int
	from, to    complex128
}

func (p polygon) edge(number int) edge {
	end := (number + 1) % len(p.corners)
	return edge{number, end, p.corners[number], p.corners[end]}
}

// firstEdge answers the lowest number of an edge of which holds is true.
func (p polygon) firstEdge(holds func(edge) bool) int {
	for number := range p.corners {
		if holds(p.edge(number)) {
			return number
		}
	}
	return noEdge
}

// sumOfEdges adds what is answered of each edge.
func (p polygon) sumOfEdges(answer func(edge) int) int {
	sum := 0
	for number := range p.corners {
		sum += answer(p.edge(number))
	}
	return sum
}

// firstClash answers the lowest number of an edge that clashes with another.
func (p polygon) firstClash() int {
	return p.firstEdge(func(e edge) bool {
		return p.firstEdge(e.clashesWith()) != noEdge
	})
}

// doubleArea is above 0 if the corners go round against the clock.
func (p polygon) doubleArea() int {
	return p.sumOfEdges(func(e edge) int {
		return int(imag(turn(0, e.from, e.to)))
	})
}

// joins tells whether the line between two corners is an edge, or lies inside
// but for its ends. Where no edge bars it, it cannot lead out on its way: so
// one point of it tells for all.
func (p polygon) joins(corner, other int) bool {
	line := edge{corner, other, p.corners[corner], p.corners[other]}
	return p.firstEdge(line.isBarredBy()) == noEdge && p.spotOf(line.middle()).kind != outside
}

// clashesWith answers what is to be asked of all edges: whether one has a
// point in common with e which it must not have.
func (e edge) clashesWith() func(edge) bool {
	return func(other edge) bool {
		switch {
		case other.number == e.number:
			return false
		case e.end == other.number:
			return foldsBack(e, other)
		case other.end == e.number:
			return foldsBack(other, e)
		}
		return meet(e, other)
	}
}

// isBarredBy answers what is to be asked of all edges: whether one crosses the
// line e between two corners, or begins on it at a third one.
func (e edge) isBarredBy() func(edge) bool {
	return func(other edge) bool {
		isEnd := other.number == e.number || other.number == e.end
		return cross(e, other) || !isEnd && e.holds(other.from)
	}
}

// middle is exact: what is halved is small.
func (e edge) middle() complex128 { return (e.from + e.to) / 2 }

// foldsBack tells whether the second of two neighbours leaves their corner
// the way the first one came. An edge without length has no way of its own,
// and counts as folded: hence not only above 0.
func foldsBack(first, second edge) bool {
	t := turn(first.to, first.from, second.to)
	return imag(t) == 0 && real(t) >= 0
}

// meet tells whether two edges have a point in common: if they do not cross,
// it is an end of one of them.
func meet(e, f edge) bool {
	return e.holds(f.from) || e.holds(f.to) || f.holds(e.from) || f.holds(e.to) || cross(e, f)
}

// cross tells whether two lines have one point in common that is an end of
// neither.
func cross(e, f edge) bool { return e.parts(f) && f.parts(e) }

// holds tells whether a point is on the edge: seen from there, its ends lie
// in opposite directions, or one of them is the point.
func (e edge) holds(point complex128) bool {
	t := turn(point, e.from, e.to)
	return imag(t) == 0 && real(t) <= 0
}

// parts tells whether the ends of f are on different sides of the whole line
// through e, and neither is on it.
func (e edge) parts(f edge) bool {
	return imag(turn(f.from, e.from, e.to))*imag(turn(f.to, e.from, e.to)) < 0
}

// turn tells how one turns, at a point, from looking to one to looking to
// another: the imaginary part is above 0 if against the clock, the real part
// above 0 if by less than a quarter. It is exact, as all numbers are small.
func turn(at, from, to complex128) complex128 {
	return conjugate(from-at) * (to - at)
}

func conjugate(z complex128) complex128 { return complex(real(z), -imag(z)) }
