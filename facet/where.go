package facet

import "sync"

// The kinds of where a point lies, by the numbers that Where tells.
const (
	outside  = 0
	inside   = 1
	onEdge   = 2
	atCorner = 3
)

// spot is where a point lies: its number is that of the edge or of the
// corner, and 0 where there is none.
type spot struct{ kind, number int }

// report is what is told of one point of many: its number has to come along,
// as reports come in any order.
type report struct{ number, kind int }

// spotOf takes what is found first. The order counts: a corner lies on edges,
// too, and only what is on no edge can be inside.
func (p polygon) spotOf(point complex128) spot {
	looks := []func(polygon, complex128) (spot, bool){
		polygon.lookAtCorners,
		polygon.lookAtEdges,
		polygon.lookWithin,
	}
	for _, look := range looks {
		if found, ok := look(p, point); ok {
			return found
		}
	}
	return spot{outside, 0}
}

// lookAtCorners finds a corner by the edge that begins there, as they have
// the same number.
func (p polygon) lookAtCorners(point complex128) (spot, bool) {
	number := p.firstEdge(func(e edge) bool { return e.from == point })
	return spot{atCorner, number}, number != noEdge
}

func (p polygon) lookAtEdges(point complex128) (spot, bool) {
	number := p.firstEdge(func(e edge) bool { return e.holds(point) })
	return spot{onEdge, number}, number != noEdge
}

// lookWithin must be asked of a point on no edge only.
func (p polygon) lookWithin(point complex128) (spot, bool) {
	crossed := p.sumOfEdges(func(e edge) int {
		if e.isRightOf(point) {
			return 1
		}
		return 0
	})
	return spot{inside, 0}, crossed%2 == 1
}

// isRightOf tells whether a line from the point to the right, a hair above,
// crosses the edge. Because of the hair an end level with the point is below
// the line. Of an edge that the line can cross, the point must be to the left
// if the edge goes up, and to the right if it goes down.
func (e edge) isRightOf(point complex128) bool {
	fromAbove, toAbove := imag(e.from) > imag(point), imag(e.to) > imag(point)
	toTheLeft := imag(turn(point, e.from, e.to)) > 0
	return fromAbove != toAbove && toAbove == toTheLeft
}

// kindsOf looks at all points at the same time. Each report is put where its
// number says, so the answer hangs on no choice of the select.
func (p polygon) kindsOf(points []Point) []int {
	within, elsewhere := make(chan int), make(chan report)
	var lookers sync.WaitGroup
	for number, point := range points {
		lookers.Go(func() { p.tell(number, point.asComplex(), within, elsewhere) })
	}
	kinds := make([]int, len(points))
	for range points {
		select {
		case number := <-within:
			kinds[number] = inside
		case r := <-elsewhere:
			kinds[r.number] = r.kind
		}
	}
	lookers.Wait()
	return kinds
}

// tell looks at one point of many, and sends one report of it: over within
// its number is enough.
func (p polygon) tell(number int, point complex128, within chan<- int, elsewhere chan<- report) {
	kind := p.spotOf(point).kind
	if kind == inside {
		within <- number
		return
	}
	elsewhere <- report{number, kind}
}
