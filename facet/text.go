package facet

const (
	maxText    = 160
	minCorners = 3
	maxCorners = 16
	maxDigits  = 3
)

// nowhere is the place of the first wrong byte in a text without one.
const nowhere = -1

// readCorners takes a text of corners apart. It answers the corners and
// nowhere, or else the place of the first byte that is wrong there, which is
// the text's length if only more bytes could make it a text of corners.
func readCorners(text string) ([]complex128, int) {
	var corners []complex128
	var at, sign, size, digits, right int
	var second bool

number:
	sign, size, digits = 1, 0, 0
	if byteAt(text, at) != '-' {
		goto digit
	}
	sign = -1
	at++
	if byteAt(text, at) == '0' {
		goto wrong
	}

digit:
	if !isDigit(byteAt(text, at)) {
		goto wrong
	}
	size = 10*size + int(byteAt(text, at)-'0')
	digits++
	at++
	// A number that begins with 0 is 0, so no digit may follow it.
	if size != 0 && digits < maxDigits && isDigit(byteAt(text, at)) {
		goto digit
	}
	if second {
		goto point
	}
	if byteAt(text, at) != ',' {
		goto wrong
	}
	right, second = sign*size, true
	at++
	goto number

point:
	corners = append(corners, complex(float64(right), float64(sign*size)))
	second = false
	if at == len(text) && len(corners) >= minCorners {
		return corners, nowhere
	}
	if byteAt(text, at) != ' ' || len(corners) == maxCorners {
		goto wrong
	}
	at++
	goto number

wrong:
	return nil, at
}

// byteAt answers 0 behind the text's end: no text of corners holds that byte,
// so an end that comes too early is refused like any wrong byte, at its place.
func byteAt(text string, at int) byte {
	if at >= len(text) {
		return 0
	}
	return text[at]
}

func isDigit(b byte) bool { return '0' <= b && b <= '9' }
