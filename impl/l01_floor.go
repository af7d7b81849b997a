package impl

const MaxFloor = 1024

func PartOf(floor []byte, at int64, n int64) ([]byte, bool) {
	if !allThere(floor, at, n) {
		return []byte{}, false
	}
	return copied(cut(floor, at, n)), true
}

func Laid(floor []byte, at int64, data []byte) ([]byte, bool) {
	laid := copied(floor)
	n := int64(len(data))
	if !allThere(floor, at, n) {
		return laid, false
	}
	copy(cut(laid, at, n), data)
	return laid, true
}

func Pushed(floor []byte, from int64, to int64, n int64) ([]byte, bool) {
	pushed := copied(floor)
	if !allThere(floor, from, n) || to < 0 || to > from {
		return pushed, false
	}
	copy(cut(pushed, to, n), cut(floor, from, n))
	// Where the two places overlap, what has just come must not be wiped with what was left.
	left := max(from, to+n)
	clear(cut(pushed, left, from+n-left))
	return pushed, true
}

func Wiped(floor []byte, at int64, n int64) ([]byte, bool) {
	wiped := copied(floor)
	if !allThere(floor, at, n) {
		return wiped, false
	}
	clear(cut(wiped, at, n))
	return wiped, true
}

// allThere holds n against what is left behind at: the sum of both could go round.
func allThere(floor []byte, at int64, n int64) bool {
	size := int64(len(floor))
	return size <= MaxFloor && at >= 0 && n >= 0 && n <= size-at
}

// cut takes no spare room along, so that nothing that is done to a part reaches what lies behind it.
func cut(floor []byte, at int64, n int64) []byte {
	return floor[at : at+n : at+n]
}

func copied[E any](list []E) []E {
	answer := make([]E, len(list))
	copy(answer, list)
	return answer
}
