package tests

import (
	"bytes"
	"math"
	"slices"
	"testing"

	"loop.example/g00750/impl"
)

// laidOut is a floor of that many bytes with one block behind the other from at on; all else is 255.
// With it come the blocks' places, and the place behind the last one.
func laidOut(size, at int64, heads ...impl.Head) ([]byte, []impl.Place, int64) {
	floor := bytes.Repeat([]byte{255}, int(size))
	var places []impl.Place
	for _, h := range heads {
		copy(floor[at:], []byte{byte(h.Size % 256), byte(h.Size / 256), byte(h.Owner + 1), byte(h.Slot), byte(h.Refs), 0})
		places = append(places, impl.Place{At: at, Head: h})
		at += h.Size
	}
	return floor, places, at
}

func checkWalk(t *testing.T, what string, floor []byte, from, to int64, want []impl.Place) {
	t.Helper()
	got, is := impl.WalkOf(floor, from, to)
	if !is || !slices.Equal(got, want) {
		t.Errorf("%s: from %d to %d: got %v, %v; want %v, true", what, from, to, got, is, want)
	}
}

func checkNoWalk(t *testing.T, what string, floor []byte, from, to int64) {
	t.Helper()
	if got, is := impl.WalkOf(floor, from, to); is || len(got) != 0 {
		t.Errorf("%s: from %d to %d: got %v, %v; want nothing, false", what, from, to, got, is)
	}
}

func checkBare(t *testing.T, what string, floor []byte, from, to int64, want bool) {
	t.Helper()
	if got := impl.BareIn(floor, from, to); got != want {
		t.Errorf("%s: from %d to %d: got %v, want %v", what, from, to, got, want)
	}
}

// walked is the chapter's words, one head after the other, for a floor that is not too large.
func walked(floor []byte, from, to int64) ([]impl.Place, bool) {
	size := int64(len(floor))
	switch {
	case from < 0 || from > to || to > size:
		return nil, false
	case from == to:
		return nil, true
	case to-from < 6:
		return nil, false
	}
	h := headIn(floor[from : from+6])
	if h == (impl.Head{}) || h.Size > to-from {
		return nil, false
	}
	rest, is := walked(floor, from+h.Size, to)
	if !is {
		return nil, false
	}
	return append([]impl.Place{{At: from, Head: h}}, rest...), true
}

type layout struct {
	what     string
	size, at int64
	heads    []impl.Head
}

func layouts() []layout {
	none, some := impl.Head{Size: 6, Owner: -1}, impl.Head{Size: 14, Owner: 2, Slot: 9, Refs: 3}
	return []layout{
		{"one, all of the floor", 6, 0, []impl.Head{{Size: 6}}},
		{"one with data, all of the floor", 14, 0, []impl.Head{some}},
		{"one at 0, more behind it", 20, 0, []impl.Head{some}},
		{"one behind 0, to the end", 19, 5, []impl.Head{some}},
		{"one behind 0, more behind it", 30, 7, []impl.Head{some}},
		{"several at 0, to the end", 39, 0, []impl.Head{some, {Size: 8, Slot: 15, Refs: 2}, {Size: 17, Owner: 3}}},
		{"several at 0, more behind them", 50, 0, []impl.Head{some, {Size: 8, Slot: 15, Refs: 2}, {Size: 17, Owner: 3}}},
		{"several behind 0", 50, 1, []impl.Head{{Size: 9, Owner: 1, Slot: 1}, some, some, {Size: 11, Owner: 1, Slot: 2}}},
		{"nobody's first", 26, 0, []impl.Head{none, some, {Size: 6}}},
		{"nobody's among others", 40, 2, []impl.Head{some, {Size: 10, Owner: -1}, {Size: 7, Refs: 1}, none}},
		{"just nobody's", 30, 0, []impl.Head{none, none, {Size: 12, Owner: -1, Slot: 3, Refs: 6}, none}},
		{"the smallest ones", 40, 4, []impl.Head{{Size: 6}, {Size: 6}, {Size: 6, Owner: 3, Slot: 15}, {Size: 6}}},
		{"large ones", 940, 1, []impl.Head{{Size: 256}, {Size: 300, Owner: 1, Slot: 2, Refs: 6}, {Size: 255}, {Size: 128}}},
		{"the largest one", 1024, 24, []impl.Head{{Size: 1000, Owner: 3, Slot: 15, Refs: 6}}},
		{"the largest floor, full", 1024, 0, []impl.Head{some, {Size: 1000, Owner: 3}, {Size: 10, Owner: -1}}},
		{"the largest floor, one byte left", 1024, 0, []impl.Head{{Size: 1000}, {Size: 23}}},
	}
}

// TestWalks begins and ends at each block of a layout, and one byte ahead and behind.
func TestWalks(t *testing.T) {
	for _, c := range layouts() {
		floor, places, end := laidOut(c.size, c.at, c.heads...)
		for i, first := range places {
			for j := i + 1; j <= len(places); j++ {
				to := end
				if j < len(places) {
					to = places[j].At
				}
				checkWalk(t, c.what, floor, first.At, to, places[i:j])
				checkNoWalk(t, c.what, floor, first.At, to-1)
				checkNoWalk(t, c.what, floor, first.At, to+1)
				checkNoWalk(t, c.what, floor, first.At-1, to)
				checkNoWalk(t, c.what, floor, first.At+1, to)
			}
		}
	}
}

func TestEveryBeginningAndEnd(t *testing.T) {
	for _, c := range layouts() {
		if c.size > 50 {
			continue
		}
		floor, _, _ := laidOut(c.size, c.at, c.heads...)
		blank := bytes.ReplaceAll(floor, []byte{255}, []byte{0})
		for from := int64(-2); from <= c.size+2; from++ {
			for to := int64(-2); to <= c.size+2; to++ {
				for _, f := range [][]byte{floor, blank} {
					if want, is := walked(f, from, to); is {
						checkWalk(t, c.what, f, from, to, want)
					} else {
						checkNoWalk(t, c.what, f, from, to)
					}
				}
			}
		}
	}
}

func TestWalkFromAndToAlike(t *testing.T) {
	floor, _, _ := laidOut(30, 4, impl.Head{Size: 8}, impl.Head{Size: 12, Owner: 1})
	for at := range int64(31) {
		checkWalk(t, "blocks", floor, at, at, nil)
		checkWalk(t, "nothing but 0", make([]byte, 30), at, at, nil)
	}
	for _, at := range []int64{-1, 31, math.MinInt64, math.MaxInt64} {
		checkNoWalk(t, "not there", floor, at, at)
	}
	for _, none := range [][]byte{nil, {}} {
		checkWalk(t, "no floor", none, 0, 0, nil)
		checkNoWalk(t, "no floor", none, 0, 1)
		checkNoWalk(t, "no floor", none, 1, 1)
		checkNoWalk(t, "no floor", none, -1, 0)
	}
}

func TestOneGoesBeyond(t *testing.T) {
	floor, places, _ := laidOut(40, 0, impl.Head{Size: 9, Owner: 1}, impl.Head{Size: 20, Slot: 4, Refs: 2}, impl.Head{Size: 11})
	checkWalk(t, "it ends at to", floor, 0, 29, places[:2])
	checkWalk(t, "it ends at the floor's end", floor, 0, 40, places)
	checkWalk(t, "all of the floor there is", floor[:29], 0, 29, places[:2])
	for to := int64(1); to < 40; to++ {
		if to != 9 && to != 29 {
			checkNoWalk(t, "one goes beyond to", floor, 0, to)
		}
	}
	floor[9]++
	checkNoWalk(t, "one byte beyond to", floor, 0, 29)
	checkNoWalk(t, "one byte beyond the floor", floor[:29], 0, 29)
	floor[9] -= 2
	checkNoWalk(t, "one byte short of to", floor, 0, 29)

	most, _, _ := laidOut(1024, 0, impl.Head{Size: 24}, impl.Head{Size: 1000})
	most[0] = 25
	copy(most[25:], []byte{232, 3, 1, 0, 0, 0})
	checkNoWalk(t, "one byte beyond the largest floor", most, 0, 1024)
}

func TestNoHeadAtAPlace(t *testing.T) {
	heads := []impl.Head{{Size: 9, Owner: 1}, {Size: 20, Slot: 4, Refs: 2}, {Size: 11}}
	wrong := [][]byte{
		{0, 0, 0, 0, 0, 0}, {255, 255, 255, 255, 255, 255}, {5, 0, 1, 0, 0, 0}, {7, 0, 1, 0, 2, 0},
		{11, 0, 5, 0, 0, 0}, {11, 0, 1, 16, 0, 0}, {20, 0, 1, 0, 7, 0}, {9, 0, 1, 0, 0, 1}, {233, 3, 1, 0, 0, 0},
	}
	for _, at := range []int64{3, 12, 32} {
		for _, no := range wrong {
			floor, places, end := laidOut(50, 3, heads...)
			copy(floor[at:], no)
			checkNoWalk(t, said("no head at", at), floor, 3, end)
			i := slices.IndexFunc(places, func(p impl.Place) bool { return p.At == at })
			checkWalk(t, said("till there is no head at", at), floor, 3, at, places[:i])
		}
	}
	floor, places, end := laidOut(50, 3, heads...)
	clear(floor[end:])
	checkWalk(t, "nothing but 0 behind it", floor, 3, end, places)
	for to := end + 1; to <= 50; to++ {
		checkNoWalk(t, "nothing but 0 behind it", floor, 3, to)
	}
	checkNoWalk(t, "nothing but 0", make([]byte, 1024), 0, 1024)
}

func TestMostHeads(t *testing.T) {
	heads := slices.Repeat([]impl.Head{{Size: 6, Owner: 3, Slot: 15}}, 170)
	floor, places, end := laidOut(1024, 0, heads...)
	checkWalk(t, "170 heads", floor, 0, end, places)
	checkNoWalk(t, "170 heads", floor, 0, 1024)
	floor, places, end = laidOut(1024, 4, heads...)
	checkWalk(t, "170 heads to the end", floor, 4, end, places)
	if end != 1024 {
		t.Errorf("the end is %d", end)
	}
}

func TestWalkOnALongerFloor(t *testing.T) {
	heads := []impl.Head{{Size: 24}, {Size: 1000, Owner: 1}}
	floor, places, _ := laidOut(1024, 0, heads...)
	checkWalk(t, "1024 bytes", floor, 0, 1024, places)
	checkWalk(t, "1024 bytes", floor, 1024, 1024, nil)
	for _, size := range []int64{1025, 4096} {
		floor, _, _ := laidOut(size, 0, heads...)
		for _, c := range [][2]int64{{0, 24}, {0, 1024}, {24, 1024}, {0, 0}, {500, 500}, {1024, 1024}, {1025, 1025}, {size, size}, {0, size}} {
			checkNoWalk(t, said("a floor of", size), floor, c[0], c[1])
			checkBare(t, said("a floor of", size), make([]byte, size), c[0], c[1], false)
		}
	}
	checkBare(t, "1024 bytes", make([]byte, 1024), 0, 1024, true)
	checkBare(t, "1024 bytes", make([]byte, 1024), 1024, 1024, true)
}

// notThere are from and to of which not all is there, in a floor of 24 bytes.
func notThere() [][2]int64 {
	most, least := int64(math.MaxInt64), int64(math.MinInt64)
	return [][2]int64{
		{-1, 0}, {-1, -1}, {-1, 6}, {-1, 24}, {-6, 0}, {-6, 6}, {-24, 0}, {-24, 24}, {0, -1}, {0, -6}, {24, -1},
		{0, 25}, {0, 30}, {18, 25}, {18, 30}, {24, 25}, {24, 30}, {25, 25}, {25, 24}, {30, 24}, {25, 30}, {0, 1024}, {0, 1025},
		{6, 0}, {24, 0}, {24, 18}, {1, 0}, {24, 23},
		{0, most}, {24, most}, {most, most}, {most, 0}, {most, 24}, {most - 5, most}, {most - 23, most}, {1, most},
		{0, least}, {24, least}, {least, least}, {least, 0}, {least, 24}, {least, least + 6}, {least, least + 24},
		{least, most}, {most, least}, {most - 5, least}, {most, least + 5}, {6, least + 6}, {least + 6, 12},
		{1 << 32, 1<<32 + 6}, {1 << 32, 6}, {0, 1<<32 + 6}, {-1 << 32, 6}, {0, -1<<32 + 6}, {256, 262}, {0, 256 + 6},
	}
}

func TestWalksThatAreNotThere(t *testing.T) {
	floor := bytes.Repeat([]byte{6, 0, 1, 0, 0, 0}, 4)
	for _, c := range notThere() {
		checkNoWalk(t, "not there", floor, c[0], c[1])
		checkBare(t, "not there", make([]byte, 24), c[0], c[1], false)
	}
}

func TestWhatIsInTheSpareRoomIsNotThere(t *testing.T) {
	floor, places, end := laidOut(24, 0, impl.Head{Size: 10}, impl.Head{Size: 14, Owner: 2})
	for size := range end {
		checkNoWalk(t, said("of the floor there is", size), floor[:size], 0, end)
		if size != 10 {
			checkNoWalk(t, said("of the floor there is", size), floor[:size], 0, max(size, 1))
		}
	}
	checkWalk(t, "the first one", floor[:10], 0, 10, places[:1])
	bare := make([]byte, 10)
	for size := range int64(10) {
		checkBare(t, said("of the floor there is", size), bare[:size], 0, size, true)
		checkBare(t, said("of the floor there is", size), bare[:size], 0, size+1, false)
		checkBare(t, said("of the floor there is", size), bare[:size], size, 10, false)
	}
}

// TestOneByteThatIsNotBare has it at each place, the first, the last and those just outside among them.
func TestOneByteThatIsNotBare(t *testing.T) {
	for size := range int64(9) {
		for from := int64(-2); from <= size+2; from++ {
			for to := int64(-2); to <= size+2; to++ {
				there := from >= 0 && from <= to && to <= size
				checkBare(t, "nothing but 0", make([]byte, size), from, to, there)
				for at := range size {
					for _, b := range []byte{1, 128, 255} {
						floor := make([]byte, size)
						floor[at] = b
						inside := from <= at && at < to
						checkBare(t, said("not 0 at", at), floor, from, to, there && !inside)
					}
				}
			}
		}
	}
}

func TestBareOnTheLargestFloor(t *testing.T) {
	for _, at := range []int64{0, 1, 511, 1022, 1023} {
		floor := make([]byte, 1024)
		floor[at] = 1
		checkBare(t, said("not 0 at", at), floor, 0, 1024, false)
		checkBare(t, said("not 0 at", at), floor, 0, at, true)
		checkBare(t, said("not 0 at", at), floor, 0, at+1, false)
		checkBare(t, said("not 0 at", at), floor, at, 1024, false)
		checkBare(t, said("not 0 at", at), floor, at+1, 1024, true)
	}
	full := bytes.Repeat([]byte{255}, 1024)
	for _, at := range []int64{0, 1, 512, 1023, 1024} {
		checkBare(t, "over none", full, at, at, true)
	}
	for _, none := range [][]byte{nil, {}} {
		checkBare(t, "no floor", none, 0, 0, true)
		checkBare(t, "no floor", none, 0, 1, false)
		checkBare(t, "no floor", none, 1, 1, false)
		checkBare(t, "no floor", none, -1, 0, false)
	}
}

func otherPlace(p impl.Place) impl.Place {
	return impl.Place{At: ^p.At, Head: impl.Head{Size: ^p.Head.Size, Owner: ^p.Head.Owner, Slot: ^p.Head.Slot, Refs: ^p.Head.Refs}}
}

func TestWalksAreNewAndLeaveTheFloorAlone(t *testing.T) {
	for _, c := range layouts() {
		laid, _, end := laidOut(c.size, c.at, c.heads...)
		floor := withSpare(laid)
		for _, from := range []int64{math.MinInt64, -1, 0, c.at, c.at + 1, c.size, math.MaxInt64} {
			for _, to := range []int64{math.MinInt64, -1, 0, c.at, end - 1, end, end + 1, c.size, c.size + 1, math.MaxInt64} {
				checkNewList(t, c.what+said(", walked", from, to), []kept{floor}, func() []impl.Place {
					got, _ := impl.WalkOf(floor.arg, from, to)
					return got
				}, otherPlace)
				impl.BareIn(floor.arg, from, to)
				floor.checkSame(t, c.what+said(", BareIn", from, to))
			}
		}
	}
	long := withSpare(make([]byte, 1025))
	for _, to := range []int64{0, 6, 1024, 1025} {
		impl.WalkOf(long.arg, 0, to)
		impl.BareIn(long.arg, 0, to)
		long.checkSame(t, said("1025 bytes", to))
	}
}
