package tests

import (
	"bytes"
	"math"
	"slices"
	"strings"
	"testing"

	"loop.example/g00750/impl"
)

// ofRight makes what the words tell of a right heap a call for every heap; the heap that came stays.
func ofRight(told func(h *impl.Heap) int64) heapCall {
	return func(h impl.Heap) (impl.Heap, int64) {
		if _, is := toldOf(h); !is {
			return impl.Heap{}, impl.CdBad
		}
		h = twin(h)
		code := told(&h)
		return h, code
	}
}

// begunTold and steppedTold are written from the chapter's words.
func begunTold(h *impl.Heap) int64 {
	if h.Sliding {
		return impl.CdBusy
	}
	h.Sliding, h.Low, h.High = true, 0, 0
	return impl.CdOk
}

func steppedTold(h *impl.Heap) int64 {
	if !h.Sliding {
		return impl.CdIdle
	}
	if h.High == h.Top {
		h.Top, h.Sliding, h.Low, h.High = h.Low, false, 0, 0
		return impl.CdOk
	}
	size := int64(h.Floor[h.High]) + 256*int64(h.Floor[h.High+1])
	there := h.Floor[h.High : h.High+size]
	block := slices.Clone(there)
	clear(there)
	if s := slotTold(*h, int64(block[2])-1, int64(block[3])); s != nil && s.Used && s.At == h.High {
		copy(h.Floor[h.Low:], block)
		s.At = h.Low
		h.Low += size
	}
	h.High += size
	return impl.CdOk
}

// slotTold is nil where there is no such slot.
func slotTold(h impl.Heap, owner, slot int64) *impl.Slot {
	if owner < 0 || slot >= int64(len(h.Tenants[owner].Table)) {
		return nil
	}
	return &h.Tenants[owner].Table[slot]
}

// doneTold is all steps at once: what is below Low stays, and behind it comes what stands, without any room between.
func doneTold(h *impl.Heap) int64 {
	row := slices.Clone(h.Floor[:h.Low])
	left, _ := walked(h.Floor, h.High, h.Top)
	for _, p := range left {
		if s := slotTold(*h, p.Head.Owner, p.Head.Slot); s != nil && s.Used && s.At == p.At {
			s.At = int64(len(row))
			row = append(row, h.Floor[p.At:p.At+p.Head.Size]...)
		}
	}
	clear(h.Floor)
	h.Top = int64(copy(h.Floor, row))
	h.Sliding, h.Low, h.High = false, 0, 0
	return impl.CdOk
}

func stepsTold(h impl.Heap) int64 {
	if _, is := toldOf(h); !is {
		return -1
	}
	if !h.Sliding {
		return 0
	}
	left, _ := walked(h.Floor, h.High, h.Top)
	return int64(len(left)) + 1
}

func checkSteps(t *testing.T, what string, h impl.Heap, want int64) {
	t.Helper()
	if got, told := impl.StepsLeft(h), stepsTold(h); got != want || told != want {
		t.Errorf("%s: StepsLeft: got %d, want %d, by the words %d: %s", what, got, want, told, heapShown(h))
	}
}

// knownIn is, for each tenant, all that it can know of a right heap: what it was promised, its web, and of each slot the ticket, what that is good for, and the data.
func knownIn(h impl.Heap) []string {
	all, is := toldOf(h)
	if !is {
		return nil
	}
	var known []string
	for who, x := range h.Tenants {
		what := said(flagShown(x.Live, "live")+"tag bytes used", x.Tag, x.Bytes, all.used[who]) + " " + webShown(all.webs[who])
		for slot := range x.Table {
			what += " " + thingKnown(h, x, slot)
		}
		known = append(known, what)
	}
	return known
}

// thingKnown is what a tenant can know of one slot, but for its place in the web.
func thingKnown(h impl.Heap, x impl.Tenant, slot int) string {
	s := x.Table[slot]
	number := impl.NumberOf(impl.Ticket{Tag: x.Tag, Gen: s.Gen, Slot: int64(slot)})
	what := said(flagShown(s.Used, "used ")+flagShown(s.Root, "root ")+"ticket", number, impl.LookedUp(x.Table, x.Tag, number))
	if s.Used {
		size := int64(h.Floor[s.At]) + 256*int64(h.Floor[s.At+1])
		what += " " + string(h.Floor[s.At+6+int64(h.Floor[s.At+4]):s.At+size])
	}
	return what
}

// checkUnnoticed is the second part of promise 10.
func checkUnnoticed(t *testing.T, what string, h, was impl.Heap) {
	t.Helper()
	checkRightHeap(t, what, h)
	if got, want := knownIn(h), knownIn(was); !slices.Equal(got, want) {
		t.Errorf("%s: they know %q, knew %q", what, got, want)
	}
	if h.NextTag != was.NextTag {
		t.Errorf("%s: NextTag is %d, was %d", what, h.NextTag, was.NextTag)
	}
}

func checkBegun(t *testing.T, what string, h impl.Heap, code int64) impl.Heap {
	t.Helper()
	what += ": SlideBegun"
	got := checkChange(t, what, h, code, impl.SlideBegun, ofRight(begunTold))
	if code == impl.CdOk {
		checkUnnoticed(t, what, got, h)
		checkSteps(t, what, got, int64(len(placesTold(h)))+1)
		if !got.Sliding || got.Top != h.Top || !bytes.Equal(got.Floor, h.Floor) {
			t.Errorf("%s: %s, was %s", what, heapShown(got), heapShown(h))
		}
	}
	return got
}

func begunIfNot(t *testing.T, what string, h impl.Heap) impl.Heap {
	t.Helper()
	if h.Sliding {
		return h
	}
	return checkBegun(t, what, h, impl.CdOk)
}

func checkStepped(t *testing.T, what string, h impl.Heap, code int64) impl.Heap {
	t.Helper()
	what += said(": SlideStep from", h.Low, h.High)
	got := checkChange(t, what, h, code, impl.SlideStep, ofRight(steppedTold))
	if code == impl.CdOk {
		checkUnnoticed(t, what, got, h)
		checkSteps(t, what, got, stepsTold(h)-1)
	}
	return got
}

func checkDone(t *testing.T, what string, h impl.Heap, code int64) impl.Heap {
	t.Helper()
	what += ": SlideDone"
	got := checkChange(t, what, h, code, impl.SlideDone, ofRight(doneTold))
	if code == impl.CdOk {
		checkUnnoticed(t, what, got, h)
		checkSteps(t, what, got, 0)
		if got.Sliding || !nothingBut0(got.Floor[got.Top:]) {
			t.Errorf("%s: %s %v", what, heapShown(got), got.Floor)
		}
		if !h.Sliding {
			checkTogether(t, what, got)
		}
	}
	return got
}

// checkTogether is the last part of promise 10: just what stands is there, and it ends at Top.
func checkTogether(t *testing.T, what string, h impl.Heap) {
	t.Helper()
	all := int64(0)
	for _, p := range impl.BlocksOf(h) {
		if s := slotTold(h, p.Head.Owner, p.Head.Slot); s == nil || !s.Used || s.At != p.At {
			t.Errorf("%s: does not stand: %v", what, p)
		}
		all += p.Head.Size
	}
	if h.Top != all {
		t.Errorf("%s: Top is %d, want %d: %s", what, h.Top, all, heapShown(h))
	}
}

// checkSlide goes through a slide step by step, and at once from each of its steps; all come to the same.
func checkSlide(t *testing.T, what string, h impl.Heap) impl.Heap {
	t.Helper()
	done := checkDone(t, what, h, impl.CdOk)
	h = begunIfNot(t, what, h)
	for left := stepsTold(h); left > 0; left-- {
		checkSteps(t, what, h, left)
		if !h.Sliding {
			t.Fatalf("%s: not Sliding with %d steps left: %s", what, left, heapShown(h))
		}
		checkBegun(t, what, h, impl.CdBusy)
		checkAnswer(t, what, checkDone(t, what, h, impl.CdOk), 0, done, 0)
		h = checkStepped(t, what, h, impl.CdOk)
	}
	checkStepped(t, what, h, impl.CdIdle)
	checkSteps(t, what, h, 0)
	checkAnswer(t, what, h, 0, done, 0)
	return h
}

// slidBy is what comes of so many steps, the pieces being laid anew: those that were kept, the gap, and those that are left.
func slidBy(steps int, size int64, tenants []impl.Tenant, pieces []piece) impl.Heap {
	if steps > len(pieces) {
		return heapOf(size, tenants, slices.DeleteFunc(slices.Clone(pieces), func(p piece) bool { return !p.stands })...)
	}
	var row []piece
	gap := int64(0)
	for _, p := range pieces[:steps] {
		if p.stands {
			row = append(row, p)
		} else {
			gap += p.size()
		}
	}
	return heapOf(size, tenants, slices.Concat(row, []piece{gapOf(gap)}, pieces[steps:])...)
}

// checkPieces holds each step against pieces that are laid anew.
func checkPieces(t *testing.T, what string, size int64, tenants []impl.Tenant, pieces []piece) impl.Heap {
	t.Helper()
	h, code := impl.SlideBegun(heapOf(size, tenants, pieces...))
	checkAnswer(t, what, h, code, slidBy(0, size, tenants, pieces), impl.CdOk)
	for i := range pieces {
		h = checkStepped(t, what, h, impl.CdOk)
		checkAnswer(t, what+said(": step", int64(i)), h, 0, slidBy(i+1, size, tenants, pieces), 0)
	}
	h = checkStepped(t, what, h, impl.CdOk)
	checkAnswer(t, what+": the last step", h, 0, slidBy(len(pieces)+1, size, tenants, pieces), 0)
	return h
}

// TestASlideByteByByte is written down: Low, High and Top ahead of each step, and the floor and each At at the end.
func TestASlideByteByByte(t *testing.T) {
	shuffled := heapOf(128, busyTenants(), nobodys(9, 0), rootOf(0, 0, "ab", 2, 0), fallen(3, 15, ""), heldOf(0, 1, "", 1), fallen(0, 1, "old", 9, 200), rootOf(2, 2, "q", 3), rootOf(2, 1, "xyz"))
	zero, one, two, three := []byte{10, 0, 1, 0, 2, 0, 2, 0, 'a', 'b'}, []byte{9, 0, 3, 1, 0, 0, 'x', 'y', 'z'}, []byte{7, 0, 1, 1, 1, 0, 1}, []byte{8, 0, 3, 2, 1, 0, 3, 'q'}
	for _, c := range []struct {
		what  string
		heap  impl.Heap
		marks [][3]int64
		floor []byte
		ats   [4]int64 // of slots 0 and 1 of tenant 0, and of slots 1 and 2 of tenant 2
	}{
		{"busy", busyHeap(), [][3]int64{{0, 0, 60}, {10, 10, 60}, {19, 19, 60}, {26, 26, 60}, {26, 37, 60}, {26, 46, 60}, {34, 54, 60}, {34, 60, 60}},
			slices.Concat(zero, one, two, three), [4]int64{0, 19, 10, 26}},
		{"sliding", slidingHeap(), [][3]int64{{26, 39, 73}, {26, 50, 73}, {26, 59, 73}, {34, 67, 73}, {34, 73, 73}},
			slices.Concat(zero, one, two, three), [4]int64{0, 19, 10, 26}},
		{"shuffled", shuffled, [][3]int64{{0, 0, 60}, {0, 9, 60}, {10, 19, 60}, {10, 25, 60}, {17, 32, 60}, {17, 43, 60}, {25, 51, 60}, {34, 60, 60}},
			slices.Concat(zero, two, three, one), [4]int64{0, 10, 25, 17}},
	} {
		h := begunIfNot(t, c.what, c.heap)
		for i, x := range c.marks {
			if !h.Sliding || h.Low != x[0] || h.High != x[1] || h.Top != x[2] {
				t.Fatalf("%s: step %d: %s", c.what, i, heapShown(h))
			}
			checkSteps(t, c.what, h, int64(len(c.marks)-i))
			h = checkStepped(t, c.what, h, impl.CdOk)
		}
		if h.Sliding || h.Low != 0 || h.High != 0 || h.Top != 34 {
			t.Errorf("%s: %s", c.what, heapShown(h))
		}
		checkBytes(t, c.what, h.Floor, true, append(c.floor, make([]byte, 94)...), true)
		first, third := h.Tenants[0].Table, h.Tenants[2].Table
		if ats := [4]int64{first[0].At, first[1].At, third[1].At, third[2].At}; ats != c.ats {
			t.Errorf("%s: got %v, want %v", c.what, ats, c.ats)
		}
		checkAnswer(t, c.what, checkSlide(t, c.what, c.heap), 0, h, 0)
	}
}

// inEveryOrder does it for each order of the pieces from n on.
func inEveryOrder(pieces []piece, n int, do func([]piece)) {
	if n == len(pieces) {
		do(pieces)
		return
	}
	for i := n; i < len(pieces); i++ {
		pieces[n], pieces[i] = pieces[i], pieces[n]
		inEveryOrder(pieces, n+1, do)
		pieces[n], pieces[i] = pieces[i], pieces[n]
	}
}

// TestSlidesInEveryOrder has a ring of tenant 0, and what tells of a slot that lies elsewhere.
func TestSlidesInEveryOrder(t *testing.T) {
	pieces := []piece{rootOf(0, 0, "ab", 2, 0), heldOf(0, 1, "", 1), fallen(0, 1, "old", 9, 200), rootOf(2, 1, "xyz", 2), nobodys(9, 1), fallen(3, 15, "")}
	orders := 0
	inEveryOrder(pieces, 0, func(order []piece) {
		orders++
		h := checkPieces(t, said("order", int64(orders)), 128, busyTenants(), order)
		checkTogether(t, said("order", int64(orders)), h)
		if orders%9 == 0 {
			checkSlide(t, said("order", int64(orders)), heapOf(128, busyTenants(), order...))
		}
	})
	if orders != 720 {
		t.Errorf("%d orders", orders)
	}
}

// TestRingsOfMany has a ring of eight, each of another Size, between what does not stand.
func TestRingsOfMany(t *testing.T) {
	for first := range int64(8) {
		for _, step := range []int64{1, 3, 5, 7} {
			var pieces []piece
			for i := range int64(8) {
				slot := (first + i*step) % 8
				p := heldOf(1, slot, strings.Repeat(string(rune('a'+slot)), int(slot)), byte((slot+1)%8+1), 0, byte((slot+5)%8+1))
				p.root = slot == 3
				pieces = append(pieces, p)
				if i%2 == 0 {
					pieces = append(pieces, fallen(1, slot, "x", 1, 2), nobodys(6+slot, 0))
				}
			}
			checkPieces(t, said("ring", first, step), 300, []impl.Tenant{{}, live(1, 100, 9), {}, {}}, pieces)
		}
	}
}

// TestHowFarItIsPushed has one of each Size pushed by less than that, by as much, and by more, and not at all.
func TestHowFarItIsPushed(t *testing.T) {
	data := "abcdefghijklmnopqrstuvwxyz0123456789"
	for more := range 30 {
		for far := range int64(48) {
			for _, ahead := range []int64{0, 9} {
				p, q := rootOf(3, 1, data[:more], 1), heldOf(3, 0, "end", 2, 2)
				p.refs = append(p.refs, 1)
				tenants := []impl.Tenant{{}, {}, {}, live(1, 128, 2)}
				row := []piece{nobodys(6+ahead, 0), gapOf(far), p, q}
				kept := []piece{nobodys(6+ahead, 0), p, q}
				if ahead == 0 {
					row, kept = row[1:], kept[1:]
				}
				what := said("pushed", p.size(), far, ahead)
				h, code := impl.SlideDone(heapOf(128, tenants, row...))
				checkAnswer(t, what, h, code, heapOf(128, tenants, kept...), impl.CdOk)
				if far < 3 || far%7 == p.size()%7 {
					checkSlide(t, what, heapOf(128, tenants, row...))
				}
				if far < 6 || ahead > 0 {
					continue
				}
				h, code = impl.SlideDone(heapOf(128, tenants, nobodys(far, 0), p, q))
				checkAnswer(t, what, h, code, heapOf(128, tenants, kept...), impl.CdOk)
			}
		}
	}
}

func TestSlidesOfNothing(t *testing.T) {
	for _, size := range []int64{64, 65, 256, 1024} {
		h := newHeap(t, size)
		checkAnswer(t, "nothing in", checkSlide(t, "nothing in", h), 0, newHeap(t, size), 0)
		checkSteps(t, "nothing in", checkBegun(t, "nothing in", h, impl.CdOk), 1)
		two := []impl.Tenant{live(3, 30, 4), {}, live(8, 34, 3), {}}
		h = heapOf(size, two)
		checkAnswer(t, "nothing made", checkSlide(t, "nothing made", h), 0, h, 0)
		for _, gap := range []int64{0, 1, 6, size - 1, size} {
			sliding := heapOf(size, two, gapOf(gap))
			checkSteps(t, said("just a gap", gap), sliding, 1)
			checkAnswer(t, said("just a gap", gap), checkSlide(t, said("just a gap", gap), sliding), 0, h, 0)
		}
	}
}

func TestSlidesOfNothingThatStands(t *testing.T) {
	worn := busyTenants()
	for _, pieces := range [][]piece{
		{nobodys(6, 0)}, {nobodys(128, 0)}, {nobodys(64, 6), nobodys(64, 0)},
		// At 0, as the At of a slot that is free or worn out is.
		{fallen(0, 1, "abc")}, {fallen(0, 2, "abc", 1)}, {fallen(2, 0, "")}, {fallen(3, 0, ""), fallen(3, 0, "")},
		{fallen(3, 1, "abc")}, {fallen(0, 15, "abc"), nobodys(9, 0), fallen(2, 3, "", 255, 0)}, {fallen(0, 0, strings.Repeat("\xFF", 122))},
	} {
		h := heapOf(128, worn, pieces...)
		checkSteps(t, "nothing stands", checkBegun(t, "nothing stands", h, impl.CdOk), int64(len(pieces))+1)
		checkAnswer(t, "nothing stands", checkSlide(t, "nothing stands", h), 0, heapOf(128, worn), 0)
		checkPieces(t, "nothing stands", 128, worn, pieces)
	}
}

// TestSlidesOfWhatIsTogether has nothing that does not stand: the slide changes nothing.
func TestSlidesOfWhatIsTogether(t *testing.T) {
	whole := strings.Repeat("w", 122)
	for _, h := range []impl.Heap{
		fullHeap(6), fullHeap(7), fullHeap(16), heapOf(128, one(1), rootOf(0, 0, "")), heapOf(128, one(1), rootOf(0, 0, whole)),
		heapOf(128, one(3), rootOf(0, 2, "a", 1), heldOf(0, 0, "bc", 2), heldOf(0, 1, "")),
		heapOf(128, busyTenants(), rootOf(2, 0, "ab"), rootOf(0, 3, "a"), rootOf(2, 2, "", 1), rootOf(0, 0, "")),
	} {
		begun := checkBegun(t, "together", h, impl.CdOk)
		for begun.High < begun.Top {
			begun = checkStepped(t, "together", begun, impl.CdOk)
			if begun.Low != begun.High || !bytes.Equal(begun.Floor, h.Floor) {
				t.Fatalf("together: %s", heapShown(begun))
			}
		}
		checkAnswer(t, "together", checkStepped(t, "together", begun, impl.CdOk), 0, h, 0)
		checkAnswer(t, "together", checkDone(t, "together", h, impl.CdOk), 0, h, 0)
	}
}

func TestSlidesWithTopAtTheEnd(t *testing.T) {
	for _, pieces := range [][]piece{
		{nobodys(9, 0), rootOf(0, 0, "abc", 2), heldOf(0, 1, strings.Repeat("z", 39))}, {rootOf(0, 0, ""), fallen(0, 1, ""), rootOf(0, 2, strings.Repeat("y", 46))},
		{rootOf(0, 0, "abc"), nobodys(55, 3)}, {rootOf(0, 0, ""), rootOf(0, 1, ""), fallen(0, 0, strings.Repeat("\xFF", 46))}, {nobodys(58, 0), rootOf(0, 0, "")},
		{nobodys(64, 0)}, {rootOf(0, 0, strings.Repeat("x", 58))},
	} {
		h := heapOf(64, []impl.Tenant{live(1, 64, 3), {}, {}, {}}, pieces...)
		if h.Top != 64 {
			t.Fatal(heapShown(h))
		}
		checkTogether(t, "Top at the end", checkSlide(t, "Top at the end", h))
		checkPieces(t, "Top at the end", 64, []impl.Tenant{live(1, 64, 3), {}, {}, {}}, pieces)
	}
}

// smallest are so many of the smallest blocks; as many as are said stand, one behind each of the others as far as there are some.
func smallest(n, standing int64) []piece {
	var pieces []piece
	for i := range n {
		switch slot := i / 2; {
		case i%2 == 1 && slot < standing:
			pieces = append(pieces, rootOf(slot%4, slot/4, ""))
		case i%3 == 0:
			pieces = append(pieces, fallen(i%4, i%16, ""))
		default:
			pieces = append(pieces, nobodys(6, 0))
		}
	}
	return pieces
}

// TestTheMostSteps has as many blocks as there can be: 170 on the largest floor, with nothing at its end or with a larger one there.
func TestTheMostSteps(t *testing.T) {
	for _, c := range []struct {
		n, standing int64
		last        piece
	}{{169, 64, nobodys(6, 0)}, {169, 0, fallen(2, 9, "")}, {169, 63, rootOf(3, 15, "last")}, {169, 1, fallen(1, 1, "last")}, {169, 0, nobodys(10, 4)}} {
		what := said("the most steps", c.n, c.standing, c.last.size())
		pieces := append(smallest(c.n, c.standing), c.last)
		h := checkBegun(t, what, heapOf(1024, fourTenants(), pieces...), impl.CdOk)
		checkSteps(t, what, h, 171)
		done := checkDone(t, what, h, impl.CdOk)
		for steps := 1; steps <= 171; steps++ {
			var code int64
			h, code = impl.SlideStep(h)
			checkAnswer(t, what+said(": step", int64(steps)), h, code, slidBy(steps, 1024, fourTenants(), pieces), impl.CdOk)
			checkSteps(t, what, h, int64(171-steps))
		}
		checkTogether(t, what, h)
		checkAnswer(t, what, done, 0, h, 0)
	}
	for _, size := range []int64{64, 65, 66, 100, 1023} {
		pieces := make([]piece, size/6)
		for i := range pieces {
			pieces[i] = nobodys(6, 0)
		}
		h := checkBegun(t, "all nobody's", heapOf(size, nobodyThere(), pieces...), impl.CdOk)
		checkSteps(t, "all nobody's", h, size/6+1)
		checkAnswer(t, "all nobody's", checkSlide(t, "all nobody's", h), 0, newHeap(t, size), 0)
	}
}

// TestSlidesOfEveryGap begins with the gap ahead of each block: what is below Low stays as it is, whether it stands or not.
func TestSlidesOfEveryGap(t *testing.T) {
	all := []piece{fallen(0, 1, "old", 9, 200), rootOf(0, 0, "ab", 2, 0), nobodys(9, 2), rootOf(2, 1, "xyz"), heldOf(0, 1, "", 1), fallen(3, 15, ""), rootOf(2, 2, "q", 3)}
	for i := range len(all) + 1 {
		for _, n := range []int64{0, 1, 5, 6, 13, 28} {
			what := said("gap", int64(i), n)
			h := heapOf(128, busyTenants(), slices.Insert(slices.Clone(all), i, gapOf(n))...)
			checkSteps(t, what, h, int64(len(all)-i)+1)
			kept := slices.Clone(all[:i])
			for _, p := range all[i:] {
				if p.stands {
					kept = append(kept, p)
				}
			}
			done := checkSlide(t, what, h)
			checkAnswer(t, what, done, 0, heapOf(128, busyTenants(), kept...), 0)
			checkAnswer(t, what+", and the next slide", checkSlide(t, what, done), 0, slidBy(8, 128, busyTenants(), all), 0)
		}
	}
}

// TestDoneTwice ends the slide that is under way, then does a whole one, then one that changes nothing.
func TestDoneTwice(t *testing.T) {
	pieces := []piece{nobodys(7, 0), fallen(0, 0, "abc"), rootOf(0, 0, "a"), gapOf(12), fallen(0, 1, "x"), rootOf(0, 1, "bc", 1), nobodys(8, 1)}
	h := heapOf(128, one(2), pieces...)
	first := checkDone(t, "the first", h, impl.CdOk)
	checkAnswer(t, "the first", first, 0, heapOf(128, one(2), pieces[0], pieces[1], pieces[2], pieces[5]), 0)
	second := checkDone(t, "the second", first, impl.CdOk)
	checkAnswer(t, "the second", second, 0, heapOf(128, one(2), pieces[2], pieces[5]), 0)
	checkAnswer(t, "the third", checkDone(t, "the third", second, impl.CdOk), 0, second, 0)
	for _, c := range rightHeaps() {
		done := checkDone(t, c.what, checkDone(t, c.what, c.heap, impl.CdOk), impl.CdOk)
		checkTogether(t, c.what, done)
		checkAnswer(t, c.what, checkDone(t, c.what, done, impl.CdOk), 0, done, 0)
	}
}

// TestGoneWhileSliding has each tenant go ahead of each step: of its blocks those that were slid stay, as nobody's, till the next slide.
func TestGoneWhileSliding(t *testing.T) {
	pieces := []piece{nobodys(9, 0), rootOf(0, 0, "ab", 2, 0), rootOf(2, 1, "xyz"), fallen(3, 15, ""), heldOf(0, 1, "", 1), rootOf(2, 2, "q", 3)}
	for steps := range len(pieces) + 1 {
		for _, who := range []int64{0, 2, 3} {
			what := said("gone", int64(steps), who)
			h := checkBegun(t, what, heapOf(128, busyTenants(), pieces...), impl.CdOk)
			for range steps {
				h = checkStepped(t, what, h, impl.CdOk)
			}
			h = checkGone(t, what, h, who, impl.CdOk)
			checkSteps(t, what, h, int64(len(pieces)-steps)+1)
			var slid, all []piece
			for i, p := range pieces {
				switch {
				case p.stands && p.owner != who:
					slid, all = append(slid, p), append(all, p)
				case p.stands && i < steps:
					slid = append(slid, nobodys(p.size(), int64(len(p.refs))))
				}
			}
			left := busyTenants()
			left[who] = impl.Tenant{}
			want := heapOf(128, left, slid...)
			want.NextTag = h.NextTag
			done := checkSlide(t, what, h)
			checkAnswer(t, what, done, 0, want, 0)
			want = heapOf(128, left, all...)
			want.NextTag = h.NextTag
			checkAnswer(t, what+", and the next slide", checkSlide(t, what, done), 0, want, 0)
			checkSlide(t, what, checkEntered(t, what, h, who, 10, 2, impl.CdOk))
		}
	}
}

// TestFreedWhileSliding frees each slot ahead of each step, as what lets go of something does.
func TestFreedWhileSliding(t *testing.T) {
	pieces := []piece{fallen(1, 0, "x"), rootOf(1, 2, "ab"), rootOf(1, 0, "c"), nobodys(6, 0), rootOf(1, 1, "def"), rootOf(1, 3, "")}
	tenants := []impl.Tenant{{}, live(1, 64, 5), {}, {}}
	for steps := range int64(7) {
		for slot := range int64(4) {
			what := said("freed", steps, slot)
			h := checkBegun(t, what, heapOf(64, tenants, pieces...), impl.CdOk)
			for range steps {
				h = checkStepped(t, what, h, impl.CdOk)
			}
			isSlid := h.Tenants[1].Table[slot].At < h.Low
			h.Tenants[1].Table, _ = impl.SlotFreed(h.Tenants[1].Table, slot)
			used := impl.UsedBy(h, 1)
			done := checkSlide(t, what, h)
			if isSlid != (done.Top > used) {
				t.Errorf("%s: was slid %v, Top %d, used %d", what, isSlid, done.Top, used)
			}
			checkTogether(t, what, checkSlide(t, what, done))
		}
	}
}

func TestSlidesOfRightHeaps(t *testing.T) {
	for _, c := range rightHeaps() {
		if len(impl.BlocksOf(c.heap)) < 20 {
			checkSlide(t, c.what, c.heap)
			continue
		}
		checkStepped(t, c.what, checkBegun(t, c.what, c.heap, impl.CdOk), impl.CdOk)
	}
}

// TestTwoSlidesDoNotTell has what others have between the blocks differ: what a tenant knows does not.
func TestTwoSlidesDoNotTell(t *testing.T) {
	tenants := []impl.Tenant{live(2, 60, 3), live(3, 60, 3), {}, {}}
	mine := []piece{rootOf(0, 1, "mine", 3, 0), heldOf(0, 2, "", 2)}
	these := heapOf(128, tenants, mine[0], nobodys(20, 0), mine[1], rootOf(1, 0, "other"))
	those := heapOf(128, tenants, rootOf(1, 2, "secret", 3), fallen(0, 1, "old"), mine[1], fallen(1, 0, "ab"), mine[0])
	for range 7 {
		if a, b := knownIn(these)[0], knownIn(those)[0]; a != b {
			t.Errorf("%q in one, %q in the other", a, b)
		}
		these = checkStepped(t, "these", begunIfNot(t, "these", these), impl.CdOk)
		those = checkStepped(t, "those", begunIfNot(t, "those", those), impl.CdOk)
	}
}

func TestTheCodesOfSliding(t *testing.T) {
	for _, c := range rightHeaps() {
		if c.heap.Sliding {
			checkAnswer(t, c.what, checkBegun(t, c.what, c.heap, impl.CdBusy), 0, c.heap, 0)
			continue
		}
		checkAnswer(t, c.what, checkStepped(t, c.what, c.heap, impl.CdIdle), 0, c.heap, 0)
		checkSteps(t, c.what, c.heap, 0)
		// Nothing but the flag, the other way round.
		c.heap.Sliding = true
		checkAnswer(t, c.what, checkBegun(t, c.what, c.heap, impl.CdBusy), 0, c.heap, 0)
	}
}

func TestWrongHeapsDoNotSlide(t *testing.T) {
	for _, c := range wrongHeaps() {
		for _, sliding := range []bool{false, true} {
			h := twin(c.heap)
			h.Sliding = sliding
			if _, is := toldOf(h); is {
				continue
			}
			for _, got := range []impl.Heap{checkBegun(t, c.what, h, impl.CdBad), checkStepped(t, c.what, h, impl.CdBad), checkDone(t, c.what, h, impl.CdBad)} {
				checkAnswer(t, c.what, got, 0, impl.Heap{}, 0)
			}
			checkSteps(t, c.what, h, -1)
		}
	}
}

// checkSlidingCalls holds all four against the words, whatever they tell.
func checkSlidingCalls(t *testing.T, what string, h impl.Heap) {
	t.Helper()
	_, code := ofRight(begunTold)(h)
	checkBegun(t, what, h, code)
	_, code = ofRight(steppedTold)(h)
	checkStepped(t, what, h, code)
	_, code = ofRight(doneTold)(h)
	checkDone(t, what, h, code)
	checkSteps(t, what, h, stepsTold(h))
}

func TestStrangeFieldsOfSliding(t *testing.T) {
	withStrangeFields(func(what string, h impl.Heap) { checkSlidingCalls(t, what, h) })
}

func TestDrawnSlides(t *testing.T) {
	var d drawn
	for range 250 {
		h := drawnHeap(&d)
		if _, is := toldOf(h); is {
			checkSlide(t, "drawn", h)
		}
	}
}

// TestDrawnTurns has slides begun, stepped and done while some come and go.
func TestDrawnTurns(t *testing.T) {
	var d drawn
	codes := map[int64]int{}
	for range 400 {
		h := drawnHeap(&d)
		for range d.below(16) {
			call, check := begunTold, checkBegun
			switch d.below(16) {
			case 0:
				who := d.below(4)
				_, code := goneTold(h, who)
				h = checkGone(t, "drawn", h, who, code)
				continue
			case 1:
				who := d.below(4)
				_, code := enteredTold(h, who, 9, 3)
				h = checkEntered(t, "drawn", h, who, 9, 3, code)
				continue
			case 2:
				call, check = doneTold, checkDone
			case 3, 4, 5:
			default:
				call, check = steppedTold, checkStepped
			}
			_, code := ofRight(call)(h)
			codes[code]++
			h = check(t, "drawn", h, code)
		}
	}
	checkOften(t, codes, 20, impl.CdOk, impl.CdBad, impl.CdIdle, impl.CdBusy)
}

func TestDrawnChangesAheadOfSliding(t *testing.T) {
	withDrawnChanges(t, 1500, func(_ *drawn, h impl.Heap) { checkSlidingCalls(t, "drawn change", h) })
}

func TestSlidingIsNew(t *testing.T) {
	heaps := append(rightHeaps(), wrongHeaps()...)
	for _, c := range rightHeaps() {
		begun, _ := impl.SlideBegun(c.heap)
		stepped, _ := impl.SlideStep(begun)
		heaps = append(heaps, namedHeap{c.what + ", begun", begun}, namedHeap{c.what + ", stepped", stepped})
	}
	for _, c := range heaps {
		h, args := withSpareHeap(c.heap)
		for i, call := range []heapCall{impl.SlideBegun, impl.SlideStep, impl.SlideDone} {
			checkNewHeaps(t, c.what+said(": call", int64(i)), args, func() impl.Heap {
				got, _ := call(h)
				return got
			})
		}
		impl.StepsLeft(h)
		for _, a := range args {
			a.checkSame(t, c.what+": StepsLeft")
		}
	}
}

// TestOneSlideTwice has answers made of one heap: none shows what was done to the others.
func TestOneSlideTwice(t *testing.T) {
	begun, _ := impl.SlideBegun(busyHeap())
	was := twin(begun)
	var answers, wanted []impl.Heap
	for h := begun; h.Sliding; {
		done, _ := impl.SlideDone(h)
		refused, _ := impl.SlideBegun(h)
		next, _ := impl.SlideStep(h)
		answers = append(answers, done, refused, next)
		wanted = append(wanted, twin(done), twin(refused), twin(next))
		h = next
	}
	for i, h := range answers {
		checkAnswer(t, said("answer", int64(i)), h, 0, wanted[i], 0)
		markLists(h, int64(i))
		scribble(h.Tenants, func(impl.Tenant) impl.Tenant { return usedTenant() })
	}
	checkAnswer(t, "what it was made of", begun, 0, was, 0)
}

// TestStepsLeftOfStrangeHeaps has nothing but a number: it is never a right heap.
func TestStepsLeftOfStrangeHeaps(t *testing.T) {
	for _, n := range append(strange(), 0, 1, 64, math.MaxInt32) {
		for _, h := range []impl.Heap{{Top: n, Sliding: true}, {Low: n, High: n, Top: n, Sliding: true}, {Floor: make([]byte, 64), High: n}, {Tenants: nobodyThere(), NextTag: n}} {
			checkSteps(t, said("nothing but", n), h, -1)
			checkSlidingCalls(t, said("nothing but", n), h)
		}
	}
}
