package tests

import (
	"bytes"
	"math"
	"slices"
	"strings"
	"testing"

	"loop.example/g00750/impl"
)

type making struct{ who, n, refs int64 }

func (m making) cost() int64 { return 6 + m.refs + m.n }

// laid is what is to lie there, in that slot.
func (m making) laid(slot int64) piece {
	return rootOf(m.who, slot, string(make([]byte, m.n)), make([]byte, m.refs)...)
}

// costing is one that costs so much, from 6 to 212, with refs among it.
func costing(who, cost int64) making {
	refs := max(min(cost-6, cost%7), cost-206)
	return making{who, cost - 6 - refs, refs}
}

// madeTold is written from the chapter's words; the heap that came stays.
func madeTold(h impl.Heap, m making) (impl.Heap, int64, int64) {
	all, is := toldOf(h)
	if !is {
		return impl.Heap{}, impl.CdBad, 0
	}
	h = twin(h)
	if m.who < 0 || m.who > 3 || m.n < 0 || m.n > 200 || m.refs < 0 || m.refs > 6 {
		return h, impl.CdBad, 0
	}
	x := h.Tenants[m.who]
	slot := freeSlot(x.Table)
	switch {
	case !x.Live:
		return h, impl.CdNone, 0
	case all.used[m.who]+m.cost() > x.Bytes:
		return h, impl.CdQuota, 0
	case slot < 0:
		return h, impl.CdSlots, 0
	}
	for slides := 0; slides < 2 && h.Top+m.cost() > int64(len(h.Floor)); slides++ {
		doneTold(&h)
	}
	s := &x.Table[slot]
	s.Used, s.Root, s.At = true, true, h.Top
	copy(h.Floor[h.Top:h.Top+m.cost()], m.laid(slot).bytes())
	h.Top += m.cost()
	return h, impl.CdOk, (x.Tag*8+s.Gen)*16 + slot
}

// codeOfMaking is for where whoever asks can't tell beforehand.
func codeOfMaking(h impl.Heap, m making) int64 {
	_, code, _ := madeTold(h, m)
	return code
}

func checkMade(t *testing.T, what string, h impl.Heap, m making, code int64) (impl.Heap, int64) {
	t.Helper()
	what += said(": Made", m.who, m.n, m.refs)
	var number, wanted int64
	call := func(h impl.Heap) (impl.Heap, int64) {
		got, is, made := impl.Made(h, m.who, m.n, m.refs)
		number = made
		return got, is
	}
	told := func(h impl.Heap) (impl.Heap, int64) {
		want, is, made := madeTold(h, m)
		wanted = made
		return want, is
	}
	got := checkChange(t, what, h, code, call, told)
	if number != wanted || code != impl.CdOk && number != 0 {
		t.Errorf("%s: the number is %d, want %d", what, number, wanted)
	}
	if code == impl.CdOk {
		checkThing(t, what, got, h, m, number)
		checkPlaces(t, what, got, h, m)
	}
	return got, number
}

// checkThing is promise 11 of what was made: it is there, behind all others, with nothing in it, and nobody knows anything else of any other thing.
func checkThing(t *testing.T, what string, h, was impl.Heap, m making, number int64) {
	t.Helper()
	checkRightHeap(t, what, h)
	x, before := h.Tenants[m.who], was.Tenants[m.who]
	slot := impl.LookedUp(x.Table, x.Tag, number)
	if slot < 0 || slot != freeSlot(before.Table) || impl.LookedUp(before.Table, before.Tag, number) != -1 {
		t.Fatalf("%s: the number %d is for slot %d of %s, was %s", what, number, slot, tenantShown(x), tenantShown(before))
	}
	at, blocks := h.Top-m.cost(), impl.BlocksOf(h)
	place := impl.Place{At: at, Head: impl.Head{Size: m.cost(), Owner: m.who, Slot: slot, Refs: m.refs}}
	if blocks[len(blocks)-1] != place || !nothingBut0(h.Floor[at+6:]) {
		t.Errorf("%s: it is %v with %v, want %v", what, blocks[len(blocks)-1], h.Floor[at:], place)
	}
	table := slices.Clone(before.Table)
	for i, s := range x.Table {
		if i != int(slot) {
			table[i].At = s.At
		}
	}
	table[slot] = impl.Slot{Used: true, Root: true, Gen: before.Table[slot].Gen, At: at}
	if want := (impl.Tenant{Live: true, Tag: before.Tag, Bytes: before.Bytes, Table: table}); !sameTenant(x, want) {
		t.Errorf("%s: the maker is %s, want %s", what, tenantShown(x), tenantShown(want))
	}
	web := slices.Clone(impl.WebIn(was, m.who))
	web[slot] = rooted(slices.Repeat([]int64{-1}, int(m.refs))...)
	checkWebIn(t, what, h, m.who, web)
	checkUsedBy(t, what, h, m.who, impl.UsedBy(was, m.who)+m.cost())
	checkOthers(t, what, h, was, m.who, int(slot))
}

// checkOthers tells whether all other tenants, and all other things of this one, are as they were.
func checkOthers(t *testing.T, what string, h, was impl.Heap, who int64, made int) {
	t.Helper()
	checkOthersKnow(t, what, h, was, who)
	for slot := range h.Tenants[who].Table {
		got, want := thingKnown(h, h.Tenants[who], slot), thingKnown(was, was.Tenants[who], slot)
		if slot != made && got != want {
			t.Errorf("%s: of slot %d it knows %q, knew %q", what, slot, got, want)
		}
	}
	if h.NextTag != was.NextTag {
		t.Errorf("%s: NextTag is %d, was %d", what, h.NextTag, was.NextTag)
	}
}

// checkOthersKnow tells that all other tenants know what they knew.
func checkOthersKnow(t *testing.T, what string, h, was impl.Heap, who int64) {
	t.Helper()
	known, knew := knownIn(h), knownIn(was)
	for other := range known {
		if other != int(who) && known[other] != knew[other] {
			t.Errorf("%s: %d knows %q, knew %q", what, other, known[other], knew[other])
		}
	}
}

// checkPlaces tells whether it was slid just where there was not room enough: where there was, all is where it was, a slide under way, too.
func checkPlaces(t *testing.T, what string, h, was impl.Heap, m making) {
	t.Helper()
	if was.Top+m.cost() > int64(len(was.Floor)) {
		if h.Sliding || h.Low != 0 || h.High != 0 || h.Top > was.Top+m.cost() {
			t.Errorf("%s: %s, was %s", what, heapShown(h), heapShown(was))
		}
		return
	}
	if h.Top != was.Top+m.cost() || h.Sliding != was.Sliding || h.Low != was.Low || h.High != was.High || !bytes.Equal(h.Floor[:was.Top], was.Floor[:was.Top]) {
		t.Errorf("%s: %s, was %s", what, heapShown(h), heapShown(was))
	}
	blocks := impl.BlocksOf(h)
	if !slices.Equal(blocks[:len(blocks)-1], impl.BlocksOf(was)) {
		t.Errorf("%s: the blocks are %v, were %v", what, blocks, impl.BlocksOf(was))
	}
}

// checkRefusal tells that the heap is as it was, Sliding, Low and High included.
func checkRefusal(t *testing.T, what string, h impl.Heap, m making, code int64) {
	t.Helper()
	got, _ := checkMade(t, what, h, m, code)
	checkAnswer(t, what, got, 0, h, 0)
}

// leftTo is how much may still be made for a tenant at once: what it was promised and has not, and no more than one thing may have; 0 where it has no slot left.
func leftTo(h impl.Heap, who int64) int64 {
	if freeSlot(h.Tenants[who].Table) < 0 {
		return 0
	}
	left := min(212, h.Tenants[who].Bytes-impl.UsedBy(h, who))
	if left < 6 {
		return 0
	}
	return left
}

// checkAllGet is promise 11 of a heap: each who has bytes and a slot left gets as much as it may have, alone and after the others, till nobody has any left.
func checkAllGet(t *testing.T, what string, h impl.Heap) impl.Heap {
	t.Helper()
	for who := range int64(4) {
		if left := leftTo(h, who); left > 0 {
			checkMade(t, what+", alone", h, costing(who, left), impl.CdOk)
			checkMade(t, what+", the least", h, making{who, 0, 0}, impl.CdOk)
		}
	}
	for who := range int64(4) {
		for left := leftTo(h, who); left > 0; left = leftTo(h, who) {
			h, _ = checkMade(t, what+", each", h, costing(who, left), impl.CdOk)
		}
		code := int64(impl.CdNone)
		switch x := h.Tenants[who]; {
		case x.Live && x.Bytes-impl.UsedBy(h, who) < 6:
			code = impl.CdQuota
		case x.Live:
			code = impl.CdSlots
		}
		checkRefusal(t, what+", none left", h, making{who, 0, 0}, code)
	}
	return h
}

// written is a heap in which all that is somebody's has been written to, its refs aside.
func written(h impl.Heap, mark byte) impl.Heap {
	h = twin(h)
	for _, p := range placesTold(h) {
		for at := p.At + 6 + p.Head.Refs; p.Head.Owner >= 0 && at < p.At+p.Head.Size; at++ {
			h.Floor[at] = mark + byte(at%7)
		}
	}
	return h
}

// freed is a heap with that slot freed, as it is of one who lets go of something.
func freed(h impl.Heap, who, slot int64) impl.Heap {
	h = twin(h)
	h.Tenants[who].Table, _ = freedTable(h.Tenants[who].Table, slot)
	return h
}

// TestMakingByteByByte is written down: what comes to the floor, and each number.
func TestMakingByteByByte(t *testing.T) {
	h := checkEntered(t, "byte by byte", newHeap(t, 128), 2, 45, 4, impl.CdOk)
	h = checkEntered(t, "byte by byte", h, 0, 50, 2, impl.CdOk)
	var floor []byte
	for i, c := range []struct {
		making making
		bytes  []byte
		number int64
	}{
		{making{2, 3, 1}, []byte{10, 0, 3, 0, 1, 0, 0, 0, 0, 0}, 128}, {making{0, 0, 0}, []byte{6, 0, 1, 0, 0, 0}, 256},
		{making{0, 4, 6}, []byte{16, 0, 1, 1, 6, 0, 0, 0, 0, 0, 0, 0, 0, 0, 0, 0}, 257}, {making{2, 0, 2}, []byte{8, 0, 3, 1, 2, 0, 0, 0}, 129},
		{making{2, 7, 0}, []byte{13, 0, 3, 2, 0, 0, 0, 0, 0, 0, 0, 0, 0}, 130}, {making{2, 8, 0}, []byte{14, 0, 3, 3, 0, 0, 0, 0, 0, 0, 0, 0, 0, 0}, 131},
	} {
		what := said("byte by byte", int64(i))
		at := int64(len(floor))
		got, number := checkMade(t, what, h, c.making, impl.CdOk)
		floor = append(floor, c.bytes...)
		checkBytes(t, what, got.Floor, true, append(slices.Clone(floor), make([]byte, 128-len(floor))...), true)
		slot := number % 16
		if number != c.number || got.Top != int64(len(floor)) || got.Tenants[c.making.who].Table[slot] != usedAt(at) {
			t.Errorf("%s: got %d, want %d: %s", what, number, c.number, heapShown(got))
		}
		h = got
	}
	checkRefusal(t, "all that was promised", h, making{2, 0, 0}, impl.CdQuota)
	checkRefusal(t, "all slots", h, making{0, 22, 0}, impl.CdSlots)
}

// TestMakingInABusyHeap has other things between, and something that does not stand, with a slide under way or not.
func TestMakingInABusyHeap(t *testing.T) {
	for _, h := range []impl.Heap{busyHeap(), slidingHeap()} {
		for _, c := range []struct {
			making making
			head   []byte
			number int64
		}{
			{making{0, 37, 0}, []byte{43, 0, 1, 3, 0, 0}, 3*128 + 3}, {making{0, 31, 6}, []byte{43, 0, 1, 3, 6, 0}, 3*128 + 3}, {making{0, 0, 0}, []byte{6, 0, 1, 3, 0, 0}, 3*128 + 3},
			{making{2, 17, 0}, []byte{23, 0, 3, 0, 0, 0}, 8 * 128}, {making{2, 0, 5}, []byte{11, 0, 3, 0, 5, 0}, 8 * 128},
		} {
			got, number := checkMade(t, "busy", h, c.making, impl.CdOk)
			want := slices.Concat(h.Floor[:h.Top], c.head, make([]byte, 128))[:128]
			checkBytes(t, "busy", got.Floor, true, want, true)
			if number != c.number || got.Top != h.Top+c.making.cost() {
				t.Errorf("busy: got %d, want %d: %s", number, c.number, heapShown(got))
			}
		}
		for _, m := range []making{{0, 38, 0}, {0, 32, 6}, {2, 18, 0}, {2, 200, 6}, {3, 0, 0}} {
			checkRefusal(t, "busy", h, m, impl.CdQuota)
		}
		for _, x := range []impl.Heap{h, written(h, 0x80)} {
			checkAllGet(t, "busy", x)
		}
	}
}

// TestMakingInTurns has four tenants make one thing after the other, and write to what they have, till all slots and all of the floor are theirs.
func TestMakingInTurns(t *testing.T) {
	for _, order := range [][]int64{{0, 1, 2, 3}, {3, 1, 0, 2}, {2, 3, 1, 0}} {
		h := newHeap(t, 1024)
		for _, who := range order {
			h = checkEntered(t, "in turns", h, who, 256, 16, impl.CdOk)
		}
		for turn := range int64(16) {
			for _, who := range order {
				m := costing(who, 6+turn%8*2)
				if turn == 15 {
					m = costing(who, leftTo(h, who))
				}
				h, _ = checkMade(t, said("in turns", turn), written(h, byte(turn)), m, impl.CdOk)
			}
		}
		if h.Top != 1024 {
			t.Errorf("in turns: Top is %d", h.Top)
		}
		for who := range int64(4) {
			checkRefusal(t, "in turns", h, making{who, 0, 0}, impl.CdQuota)
		}
	}
}

func TestMakingOf64(t *testing.T) {
	h := heapOf(1024, fourTenants())
	for slot := range int64(16) {
		for who := range int64(4) {
			var number int64
			h, number = checkMade(t, said("64", slot), h, making{who, 10 - slot%7, slot % 7}, impl.CdOk)
			if number != (4-who)*128+slot || h.Tenants[who].Table[slot] != usedAt(64*slot+16*who) {
				t.Fatalf("slot %d of %d: %d, %s", slot, who, number, heapShown(h))
			}
		}
	}
}

// TestMakingWhereSomethingLay has nothing but 0 behind the new head, whatever was there.
func TestMakingWhereSomethingLay(t *testing.T) {
	tenants := []impl.Tenant{live(1, 94, 2), live(2, 34, 1), {}, {}}
	old := strings.Repeat("\xFF", 116)
	for _, pieces := range [][]piece{
		{fallen(0, 0, old, 255, 255, 255, 255, 255, 255)}, {fallen(0, 1, old[:60]), fallen(1, 0, old[:56])}, {gapOf(7), fallen(0, 0, old[:60]), fallen(0, 9, old[:48], 1)},
	} {
		for cost := int64(6); cost <= 94; cost++ {
			for refs := int64(0); refs <= min(6, cost-6); refs += 3 {
				m := making{0, cost - 6 - refs, refs}
				got, _ := checkMade(t, "something lay there", heapOf(128, tenants, pieces...), m, impl.CdOk)
				checkAnswer(t, "something lay there", got, 0, heapOf(128, tenants, m.laid(0)), 0)
			}
		}
	}
}

// TestMakingWhereSomethingStood has something pushed away from where the new one comes to lie, or partly so, or further behind.
func TestMakingWhereSomethingStood(t *testing.T) {
	tenants := []impl.Tenant{live(1, 93, 2), live(2, 35, 1), {}, {}}
	old := strings.Repeat("\xFF", 87)
	stood := rootOf(1, 0, old[:28], 1)
	for far := int64(6); far <= 87; far++ {
		h := heapOf(128, tenants, nobodys(far, 0), stood, fallen(0, 0, old[:87-far]))
		for _, m := range []making{{0, 87, 0}, {0, 81, 6}, {0, far, 0}, {0, far / 2, 0}, {0, 0, 1}} {
			got, _ := checkMade(t, said("stood there", far), h, m, impl.CdOk)
			checkAnswer(t, said("stood there", far), got, 0, heapOf(128, tenants, stood, m.laid(0)), 0)
		}
	}
}

// TestAllThatWasPromised has things made that are exactly what was promised, at once or together, and then one byte more.
func TestAllThatWasPromised(t *testing.T) {
	for promised := range int64(214) {
		h := checkEntered(t, "promised", newHeap(t, 256), 1, 256-promised, 1, impl.CdOk)
		h = checkEntered(t, "promised", h, 3, promised, 8, impl.CdOk)
		for cost := promised + 1; cost < promised+4; cost++ {
			if cost >= 6 && cost <= 212 {
				checkRefusal(t, "one more", h, costing(3, cost), impl.CdQuota)
			}
		}
		for _, first := range []int64{6, 7, 50, 206} {
			if first+6 > promised || promised-first > 212 {
				continue
			}
			x, _ := checkMade(t, "a part", h, costing(3, first), impl.CdOk)
			checkMade(t, "all but one", x, costing(3, max(6, promised-first-1)), impl.CdOk)
			if promised-first < 212 {
				checkRefusal(t, "one more", x, costing(3, promised-first+1), impl.CdQuota)
			}
			x, _ = checkMade(t, "the rest", x, costing(3, promised-first), impl.CdOk)
			checkRefusal(t, "then one more", x, making{3, 0, 0}, impl.CdQuota)
		}
		if promised >= 6 && promised <= 212 {
			h, _ = checkMade(t, "all at once", h, costing(3, promised), impl.CdOk)
			checkUsedBy(t, "all at once", h, 3, promised)
		}
		if promised <= 212 {
			checkRefusal(t, "then one more", h, making{3, 0, 0}, impl.CdQuota)
		}
	}
}

// TestTheLastSlot has tables of four slots, each of them Used, free, freed or worn out; the least one that may be taken is, each time, till there is none.
func TestTheLastSlot(t *testing.T) {
	for pattern := range int64(5 * 5 * 5 * 5) {
		tenants, pieces := []impl.Tenant{{}, {}, live(9, 128, 4), {}}, []piece{}
		var free []int64
		for slot, left := int64(0), pattern; slot < 4; slot, left = slot+1, left/5 {
			tenants[2].Table[slot].Gen = []int64{0, 1, 7, 8, 3}[left%5]
			switch left % 5 {
			case 4:
				pieces = append(pieces, rootOf(2, slot, "used"))
			case 0, 1, 2:
				free = append(free, slot)
			}
		}
		h := heapOf(128, tenants, pieces...)
		for _, slot := range free {
			var number int64
			gen := h.Tenants[2].Table[slot].Gen
			h, number = checkMade(t, said("pattern", pattern), h, making{2, slot, 0}, impl.CdOk)
			if number != (9*8+gen)*16+slot {
				t.Errorf("pattern %d: the number for slot %d of Gen %d is %d", pattern, slot, gen, number)
			}
		}
		checkRefusal(t, said("pattern", pattern), h, making{2, 0, 0}, impl.CdSlots)
	}
}

// TestSlotsTillTheyAreWornOut makes and frees, on a floor that has room for one thing and a half; each number is a new one, and no old one is good for anything.
func TestSlotsTillTheyAreWornOut(t *testing.T) {
	for _, slots := range []int64{1, 2, 16} {
		h := heapOf(100, []impl.Tenant{{}, live(7, 80, slots), {}, {}})
		numbers := map[int64]bool{}
		for turn := range 8 * slots {
			var number int64
			h, number = checkMade(t, said("turn", slots, turn), h, costing(1, 70-turn%5), impl.CdOk)
			if numbers[number] || number%16 != turn/8 {
				t.Errorf("turn %d of %d: the number %d", turn, slots, number)
			}
			numbers[number] = true
			h = freed(written(h, 0xA0), 1, number%16)
			for old := range numbers {
				checkLookedUp(t, h.Tenants[1].Table, 7, old, -1)
			}
		}
		checkRefusal(t, said("worn out", slots), h, making{1, 0, 0}, impl.CdSlots)
	}
}

func TestTheLimitsOfMaking(t *testing.T) {
	for _, h := range []impl.Heap{heapOf(1024, fourTenants()), heapOf(1024, fourTenants(), nobodys(900, 0), rootOf(2, 0, ""))} {
		for _, n := range []int64{-2, -1, 0, 1, 100, 199, 200, 201, 202} {
			for _, refs := range []int64{-2, -1, 0, 1, 3, 5, 6, 7, 8} {
				code := int64(impl.CdOk)
				if n < 0 || n > 200 || refs < 0 || refs > 6 {
					code = impl.CdBad
				}
				for who := int64(-1); who <= 4; who++ {
					if who < 0 || who > 3 {
						checkRefusal(t, "limits", h, making{who, n, refs}, impl.CdBad)
						continue
					}
					checkMade(t, "limits", h, making{who, n, refs}, code)
				}
			}
		}
	}
}

// TestJustRoomEnough has Top and the cost be as many bytes as the floor has, and one more, with nothing, something or a gap ahead.
func TestJustRoomEnough(t *testing.T) {
	tenants := func(size int64) []impl.Tenant { return []impl.Tenant{live(3, size-20, 3), {}, {}, live(4, 20, 1)} }
	stands := rootOf(3, 0, "ab", 1)
	for _, size := range []int64{64, 65, 100, 256, 1024} {
		for cost := int64(6); cost <= min(size-20, 212); cost += size / 32 {
			m := costing(0, cost)
			for more := range int64(3) {
				far := size - cost + more - stands.size()
				if far > 1000 {
					continue
				}
				for _, row := range [][]piece{{stands, nobodys(far, 0)}, {nobodys(far, 0), stands}, {stands, gapOf(far)}, {gapOf(far), stands}, {gapOf(far - 6), stands, nobodys(6, 0)}} {
					what := said("just room enough", size, cost, more)
					want := heapOf(size, tenants(size), stands, m.laid(0))
					if more == 0 {
						want = heapOf(size, tenants(size), append(slices.Clone(row), m.laid(0))...)
					}
					got, _ := checkMade(t, what, heapOf(size, tenants(size), row...), m, impl.CdOk)
					checkAnswer(t, what, got, 0, want, 0)
				}
			}
		}
	}
}

// wholeTenants were promised all of a floor of 128 bytes, which the scattered pieces fill; 33, 30 and 38 bytes are left to them.
func wholeTenants() []impl.Tenant {
	return []impl.Tenant{live(3, 50, 3), {}, live(8, 40, 3), live(5, 38, 2)}
}

func scattered() []piece {
	old := strings.Repeat("\xEE", 34)
	return []piece{rootOf(0, 0, "ab", 2, 0), fallen(3, 0, old), heldOf(0, 1, "", 1), nobodys(31, 1), rootOf(2, 1, "xyz", 2), fallen(2, 1, old[:24])}
}

func standing(pieces []piece) []piece {
	return slices.DeleteFunc(slices.Clone(pieces), func(p piece) bool { return !p.stands })
}

// TestPromisedWholeInEveryOrder has no byte left but by sliding; each gets all it was promised, whichever comes first.
func TestPromisedWholeInEveryOrder(t *testing.T) {
	left, slots := []int64{33, 0, 30, 38}, []int64{2, 0, 0, 0}
	turns := [][]int64{{0, 2, 3}, {0, 3, 2}, {2, 0, 3}, {2, 3, 0}, {3, 0, 2}, {3, 2, 0}}
	orders := 0
	inEveryOrder(scattered(), 0, func(pieces []piece) {
		what := said("order", int64(orders))
		h := heapOf(128, wholeTenants(), pieces...)
		if h.Top != 128 {
			t.Fatal(heapShown(h))
		}
		for _, who := range turns[0] {
			for _, cost := range []int64{6, 7 + int64(orders)%20, left[who]} {
				m := costing(who, cost)
				got, _ := checkMade(t, what, h, m, impl.CdOk)
				checkAnswer(t, what, got, 0, heapOf(128, wholeTenants(), append(standing(pieces), m.laid(slots[who]))...), 0)
			}
			checkRefusal(t, what, h, costing(who, left[who]+1), impl.CdQuota)
		}
		row := standing(pieces)
		for _, who := range turns[orders%6] {
			m := costing(who, left[who])
			row = append(row, m.laid(slots[who]))
			h, _ = checkMade(t, what, h, m, impl.CdOk)
		}
		checkAnswer(t, what, h, 0, heapOf(128, wholeTenants(), row...), 0)
		orders++
	})
	if orders != 720 {
		t.Errorf("%d orders", orders)
	}
}

// TestScatteredAsTheyCanBe has 60 of the smallest things on the largest floor, each between what does not stand.
func TestScatteredAsTheyCanBe(t *testing.T) {
	var pieces []piece
	for i := range int64(61) {
		size := int64(10)
		if i < 54 {
			size = 11
		}
		if i%2 == 0 {
			pieces = append(pieces, nobodys(size, 0))
		} else {
			pieces = append(pieces, fallen(i%4, i%16, strings.Repeat("\xDD", int(size-6))))
		}
		if i < 60 {
			pieces = append(pieces, rootOf(i%4, i/4, ""))
		}
	}
	h := heapOf(1024, fourTenants(), pieces...)
	if h.Top != 1024 || len(impl.BlocksOf(h)) != 121 {
		t.Fatal(heapShown(h))
	}
	for _, order := range [][]int64{{0, 1, 2, 3}, {3, 2, 1, 0}, {1, 3, 0, 2}, {2, 0, 3, 1}} {
		x, row := h, standing(pieces)
		for _, who := range order {
			checkRefusal(t, "scattered", x, costing(who, 167), impl.CdQuota)
			m := costing(who, 166)
			row = append(row, m.laid(15))
			x, _ = checkMade(t, said("scattered", order...), x, m, impl.CdOk)
		}
		checkAnswer(t, said("scattered", order...), x, 0, heapOf(1024, fourTenants(), row...), 0)
	}
}

// underWay is a slide of which so many steps are done; since then some of what stood may not stand any more.
type underWay struct {
	size     int64
	tenants  []impl.Tenant
	was, now []piece
	steps    int
}

// rows are what lies below Low, the gap, and what is left.
func (u underWay) rows() (slid []piece, gap piece, left []piece) {
	gap = gapOf(0)
	for i, p := range u.now {
		switch {
		case i >= u.steps:
			left = append(left, p)
		case u.was[i].stands:
			slid = append(slid, p)
		default:
			gap.gap += p.size()
		}
	}
	return slid, gap, left
}

func (u underWay) heap() impl.Heap {
	slid, gap, left := u.rows()
	return heapOf(u.size, u.tenants, slices.Concat(slid, []piece{gap}, left)...)
}

// made lays all anew with the new one behind it, and tells how many slides there had to be.
func (u underWay) made(one piece) (impl.Heap, int) {
	slid, gap, left := u.rows()
	for slides, row := range [][]piece{slices.Concat(slid, []piece{gap}, left), slices.Concat(slid, standing(left)), standing(slices.Concat(slid, left))} {
		all := gap.gap
		if slides > 0 {
			all = 0
		}
		for _, p := range row {
			if !p.isGap {
				all += p.size()
			}
		}
		if all+one.size() <= u.size {
			return heapOf(u.size, u.tenants, append(row, one)...), slides
		}
	}
	return impl.Heap{}, -1
}

// checkMadeUnderWay has things of each cost made in it, from the least to all that is left to that tenant; it counts by how many slides.
func checkMadeUnderWay(t *testing.T, what string, h impl.Heap, u underWay, who int64, counts *[3]int) {
	t.Helper()
	checkAnswer(t, what, h, 0, u.heap(), 0)
	for cost := int64(6); cost <= leftTo(h, who); cost++ {
		m := costing(who, cost)
		want, slides := u.made(m.laid(freeSlot(h.Tenants[who].Table)))
		if slides < 0 {
			t.Fatalf("%s: no room for %d", what, cost)
		}
		counts[slides]++
		got, _ := checkMade(t, what, h, m, impl.CdOk)
		checkAnswer(t, what+said(": slid", int64(slides)), got, 0, want, 0)
	}
}

// slidden are 73 bytes of which 25 stand for tenant 1, and 16 for tenant 2.
func slidden() []piece {
	return []piece{
		fallen(1, 0, "x"), rootOf(1, 2, "ab", 3), nobodys(9, 1), rootOf(1, 0, "c"), fallen(2, 7, "old", 255),
		rootOf(2, 0, ""), rootOf(1, 1, "def"), fallen(1, 1, ""), rootOf(2, 1, "qrst"),
	}
}

func steppedBy(steps int, h impl.Heap) impl.Heap {
	h, _ = impl.SlideBegun(h)
	for range steps {
		h, _ = impl.SlideStep(h)
	}
	return h
}

// TestMakingAtEachStep has one thing, or none, freed after each step: below Low it stays till it is slid once more, which is when there is no room otherwise.
func TestMakingAtEachStep(t *testing.T) {
	for _, promised := range [][2]int64{{66, 19}, {28, 57}, {50, 35}, {69, 16}} {
		var counts [3]int
		for steps := range len(slidden()) + 1 {
			for fell := -1; fell < len(slidden()); fell++ {
				u := underWay{85, []impl.Tenant{{}, live(1, promised[0], 5), live(2, promised[1], 3), {}}, slidden(), slidden(), steps}
				h := steppedBy(steps, heapOf(85, u.tenants, u.was...))
				if fell >= 0 {
					p := u.was[fell]
					if !p.stands {
						continue
					}
					h = freed(h, p.owner, p.slot)
					u.tenants[p.owner].Table[p.slot].Gen = 1
					u.now[fell] = fallen(p.owner, p.slot, p.data, p.refs...)
				}
				for _, who := range []int64{1, 2} {
					checkMadeUnderWay(t, said("fell", promised[0], int64(steps), int64(fell), who), h, u, who, &counts)
				}
			}
		}
		if counts[0] < 100 || counts[1] < 100 || promised[0] != 50 && counts[2] < 10 {
			t.Errorf("promised %v: slid not at all, once, twice: %v", promised, counts)
		}
	}
}

// TestMakingAfterOneWent has another one come for whoever went after each step, and make all that it was promised.
func TestMakingAfterOneWent(t *testing.T) {
	var counts [3]int
	for _, promised := range [][2]int64{{69, 16}, {25, 60}, {28, 57}} {
		for steps := range len(slidden()) + 1 {
			for _, who := range []int64{1, 2} {
				what := said("went", promised[0], int64(steps), who)
				u := underWay{85, []impl.Tenant{{}, live(1, promised[0], 5), live(2, promised[1], 3), {}}, slidden(), slidden(), steps}
				h := steppedBy(steps, heapOf(85, u.tenants, u.was...))
				h = checkGone(t, what, h, who, impl.CdOk)
				h = checkEntered(t, what, h, who, promised[who-1], 2, impl.CdOk)
				u.tenants[who] = live(3, promised[who-1], 2)
				for i, p := range u.was {
					if p.owner == who {
						u.now[i] = nobodys(p.size(), int64(len(p.refs)))
					}
				}
				for maker := range int64(4) {
					checkMadeUnderWay(t, what, h, u, maker, &counts)
				}
			}
		}
	}
	if counts[0] < 100 || counts[1] < 100 || counts[2] < 100 {
		t.Errorf("slid not at all, once, twice: %v", counts)
	}
}

// TestMakingOneByOneUnderWay has each of two tenants make small things while it is slid step by step, till nothing is left to them.
func TestMakingOneByOneUnderWay(t *testing.T) {
	for first := range len(slidden()) + 1 {
		h := steppedBy(first, heapOf(85, []impl.Tenant{{}, live(1, 60, 16), live(2, 25, 16), {}}, slidden()...))
		for turn := int64(0); leftTo(h, 1) > 0 || leftTo(h, 2) > 0; turn++ {
			who := turn%2 + 1
			if leftTo(h, who) > 0 {
				h, _ = checkMade(t, said("one by one", int64(first), turn), h, costing(who, min(leftTo(h, who), 6+turn%3)), impl.CdOk)
			}
			if h.Sliding {
				h = checkStepped(t, said("one by one", int64(first), turn), h, impl.CdOk)
			}
		}
		h = checkAllGet(t, "one by one", h)
		if used := impl.UsedBy(h, 1) + impl.UsedBy(h, 2); used < 85-2*5 {
			t.Errorf("just %d bytes are used", used)
		}
	}
}

type refused struct {
	making making
	code   int64
}

// refusals are of heaps in which tenant 0 has 43 bytes and no slot left, tenant 1 is not Live, tenant 2 has 23 bytes and a slot left, and tenant 3 has just a slot.
func refusals() []refused {
	var list []refused
	for who := int64(-1); who <= 4; who++ {
		for _, x := range [][2]int64{{-1, 0}, {0, -1}, {201, 0}, {0, 7}, {201, 7}, {-1, -1}, {200, 7}, {201, 6}, {math.MaxInt64, math.MinInt64}} {
			list = append(list, refused{making{who, x[0], x[1]}, impl.CdBad})
		}
		for _, x := range [][2]int64{{0, 0}, {200, 6}} {
			switch who {
			case -1, 4:
				list = append(list, refused{making{who, x[0], x[1]}, impl.CdBad})
			case 1:
				list = append(list, refused{making{who, x[0], x[1]}, impl.CdNone})
			case 3:
				list = append(list, refused{making{who, x[0], x[1]}, impl.CdQuota})
			}
		}
	}
	return append(list, []refused{
		{making{0, 38, 0}, impl.CdQuota}, {making{0, 32, 6}, impl.CdQuota}, {making{0, 200, 6}, impl.CdQuota},
		{making{0, 37, 0}, impl.CdSlots}, {making{0, 31, 6}, impl.CdSlots}, {making{0, 0, 0}, impl.CdSlots},
		{making{2, 18, 0}, impl.CdQuota}, {making{2, 12, 6}, impl.CdQuota},
	}...)
}

// TestTheCodesOfMaking has the code named first, and a heap that is as it was: nothing is slid, room or not, and a slide under way stays where it is.
func TestTheCodesOfMaking(t *testing.T) {
	tenants := busyTenants()
	tenants[0].Table[3].Gen = 8
	for _, behind := range []int64{0, 6, 50, 68} {
		pieces := busyPieces()
		if behind > 0 {
			pieces = append(pieces, nobodys(behind, 0))
		}
		h := heapOf(128, tenants, pieces...)
		heaps := []impl.Heap{h}
		for steps := range len(pieces) + 2 {
			heaps = append(heaps, steppedBy(steps, h))
		}
		for i, x := range heaps {
			if sliding := i > 0 && i < len(heaps)-1; x.Sliding != sliding {
				t.Fatalf("heap %d: %s", i, heapShown(x))
			}
			for _, c := range refusals() {
				checkRefusal(t, said("refused", behind, int64(i)), x, c.making, c.code)
			}
			checkMade(t, said("not refused", behind, int64(i)), x, making{2, 17, 0}, impl.CdOk)
		}
	}
}

func TestStrangeNumbersForMaking(t *testing.T) {
	for _, h := range []impl.Heap{busyHeap(), slidingHeap(), newHeap(t, 64), heapOf(1024, fourTenants())} {
		for _, n := range farNumbers() {
			for _, m := range []making{{n, 1, 1}, {0, n, 1}, {0, 1, n}, {1, n, 0}, {1, 0, n}, {n, n, n}, {0, n, -n}, {0, -n, n}, {2, n, n}, {0, 6 - n, n - 6}} {
				checkMade(t, "strange", h, m, codeOfMaking(h, m))
			}
		}
	}
}

func TestStrangeFieldsOfMaking(t *testing.T) {
	withStrangeFields(func(what string, h impl.Heap) {
		for _, m := range []making{{0, 1, 1}, {2, 17, 0}} {
			checkMade(t, what, h, m, codeOfMaking(h, m))
		}
	})
}

// TestWrongHeapsMakeNothing has the zero Heap, CdBad and 0, whatever else would be told of the call.
func TestWrongHeapsMakeNothing(t *testing.T) {
	for _, c := range wrongHeaps() {
		for who := int64(-1); who <= 4; who++ {
			for _, x := range [][2]int64{{0, 0}, {17, 0}, {200, 6}, {201, 0}, {-1, 0}, {0, 7}, {math.MaxInt64, math.MaxInt64}} {
				got, number := checkMade(t, c.what, c.heap, making{who, x[0], x[1]}, impl.CdBad)
				checkAnswer(t, c.what, got, number, impl.Heap{}, 0)
			}
		}
	}
}

func TestMakingInRightHeaps(t *testing.T) {
	for _, c := range rightHeaps() {
		checkAllGet(t, c.what, c.heap)
		checkAllGet(t, c.what+", Sliding", begunIfNot(t, c.what, c.heap))
		for who := range int64(4) {
			for _, x := range [][2]int64{{0, 0}, {5, 2}, {200, 6}} {
				m := making{who, x[0], x[1]}
				checkMade(t, c.what, c.heap, m, codeOfMaking(c.heap, m))
			}
		}
	}
}

func TestDrawnMaking(t *testing.T) {
	var d drawn
	for range 300 {
		if h := drawnHeap(&d); impl.HeapOk(h) {
			checkAllGet(t, "drawn", h)
		}
	}
}

// tightHeap is of a floor that is promised whole to some, with a few slots each.
func tightHeap(d *drawn) impl.Heap {
	size := 64 + d.below(40)
	tenants, left := nobodyThere(), size
	for who := range 2 + d.below(3) {
		bytes := min(left, 10+d.below(50))
		if who == 3 {
			bytes = left
		}
		tenants[who] = live(who+1, bytes, d.below(6)+1)
		left -= bytes
	}
	return heapOf(size, tenants)
}

// drawnFreed frees one slot, where the heap is right without it.
func drawnFreed(d *drawn, h impl.Heap) impl.Heap {
	who := d.below(4)
	if !h.Tenants[who].Live {
		return h
	}
	x := freed(h, who, d.below(int64(len(h.Tenants[who].Table))))
	if _, is := toldOf(x); !is {
		return h
	}
	return x
}

// slidesTold is how many slides a making that is not refused has to have, by the words.
func slidesTold(h impl.Heap, m making) int64 {
	h = twin(h)
	for slides := int64(0); ; slides++ {
		if h.Top+m.cost() <= int64(len(h.Floor)) {
			return slides
		}
		doneTold(&h)
	}
}

// drawnMaking is now and then of all that is left, and now and then one that can't be.
func drawnMaking(d *drawn, h impl.Heap) making {
	who := d.below(4)
	left := leftTo(h, who)
	switch d.below(12) {
	case 0:
		return making{d.below(6) - 1, d.below(24), d.below(8)}
	case 1, 2, 3, 4, 5:
		if left > 0 {
			return costing(who, left)
		}
	}
	return making{who, d.below(12), d.below(4)}
}

// drawnTurn is one of all that is not a making; who comes is promised all that is left, now and then.
func drawnTurn(t *testing.T, d *drawn, h impl.Heap) impl.Heap {
	t.Helper()
	who := d.below(4)
	switch d.below(16) {
	case 0:
		_, code := goneTold(h, who)
		return checkGone(t, "drawn", h, who, code)
	case 1, 2:
		bytes := int64(len(h.Floor)) - promisedBytes(h.Tenants)
		if d.below(2) == 0 {
			bytes = 20 + d.below(20)
		}
		_, code := enteredTold(h, who, bytes, 4)
		return checkEntered(t, "drawn", h, who, bytes, 4, code)
	case 3, 4, 5:
		return begunIfNot(t, "drawn", h)
	case 6, 7, 8, 9:
		if h.Sliding {
			return checkStepped(t, "drawn", h, impl.CdOk)
		}
	}
	return drawnFreed(d, written(h, byte(d.below(200))))
}

// TestDrawnTurnsOfMaking has things made and let go of, tenants come and go, and slides begun and stepped, all on floors that are nearly full.
func TestDrawnTurnsOfMaking(t *testing.T) {
	var d drawn
	codes, slides := map[int64]int{}, map[int64]int{}
	for range 250 {
		h := tightHeap(&d)
		for range 60 {
			if d.below(2) == 0 {
				h = drawnTurn(t, &d, h)
				continue
			}
			m := drawnMaking(&d, h)
			code := codeOfMaking(h, m)
			codes[code]++
			if code == impl.CdOk {
				slides[slidesTold(h, m)]++
			}
			h, _ = checkMade(t, "drawn", h, m, code)
		}
		checkAllGet(t, "drawn", h)
	}
	checkOften(t, codes, 100, impl.CdOk, impl.CdBad, impl.CdNone, impl.CdQuota, impl.CdSlots)
	checkOften(t, slides, 10, 0, 1, 2)
}

func TestDrawnChangesAheadOfMaking(t *testing.T) {
	withDrawnChanges(t, 2000, func(d *drawn, h impl.Heap) {
		m := making{d.below(5), d.below(40), d.below(7)}
		checkMade(t, "drawn change", h, m, codeOfMaking(h, m))
	})
}

func TestMakingIsNew(t *testing.T) {
	heaps := append(rightHeaps(), wrongHeaps()...)
	for steps := range len(slidden()) + 1 {
		u := heapOf(85, []impl.Tenant{live(3, 10, 2), live(1, 56, 5), live(2, 19, 3), {}}, slidden()...)
		heaps = append(heaps, namedHeap{said("under way", int64(steps)), steppedBy(steps, u)})
	}
	for _, c := range heaps {
		h, args := withSpareHeap(c.heap)
		for _, m := range []making{{0, 0, 0}, {0, 4, 0}, {1, 25, 0}, {1, 10, 1}, {2, 17, 0}, {3, 0, 0}, {0, 200, 6}, {0, 201, 0}, {4, 0, 0}, {-1, math.MinInt64, math.MaxInt64}} {
			checkNewHeaps(t, c.what+said(": Made", m.who, m.n, m.refs), args, func() impl.Heap {
				got, _, _ := impl.Made(h, m.who, m.n, m.refs)
				return got
			})
		}
	}
}

// TestOneHeapMadeOfTwice has answers made of one heap: none shows what was done to the others.
func TestOneHeapMadeOfTwice(t *testing.T) {
	h := heapOf(128, wholeTenants(), scattered()...)
	var answers, wanted []impl.Heap
	for _, m := range []making{{0, 27, 0}, {0, 0, 0}, {0, 28, 0}, {2, 24, 0}, {3, 32, 0}, {1, 0, 0}} {
		got, _, _ := impl.Made(h, m.who, m.n, m.refs)
		again, _, _ := impl.Made(got, 3, 0, 1)
		answers, wanted = append(answers, got, again), append(wanted, twin(got), twin(again))
	}
	for i, x := range answers {
		checkAnswer(t, said("answer", int64(i)), x, 0, wanted[i], 0)
		markLists(x, int64(i))
		scribble(x.Tenants, func(impl.Tenant) impl.Tenant { return usedTenant() })
	}
	checkAnswer(t, "what they were made of", h, 0, heapOf(128, wholeTenants(), scattered()...), 0)
}
