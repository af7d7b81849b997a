package tests

import (
	"bytes"
	"math"
	"slices"
	"testing"

	"loop.example/g00750/impl"
)

// rootToldTo is written from the chapter's words, for Root to be so; the heap that came stays.
func rootToldTo(h impl.Heap, who, number int64, root bool) (impl.Heap, int64) {
	if _, is := toldOf(h); !is {
		return impl.Heap{}, impl.CdBad
	}
	slot, code := foundTold(h, who, number)
	h = twin(h)
	if code != impl.CdOk {
		return h, code
	}
	x := &h.Tenants[who]
	x.Table[slot].Root = root
	for _, lost := range lostTold(h, who) {
		x.Table, _ = freedTable(x.Table, lost)
	}
	return h, impl.CdOk
}

// goneWith are the slots that are lost when that one is let go, for where whoever asks can't tell beforehand.
func goneWith(h impl.Heap, who, number int64) []int64 {
	got, code := rootToldTo(h, who, number, false)
	if code != impl.CdOk {
		return nil
	}
	return freedFrom(h, got, who)
}

func codeOfHolding(h impl.Heap, who, number int64) int64 {
	_, code := foundTold(h, who, number)
	return code
}

// checkHeld is Rooted; nothing is ever lost by that.
func checkHeld(t *testing.T, what string, h impl.Heap, who, number, code int64) impl.Heap {
	t.Helper()
	what += said(": Rooted", who, number)
	call := func(h impl.Heap) (impl.Heap, int64) { return impl.Rooted(h, who, number) }
	told := func(h impl.Heap) (impl.Heap, int64) { return rootToldTo(h, who, number, true) }
	got := checkChange(t, what, h, code, call, told)
	if code == impl.CdOk {
		checkRootIs(t, what, got, h, who, number, true, nil)
	}
	return got
}

// checkLetGo is Unrooted. It takes from whoever asks which slots are freed by it; the words have to tell the same.
func checkLetGo(t *testing.T, what string, h impl.Heap, who, number, code int64, lost ...int64) impl.Heap {
	t.Helper()
	what += said(": Unrooted", who, number)
	call := func(h impl.Heap) (impl.Heap, int64) { return impl.Unrooted(h, who, number) }
	told := func(h impl.Heap) (impl.Heap, int64) { return rootToldTo(h, who, number, false) }
	got := checkChange(t, what, h, code, call, told)
	if told := goneWith(h, who, number); !slices.Equal(told, lost) {
		t.Errorf("%s: want %v lost, by the words %v: %s", what, lost, told, heapShown(h))
	}
	if code == impl.CdOk {
		checkRootIs(t, what, got, h, who, number, false, lost)
	}
	return got
}

// checkRootIs is promise 13, and that just the Table of that tenant is otherwise: in it Root of that slot, and the slots that are lost.
func checkRootIs(t *testing.T, what string, h, was impl.Heap, who, number int64, root bool, lost []int64) {
	t.Helper()
	checkRightHeap(t, what, h)
	want := twin(was)
	want.Tenants[who].Table = h.Tenants[who].Table
	checkAnswer(t, what+": all but the Table", h, 0, want, 0)
	checkOthersKnow(t, what, h, was, who)
	checkBlocks(t, what, h, impl.BlocksOf(was))
	want.Tenants[who].Table = slices.Clone(was.Tenants[who].Table)
	want.Tenants[who].Table[number%16].Root = root
	checkLostOf(t, what, h, want, who, lost)
	used := impl.UsedBy(was, who)
	for slot, s := range was.Tenants[who].Table {
		switch {
		case slices.Contains(lost, int64(slot)):
			refs, data := partsTold(was, who, int64(slot))
			used -= int64(6 + len(refs) + len(data))
		case s.Used:
			checkStays(t, what, h, was, who, int64(slot))
		}
	}
	checkUsedBy(t, what, h, who, used)
}

// checkStays tells that one that is not lost is good for what it was: its number, its data, and what it refers to.
func checkStays(t *testing.T, what string, h, was impl.Heap, who, slot int64) {
	t.Helper()
	x, number := h.Tenants[who], numberFor(was, who, slot)
	if got := impl.LookedUp(x.Table, x.Tag, number); got != slot {
		t.Errorf("%s: %d is for slot %d, was for %d", what, number, got, slot)
	}
	refs, data := partsTold(was, who, slot)
	if got, code := impl.ReadAt(h, who, number, 0, int64(len(data))); code != impl.CdOk || !bytes.Equal(got, data) {
		t.Errorf("%s: %d reads %v, code %d, read %v", what, number, got, code, data)
	}
	for i, ref := range refs {
		want := int64(0)
		if ref > 0 {
			want = numberFor(was, who, int64(ref)-1)
		}
		if got, code := impl.RefAt(h, who, number, int64(i)); code != impl.CdOk || got != want {
			t.Errorf("%s: %d refers at %d to %d, code %d, referred to %d", what, number, i, got, code, want)
		}
	}
}

// checkBothWays holds one thing and lets it go, each of what comes of that, too, whatever the words tell of it.
func checkBothWays(t *testing.T, what string, h impl.Heap, who, number int64) {
	t.Helper()
	code := codeOfHolding(h, who, number)
	lost := goneWith(h, who, number)
	held := checkHeld(t, what, h, who, number, code)
	gone := checkLetGo(t, what, h, who, number, code, lost...)
	if code != impl.CdOk {
		return
	}
	checkAnswer(t, what+": held twice", checkHeld(t, what, held, who, number, impl.CdOk), 0, held, 0)
	checkAnswer(t, what+": held, then let go", checkLetGo(t, what, held, who, number, impl.CdOk, lost...), 0, gone, 0)
	if slices.Contains(lost, number%16) {
		checkHeld(t, what+": lost", gone, who, number, impl.CdTicket)
		checkLetGo(t, what+": lost", gone, who, number, impl.CdTicket)
		return
	}
	checkAnswer(t, what+": let go twice", checkLetGo(t, what, gone, who, number, impl.CdOk), 0, gone, 0)
	checkHeld(t, what+": let go, then held", gone, who, number, impl.CdOk)
}

// checkAllBothWays leaves some out where there are many.
func checkAllBothWays(t *testing.T, what string, h impl.Heap) {
	t.Helper()
	list := thingsIn(h)
	for i := 0; i < len(list); i += 1 + len(list)/24 {
		checkBothWays(t, what, h, list[i].who, list[i].number)
	}
}

// TestHoldingByteByByte is written down: each number, and the slots after each of the calls.
func TestHoldingByteByByte(t *testing.T) {
	// Tenant 0 has 496, which is Root, and 385, which is not; they refer to each other. Tenant 2 has 1025, and 1026, which refers to itself.
	for _, h := range []impl.Heap{busyHeap(), slidingHeap()} {
		floor := slices.Clone(h.Floor)
		far := h.High - h.Low
		first, second := impl.Slot{Used: true, Root: true, Gen: 7}, impl.Slot{Used: true, At: 19}
		third, fourth := impl.Slot{Used: true, Root: true, At: 10}, impl.Slot{Used: true, Root: true, At: 46 + far}
		check := func(zero, one, two, three impl.Slot, used, usedByTwo int64) {
			t.Helper()
			want := []impl.Slot{zero, one, {Gen: 8}, {}}
			if !slices.Equal(h.Tenants[0].Table, want) || !slices.Equal(h.Tenants[2].Table, []impl.Slot{{}, two, three}) {
				t.Errorf("byte by byte: %s", heapShown(h))
			}
			checkBytes(t, "byte by byte", h.Floor, true, floor, true)
			checkUsedBy(t, "byte by byte", h, 0, used)
			checkUsedBy(t, "byte by byte", h, 2, usedByTwo)
		}
		check(first, second, third, fourth, 17, 17)
		h = checkHeld(t, "byte by byte", h, 0, 385, impl.CdOk)
		second.Root = true
		check(first, second, third, fourth, 17, 17)
		h = checkLetGo(t, "byte by byte", h, 0, 496, impl.CdOk)
		first.Root = false
		check(first, second, third, fourth, 17, 17)
		h = checkLetGo(t, "byte by byte", h, 2, 1026, impl.CdOk, 2)
		check(first, second, third, impl.Slot{Gen: 1}, 17, 9)
		h = checkLetGo(t, "byte by byte", h, 0, 385, impl.CdOk, 0, 1)
		check(impl.Slot{Gen: 8}, impl.Slot{Gen: 1}, third, impl.Slot{Gen: 1}, 0, 9)
		h = checkLetGo(t, "byte by byte", h, 2, 1025, impl.CdOk, 1)
		check(impl.Slot{Gen: 8}, impl.Slot{Gen: 1}, impl.Slot{Gen: 1}, impl.Slot{Gen: 1}, 0, 0)
	}
}

// TestHoldingInTurns has the things of several tenants let go in turn, three times: what stays is held again each time, then some of it, then nothing.
func TestHoldingInTurns(t *testing.T) {
	for _, h := range []impl.Heap{mixedHeap(), mixedHeap(gapOf(0)), mixedHeap(gapOf(20))} {
		all := thingsIn(h)
		slices.SortFunc(all, func(a, b thing) int { return int(a.slot*4 + a.who - b.slot*4 - b.who) })
		stayed, went := 0, 0
		for turn := range int64(3) {
			for _, x := range all {
				what := said("in turns", turn)
				code := codeOfHolding(h, x.who, x.number)
				lost := goneWith(h, x.who, x.number)
				h = checkLetGo(t, what, h, x.who, x.number, code, lost...)
				went += len(lost)
				if code = codeOfHolding(h, x.who, x.number); code == impl.CdOk {
					stayed++
				}
				if turn == 0 || turn == 1 && x.slot%2 == 0 {
					h = checkHeld(t, what, h, x.who, x.number, code)
				}
			}
		}
		if stayed < 40 || went != 21 || len(thingsIn(h)) > 0 {
			t.Errorf("%d stayed when they were let go, %d went: %s", stayed, went, heapShown(h))
		}
	}
}

// TestNothingIsOtherwise has what is Root held again, and what is not let go again.
func TestNothingIsOtherwise(t *testing.T) {
	root, not := 0, 0
	heaps := append(rightHeaps(), namedHeap{"mixed", mixedHeap()}, namedHeap{"slid", slidTouched()})
	for _, c := range losings() {
		heaps = append(heaps, oneHeap(c.what, 5, c.pieces...))
	}
	for _, c := range heaps {
		for _, x := range thingsIn(c.heap) {
			got := impl.Heap{}
			if c.heap.Tenants[x.who].Table[x.slot].Root {
				got = checkHeld(t, c.what, c.heap, x.who, x.number, impl.CdOk)
				root++
			} else {
				got = checkLetGo(t, c.what, c.heap, x.who, x.number, impl.CdOk)
				not++
			}
			checkAnswer(t, c.what, got, 0, c.heap, 0)
		}
	}
	if root < 100 || not < 40 {
		t.Errorf("just %d were Root, and %d were not", root, not)
	}
}

// letting is what is lost of one tenant's things when that slot is let go.
type letting struct {
	what   string
	pieces []piece
	slot   int64
	lost   []int64
}

func lettings() []letting {
	root, held := rootOf, heldOf
	return []letting{
		{"nothing, as it was not Root", []piece{root(0, 0, "", 2), held(0, 1, "a")}, 1, nil},
		{"nothing, as one that is rooted refers to it", []piece{root(0, 0, "", 2), root(0, 1, "a")}, 1, nil},
		{"nothing, as one refers to it with the last of its refs", []piece{root(0, 0, "", 0, 1, 0, 1, 0, 2), root(0, 1, "a")}, 1, nil},
		{"nothing, as two refer to it", []piece{root(0, 0, "", 2), root(0, 1, "a"), root(0, 2, "", 2, 2)}, 1, nil},
		{"nothing, as one refers to it that a rooted one refers to", []piece{root(0, 0, "", 3), root(0, 1, "a"), held(0, 2, "", 2)}, 1, nil},
		{"nothing, as it is at the end of a chain", []piece{root(0, 4, "", 4), held(0, 3, "", 3), held(0, 2, "", 2), held(0, 1, "", 1), root(0, 0, "a")}, 0, nil},
		{"nothing, as it is in the middle of a chain", []piece{root(0, 0, "", 2), held(0, 1, "", 3), root(0, 2, "", 4), held(0, 3, "", 5), held(0, 4, "")}, 2, nil},
		{"nothing, as it is in a ring that is rooted elsewhere", []piece{root(0, 0, "", 2), root(0, 1, "", 3), held(0, 2, "", 1)}, 0, nil},
		{"nothing, as a ring that it is not in refers to it", []piece{root(0, 0, "", 2), held(0, 1, "", 1, 3), root(0, 2, "")}, 2, nil},
		{"nothing, as what it refers to is rooted and refers to it", []piece{root(0, 0, "", 2), root(0, 1, "", 1)}, 0, nil},
		{"nothing, with all that it holds", []piece{root(0, 0, "", 2), root(0, 1, "", 3, 4), held(0, 2, "", 5), held(0, 3, ""), held(0, 4, "", 3)}, 1, nil},
		{"it alone", []piece{root(0, 0, "abc")}, 0, []int64{0}},
		{"it alone, with refs to nothing", []piece{root(0, 0, "", 0, 0, 0, 0, 0, 0)}, 0, []int64{0}},
		{"it alone, beside another one", []piece{root(0, 0, "a"), root(0, 1, "b")}, 0, []int64{0}},
		{"it alone, the other way round", []piece{root(0, 0, "a"), root(0, 1, "b")}, 1, []int64{1}},
		{"it alone, which refers to itself", []piece{root(0, 0, "", 1)}, 0, []int64{0}},
		{"it alone, which refers to itself six times", []piece{root(0, 3, "a", 4, 4, 4, 4, 4, 4)}, 3, []int64{3}},
		{"it alone, as what it refers to is rooted", []piece{root(0, 0, "", 2), root(0, 1, "a")}, 0, []int64{0}},
		{"it alone, as what it refers to is referred to", []piece{root(0, 0, "", 2), held(0, 1, "a", 3), held(0, 2, ""), root(0, 3, "", 2)}, 0, []int64{0}},
		{"it alone, as what it refers to is in a ring with another one", []piece{root(0, 0, "", 2), held(0, 1, "", 3), root(0, 2, "", 2)}, 0, []int64{0}},
		{"it alone, though what does not stand refers to it", []piece{root(0, 0, "a"), fallen(0, 1, "", 1), fallen(0, 0, "", 1), root(0, 1, "b")}, 0, []int64{0}},
		{"one thing with it", []piece{root(0, 0, "", 2), held(0, 1, "a")}, 0, []int64{0, 1}},
		{"one thing with it, to which it refers with its last ref", []piece{root(0, 1, "", 0, 0, 2, 0, 0, 1), held(0, 0, "a")}, 1, []int64{0, 1}},
		{"one thing with it, that refers to itself", []piece{root(0, 0, "", 2), held(0, 1, "a", 2)}, 0, []int64{0, 1}},
		{"one thing with it, that refers to what is rooted", []piece{root(0, 0, "", 2), held(0, 1, "a", 3), root(0, 2, "", 4), held(0, 3, "b")}, 0, []int64{0, 1}},
		{"each thing that it refers to", []piece{held(0, 0, ""), held(0, 1, ""), root(0, 2, "", 1, 2, 4, 5), held(0, 3, ""), held(0, 4, "")}, 2, []int64{0, 1, 2, 3, 4}},
		{"a chain with it", []piece{root(0, 0, "", 2), held(0, 1, "", 3), held(0, 2, "", 4), held(0, 3, "")}, 0, []int64{0, 1, 2, 3}},
		{"a chain with it, against the slots", []piece{root(0, 3, "", 3), held(0, 2, "", 2), held(0, 1, "", 1), held(0, 0, "")}, 3, []int64{0, 1, 2, 3}},
		{"a chain, but for its end, which is rooted", []piece{root(0, 0, "", 2), held(0, 1, "", 3), held(0, 2, "", 4), root(0, 3, "")}, 0, []int64{0, 1, 2}},
		{"a chain, but for its end, to which another one refers", []piece{root(0, 0, "", 2), held(0, 1, "", 3), held(0, 2, "", 4), held(0, 3, ""), root(0, 4, "", 4)}, 0, []int64{0, 1, 2}},
		{"a chain, but for all from one on that is rooted", []piece{root(0, 0, "", 2), held(0, 1, "", 3), root(0, 2, "", 4), held(0, 3, "", 5), held(0, 4, "")}, 0, []int64{0, 1}},
		{"what two of the lost refer to", []piece{root(0, 0, "", 2, 3), held(0, 1, "", 4), held(0, 2, "", 4), held(0, 3, "a")}, 0, []int64{0, 1, 2, 3}},
		{"two of the lost, but for what both refer to, which is rooted", []piece{root(0, 0, "", 2, 3), held(0, 1, "", 4), held(0, 2, "", 4), root(0, 3, "a")}, 0, []int64{0, 1, 2}},
		{"two of the lost, but for what both refer to, and another one", []piece{root(0, 0, "", 2, 3), held(0, 1, "", 4), held(0, 2, "", 4), held(0, 3, "a"), root(0, 4, "", 4)}, 0, []int64{0, 1, 2}},
		{"one of two that refer to it", []piece{root(0, 0, "", 3), root(0, 1, "", 3), held(0, 2, "a")}, 1, []int64{1}},
		{"a ring of two", []piece{root(0, 0, "", 2), held(0, 1, "", 1)}, 0, []int64{0, 1}},
		{"a ring of three, by the one in the middle", []piece{held(0, 0, "", 2), root(0, 1, "", 3), held(0, 2, "", 1)}, 1, []int64{0, 1, 2}},
		{"a ring of five, against the slots", []piece{held(0, 4, "", 4), held(0, 3, "", 3), held(0, 2, "", 2), held(0, 1, "", 1), root(0, 0, "", 5)}, 0, []int64{0, 1, 2, 3, 4}},
		{"two rings that it is in", []piece{root(0, 0, "", 2, 3), held(0, 1, "", 1), held(0, 2, "", 4), held(0, 3, "", 1)}, 0, []int64{0, 1, 2, 3}},
		{"a ring that it refers to", []piece{root(0, 0, "", 2), held(0, 1, "", 3), held(0, 2, "", 4), held(0, 3, "", 2)}, 0, []int64{0, 1, 2, 3}},
		{"a ring with what hangs on it", []piece{root(0, 0, "", 2), held(0, 1, "", 1, 3), held(0, 2, "", 4), held(0, 3, "")}, 0, []int64{0, 1, 2, 3}},
		{"a ring with what hangs on it, but for what is rooted", []piece{root(0, 0, "", 2), held(0, 1, "", 1, 3), root(0, 2, "", 4), held(0, 3, "")}, 0, []int64{0, 1}},
		{"it alone, as the ring that it refers to is rooted", []piece{root(0, 0, "", 2), held(0, 1, "", 3), root(0, 2, "", 2)}, 0, []int64{0}},
		{"a ring that refers to one that is rooted and in a ring", []piece{root(0, 0, "", 2), held(0, 1, "", 1, 3), root(0, 2, "", 4), held(0, 3, "", 3)}, 0, []int64{0, 1}},
	}
}

// TestWhatIsLetGo has for each letting other things of that tenant and of others about, which stay, with a gap or not.
func TestWhatIsLetGo(t *testing.T) {
	for _, c := range lettings() {
		for gap := range len(c.pieces) + 2 {
			tenants := []impl.Tenant{live(9, 90, 7), {}, live(4, 60, 5), {}}
			for slot := range int64(5) {
				tenants[0].Table[slot].Gen = slot
			}
			// Those of the other tenant refer to slots that have the numbers of those that are lost.
			pieces := append(slices.Clone(c.pieces), heldOf(2, 0, "its", 2), rootOf(2, 1, "", 1, 2), fallen(0, 5, "old", 1, 2), rootOf(0, 6, "more", 7), nobodys(9, 0))
			if gap <= len(c.pieces) {
				pieces = slices.Insert(pieces, gap, gapOf(int64(gap)*3))
			}
			h := heapOf(256, tenants, pieces...)
			number := numberFor(h, 0, c.slot)
			got := checkLetGo(t, c.what, h, 0, number, impl.CdOk, c.lost...)
			if !slices.Contains(c.lost, c.slot) && got.Tenants[0].Table[c.slot].Root {
				t.Errorf("%s: still Root: %s", c.what, heapShown(got))
			}
			checkBothWays(t, c.what, h, 0, number)
		}
	}
}

// TestLetGoThoughNothingIsLostElsewhere has each of four tenants hold the same, and each of them let it go: what the others have stays.
func TestLetGoThoughNothingIsLostElsewhere(t *testing.T) {
	for _, c := range lettings() {
		var pieces []piece
		for _, p := range c.pieces {
			for who := range int64(4) {
				p.owner = who
				pieces = append(pieces, p)
			}
		}
		h := heapOf(1024, fourTenants(), pieces...)
		for _, who := range []int64{2, 0, 3, 1} {
			h = checkLetGo(t, c.what, h, who, numberFor(h, who, c.slot), impl.CdOk, c.lost...)
		}
	}
}

// TestLetGoOfEachGen has what is let go and what goes with it be of each Gen there is; of the last one, the slot is worn out.
func TestLetGoOfEachGen(t *testing.T) {
	for first := range int64(8) {
		for second := range int64(8) {
			what := said("gens", first, second)
			tenants := one(3)
			tenants[0].Table[1].Gen, tenants[0].Table[2].Gen = first, second
			h := heapOf(128, tenants, rootOf(0, 0, "", 0), rootOf(0, 1, "ab", 3), heldOf(0, 2, "c"))
			h = checkLetGo(t, what, h, 0, (8+first)*16+1, impl.CdOk, 1, 2)
			if table := h.Tenants[0].Table; table[1] != (impl.Slot{Gen: first + 1}) || table[2] != (impl.Slot{Gen: second + 1}) {
				t.Errorf("%s: %s", what, tableShown(table))
			}
			for gen := range int64(8) {
				for slot := int64(1); slot < 3; slot++ {
					checkGoodForNothing(t, what, h, 0, (8+gen)*16+slot)
				}
			}
			checkLostSlots(t, what, h)
		}
	}
}

// TestAllSlotsWornOut has something made and let go till each slot of a table is worn out; no number is ever given twice.
func TestAllSlotsWornOut(t *testing.T) {
	for _, slots := range []int64{1, 2, 5, 16} {
		h := checkEntered(t, "worn out", newHeap(t, 64), 3, 40, slots, impl.CdOk)
		numbers := map[int64]bool{}
		for turn := range slots * 8 {
			var number int64
			h, number = checkMade(t, said("turn", turn), h, making{3, turn % 5, turn % 3}, impl.CdOk)
			if numbers[number] || number != (8+turn%8)*16+turn/8 {
				t.Errorf("turn %d: the number %d", turn, number)
			}
			numbers[number] = true
			h = checkLetGo(t, said("turn", turn), h, 3, number, impl.CdOk, turn/8)
			checkUsedBy(t, said("turn", turn), h, 3, 0)
		}
		if !slices.Equal(h.Tenants[3].Table, slices.Repeat([]impl.Slot{{Gen: 8}}, int(slots))) {
			t.Errorf("worn out: %s", heapShown(h))
		}
		checkRefusal(t, "worn out", h, making{3, 0, 0}, impl.CdSlots)
		for number := range numbers {
			checkGoodForNothing(t, "worn out", h, 3, number)
		}
	}
}

// TestManySlotsWornOut has tables in which each other slot, or all but one, is worn out already.
func TestManySlotsWornOut(t *testing.T) {
	for pattern := range int64(1 << 5) {
		tenants := one(5)
		var pieces []piece
		for slot := range int64(5) {
			tenants[0].Table[slot].Gen = 8
			if pattern>>slot&1 == 1 {
				tenants[0].Table[slot].Gen = 7 - slot%2
				pieces = append(pieces, rootOf(0, slot, "w", byte(slot+1)))
			}
		}
		h := heapOf(128, tenants, append(pieces, fallen(0, 1, "worn"))...)
		checkAllBothWays(t, said("many worn out", pattern), h)
		for slot := range int64(5) {
			for gen := range int64(9) {
				checkBothWays(t, said("many worn out", pattern), h, 0, (8+gen)*16+slot)
			}
		}
		for _, x := range thingsIn(h) {
			h = checkLetGo(t, said("many worn out", pattern), h, 0, x.number, impl.CdOk, x.slot)
		}
	}
}

// TestHeldAheadOfWhatHeldIt has something that is not Root be held, and then that let go by which it was held before: it stays, with all that it refers to.
func TestHeldAheadOfWhatHeldIt(t *testing.T) {
	for _, c := range []struct {
		what        string
		pieces      []piece
		slot, letGo int64
		lost, left  []int64
	}{
		{"one thing", []piece{rootOf(0, 0, "", 2), heldOf(0, 1, "a")}, 1, 0, []int64{0}, []int64{1}},
		{"one that refers to itself", []piece{rootOf(0, 0, "", 2), heldOf(0, 1, "a", 2)}, 1, 0, []int64{0}, []int64{1}},
		{"one that refers to what held it", []piece{rootOf(0, 0, "", 2), heldOf(0, 1, "a", 1)}, 1, 0, nil, []int64{0, 1}},
		{"a chain from it on", []piece{rootOf(0, 0, "", 2), heldOf(0, 1, "", 3), heldOf(0, 2, "", 4), heldOf(0, 3, "")}, 1, 0, []int64{0}, []int64{1, 2, 3}},
		{"the end of a chain", []piece{rootOf(0, 3, "", 3), heldOf(0, 2, "", 2), heldOf(0, 1, "", 1), heldOf(0, 0, "z")}, 0, 3, []int64{1, 2, 3}, []int64{0}},
		{"the middle of a chain", []piece{rootOf(0, 0, "", 2), heldOf(0, 1, "", 3), heldOf(0, 2, "", 4), heldOf(0, 3, "")}, 2, 0, []int64{0, 1}, []int64{2, 3}},
		{"a ring", []piece{rootOf(0, 0, "", 2), heldOf(0, 1, "", 3), heldOf(0, 2, "", 4), heldOf(0, 3, "", 2)}, 3, 0, []int64{0}, []int64{1, 2, 3}},
		{"a ring with what held it", []piece{rootOf(0, 0, "", 2), heldOf(0, 1, "", 3), heldOf(0, 2, "", 1)}, 2, 0, nil, []int64{0, 1, 2}},
		{"one of two", []piece{rootOf(0, 0, "", 2, 3), heldOf(0, 1, "a"), heldOf(0, 2, "b")}, 1, 0, []int64{0, 2}, []int64{1}},
		{"what two of the lost refer to", []piece{rootOf(0, 0, "", 2, 3), heldOf(0, 1, "", 4), heldOf(0, 2, "", 4), heldOf(0, 3, "z", 0)}, 3, 0, []int64{0, 1, 2}, []int64{3}},
	} {
		for gap := range len(c.pieces) + 1 {
			h := heapOf(128, one(4), slices.Insert(slices.Clone(c.pieces), gap, gapOf(9))...)
			was := impl.UsedBy(h, 0)
			h = checkHeld(t, c.what, h, 0, 128+c.slot, impl.CdOk)
			checkUsedBy(t, c.what, h, 0, was)
			h = checkLetGo(t, c.what, h, 0, 128+c.letGo, impl.CdOk, c.lost...)
			var left []int64
			for _, x := range thingsIn(h) {
				left = append(left, x.slot)
			}
			if !slices.Equal(left, c.left) {
				t.Errorf("%s: %v are left, want %v", c.what, left, c.left)
			}
			h = checkLetGo(t, c.what, h, 0, 128+c.slot, impl.CdOk, c.left...)
			checkUsedBy(t, c.what, h, 0, 0)
		}
	}
}

// ordersOf are all orders of the numbers from 0 to below n.
func ordersOf(n int64) [][]int64 {
	orders := [][]int64{{}}
	for next := range n {
		var longer [][]int64
		for _, order := range orders {
			for at := range len(order) + 1 {
				longer = append(longer, slices.Insert(slices.Clone(order), at, next))
			}
		}
		orders = longer
	}
	return orders
}

// TestEachOrderOfLettingGo lets go one thing of a web after the other, in each order, be it Root or not, till nothing is left.
func TestEachOrderOfLettingGo(t *testing.T) {
	for i, pieces := range [][]piece{
		{rootOf(0, 0, "a"), rootOf(0, 1, "bc"), rootOf(0, 2, "def"), rootOf(0, 3, ""), rootOf(0, 4, "g")},
		{rootOf(0, 0, "", 2), rootOf(0, 1, "", 3), rootOf(0, 2, "", 4), rootOf(0, 3, "", 5), rootOf(0, 4, "")},
		{rootOf(0, 0, "a", 2), rootOf(0, 1, "", 3), rootOf(0, 2, "bc", 4), rootOf(0, 3, "", 5), rootOf(0, 4, "d", 1)},
		{rootOf(0, 0, "", 2, 3, 4, 5), rootOf(0, 1, "b"), heldOf(0, 2, "c"), rootOf(0, 3, "", 4), heldOf(0, 4, "", 3)},
		{heldOf(0, 0, "", 2), rootOf(0, 1, "b", 1), rootOf(0, 2, "", 5, 4), heldOf(0, 3, "d", 4), rootOf(0, 4, "", 4, 1)},
	} {
		h := heapOf(128, one(5), slices.Insert(slices.Clone(pieces), i%4, gapOf(int64(i)*5))...)
		for _, order := range ordersOf(5) {
			left := h
			for _, slot := range order {
				code := codeOfHolding(left, 0, 128+slot)
				left = checkLetGo(t, said("in order", order...), left, 0, 128+slot, code, goneWith(left, 0, 128+slot)...)
			}
			want := twin(h)
			want.Tenants[0].Table = slices.Repeat([]impl.Slot{{Gen: 1}}, 5)
			checkAnswer(t, said("in order", order...), left, 0, want, 0)
			checkUsedBy(t, said("in order", order...), left, 0, 0)
			checkWebIn(t, said("in order", order...), left, 0, make([]impl.Knot, 5))
		}
	}
}

// TestUsedByIsLess is written down for a ring of four with something that hangs on it, which are let go one after the other.
func TestUsedByIsLess(t *testing.T) {
	pieces := []piece{rootOf(0, 0, "", 2), rootOf(0, 1, "ab", 3), rootOf(0, 2, "", 4, 5), rootOf(0, 3, "c", 1), rootOf(0, 4, "defgh")}
	for _, c := range []struct {
		order []int64
		used  []int64
	}{
		{[]int64{0, 1, 2, 3, 4}, []int64{43, 43, 43, 11, 0}}, {[]int64{4, 3, 2, 1, 0}, []int64{43, 43, 43, 43, 0}},
		{[]int64{3, 0, 4, 2, 1}, []int64{43, 43, 43, 43, 0}}, {[]int64{2, 1, 3, 0, 4}, []int64{43, 43, 43, 11, 0}},
	} {
		h := heapOf(128, one(5), pieces...)
		checkUsedBy(t, "ahead of all", h, 0, 43)
		for i, slot := range c.order {
			h, _ = impl.Unrooted(h, 0, 128+slot)
			checkUsedBy(t, said("in order", c.order...), h, 0, c.used[i])
		}
	}
}

// TestEverySmallWebIsLetGo has all webs of three things with one ref each, and of two with two refs each, that are right.
func TestEverySmallWebIsLetGo(t *testing.T) {
	for _, c := range [][2]int64{{3, 1}, {2, 2}} {
		right, lost := 0, 0
		withSmallWebs(c[0], c[1], func(web int64, h impl.Heap) {
			right++
			for slot := range c[0] {
				checkBothWays(t, said("small web", web), h, 0, 128+slot)
				lost += len(goneWith(h, 0, 128+slot))
			}
		})
		if right < 100 || lost < 100 {
			t.Errorf("just %d are right, and just %d things were lost", right, lost)
		}
	}
}

// TestWhatIsLetGoIsLeftToIt is promise 11 of what was let go: there is as much more left as that had, and the next who makes something gets it.
func TestWhatIsLetGoIsLeftToIt(t *testing.T) {
	for _, c := range lettings() {
		pieces := append(slices.Clone(c.pieces), rootOf(2, 0, "other"), nobodys(9, 0))
		all := int64(0)
		for _, p := range c.pieces {
			if p.stands {
				all += p.size()
			}
		}
		tenants := []impl.Tenant{live(9, all, 5), {}, live(4, 128-all, 5), {}}
		for gap := range 3 {
			h := heapOf(128, tenants, slices.Insert(slices.Clone(pieces), gap%len(pieces), gapOf(int64(gap)*2))...)
			h = checkLetGo(t, c.what, h, 0, numberFor(h, 0, c.slot), impl.CdOk, c.lost...)
			if want := all - impl.UsedBy(h, 0); len(c.lost) > 0 && leftTo(h, 0) != want {
				t.Errorf("%s: %d are left, want %d", c.what, leftTo(h, 0), want)
			}
			checkAllGet(t, c.what, h)
		}
	}
}

func TestHoldingWithNumbersThatAreGoodForNothing(t *testing.T) {
	for _, h := range []impl.Heap{busyHeap(), slidingHeap()} {
		for _, number := range append(badNumbers(), 0) {
			checkAnswer(t, "good for nothing", checkHeld(t, "good for nothing", h, 0, number, impl.CdTicket), 0, h, 0)
			checkAnswer(t, "good for nothing", checkLetGo(t, "good for nothing", h, 0, number, impl.CdTicket), 0, h, 0)
		}
	}
}

// TestTheCodesOfHolding has each of what a code may be of be so or not, in all ways together.
func TestTheCodesOfHolding(t *testing.T) {
	codes := map[int64]int{}
	for _, h := range []impl.Heap{busyHeap(), slidingHeap()} {
		for _, who := range []int64{math.MinInt64, -4, -1, 4, 5, math.MaxInt64, 1, 3, 2, 0} {
			for _, number := range []int64{496, 385, 1025, 1026, 480, 387, 1024, 640, 0, 1, -1, -496, 12800128, math.MaxInt64, math.MinInt64} {
				his := who == 0 && (number == 496 || number == 385) || who == 2 && (number == 1025 || number == 1026)
				code := firstOf(who < 0 || who > 3, who == 1, !his, false, false)
				checkHeld(t, "codes", h, who, number, code)
				checkLetGo(t, "codes", h, who, number, code, goneWith(h, who, number)...)
				codes[code]++
			}
		}
	}
	checkOften(t, codes, 8, impl.CdOk, impl.CdBad, impl.CdNone, impl.CdTicket)
}

// TestHoldingWhatIsOfOthers has four tenants with things in the same slots: no number is good for another one.
func TestHoldingWhatIsOfOthers(t *testing.T) {
	var pieces []piece
	for slot := range int64(3) {
		for who := range int64(4) {
			pieces = append(pieces, rootOf(who, slot, said("", who, slot), byte(slot)))
		}
	}
	h := heapOf(1024, fourTenants(), pieces...)
	for _, x := range thingsIn(h) {
		for who := range int64(4) {
			if who == x.who {
				checkBothWays(t, "own", h, who, x.number)
				continue
			}
			checkHeld(t, "another's", h, who, x.number, impl.CdTicket)
			checkLetGo(t, "another's", h, who, x.number, impl.CdTicket)
		}
	}
}

// TestHoldingWhatIsOfWhoWent has one go and another one come in its place, with things in the same slots; neither holds what is the other's.
func TestHoldingWhatIsOfWhoWent(t *testing.T) {
	for _, h := range []impl.Heap{busyHeap(), slidingHeap()} {
		old := []int64{496, 385}
		h = checkGone(t, "went", h, 0, impl.CdOk)
		for _, number := range append(badNumbers(), 496, 385, 0) {
			checkHeld(t, "went", h, 0, number, impl.CdNone)
			checkLetGo(t, "went", h, 0, number, impl.CdNone)
		}
		h = checkEntered(t, "came", h, 0, 60, 4, impl.CdOk)
		checkHeld(t, "came, with nothing", h, 0, 496, impl.CdTicket)
		checkLetGo(t, "came, with nothing", h, 0, 1152, impl.CdTicket)
		var own []int64
		for range 2 {
			var number int64
			h, number = checkMade(t, "came", h, making{0, 2, 2}, impl.CdOk)
			own = append(own, number)
		}
		for i, number := range old {
			checkGoodForNothing(t, "came", h, 0, number)
			checkGoodForNothing(t, "of another one", h, 2, number)
			checkBothWays(t, "came", h, 0, own[i])
		}
		checkLetGo(t, "came", checkLetGo(t, "came", h, 0, own[0], impl.CdOk, 0), 0, own[1], impl.CdOk, 1)
	}
}

// TestHoldingAtEachStep tells that what is held and what is lost does not hang on how far the slide is, nor the slide on that.
func TestHoldingAtEachStep(t *testing.T) {
	still := slidTouched()
	still.Tenants[1].Table[3].Root = true
	below, behind, both := 0, 0, 0
	for steps := range len(impl.BlocksOf(still)) + 2 {
		h := steppedBy(steps, still)
		what := said("step", int64(steps))
		for _, x := range thingsIn(still) {
			want := checkHeld(t, what, still, x.who, x.number, impl.CdOk)
			checkGoesOn(t, what, checkHeld(t, what, h, x.who, x.number, impl.CdOk), want)
			lost := goneWith(still, x.who, x.number)
			want = checkLetGo(t, what, still, x.who, x.number, impl.CdOk, lost...)
			checkGoesOn(t, what, checkLetGo(t, what, h, x.who, x.number, impl.CdOk, lost...), want)
			slid := slices.DeleteFunc(slices.Clone(lost), func(slot int64) bool { return h.Tenants[x.who].Table[slot].At >= h.Low })
			if h.Sliding {
				below, behind = below+len(slid), behind+len(lost)-len(slid)
				both += min(1, len(slid)*(len(lost)-len(slid)))
			}
		}
		checkAllBothWays(t, what, h)
	}
	if below < 10 || behind < 10 || both < 3 {
		t.Errorf("of the lost just %d were slid, and %d were not; just %d times both", below, behind, both)
	}
}

// TestLettingGoInASlide lets go one thing ahead of each step: what was slid and does not stand any more stays till the next slide.
func TestLettingGoInASlide(t *testing.T) {
	pieces := []piece{fallen(1, 0, "x"), rootOf(1, 2, "ab", 1), heldOf(1, 0, "c", 2), nobodys(6, 0), heldOf(1, 1, "def"), rootOf(1, 3, "", 3), rootOf(2, 0, "its")}
	h := heapOf(96, []impl.Tenant{{}, live(1, 60, 5), live(2, 9, 1), {}}, pieces...)
	for steps := range len(pieces) + 1 {
		for _, slot := range []int64{0, 1, 2, 3} {
			what := said("let go", int64(steps), slot)
			x := steppedBy(steps, h)
			x = checkLetGo(t, what, x, 1, 128+slot, impl.CdOk, goneWith(h, 1, 128+slot)...)
			x = checkLetGo(t, what, x, 1, 131, codeOfHolding(x, 1, 131), goneWith(x, 1, 131)...)
			done := checkSlide(t, what, x)
			checkUnnoticed(t, what, done, x)
			next := checkSlide(t, what, done)
			checkTogether(t, what, next)
			if next.Top != impl.UsedBy(x, 1)+9 {
				t.Errorf("%s: Top is %d: %s", what, next.Top, heapShown(next))
			}
		}
	}
}

func TestHoldingInRightHeaps(t *testing.T) {
	for _, c := range append(rightHeaps(), namedHeap{"mixed", mixedHeap()}, namedHeap{"mixed, with a gap", mixedHeap(gapOf(9))}) {
		checkAllBothWays(t, c.what, c.heap)
	}
}

// TestSixteenLetGo has as large a web as there can be, and lets it all go at once.
func TestSixteenLetGo(t *testing.T) {
	for _, step := range []int64{1, 3, 5, 15} {
		var pieces []piece
		for slot := range int64(16) {
			pieces = append(pieces, heldOf(0, slot, "", 0, byte((slot+step)%16+1)))
		}
		for first := range int64(16) {
			pieces[first].root = true
			h := heapOf(128, one(16), pieces...)
			got := checkLetGo(t, said("sixteen", step, first), h, 0, 128+first, impl.CdOk, upTo(16)...)
			checkUsedBy(t, "sixteen", got, 0, 0)
			pieces[first].root = false
		}
	}
}

func TestStrangeNumbersForHolding(t *testing.T) {
	for _, h := range []impl.Heap{busyHeap(), slidingHeap(), newHeap(t, 64)} {
		for _, n := range farNumbers() {
			for _, x := range [][2]int64{{n, 496}, {n, 1025}, {0, n}, {1, n}, {2, n}, {0, 496 + n}, {2, 1025 - n}, {n, n}, {n, -n}} {
				checkBothWays(t, "strange", h, x[0], x[1])
			}
		}
	}
}

func TestStrangeFieldsOfHolding(t *testing.T) {
	withStrangeFields(func(what string, h impl.Heap) {
		for _, x := range [][2]int64{{0, 496}, {0, 385}, {2, 1026}} {
			checkBothWays(t, what, h, x[0], x[1])
		}
	})
}

// TestWrongHeapsAreNotHeld has the zero Heap and CdBad, whatever else would be told of the call.
func TestWrongHeapsAreNotHeld(t *testing.T) {
	heaps := wrongHeaps()
	for _, pieces := range [][]piece{
		{heldOf(0, 0, "")}, {heldOf(0, 0, "", 1)}, {rootOf(0, 0, "", 1), heldOf(0, 1, "", 2)}, {heldOf(0, 0, "", 2), heldOf(0, 1, "", 1)},
		{heldOf(0, 0, "", 2), heldOf(0, 1, "", 3), heldOf(0, 2, "", 1)}, {rootOf(0, 0, ""), heldOf(0, 1, "", 3, 1), heldOf(0, 2, "", 2)},
	} {
		heaps = append(heaps, oneHeap("just a ring holds it", 3, pieces...))
	}
	for _, c := range heaps {
		for _, who := range append(strange(), -1, 0, 1, 2, 3, 4) {
			for _, number := range []int64{496, 385, 1025, 128, 129, 130, 0, -1, 480, math.MaxInt64, math.MinInt64} {
				checkAnswer(t, c.what, checkHeld(t, c.what, c.heap, who, number, impl.CdBad), 0, impl.Heap{}, 0)
				checkAnswer(t, c.what, checkLetGo(t, c.what, c.heap, who, number, impl.CdBad), 0, impl.Heap{}, 0)
			}
		}
	}
}

// drawnNumber is of something that is there, most of the times.
func drawnNumber(d *drawn, h impl.Heap) (int64, int64) {
	list := thingsIn(h)
	if len(list) == 0 || d.below(12) == 0 {
		return d.below(6) - 1, d.below(1300)
	}
	x := list[d.below(int64(len(list)))]
	return x.who, x.number
}

func TestDrawnHolding(t *testing.T) {
	var d drawn
	codes := map[int64]int{}
	for range 800 {
		h := drawnHeap(&d)
		if _, is := toldOf(h); !is {
			continue
		}
		for range 4 {
			who, number := drawnNumber(&d, h)
			codes[codeOfHolding(h, who, number)]++
			checkBothWays(t, "drawn", h, who, number)
		}
	}
	checkOften(t, codes, 50, impl.CdOk, impl.CdBad, impl.CdNone, impl.CdTicket)
}

func TestDrawnChangesAheadOfHolding(t *testing.T) {
	withDrawnChanges(t, 1500, func(d *drawn, h impl.Heap) {
		who := d.below(4)
		if n := int64(len(h.Tenants[who].Table)); n > 0 {
			checkBothWays(t, "drawn change", h, who, numberFor(h, who, d.below(n)))
		}
	})
}

// TestDrawnWebsAreLetGo holds and lets go one thing after the other, till nothing is left.
func TestDrawnWebsAreLetGo(t *testing.T) {
	var d drawn
	var lost [17]int
	for range 150 {
		h := drawnWebHeap(&d)
		for list := thingsIn(h); len(list) > 0; list = thingsIn(h) {
			x := list[d.below(int64(len(list)))]
			if d.below(4) == 0 {
				h = checkHeld(t, "drawn web", h, x.who, x.number, impl.CdOk)
				continue
			}
			gone := goneWith(h, x.who, x.number)
			lost[len(gone)]++
			h = checkLetGo(t, "drawn web", h, x.who, x.number, impl.CdOk, gone...)
		}
	}
	if lost[0] < 100 || lost[1] < 100 || lost[2] < 20 || lost[3] < 5 {
		t.Errorf("how many were lost, how often: %v", lost)
	}
}

// holdAs has Root be so of something that is known, and lets go of the shadows of what nothing holds then.
func (s *shadows) holdAs(t *testing.T, x *shadow, root bool) {
	t.Helper()
	call := impl.Unrooted
	if root {
		call = impl.Rooted
	}
	h, code := call(s.heap, x.who, x.number)
	if code != impl.CdOk {
		t.Fatalf("shadows: Root of %d to be %v: code %d", x.number, root, code)
	}
	s.heap, x.root = h, root
	held, were := s.held(), len(s.old)
	s.letGo(func(x *shadow) bool { return held[x.number] })
	s.lost += len(s.old) - were
}

// askOld has what was let go held again, and let go again: it is refused.
func (s *shadows) askOld(t *testing.T, d *drawn) {
	t.Helper()
	if len(s.old) == 0 {
		return
	}
	x := s.old[d.below(int64(len(s.old)))]
	want := int64(impl.CdTicket)
	if !s.heap.Tenants[x.who].Live {
		want = impl.CdNone
	}
	_, held := impl.Rooted(s.heap, x.who, x.number)
	_, letGo := impl.Unrooted(s.heap, x.who, x.number)
	if held != want || letGo != want {
		t.Fatalf("shadows: old %d: codes %d, %d, want %d", x.number, held, letGo, want)
	}
}

// TestShadowsOfWhatIsHeld has things stay as long as they are held or referred to by what is, whatever else is done, and no longer.
func TestShadowsOfWhatIsHeld(t *testing.T) {
	var d drawn
	most, stayed, lost := 0, 0, 0
	for range 40 {
		s := shadows{heap: newHeap(t, 200+d.below(100))}
		for range 240 {
			x := s.drawnThing(&d)
			switch kind := d.below(10); {
			case x == nil || kind > 5:
				s.turn(t, &d)
			case kind == 0:
				s.holdAs(t, x, true)
			case kind == 1:
				were := len(s.things)
				if s.holdAs(t, x, false); len(s.things) == were {
					stayed++
				}
			case kind == 2:
				s.make(&d)
			default:
				s.link(t, &d, x)
			}
			s.askOld(t, &d)
			s.check(t)
			most = max(most, len(s.things))
		}
		lost += s.lost
	}
	if most < 12 || stayed < 80 || lost < 400 {
		t.Errorf("there were %d things at most, %d stayed when they were let go, %d were lost", most, stayed, lost)
	}
}

func TestHoldingIsNew(t *testing.T) {
	heaps := append(rightHeaps(), wrongHeaps()...)
	for steps := range len(impl.BlocksOf(slidTouched())) + 1 {
		heaps = append(heaps, namedHeap{said("under way", int64(steps)), steppedBy(steps, slidTouched())})
	}
	for _, c := range heaps {
		list := [][2]int64{{0, 496}, {0, 385}, {2, 1026}, {-1, 0}, {0, -1}, {1, 128}, {3, math.MaxInt64}, {4, 496}}
		if _, is := toldOf(c.heap); is {
			for _, x := range thingsIn(c.heap) {
				list = append(list, [2]int64{x.who, x.number})
			}
		}
		h, args := withSpareHeap(c.heap)
		for _, x := range list[:min(len(list), 20)] {
			for i, call := range []func(h impl.Heap, t int64, number int64) (impl.Heap, int64){impl.Rooted, impl.Unrooted} {
				checkNewHeaps(t, c.what+said(": call", int64(i), x[0], x[1]), args, func() impl.Heap {
					got, _ := call(h, x[0], x[1])
					return got
				})
			}
		}
	}
}

// TestOneHeapHeldTwice has answers made of one heap: none shows what was done to the others.
func TestOneHeapHeldTwice(t *testing.T) {
	h := slidTouched()
	var answers, wanted []impl.Heap
	for _, x := range thingsIn(h) {
		held, _ := impl.Rooted(h, x.who, x.number)
		gone, _ := impl.Unrooted(held, x.who, x.number)
		refused, _ := impl.Unrooted(h, x.who, -1)
		answers, wanted = append(answers, held, gone, refused), append(wanted, twin(held), twin(gone), twin(refused))
	}
	for i, x := range answers {
		checkAnswer(t, said("answer", int64(i)), x, 0, wanted[i], 0)
		markLists(x, int64(i))
		scribble(x.Tenants, func(impl.Tenant) impl.Tenant { return usedTenant() })
	}
	checkAnswer(t, "what they were made of", h, 0, slidTouched(), 0)
}
