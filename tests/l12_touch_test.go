package tests

import (
	"bytes"
	"math"
	"slices"
	"strings"
	"testing"

	"loop.example/g00750/impl"
)

// touch is who looks up what, and of that how many bytes from where on, or which ref, and to what that is to be.
type touch struct{ who, number, at, n int64 }

type setting struct{ who, number, i, to int64 }

// numberFor is of the Ticket for that slot as it is now.
func numberFor(h impl.Heap, who, slot int64) int64 {
	x := h.Tenants[who]
	return (x.Tag*8+x.Table[slot].Gen)*16 + slot
}

// foundTold, readTold, writtenTold, refTold and setTold are written from the chapter's words; the heap that came stays.
func foundTold(h impl.Heap, who, number int64) (int64, int64) {
	if _, is := toldOf(h); !is || who < 0 || who > 3 {
		return -1, impl.CdBad
	}
	x := h.Tenants[who]
	if !x.Live {
		return -1, impl.CdNone
	}
	slot := slotLookedUp(x.Table, x.Tag, number)
	if slot < 0 {
		return -1, impl.CdTicket
	}
	return slot, impl.CdOk
}

// partsTold are the refs and the data of one that stands, where they lie.
func partsTold(h impl.Heap, who, slot int64) ([]byte, []byte) {
	at := h.Tenants[who].Table[slot].At
	size := int64(h.Floor[at]) + 256*int64(h.Floor[at+1])
	refs := int64(h.Floor[at+4])
	return h.Floor[at+6 : at+6+refs], h.Floor[at+6+refs : at+size]
}

func allIn(data []byte, at, n int64) bool {
	all := int64(len(data))
	return at >= 0 && at <= all && n >= 0 && n <= all && at+n <= all
}

func readTold(h impl.Heap, x touch) ([]byte, int64) {
	slot, code := foundTold(h, x.who, x.number)
	if code != impl.CdOk {
		return nil, code
	}
	_, data := partsTold(h, x.who, slot)
	if !allIn(data, x.at, x.n) {
		return nil, impl.CdRange
	}
	return data[x.at : x.at+x.n], impl.CdOk
}

func writtenTold(h impl.Heap, x touch, data []byte) (impl.Heap, int64) {
	slot, code := foundTold(h, x.who, x.number)
	if _, is := toldOf(h); !is {
		return impl.Heap{}, impl.CdBad
	}
	h = twin(h)
	if code != impl.CdOk {
		return h, code
	}
	_, lies := partsTold(h, x.who, slot)
	if !allIn(lies, x.at, int64(len(data))) {
		return h, impl.CdRange
	}
	copy(lies[x.at:], data)
	return h, impl.CdOk
}

func refTold(h impl.Heap, x setting) (int64, int64) {
	slot, code := foundTold(h, x.who, x.number)
	if code != impl.CdOk {
		return 0, code
	}
	refs, _ := partsTold(h, x.who, slot)
	switch {
	case x.i < 0 || x.i >= int64(len(refs)):
		return 0, impl.CdRange
	case refs[x.i] == 0:
		return 0, impl.CdOk
	}
	return numberFor(h, x.who, int64(refs[x.i])-1), impl.CdOk
}

func setTold(h impl.Heap, x setting) (impl.Heap, int64) {
	_, code := refTold(h, x)
	if _, is := toldOf(h); !is {
		return impl.Heap{}, impl.CdBad
	}
	h = twin(h)
	if code != impl.CdOk {
		return h, code
	}
	tenant := h.Tenants[x.who]
	to := int64(-1)
	if x.to != 0 {
		to = slotLookedUp(tenant.Table, tenant.Tag, x.to)
		if to < 0 {
			return h, impl.CdTicket
		}
	}
	slot, _ := foundTold(h, x.who, x.number)
	refs, _ := partsTold(h, x.who, slot)
	refs[x.i] = byte(to + 1)
	for _, lost := range lostTold(h, x.who) {
		h.Tenants[x.who].Table, _ = freedTable(h.Tenants[x.who].Table, lost)
	}
	return h, impl.CdOk
}

// lostTold is of a heap that may be not right any more, as something of that tenant is lost.
func lostTold(h impl.Heap, who int64) []int64 {
	web, _, _ := webTold(h, placesTold(h), int(who))
	return lostSlots(web, reachedSlots(web))
}

// lostBy is for where whoever asks can't tell beforehand.
func lostBy(h impl.Heap, x setting) []int64 {
	got, code := setTold(h, x)
	if code != impl.CdOk {
		return nil
	}
	return freedFrom(h, got, x.who)
}

// freedFrom are the slots of a tenant that were Used in one heap and are not in what was made of it.
func freedFrom(was, h impl.Heap, who int64) []int64 {
	var list []int64
	for slot, s := range was.Tenants[who].Table {
		if s.Used && !h.Tenants[who].Table[slot].Used {
			list = append(list, int64(slot))
		}
	}
	return list
}

func checkRead(t *testing.T, what string, h impl.Heap, x touch, code int64) []byte {
	t.Helper()
	was := twin(h)
	got, is := impl.ReadAt(h, x.who, x.number, x.at, x.n)
	want, told := readTold(h, x)
	if is != code || told != code || !bytes.Equal(got, want) || code != impl.CdOk && len(got) > 0 {
		t.Errorf("%s: ReadAt %v: got %v, code %d; want code %d, by the words %v, code %d: %s", what, x, got, is, code, want, told, heapShown(h))
	}
	if !sameHeap(h, was) {
		t.Errorf("%s: ReadAt %v: the heap that came is %s, was %s", what, x, heapShown(h), heapShown(was))
	}
	return got
}

func checkWritten(t *testing.T, what string, h impl.Heap, x touch, data []byte, code int64) impl.Heap {
	t.Helper()
	what += said(": WrittenAt", x.who, x.number, x.at)
	x.n = int64(len(data))
	was := slices.Clone(data)
	call := func(h impl.Heap) (impl.Heap, int64) { return impl.WrittenAt(h, x.who, x.number, x.at, data) }
	told := func(h impl.Heap) (impl.Heap, int64) { return writtenTold(h, x, data) }
	got := checkChange(t, what, h, code, call, told)
	if !bytes.Equal(data, was) {
		t.Errorf("%s: the data is %v, was %v", what, data, was)
	}
	if code == impl.CdOk {
		checkReadBack(t, what, got, h, x, data)
	}
	return got
}

// checkReadBack is promise 12: what is written is read, and all else, byte by byte, is as it was.
func checkReadBack(t *testing.T, what string, h, was impl.Heap, x touch, data []byte) {
	t.Helper()
	checkRightHeap(t, what, h)
	if read := checkRead(t, what, h, x, impl.CdOk); !bytes.Equal(read, data) {
		t.Errorf("%s: read %v, written %v", what, read, data)
	}
	slot, _ := foundTold(was, x.who, x.number)
	refs, all := partsTold(was, x.who, slot)
	begin := was.Tenants[x.who].Table[slot].At + 6 + int64(len(refs))
	for at := range int64(len(h.Floor)) {
		if !between(at, begin+x.at, x.n) && h.Floor[at] != was.Floor[at] {
			t.Errorf("%s: byte %d is %d, was %d", what, at, h.Floor[at], was.Floor[at])
		}
	}
	want := slices.Concat(all[:x.at], data, all[x.at+x.n:])
	if read := checkRead(t, what, h, touch{x.who, x.number, 0, int64(len(all))}, impl.CdOk); !bytes.Equal(read, want) {
		t.Errorf("%s: read all %v, want %v", what, read, want)
	}
	h.Floor = was.Floor
	checkAnswer(t, what+": all but the floor", h, 0, was, 0)
}

func checkRefAt(t *testing.T, what string, h impl.Heap, x setting, to, code int64) {
	t.Helper()
	was := twin(h)
	got, is := impl.RefAt(h, x.who, x.number, x.i)
	told, toldCode := refTold(h, x)
	if got != to || is != code || told != to || toldCode != code {
		t.Errorf("%s: RefAt %v: got %d, code %d; want %d, code %d; by the words %d, code %d: %s", what, x, got, is, to, code, told, toldCode, heapShown(h))
	}
	if !sameHeap(h, was) {
		t.Errorf("%s: RefAt %v: the heap that came is %s, was %s", what, x, heapShown(h), heapShown(was))
	}
}

// checkRefSet takes from whoever asks which slots are freed by it; the words have to tell the same.
func checkRefSet(t *testing.T, what string, h impl.Heap, x setting, code int64, lost ...int64) impl.Heap {
	t.Helper()
	what += said(": RefSet", x.who, x.number, x.i, x.to)
	call := func(h impl.Heap) (impl.Heap, int64) { return impl.RefSet(h, x.who, x.number, x.i, x.to) }
	told := func(h impl.Heap) (impl.Heap, int64) { return setTold(h, x) }
	got := checkChange(t, what, h, code, call, told)
	if told := lostBy(h, x); !slices.Equal(told, lost) {
		t.Errorf("%s: want %v lost, by the words %v", what, lost, told)
	}
	if code == impl.CdOk {
		checkRightHeap(t, what, got)
		checkRefAt(t, what, got, x, x.to, impl.CdOk)
		checkRefsElsewhere(t, what, got, h, x)
		checkLostOf(t, what, got, h, x.who, lost)
		if slices.Contains(lost, x.number%16) {
			t.Errorf("%s: what was looked up is lost", what)
		}
	}
	return got
}

// checkRefsElsewhere tells that one byte of the floor may be otherwise, and nothing else but the Table of that tenant.
func checkRefsElsewhere(t *testing.T, what string, h, was impl.Heap, x setting) {
	t.Helper()
	slot, _ := foundTold(was, x.who, x.number)
	at := was.Tenants[x.who].Table[slot].At + 6 + x.i
	want := twin(was)
	want.Floor[at] = h.Floor[at]
	want.Tenants[x.who].Table = h.Tenants[x.who].Table
	checkAnswer(t, what+": all but the ref and the Table", h, 0, want, 0)
	checkOthersKnow(t, what, h, was, x.who)
}

// checkLostOf tells of all slots that those are freed, with numbers that are good for nothing, and that each other one is as it was.
func checkLostOf(t *testing.T, what string, h, was impl.Heap, who int64, lost []int64) {
	t.Helper()
	for slot, s := range was.Tenants[who].Table {
		got := h.Tenants[who].Table[slot]
		if !slices.Contains(lost, int64(slot)) {
			if got != s {
				t.Errorf("%s: slot %d is %s, was %s", what, slot, slotShown(got), slotShown(s))
			}
			continue
		}
		if want := (impl.Slot{Gen: s.Gen + 1}); got != want {
			t.Errorf("%s: lost slot %d is %s, want %s", what, slot, slotShown(got), slotShown(want))
		}
		checkGoodForNothing(t, what, h, who, numberFor(was, who, int64(slot)))
	}
}

func checkGoodForNothing(t *testing.T, what string, h impl.Heap, who, number int64) {
	t.Helper()
	checkRead(t, what, h, touch{who, number, 0, 0}, impl.CdTicket)
	_, written := impl.WrittenAt(h, who, number, 0, nil)
	to, code := impl.RefAt(h, who, number, 0)
	_, set := impl.RefSet(h, who, number, 0, 0)
	_, held := impl.Rooted(h, who, number)
	_, letGo := impl.Unrooted(h, who, number)
	if written != impl.CdTicket || code != impl.CdTicket || set != impl.CdTicket || to != 0 || held != impl.CdTicket || letGo != impl.CdTicket {
		t.Errorf("%s: %d is good for something: codes %d, %d, %d, %d, %d", what, number, written, code, set, held, letGo)
	}
}

// thing is one that stands, with its number.
type thing struct{ who, slot, number, refs, data int64 }

func thingsIn(h impl.Heap) []thing {
	var list []thing
	for who, x := range h.Tenants {
		for slot, s := range x.Table {
			if s.Used {
				refs, data := partsTold(h, int64(who), int64(slot))
				list = append(list, thing{int64(who), int64(slot), numberFor(h, int64(who), int64(slot)), int64(len(refs)), int64(len(data))})
			}
		}
	}
	return list
}

// anyData is of bytes that are all otherwise from one mark to the next.
func anyData(n int64, mark int64) []byte {
	data := make([]byte, n)
	for i := range data {
		data[i] = byte(mark + int64(i)*37)
	}
	return data
}

// checkTouched goes through all things of a right heap: all their data and each of their refs, read and written.
func checkTouched(t *testing.T, what string, h impl.Heap) {
	t.Helper()
	for _, x := range thingsIn(h) {
		all := touch{x.who, x.number, 0, x.data}
		checkRead(t, what, h, all, impl.CdOk)
		checkRead(t, what, h, touch{x.who, x.number, x.data, 0}, impl.CdOk)
		checkRead(t, what, h, touch{x.who, x.number, x.data, 1}, impl.CdRange)
		checkWritten(t, what, h, all, anyData(x.data, x.number), impl.CdOk)
		checkWritten(t, what, h, all, anyData(x.data+1, x.number), impl.CdRange)
		if x.data > 0 {
			checkWritten(t, what, h, touch{x.who, x.number, x.data - 1, 1}, []byte{0x5A}, impl.CdOk)
		}
		for i := range x.refs {
			to, _ := refTold(h, setting{x.who, x.number, i, 0})
			checkRefAt(t, what, h, setting{x.who, x.number, i, 0}, to, impl.CdOk)
			for _, to := range []int64{0, x.number, to} {
				set := setting{x.who, x.number, i, to}
				checkRefSet(t, what, h, set, impl.CdOk, lostBy(h, set)...)
			}
		}
		checkRefAt(t, what, h, setting{x.who, x.number, x.refs, 0}, 0, impl.CdRange)
		checkRefSet(t, what, h, setting{x.who, x.number, x.refs, 0}, impl.CdRange)
	}
}

// TestTouchingByteByByte is written down: each number, what is read, and what comes to the floor.
func TestTouchingByteByByte(t *testing.T) {
	// Tenant 0 has 496 and 385, which refer to each other; tenant 2 has 1025, and 1026, which refers to itself.
	for _, h := range []impl.Heap{busyHeap(), slidingHeap()} {
		for _, c := range []struct {
			touch touch
			read  string
		}{
			{touch{0, 496, 0, 2}, "ab"}, {touch{0, 496, 0, 1}, "a"}, {touch{0, 496, 1, 1}, "b"}, {touch{0, 496, 2, 0}, ""}, {touch{0, 385, 0, 0}, ""},
			{touch{2, 1025, 0, 3}, "xyz"}, {touch{2, 1025, 1, 2}, "yz"}, {touch{2, 1025, 1, 0}, ""}, {touch{2, 1026, 0, 1}, "q"},
		} {
			if got := checkRead(t, "byte by byte", h, c.touch, impl.CdOk); string(got) != c.read {
				t.Errorf("%v: read %q, want %q", c.touch, got, c.read)
			}
		}
		for _, c := range []struct{ who, number, i, to int64 }{{0, 496, 0, 385}, {0, 496, 1, 0}, {0, 385, 0, 496}, {2, 1026, 0, 1026}} {
			checkRefAt(t, "byte by byte", h, setting{c.who, c.number, c.i, 0}, c.to, impl.CdOk)
		}
		far := h.High - h.Low
		want := slices.Clone(h.Floor)
		checkFloor := func(h impl.Heap, at int64, laid ...byte) {
			t.Helper()
			copy(want[at:], laid)
			checkBytes(t, "byte by byte", h.Floor, true, want, true)
		}
		h = checkWritten(t, "byte by byte", h, touch{who: 0, number: 496, at: 1}, []byte("B"), impl.CdOk)
		checkFloor(h, 9, 'B')
		h = checkWritten(t, "byte by byte", h, touch{who: 2, number: 1025}, []byte{0, 255, 7}, impl.CdOk)
		checkFloor(h, 16, 0, 255, 7)
		h = checkWritten(t, "byte by byte", h, touch{who: 2, number: 1026}, []byte{6}, impl.CdOk)
		checkFloor(h, 53+far, 6)
		h = checkRefSet(t, "byte by byte", h, setting{0, 496, 1, 496}, impl.CdOk)
		checkFloor(h, 7, 1)
		h = checkRefSet(t, "byte by byte", h, setting{2, 1026, 0, 1025}, impl.CdOk)
		checkFloor(h, 52+far, 2)
		h = checkRefSet(t, "byte by byte", h, setting{0, 496, 0, 0}, impl.CdOk, 1)
		checkFloor(h, 6, 0)
		if s := h.Tenants[0].Table[1]; s != (impl.Slot{Gen: 1}) {
			t.Errorf("what was lost is %s", slotShown(s))
		}
		checkUsedBy(t, "byte by byte", h, 0, 10)
	}
}

// mixedHeap has things of three tenants with each number of refs, and with no data, little, and more, between what does not stand.
func mixedHeap(gap ...piece) impl.Heap {
	var pieces []piece
	for i := range int64(21) {
		refs := make([]byte, i%7)
		for r := range refs {
			refs[r] = byte((i/3 + int64(r)) % 8)
		}
		data := []string{"", "d", "data", "\x00\xFF\x06\x00", "some more of it"}[i%5]
		pieces = append(pieces, rootOf([]int64{0, 1, 3}[i%3], i/3, data, refs...))
		switch i % 6 {
		case 1:
			pieces = append(pieces, fallen(i%2, i%16, "old", 9))
		case 4:
			pieces = append(pieces, nobodys(6+i%4, 0))
		}
		if i == 10 {
			pieces = append(pieces, gap...)
		}
	}
	return heapOf(600, []impl.Tenant{live(4, 200, 7), live(2, 200, 9), {}, live(7, 200, 7)}, pieces...)
}

// TestWhatIsWrittenIsRead writes each part of each thing.
func TestWhatIsWrittenIsRead(t *testing.T) {
	for _, h := range []impl.Heap{mixedHeap(), mixedHeap(gapOf(20))} {
		if len(thingsIn(h)) != 21 {
			t.Fatal(heapShown(h))
		}
		for _, x := range thingsIn(h) {
			for at := range x.data + 1 {
				for n := range x.data - at + 1 {
					checkWritten(t, "each part", h, touch{who: x.who, number: x.number, at: at}, anyData(n, at*n+1), impl.CdOk)
				}
			}
		}
	}
}

// TestAllIsWritten writes to one thing after the other, in the same heap: each keeps what was written to it, till the end.
func TestAllIsWritten(t *testing.T) {
	for _, h := range []impl.Heap{mixedHeap(), mixedHeap(gapOf(0)), mixedHeap(gapOf(20))} {
		list := thingsIn(h)
		for turn := range int64(3) {
			for i, x := range list {
				h = checkWritten(t, "all", h, touch{who: x.who, number: x.number}, anyData(x.data, turn*100+int64(i)), impl.CdOk)
			}
			for i, x := range list {
				got := checkRead(t, "all", h, touch{x.who, x.number, 0, x.data}, impl.CdOk)
				checkBytes(t, said("all", turn, int64(i)), got, true, anyData(x.data, turn*100+int64(i)), true)
			}
		}
	}
}

// farParts are places and lengths that are not all in any data; of some the sum goes round.
func farParts() [][2]int64 {
	most, least := int64(math.MaxInt64), int64(math.MinInt64)
	return append(outside()[6:], [][2]int64{
		{0, most}, {2, most - 1}, {most, 2}, {most - 1, 2}, {1 << 62, 1 << 62}, {1<<62 + 1, 1 << 62}, {least, least + 2}, {least + 2, least},
		{1, least}, {2, least}, {-1, most}, {most, -1}, {most, least}, {least + 1, most}, {1 << 32, 0}, {0, 1 << 32}, {1 << 32, 1 << 32}, {1024, 0}, {0, 1025}, {-1, 2},
	}...)
}

// TestTheEdgesOfTheData has data of no bytes, of one, and of as many as there may be.
func TestTheEdgesOfTheData(t *testing.T) {
	for _, size := range []int64{0, 1, 2, 5, 200, 250, 994} {
		for _, refs := range []int64{0, 1, 6} {
			if size == 994 && refs > 0 {
				continue
			}
			p := rootOf(1, 2, string(anyData(size, 3)), make([]byte, refs)...)
			h := heapOf(1024, []impl.Tenant{live(2, 12, 2), live(1, 1000, 3), {}, {}}, rootOf(0, 0, ""), p, rootOf(0, 1, ""))
			number := numberFor(h, 1, 2)
			for _, at := range []int64{-2, -1, 0, 1, size / 2, size - 1, size, size + 1, size + 2} {
				for _, n := range []int64{-1, 0, 1, size - at - 1, size - at, size - at + 1, size, size + 1} {
					code := int64(impl.CdOk)
					if at < 0 || n < 0 || at+n > size {
						code = impl.CdRange
					}
					checkRead(t, said("edges", size, refs), h, touch{1, number, at, n}, code)
					if n >= 0 {
						checkWritten(t, said("edges", size, refs), h, touch{who: 1, number: number, at: at}, anyData(n, 77), code)
					}
				}
			}
			for _, x := range farParts() {
				if x[0] <= size && x[0] >= 0 && x[1] >= 0 && x[0]+x[1] >= 0 && x[0]+x[1] <= size {
					continue
				}
				checkRead(t, said("far", size, refs), h, touch{1, number, x[0], x[1]}, impl.CdRange)
			}
			for _, n := range farNumbers() {
				if n < 0 || n > size {
					for _, data := range [][]byte{nil, {}, {1}, anyData(size, 5)} {
						checkWritten(t, said("far", size, refs), h, touch{who: 1, number: number, at: n}, data, impl.CdRange)
					}
				}
			}
		}
	}
}

// TestDataOfAnyByte has each byte written to each place, ahead of what was there or the same again.
func TestDataOfAnyByte(t *testing.T) {
	for _, h := range []impl.Heap{heapOf(128, busyTenants(), rootOf(0, 1, "abc", 2, 0), rootOf(2, 0, "def"), nobodys(9, 0)), slidingHeap()} {
		x := thingsIn(h)[len(thingsIn(h))-1]
		for b := range int64(256) {
			for at := range x.data {
				got := checkWritten(t, "any byte", h, touch{who: x.who, number: x.number, at: at}, []byte{byte(b)}, impl.CdOk)
				checkWritten(t, "the same again", got, touch{who: x.who, number: x.number, at: at}, []byte{byte(b)}, impl.CdOk)
			}
			got := checkWritten(t, "many of one byte", h, touch{who: x.who, number: x.number}, bytes.Repeat([]byte{byte(b)}, int(x.data)), impl.CdOk)
			checkRead(t, "many of one byte", got, touch{x.who, x.number, 0, x.data}, impl.CdOk)
		}
	}
	// Data that looks as if it were a head, refs, or a block.
	inner := rootOf(0, 1, "ab", 1).bytes()
	h := heapOf(128, one(2), rootOf(0, 0, strings.Repeat("z", 20)), rootOf(0, 1, "ab", 1))
	for at := range 20 - int64(len(inner)) + 1 {
		checkWritten(t, "like a block", h, touch{who: 0, number: 128, at: at}, inner, impl.CdOk)
	}
}

// TestHowMuchData has as much as there may be at once, and more than any floor has, in place of what fits.
func TestHowMuchData(t *testing.T) {
	for _, h := range []impl.Heap{busyHeap(), slidingHeap(), mixedHeap()} {
		for _, x := range thingsIn(h) {
			for _, n := range []int64{x.data + 1, x.data + 2, 200, 201, 1024, 1025, 65536, 1 << 20} {
				for _, at := range []int64{-1, 0, x.data, x.data + 1, math.MaxInt64, math.MinInt64, math.MaxInt64 - n + 1} {
					checkWritten(t, "too much", h, touch{who: x.who, number: x.number, at: at}, make([]byte, n), impl.CdRange)
				}
			}
			for _, data := range [][]byte{nil, {}} {
				for at := range x.data + 1 {
					got := checkWritten(t, "nothing", h, touch{who: x.who, number: x.number, at: at}, data, impl.CdOk)
					checkAnswer(t, "nothing", got, 0, h, 0)
				}
				checkWritten(t, "nothing, one past the end", h, touch{who: x.who, number: x.number, at: x.data + 1}, data, impl.CdRange)
				checkWritten(t, "nothing, below 0", h, touch{who: x.who, number: x.number, at: -1}, data, impl.CdRange)
			}
		}
	}
}

// TestDataThatIsPartOfTheHeap writes what lies on the floor itself, so that it would change while it is written.
func TestDataThatIsPartOfTheHeap(t *testing.T) {
	h := heapOf(128, one(1), rootOf(0, 0, "abcdefghij", 0))
	for from := range 18 {
		for at := range int64(5) {
			was := slices.Clone(h.Floor[from : from+6])
			got := checkWritten(t, "part of the heap", h, touch{who: 0, number: 128, at: at}, h.Floor[from:from+6], impl.CdOk)
			checkBytes(t, "part of the heap", got.Floor[7+at:13+at], true, was, true)
		}
	}
}

// TestEveryPlaceOfARef has a thing of each number of refs, each of them to another one.
func TestEveryPlaceOfARef(t *testing.T) {
	for refs := range int64(7) {
		p := rootOf(3, 2, "abc")
		for i := range refs {
			p.refs = append(p.refs, byte(8-i))
		}
		pieces := []piece{p}
		for slot := range int64(8) {
			if slot != 2 {
				pieces = append(pieces, rootOf(3, slot, ""))
			}
		}
		tenants := []impl.Tenant{{}, {}, {}, live(5, 128, 8)}
		for slot := range int64(8) {
			tenants[3].Table[slot].Gen = slot
		}
		h := heapOf(128, tenants, pieces...)
		number := int64((5*8+2)*16 + 2)
		for i := int64(-3); i < 10; i++ {
			at := setting{3, number, i, 0}
			if i < 0 || i >= refs {
				checkRefAt(t, "no ref", h, at, 0, impl.CdRange)
				for _, to := range []int64{0, number, numberFor(h, 3, 5)} {
					checkRefSet(t, "no ref", h, setting{3, number, i, to}, impl.CdRange)
				}
				continue
			}
			slot := 7 - i
			checkRefAt(t, "each ref", h, at, (5*8+slot)*16+slot, impl.CdOk)
			for to := range int64(8) {
				got := checkRefSet(t, "each ref", h, setting{3, number, i, numberFor(h, 3, to)}, impl.CdOk)
				if got.Floor[6+i] != byte(to+1) {
					t.Errorf("ref %d of %d to %d: %v", i, refs, to, got.Floor[:18])
				}
			}
			checkRefSet(t, "each ref", h, setting{3, number, i, 0}, impl.CdOk)
		}
		for _, i := range farNumbers() {
			if i < 0 || i > 6 {
				checkRefAt(t, "far", h, setting{3, number, i, 0}, 0, impl.CdRange)
				checkRefSet(t, "far", h, setting{3, number, i, number}, impl.CdRange)
			}
		}
	}
}

// TestRefsInTurns has one ref be to one thing after the other, and to nothing between, or not.
func TestRefsInTurns(t *testing.T) {
	h := heapOf(128, one(4), rootOf(0, 0, "a", 0, 0), rootOf(0, 1, "b"), fallen(0, 3, "old"), rootOf(0, 2, "", 0))
	h.Tenants[0].Table[2].Gen = 7
	for _, between := range []bool{false, true} {
		for _, number := range []int64{128, numberFor(h, 0, 2)} {
			for _, to := range []int64{0, 129, 129, numberFor(h, 0, 2), 128, 0, 0, 129, 128, 128} {
				h = checkRefSet(t, "in turns", h, setting{0, number, 0, to}, impl.CdOk)
				if between {
					h = checkRefSet(t, "to nothing", h, setting{0, number, 0, 0}, impl.CdOk)
				}
			}
		}
	}
	for i := range int64(2) {
		h = checkRefSet(t, "both to one", h, setting{0, 128, i, 129}, impl.CdOk)
	}
	checkRefAt(t, "both to one", h, setting{0, 128, 0, 0}, 129, impl.CdOk)
}

// losing is what is lost of one tenant's things when a ref of that slot is to another slot from then on, or to nothing (-1).
type losing struct {
	what        string
	pieces      []piece
	slot, i, to int64
	lost        []int64
}

func losings() []losing {
	root, held := rootOf, heldOf
	return []losing{
		{"nothing, as it was to nothing", []piece{root(0, 0, "", 0)}, 0, 0, -1, nil},
		{"nothing, as it is to the same again", []piece{root(0, 0, "", 2), held(0, 1, "a")}, 0, 0, 1, nil},
		{"nothing, as it is rooted", []piece{root(0, 0, "", 2), root(0, 1, "a")}, 0, 0, -1, nil},
		{"nothing, as it refers to it twice", []piece{root(0, 0, "", 2, 2), held(0, 1, "a")}, 0, 1, -1, nil},
		{"nothing, as another one refers to it", []piece{root(0, 0, "", 2), held(0, 1, "a"), root(0, 2, "", 2)}, 0, 0, -1, nil},
		{"nothing, as one that it refers to refers to it", []piece{root(0, 0, "", 2, 3), held(0, 1, "a"), held(0, 2, "", 2)}, 0, 0, -1, nil},
		{"nothing, as it is held by a chain", []piece{root(0, 3, "", 3), held(0, 2, "", 2), held(0, 1, "", 1), held(0, 0, "", 2, 4)}, 0, 0, -1, nil},
		{"nothing, as it was to itself", []piece{root(0, 0, "", 1)}, 0, 0, -1, nil},
		{"nothing, as it was to what holds it", []piece{root(0, 0, "", 2), held(0, 1, "", 1)}, 1, 0, -1, nil},
		{"nothing, as it was the ref that closes a ring", []piece{root(0, 0, "", 2), held(0, 1, "", 3), held(0, 2, "", 2)}, 2, 0, -1, nil},
		{"nothing, as the ring is held elsewhere", []piece{root(0, 0, "", 2), held(0, 1, "", 3), held(0, 2, "", 2), root(0, 3, "", 3)}, 0, 0, -1, nil},
		{"nothing, to one that was not held by it", []piece{root(0, 0, "", 0), root(0, 1, "", 3), held(0, 2, "")}, 0, 0, 2, nil},
		{"one thing", []piece{root(0, 0, "", 2), held(0, 1, "a")}, 0, 0, -1, []int64{1}},
		{"one thing, with the last of many refs", []piece{root(0, 0, "", 0, 1, 0, 3, 1, 2), held(0, 1, "a"), held(0, 2, "")}, 0, 5, -1, []int64{1}},
		{"one thing, to itself instead", []piece{root(0, 0, "", 2), held(0, 1, "a")}, 0, 0, 0, []int64{1}},
		{"one thing, to a rooted one instead", []piece{root(0, 0, "", 2), held(0, 1, "a"), root(0, 2, "")}, 0, 0, 2, []int64{1}},
		{"one thing, to what holds it instead", []piece{root(0, 2, "", 1), held(0, 0, "", 2), held(0, 1, "a")}, 0, 0, 2, []int64{1}},
		{"one thing, to what it held instead", []piece{root(0, 0, "", 2), held(0, 1, "a", 3), held(0, 2, "")}, 0, 0, 2, []int64{1}},
		{"one thing that held what is rooted", []piece{root(0, 0, "", 2), held(0, 1, "a", 3), root(0, 2, "", 4), held(0, 3, "")}, 0, 0, -1, []int64{1}},
		{"one thing that held what holds it", []piece{root(0, 0, "", 2), held(0, 1, "a", 1)}, 0, 0, -1, []int64{1}},
		{"one thing that refers to itself", []piece{root(0, 0, "", 2), held(0, 1, "a", 2, 2)}, 0, 0, -1, []int64{1}},
		{"one thing of one that is not rooted", []piece{root(0, 2, "", 1), held(0, 0, "", 2), held(0, 1, "a")}, 0, 0, -1, []int64{1}},
		{"a chain", []piece{root(0, 0, "", 2), held(0, 1, "", 3), held(0, 2, "", 4), held(0, 3, "")}, 0, 0, -1, []int64{1, 2, 3}},
		{"a chain, against the slots", []piece{root(0, 3, "", 3), held(0, 2, "", 2), held(0, 1, "", 1), held(0, 0, "")}, 3, 0, -1, []int64{0, 1, 2}},
		{"a chain, but for its beginning", []piece{root(0, 0, "", 2), held(0, 1, "", 3), held(0, 2, "", 4), held(0, 3, "")}, 1, 0, -1, []int64{2, 3}},
		{"a chain, but for its end", []piece{root(0, 0, "", 2), held(0, 1, "", 3), held(0, 2, "", 4), held(0, 3, "")}, 0, 0, 3, []int64{1, 2}},
		{"a chain that ends at itself", []piece{root(0, 0, "", 2), held(0, 1, "", 3), held(0, 2, "", 1)}, 0, 0, 0, []int64{1, 2}},
		{"a chain to one that another one holds", []piece{root(0, 0, "", 2), held(0, 1, "", 3), held(0, 2, "", 4), held(0, 3, ""), root(0, 4, "", 4)}, 0, 0, -1, []int64{1, 2}},
		{"all that it held by one ref", []piece{root(0, 0, "", 2), held(0, 1, "", 3, 4, 5), held(0, 2, ""), held(0, 3, ""), held(0, 4, "", 3)}, 0, 0, -1, []int64{1, 2, 3, 4}},
		{"a ring", []piece{root(0, 0, "", 2), held(0, 1, "", 3), held(0, 2, "", 4), held(0, 3, "", 2)}, 0, 0, -1, []int64{1, 2, 3}},
		{"a ring, by one that is in it", []piece{root(0, 0, "", 2), held(0, 1, "", 3), held(0, 2, "", 2)}, 1, 0, -1, []int64{2}},
		{"two rings", []piece{root(0, 0, "", 2), held(0, 1, "", 3, 4), held(0, 2, "", 2), held(0, 3, "", 2)}, 0, 0, 0, []int64{1, 2, 3}},
		{"a ring with what it is in, but for itself, which is rooted", []piece{root(0, 0, "", 2), held(0, 1, "", 3), held(0, 2, "", 1)}, 0, 0, -1, []int64{1, 2}},
		{"a ring with what it is in, but for itself, which another one holds", []piece{root(0, 3, "", 1), held(0, 0, "", 2), held(0, 1, "", 3), held(0, 2, "", 1)}, 0, 0, -1, []int64{1, 2}},
	}
}

// TestWhatIsLost has for each losing other things of that tenant and of others about, which stay, with a gap or not.
func TestWhatIsLost(t *testing.T) {
	for _, c := range losings() {
		for gap := range len(c.pieces) + 2 {
			tenants := []impl.Tenant{live(9, 90, 7), {}, live(4, 60, 5), {}}
			for slot := range int64(5) {
				tenants[0].Table[slot].Gen = slot
			}
			pieces := append(slices.Clone(c.pieces), heldOf(2, 0, "its", 2), rootOf(2, 1, "", 1, 2), fallen(0, 5, "old", 1, 2), rootOf(0, 6, "more", 7), nobodys(9, 0))
			if gap <= len(c.pieces) {
				pieces = slices.Insert(pieces, gap, gapOf(int64(gap)*3))
			}
			h := heapOf(256, tenants, pieces...)
			to := int64(0)
			if c.to >= 0 {
				to = numberFor(h, 0, c.to)
			}
			got := checkRefSet(t, c.what, h, setting{0, numberFor(h, 0, c.slot), c.i, to}, impl.CdOk, c.lost...)
			checkBlocks(t, c.what, got, impl.BlocksOf(h))
			used := impl.UsedBy(h, 0)
			for _, slot := range c.lost {
				refs, data := partsTold(h, 0, slot)
				used -= int64(6 + len(refs) + len(data))
			}
			checkUsedBy(t, c.what, got, 0, used)
		}
	}
}

// TestWhatJustARingHeld can't be: the heap that has it is not right, as it is lost before the ref is set.
func TestWhatJustARingHeld(t *testing.T) {
	for _, pieces := range [][]piece{
		{heldOf(0, 0, "", 1)}, {heldOf(0, 0, "", 2), heldOf(0, 1, "", 1)}, {heldOf(0, 0, "", 2), heldOf(0, 1, "", 3), heldOf(0, 2, "", 1)},
	} {
		for _, to := range []int64{0, 128, 129} {
			got := checkRefSet(t, "just a ring", heapOf(128, one(3), pieces...), setting{0, 128, 0, to}, impl.CdBad)
			checkAnswer(t, "just a ring", got, 0, impl.Heap{}, 0)
		}
		pieces[0].root = true
		h := heapOf(128, one(3), pieces...)
		var lost []int64
		for slot := range pieces[1:] {
			lost = append(lost, int64(slot+1))
		}
		checkRefSet(t, "a ring that is rooted", h, setting{0, 128, 0, 0}, impl.CdOk, lost...)
		checkRefSet(t, "a ring that is rooted", h, setting{0, 128, 0, 128}, impl.CdOk, lost...)
	}
}

// TestLostOfEachGen has what is lost be of each Gen there is; of the last one, its slot is worn out.
func TestLostOfEachGen(t *testing.T) {
	for first := range int64(8) {
		for second := range int64(8) {
			tenants := one(3)
			tenants[0].Table[1].Gen, tenants[0].Table[2].Gen = first, second
			h := heapOf(128, tenants, rootOf(0, 0, "", 2), heldOf(0, 1, "ab", 3), heldOf(0, 2, "c"))
			h = checkRefSet(t, said("gens", first, second), h, setting{0, 128, 0, 0}, impl.CdOk, 1, 2)
			if table := h.Tenants[0].Table; table[1] != (impl.Slot{Gen: first + 1}) || table[2] != (impl.Slot{Gen: second + 1}) {
				t.Errorf("gens %d and %d: %s", first, second, tableShown(table))
			}
			for gen := range int64(8) {
				for slot := int64(1); slot < 3; slot++ {
					number := (8+gen)*16 + slot
					checkGoodForNothing(t, "lost", h, 0, number)
					checkRefSet(t, "lost", h, setting{0, 128, 0, number}, impl.CdTicket)
				}
			}
			checkLostSlots(t, said("gens", first, second), h)
		}
	}
}

// checkLostSlots has things made in the slots 1 and 2 that were freed, where they are not worn out; each has another number than what was lost.
func checkLostSlots(t *testing.T, what string, h impl.Heap) {
	t.Helper()
	for slot := int64(1); slot < 3; slot++ {
		gen := h.Tenants[0].Table[slot].Gen
		if gen == 8 {
			continue
		}
		var number int64
		h, number = checkMade(t, what, h, making{0, 3, 1}, impl.CdOk)
		if number != (8+gen)*16+slot {
			t.Errorf("%s: the number %d for slot %d of Gen %d", what, number, slot, gen)
		}
		h = checkRefSet(t, what, h, setting{0, number, 0, 128}, impl.CdOk)
		h = checkRefSet(t, what, h, setting{0, 128, 0, number}, impl.CdOk)
		checkGoodForNothing(t, what, h, 0, number-16)
		h = checkWritten(t, what, h, touch{who: 0, number: number}, []byte("new"), impl.CdOk)
	}
	if freeSlot(h.Tenants[0].Table) != -1 {
		t.Errorf("%s: free: %s", what, tableShown(h.Tenants[0].Table))
	}
	checkRefusal(t, what, h, making{0, 0, 0}, impl.CdSlots)
}

// TestTillItIsWornOut has something made, held, let be lost, and made again, till both slots but one are worn out.
func TestTillItIsWornOut(t *testing.T) {
	h := heapOf(64, []impl.Tenant{{}, live(3, 40, 2), {}, {}}, rootOf(1, 0, "", 0))
	numbers := map[int64]bool{}
	for gen := range int64(8) {
		var number int64
		h, number = checkMade(t, said("turn", gen), h, making{1, 4, 1}, impl.CdOk)
		if numbers[number] || number != (3*8+gen)*16+1 {
			t.Errorf("turn %d: the number %d", gen, number)
		}
		numbers[number] = true
		h = checkWritten(t, said("turn", gen), h, touch{who: 1, number: number}, anyData(4, gen), impl.CdOk)
		h = checkRefSet(t, said("turn", gen), h, setting{1, 384, 0, number}, impl.CdOk)
		h.Tenants[1].Table[1].Root = false
		h = checkRefSet(t, said("turn", gen), h, setting{1, number, 0, number}, impl.CdOk)
		h = checkRefSet(t, said("turn", gen), h, setting{1, 384, 0, 384}, impl.CdOk, 1)
		for old := range numbers {
			checkGoodForNothing(t, said("turn", gen), h, 1, old)
		}
	}
	if s := h.Tenants[1].Table[1]; s != (impl.Slot{Gen: 8}) {
		t.Errorf("worn out: %s", slotShown(s))
	}
	checkRefusal(t, "worn out", h, making{1, 0, 0}, impl.CdSlots)
}

// withSmallWebs does it for each right heap of so many things with so many refs each, all of the first tenant.
func withSmallWebs(things, refs int64, do func(web int64, h impl.Heap)) {
	each := int64(1)
	for range things * refs {
		each *= things + 1
	}
	for web := range each << things {
		var pieces []piece
		left := web >> things
		for slot := range things {
			p := heldOf(0, slot, "x")
			p.root = web>>slot&1 == 1
			for range refs {
				p.refs = append(p.refs, byte(left%(things+1)))
				left /= things + 1
			}
			pieces = append(pieces, p)
		}
		h := heapOf(64, []impl.Tenant{live(1, 64, 3), {}, {}, {}}, pieces...)
		if _, is := toldOf(h); is {
			do(web, h)
		}
	}
}

// TestEverySmallWebIsSet has all webs of three things with one ref each, and of two with two refs each, that are right, and each ref of each set to each.
func TestEverySmallWebIsSet(t *testing.T) {
	for _, c := range [][2]int64{{3, 1}, {2, 2}} {
		things, refs := c[0], c[1]
		right, lost := 0, 0
		withSmallWebs(things, refs, func(web int64, h impl.Heap) {
			right++
			for x := range things * refs * (things + 1) {
				to := x / (things * refs)
				if to > 0 {
					to += 127
				}
				set := setting{0, 128 + x%things, x / things % refs, to}
				gone := lostBy(h, set)
				checkRefSet(t, said("small web", web), h, set, impl.CdOk, gone...)
				lost += len(gone)
			}
		})
		if right < 100 || lost < 100 {
			t.Errorf("just %d are right, and just %d things were lost", right, lost)
		}
	}
}

// badNumbers are good for nothing of tenant 0 of the busy heap; 0 is, too, but not as what a ref is to be.
func badNumbers() []int64 {
	return []int64{
		1024, 1025, 1026, 640, // of tenants 2 and 3
		384, 464, 480, 401, 497, // of slots 0 and 1, of other Gens
		386, 387, 498, 388, 399, 511, // of slots that are worn out, free, or not there
		128, 512, 1152, 12800127, // of Tags that nobody has
		1, 127, 12800128, -1, -16, -385, -496, math.MaxInt64, math.MinInt64, // of no Ticket
		496 + 1<<32, 385 + 1<<56, 1 << 62, 496 - 1<<32, math.MinInt64 + 496, math.MinInt64 + 385,
	}
}

func TestNumbersThatAreGoodForNothing(t *testing.T) {
	for _, h := range []impl.Heap{busyHeap(), slidingHeap()} {
		for _, number := range append(badNumbers(), 0) {
			for _, x := range [][2]int64{{0, 0}, {0, 1}, {0, 2}, {9, 9}, {-1, 0}, {math.MaxInt64, math.MaxInt64}} {
				checkRead(t, "good for nothing", h, touch{0, number, x[0], x[1]}, impl.CdTicket)
				checkWritten(t, "good for nothing", h, touch{who: 0, number: number, at: x[0]}, make([]byte, x[1]%200), impl.CdTicket)
				checkRefAt(t, "good for nothing", h, setting{0, number, x[0], 0}, 0, impl.CdTicket)
				for _, to := range []int64{0, 385, 496, number, -1} {
					checkRefSet(t, "good for nothing", h, setting{0, number, x[0], to}, impl.CdTicket)
				}
			}
		}
		for _, to := range badNumbers() {
			for _, x := range []setting{{0, 496, 0, to}, {0, 496, 1, to}, {0, 385, 0, to}} {
				got := checkRefSet(t, "to what is good for nothing", h, x, impl.CdTicket)
				checkAnswer(t, "to what is good for nothing", got, 0, h, 0)
			}
			for _, i := range []int64{-1, 2, 6, math.MaxInt64, math.MinInt64} {
				checkRefSet(t, "CdRange ahead of it", h, setting{0, 496, i, to}, impl.CdRange)
			}
		}
	}
}

// firstOf is the code of the first that applies.
func firstOf(noTenant, notLive, noTicket, outOfRange, noTicketTo bool) int64 {
	switch {
	case noTenant:
		return impl.CdBad
	case notLive:
		return impl.CdNone
	case noTicket:
		return impl.CdTicket
	case outOfRange:
		return impl.CdRange
	case noTicketTo:
		return impl.CdTicket
	}
	return impl.CdOk
}

// TestTheCodesOfTouching has each of what a code may be of be so or not, in all ways together.
func TestTheCodesOfTouching(t *testing.T) {
	codes := map[int64]int{}
	for _, h := range []impl.Heap{busyHeap(), slidingHeap()} {
		for _, who := range []int64{math.MinInt64, -1, 4, math.MaxInt64, 1, 2, 0} {
			for _, number := range []int64{496, 385, 1025, 480, 387, 0, -496} {
				notHis := who == 0 && number != 496 && number != 385 || who == 2 && number != 1025
				slot := number % 16
				data, refs := int64(2), int64(2)
				if who == 2 {
					data, refs = 3, 0
				} else if slot == 1 {
					data, refs = 0, 1
				}
				for _, at := range []int64{-1, 0, 1, 2, 3, 4, math.MaxInt64} {
					for _, n := range []int64{-1, 0, 1, 2, 3, 4, math.MaxInt64} {
						outside := at < 0 || n < 0 || at > data || n > data-at
						code := firstOf(who < 0 || who > 3, who == 1, notHis, outside, false)
						checkRead(t, "codes", h, touch{who, number, at, n}, code)
						if n >= 0 && n < 5 {
							checkWritten(t, "codes", h, touch{who: who, number: number, at: at}, make([]byte, n), code)
						}
						codes[code]++
					}
					for _, to := range []int64{0, 496, 385, 1025, 480, 387, -1} {
						set := setting{who, number, at, to}
						bad := who == 0 && to != 0 && to != 496 && to != 385 || who == 2 && to != 0 && to != 1025
						code := firstOf(who < 0 || who > 3, who == 1, notHis, at < 0 || at >= refs, bad)
						checkRefSet(t, "codes", h, set, code, lostBy(h, set)...)
						code = firstOf(who < 0 || who > 3, who == 1, notHis, at < 0 || at >= refs, false)
						is, _ := refTold(h, set)
						checkRefAt(t, "codes", h, set, is, code)
						codes[code]++
					}
				}
			}
		}
	}
	checkOften(t, codes, 40, impl.CdOk, impl.CdBad, impl.CdNone, impl.CdTicket, impl.CdRange)
}

// TestTicketsOfOthers has four tenants with things in the same slots: no number is good for another one.
func TestTicketsOfOthers(t *testing.T) {
	var pieces []piece
	for slot := range int64(3) {
		for who := range int64(4) {
			pieces = append(pieces, rootOf(who, slot, said("", who, slot), 0))
		}
	}
	h := heapOf(1024, fourTenants(), pieces...)
	for _, x := range thingsIn(h) {
		for who := range int64(4) {
			own := numberFor(h, who, 0)
			if who == x.who {
				checkRead(t, "own", h, touch{who, x.number, 0, 4}, impl.CdOk)
				checkRefSet(t, "own", h, setting{who, own, 0, x.number}, impl.CdOk)
				continue
			}
			checkGoodForNothing(t, "another's", h, who, x.number)
			checkRefSet(t, "another's", h, setting{who, own, 0, x.number}, impl.CdTicket)
			checkRefSet(t, "another's", h, setting{who, own, 1, x.number}, impl.CdRange)
		}
	}
}

// TestTicketsOfWhoWent has one go and another one come in its place, with things in the same slots; neither has what is the other's.
func TestTicketsOfWhoWent(t *testing.T) {
	for _, h := range []impl.Heap{busyHeap(), slidingHeap()} {
		old := []int64{496, 385}
		h = checkGone(t, "went", h, 0, impl.CdOk)
		for _, number := range old {
			for _, n := range []int64{0, 1, -1} {
				checkRead(t, "went", h, touch{0, number, 0, n}, impl.CdNone)
				checkWritten(t, "went", h, touch{who: 0, number: number, at: n}, []byte("ab"), impl.CdNone)
				checkRefAt(t, "went", h, setting{0, number, n, 0}, 0, impl.CdNone)
				checkRefSet(t, "went", h, setting{0, number, n, number}, impl.CdNone)
			}
		}
		h = checkEntered(t, "came", h, 0, 60, 4, impl.CdOk)
		var own []int64
		for range 2 {
			var number int64
			h, number = checkMade(t, "came", h, making{0, 2, 2}, impl.CdOk)
			own = append(own, number)
		}
		for i, number := range old {
			checkGoodForNothing(t, "came", h, 0, number)
			checkGoodForNothing(t, "of another one", h, 2, number)
			checkRefSet(t, "came", h, setting{0, own[i], 0, number}, impl.CdTicket)
			checkRefSet(t, "came", h, setting{0, own[i], 0, own[1-i]}, impl.CdOk)
		}
		for _, number := range own {
			if got := checkRead(t, "came", h, touch{0, number, 0, 2}, impl.CdOk); !nothingBut0(got) {
				t.Errorf("came: reads %v", got)
			}
		}
		checkTouched(t, "came", h)
	}
}

// slidTouched is a heap in which some things are held, so that refs that are set lose something, be it slid already or not.
func slidTouched() impl.Heap {
	tenants := []impl.Tenant{{}, live(1, 80, 6), live(2, 40, 3), {}}
	return heapOf(160, tenants,
		fallen(1, 0, "x"), heldOf(1, 2, "ab", 3, 0), nobodys(9, 1), rootOf(1, 0, "c", 3, 2), fallen(2, 7, "old", 255),
		rootOf(2, 0, "mine", 2), heldOf(1, 1, "def", 4), fallen(1, 1, ""), heldOf(2, 1, "qrst", 1, 2), heldOf(1, 3, "", 2), rootOf(1, 4, "gh"))
}

// TestTouchingAtEachStep tells that what is read, written, referred to and lost does not hang on how far the slide is, nor the slide on that.
func TestTouchingAtEachStep(t *testing.T) {
	still := slidTouched()
	below, behind := 0, 0
	for steps := range len(impl.BlocksOf(still)) + 2 {
		h := steppedBy(steps, still)
		for _, x := range thingsIn(still) {
			if h.Tenants[x.who].Table[x.slot].At < h.Low {
				below++
			} else if h.Sliding {
				behind++
			}
			what := said("step", int64(steps))
			for at := range x.data + 1 {
				here := touch{x.who, x.number, at, x.data - at}
				checkBytes(t, what, checkRead(t, what, h, here, impl.CdOk), true, checkRead(t, what, still, here, impl.CdOk), true)
				data := anyData(x.data-at, x.number)
				want := checkWritten(t, what, still, here, data, impl.CdOk)
				checkGoesOn(t, what, checkWritten(t, what, h, here, data, impl.CdOk), want)
			}
			for i := range x.refs {
				for _, to := range []int64{0, numberFor(still, x.who, 0), numberFor(still, x.who, 1), x.number} {
					set := setting{x.who, x.number, i, to}
					lost := lostBy(still, set)
					want := checkRefSet(t, what, still, set, impl.CdOk, lost...)
					checkGoesOn(t, what, checkRefSet(t, what, h, set, impl.CdOk, lost...), want)
				}
			}
		}
		checkTouched(t, said("step", int64(steps)), h)
	}
	if below < 20 || behind < 20 {
		t.Errorf("just %d were slid, and %d were not", below, behind)
	}
}

// checkGoesOn has a heap slid on to its end and once more, and all know what they would know of the other one, which was not slid.
func checkGoesOn(t *testing.T, what string, h, still impl.Heap) {
	t.Helper()
	checkUnnoticed(t, what, h, still)
	done, _ := impl.SlideDone(h)
	checkUnnoticed(t, what, done, still)
	done, _ = impl.SlideDone(done)
	checkTogether(t, what, done)
	want, _ := impl.SlideDone(still)
	if done.Top != want.Top {
		t.Errorf("%s: Top is %d, want %d", what, done.Top, want.Top)
	}
}

func TestTouchingInRightHeaps(t *testing.T) {
	for _, c := range append(rightHeaps(), namedHeap{"mixed", mixedHeap()}, namedHeap{"mixed, with a gap", mixedHeap(gapOf(9))}) {
		checkTouched(t, c.what, c.heap)
	}
}

func TestStrangeNumbersForTouching(t *testing.T) {
	for _, h := range []impl.Heap{busyHeap(), slidingHeap(), newHeap(t, 64)} {
		for _, n := range farNumbers() {
			for _, x := range []touch{{n, 496, 0, 1}, {0, n, 0, 1}, {0, 496, n, 1}, {0, 496, 0, n}, {0, 496, n, n}, {0, 496, n, -n}, {0, 496, 2 - n, n}, {0, 496, n, 2 - n}, {2, 1025, n, 3}, {2, 1025, 3, n}, {n, n, n, n}} {
				_, code := readTold(h, x)
				checkRead(t, "strange", h, x, code)
				_, code = writtenTold(h, x, []byte("z"))
				checkWritten(t, "strange", h, x, []byte("z"), code)
			}
			for _, x := range []setting{{n, 496, 0, 385}, {0, n, 0, 385}, {0, 496, n, 385}, {0, 496, 0, n}, {0, 496, n, n}, {2, 1026, 0, n}, {2, 1026, n, 0}, {0, 496 + n, 0, 0}, {n, n, n, n}} {
				to, code := refTold(h, x)
				checkRefAt(t, "strange", h, x, to, code)
				_, code = setTold(h, x)
				checkRefSet(t, "strange", h, x, code, lostBy(h, x)...)
			}
		}
	}
}

// checkCalls holds all four calls against the words, whatever they tell.
func checkCalls(t *testing.T, what string, h impl.Heap, x touch, to int64) {
	t.Helper()
	_, code := readTold(h, x)
	checkRead(t, what, h, x, code)
	data := anyData(min(max(x.n, 0), 300), x.at)
	_, code = writtenTold(h, x, data)
	checkWritten(t, what, h, x, data, code)
	set := setting{x.who, x.number, x.at, to}
	is, code := refTold(h, set)
	checkRefAt(t, what, h, set, is, code)
	_, code = setTold(h, set)
	checkRefSet(t, what, h, set, code, lostBy(h, set)...)
}

func TestStrangeFieldsOfTouching(t *testing.T) {
	withStrangeFields(func(what string, h impl.Heap) {
		checkCalls(t, what, h, touch{0, 496, 0, 2}, 0)
		checkCalls(t, what, h, touch{2, 1026, 0, 1}, 1025)
	})
}

// TestWrongHeapsAreNotTouched has nothing, 0 or the zero Heap, and CdBad, whatever else would be told of the call.
func TestWrongHeapsAreNotTouched(t *testing.T) {
	for _, c := range wrongHeaps() {
		for who := int64(-1); who <= 4; who++ {
			for _, x := range []touch{{who, 496, 0, 1}, {who, 1025, 0, 0}, {who, 0, 0, 0}, {who, 496, 9, 9}, {who, -1, -1, -1}, {who, math.MaxInt64, math.MaxInt64, math.MaxInt64}} {
				checkRead(t, c.what, c.heap, x, impl.CdBad)
				checkAnswer(t, c.what, checkWritten(t, c.what, c.heap, x, []byte("a"), impl.CdBad), 0, impl.Heap{}, 0)
				for _, to := range []int64{0, 385, -1} {
					set := setting{who, x.number, x.at, to}
					checkRefAt(t, c.what, c.heap, set, 0, impl.CdBad)
					checkAnswer(t, c.what, checkRefSet(t, c.what, c.heap, set, impl.CdBad), 0, impl.Heap{}, 0)
				}
			}
		}
	}
}

// drawnTouch is of something that is there, most of the times.
func drawnTouch(d *drawn, h impl.Heap) (touch, int64) {
	list := thingsIn(h)
	if len(list) == 0 || d.below(12) == 0 {
		return touch{d.below(6) - 1, d.below(1300), d.below(3), d.below(3)}, d.below(2) * d.below(1300)
	}
	x := list[d.below(int64(len(list)))]
	to := int64(0)
	if d.below(3) > 0 {
		to = list[d.below(int64(len(list)))].number
	}
	return touch{x.who, x.number, d.below(5) - d.below(2), d.below(4)}, to
}

func TestDrawnTouching(t *testing.T) {
	var d drawn
	for range 1500 {
		h := drawnHeap(&d)
		if _, is := toldOf(h); !is {
			continue
		}
		for range 4 {
			x, to := drawnTouch(&d, h)
			checkCalls(t, "drawn", h, x, to)
		}
	}
}

func TestDrawnChangesAheadOfTouching(t *testing.T) {
	withDrawnChanges(t, 1500, func(d *drawn, h impl.Heap) {
		who := d.below(4)
		if len(h.Tenants[who].Table) > 0 {
			checkCalls(t, "drawn change", h, touch{who, numberFor(h, who, 0), 0, d.below(3)}, 0)
		}
	})
}

// drawnWebHeap has a web of up to 16 things of tenant 1, in a drawn order; few of them are rooted.
func drawnWebHeap(d *drawn) impl.Heap {
	web := drawnWeb(d)
	for !webIsRight(web) {
		web = drawnWeb(d)
	}
	for lost := lostSlots(web, reachedSlots(web)); len(lost) > 0; lost = lostSlots(web, reachedSlots(web)) {
		web[lost[0]].Root = true
	}
	var pieces []piece
	for slot, k := range web {
		p := heldOf(1, int64(slot), strings.Repeat("w", int(d.below(4))))
		p.root = k.Root
		for _, ref := range k.Refs {
			p.refs = append(p.refs, byte(ref+1))
		}
		if k.There {
			pieces = slices.Insert(pieces, int(d.below(int64(len(pieces)+1))), p)
		}
	}
	pieces = slices.Insert(pieces, int(d.below(int64(len(pieces)+1))), nobodys(6+d.below(9), 0))
	return heapOf(400, []impl.Tenant{{}, live(6, 400, max(1, int64(len(web)))), {}, {}}, pieces...)
}

// TestDrawnWebsAreSet sets one ref after the other, and has things be lost by that, till little is left.
func TestDrawnWebsAreSet(t *testing.T) {
	var d drawn
	var lost [17]int
	for range 400 {
		h := drawnWebHeap(&d)
		for range 6 {
			list := slices.DeleteFunc(thingsIn(h), func(x thing) bool { return x.refs == 0 })
			if len(list) == 0 {
				break
			}
			x := list[d.below(int64(len(list)))]
			to := int64(0)
			if all := thingsIn(h); d.below(3) > 0 {
				to = all[d.below(int64(len(all)))].number
			}
			set := setting{x.who, x.number, d.below(x.refs), to}
			gone := lostBy(h, set)
			lost[len(gone)]++
			h = checkRefSet(t, "drawn web", h, set, impl.CdOk, gone...)
		}
	}
	if lost[0] < 100 || lost[1] < 100 || lost[2] < 20 || lost[3] < 5 {
		t.Errorf("how many were lost, how often: %v", lost)
	}
}

// shadow is a thing as who made it knows it, without any floor.
type shadow struct {
	who, number int64
	root        bool
	data        []byte
	refs        []int64
}

// shadows are a heap and all that should be known of it; of numbers that were let go of it is just that they are good for nothing.
type shadows struct {
	heap   impl.Heap
	things []*shadow
	old    []*shadow
	lost   int // of the old ones, those that nothing held any more
}

func (s *shadows) drawnThing(d *drawn) *shadow {
	if len(s.things) == 0 {
		return nil
	}
	return s.things[d.below(int64(len(s.things)))]
}

// letGo keeps those that it is told to keep.
func (s *shadows) letGo(stays func(x *shadow) bool) {
	list := s.things
	s.things = nil
	for _, x := range list {
		if stays(x) {
			s.things = append(s.things, x)
		} else {
			s.old = append(s.old, x)
		}
	}
}

func (s *shadows) held() map[int64]bool {
	held := map[int64]bool{}
	for n := -1; n != len(held); {
		n = len(held)
		for _, x := range s.things {
			if !x.root && !held[x.number] {
				continue
			}
			held[x.number] = true
			for _, to := range x.refs {
				if to != 0 {
					held[to] = true
				}
			}
		}
	}
	return held
}

func (s *shadows) make(d *drawn) {
	x := &shadow{who: d.below(4), root: true, data: make([]byte, d.below(7)), refs: make([]int64, d.below(3)+1)}
	code := int64(0)
	s.heap, code, x.number = impl.Made(s.heap, x.who, int64(len(x.data)), int64(len(x.refs)))
	if code == impl.CdOk {
		s.things = append(s.things, x)
	}
}

func (s *shadows) write(t *testing.T, d *drawn, x *shadow) {
	t.Helper()
	at := d.below(int64(len(x.data) + 1))
	data := anyData(d.below(int64(len(x.data))-at+1), d.below(256))
	h, code := impl.WrittenAt(s.heap, x.who, x.number, at, data)
	if code != impl.CdOk {
		t.Fatalf("shadows: WrittenAt %d: code %d", x.number, code)
	}
	copy(x.data[at:], data)
	s.heap = h
}

// link refers to something of its own, of another one, or to what is let go, or to nothing.
func (s *shadows) link(t *testing.T, d *drawn, x *shadow) {
	t.Helper()
	if len(x.refs) == 0 {
		return
	}
	to, want := &shadow{who: x.who}, int64(impl.CdOk)
	switch d.below(8) {
	case 0:
		if len(s.old) > 0 {
			to, want = s.old[d.below(int64(len(s.old)))], impl.CdTicket
		}
	case 1:
		if to = s.drawnThing(d); to.who != x.who {
			want = impl.CdTicket
		}
	case 2, 3, 4, 5:
		for to = s.drawnThing(d); to.who != x.who; {
			to = s.drawnThing(d)
		}
	}
	i := d.below(int64(len(x.refs)))
	h, code := impl.RefSet(s.heap, x.who, x.number, i, to.number)
	if code != want {
		t.Fatalf("shadows: RefSet %d at %d to %d: code %d, want %d", x.number, i, to.number, code, want)
	}
	if s.heap = h; code == impl.CdOk {
		x.refs[i] = to.number
		held, were := s.held(), len(s.old)
		s.letGo(func(x *shadow) bool { return held[x.number] })
		s.lost += len(s.old) - were
	}
}

// unroot is done by hand, to what is held otherwise.
func (s *shadows) unroot(x *shadow) {
	x.root = false
	x.root = !s.held()[x.number]
	s.heap = twin(s.heap)
	s.heap.Tenants[x.who].Table[x.number%16].Root = x.root
}

func (s *shadows) turn(t *testing.T, d *drawn) {
	t.Helper()
	x := s.drawnThing(d)
	switch kind := d.below(60); {
	case kind == 0:
		who := d.below(4)
		s.heap, _ = impl.Gone(s.heap, who)
		s.letGo(func(x *shadow) bool { return x.who != who })
	case kind < 4:
		s.heap, _ = impl.Entered(s.heap, d.below(4), 40+d.below(60), 2+d.below(7))
	case kind < 8:
		s.heap, _ = impl.SlideBegun(s.heap)
	case kind < 14:
		s.heap, _ = impl.SlideStep(s.heap)
	case kind < 24 || x == nil:
		s.make(d)
	case kind < 32:
		s.write(t, d, x)
	case kind < 46:
		s.link(t, d, x)
	default:
		s.unroot(x)
	}
}

// check reads all there is, and asks for some of what there was.
func (s *shadows) check(t *testing.T) {
	t.Helper()
	if !impl.HeapOk(s.heap) {
		t.Fatalf("shadows: not right: %s", heapShown(s.heap))
	}
	for _, x := range s.things {
		data, code := impl.ReadAt(s.heap, x.who, x.number, 0, int64(len(x.data)))
		if code != impl.CdOk || !bytes.Equal(data, x.data) {
			t.Fatalf("shadows: ReadAt %d: %v, code %d, want %v: %s", x.number, data, code, x.data, heapShown(s.heap))
		}
		for i, want := range append(slices.Clone(x.refs), 0) {
			wantCode := int64(impl.CdOk)
			if i == len(x.refs) {
				wantCode = impl.CdRange
			}
			if to, code := impl.RefAt(s.heap, x.who, x.number, int64(i)); to != want || code != wantCode {
				t.Fatalf("shadows: RefAt %d at %d: %d, code %d, want %d: %s", x.number, i, to, code, want, heapShown(s.heap))
			}
		}
	}
	for _, x := range s.old[max(0, len(s.old)-10):] {
		want := int64(impl.CdTicket)
		if !s.heap.Tenants[x.who].Live {
			want = impl.CdNone
		}
		if _, code := impl.ReadAt(s.heap, x.who, x.number, 0, 0); code != want {
			t.Fatalf("shadows: ReadAt old %d: code %d, want %d: %s", x.number, code, want, heapShown(s.heap))
		}
	}
}

// TestShadows has what is written be read as long as it is held, whatever else is done, and by nobody when it is not any more.
func TestShadows(t *testing.T) {
	var d drawn
	most, old, lost := 0, 0, 0
	for range 40 {
		s := shadows{heap: newHeap(t, 200+d.below(100))}
		for range 200 {
			s.turn(t, &d)
			s.check(t)
			most = max(most, len(s.things))
		}
		old, lost = old+len(s.old), lost+s.lost
	}
	if most < 12 || lost < 50 || old < lost+100 {
		t.Errorf("there were %d things at most, %d were let go, and of these %d were lost", most, old, lost)
	}
}

func TestTouchingIsNew(t *testing.T) {
	heaps := rightHeaps()
	for steps := range len(impl.BlocksOf(slidTouched())) + 1 {
		heaps = append(heaps, namedHeap{said("under way", int64(steps)), steppedBy(steps, slidTouched())})
	}
	for _, c := range heaps {
		list := []thing{{0, 0, 496, 3, 2}, {-1, 0, 0, 0, 0}, {0, 0, -1, 1, 1}, {3, 0, math.MaxInt64, 1, 0}}
		for i, x := range thingsIn(c.heap) {
			if i < 8 {
				list = append(list, x)
			}
		}
		checkTouchingIsNew(t, c.what, c.heap, list)
	}
	for _, c := range wrongHeaps() {
		checkTouchingIsNew(t, c.what, c.heap, []thing{{0, 0, 496, 2, 2}, {2, 1, 1025, 0, 3}, {4, 0, 0, 0, 0}})
	}
}

// checkTouchingIsNew has all of each read and written, and each ref told and set to nothing, to itself, and to what it may not be.
func checkTouchingIsNew(t *testing.T, what string, h impl.Heap, list []thing) {
	t.Helper()
	h, args := withSpareHeap(h)
	for _, x := range list {
		for _, more := range []int64{0, 1} {
			checkNew(t, what+said(": ReadAt", x.who, x.number, more), args, func() []byte {
				got, _ := impl.ReadAt(h, x.who, x.number, 0, x.data+more)
				return got
			})
			data := withSpare(anyData(x.data+more, 9))
			checkNewHeaps(t, what+said(": WrittenAt", x.who, x.number, more), append(slices.Clone(args), data), func() impl.Heap {
				got, _ := impl.WrittenAt(h, x.who, x.number, 0, data.arg)
				return got
			})
		}
		for i := range x.refs + 1 {
			impl.RefAt(h, x.who, x.number, i)
			for _, to := range []int64{0, x.number, -1} {
				checkNewHeaps(t, what+said(": RefSet", x.who, x.number, i, to), args, func() impl.Heap {
					got, _ := impl.RefSet(h, x.who, x.number, i, to)
					return got
				})
			}
		}
	}
}

// TestWhatIsReadIsNoPartOfTheHeap changes what was read, and what was written, and reads it again.
func TestWhatIsReadIsNoPartOfTheHeap(t *testing.T) {
	h := mixedHeap()
	for _, x := range thingsIn(h) {
		data := anyData(x.data, 40)
		got, _ := impl.WrittenAt(h, x.who, x.number, 0, data)
		want := twin(got)
		scribble(data, otherByte)
		for n := range x.data + 1 {
			read, _ := impl.ReadAt(got, x.who, x.number, x.data-n, n)
			scribble(read, otherByte)
		}
		checkAnswer(t, "what is read", got, 0, want, 0)
		checkBytes(t, "what is read", checkRead(t, "what is read", got, touch{x.who, x.number, 0, x.data}, impl.CdOk), true, anyData(x.data, 40), true)
		checkAnswer(t, "what it was made of", h, 0, mixedHeap(), 0)
	}
}

// TestOneHeapTouchedTwice has answers made of one heap: none shows what was done to the others.
func TestOneHeapTouchedTwice(t *testing.T) {
	h := slidTouched()
	var answers, wanted []impl.Heap
	for _, x := range thingsIn(h) {
		got, _ := impl.WrittenAt(h, x.who, x.number, 0, anyData(x.data, 3))
		again, _ := impl.RefSet(got, x.who, x.number, 0, 0)
		other, _ := impl.RefSet(h, x.who, x.number, 0, x.number)
		answers, wanted = append(answers, got, again, other), append(wanted, twin(got), twin(again), twin(other))
	}
	for i, x := range answers {
		checkAnswer(t, said("answer", int64(i)), x, 0, wanted[i], 0)
		markLists(x, int64(i))
		scribble(x.Tenants, func(impl.Tenant) impl.Tenant { return usedTenant() })
	}
	checkAnswer(t, "what they were made of", h, 0, slidTouched(), 0)
}
