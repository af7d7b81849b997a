package tests

import (
	"bytes"
	"math"
	"slices"
	"strings"
	"testing"

	"loop.example/g00750/impl"
)

// twin is a heap that is alike and has memory of its own.
func twin(h impl.Heap) impl.Heap {
	h.Floor, h.Tenants = slices.Clone(h.Floor), slices.Clone(h.Tenants)
	for i := range h.Tenants {
		h.Tenants[i].Table = slices.Clone(h.Tenants[i].Table)
	}
	return h
}

func sameHeap(a, b impl.Heap) bool {
	marks := a.Top == b.Top && a.Sliding == b.Sliding && a.Low == b.Low && a.High == b.High && a.NextTag == b.NextTag
	return marks && bytes.Equal(a.Floor, b.Floor) && slices.EqualFunc(a.Tenants, b.Tenants, sameTenant)
}

// enteredTold and goneTold are written from the chapter's words; the heap that came stays.
func enteredTold(h impl.Heap, who, bytes, slots int64) (impl.Heap, int64) {
	if _, is := toldOf(h); !is {
		return impl.Heap{}, impl.CdBad
	}
	h = twin(h)
	promised := promisedBytes(h.Tenants)
	if who < 0 || who > 3 || bytes < 0 || bytes > 1024 || slots < 1 || slots > 16 {
		return h, impl.CdBad
	}
	if h.Tenants[who].Live {
		return h, impl.CdThere
	}
	if promised+bytes > int64(len(h.Floor)) || h.NextTag > 100000 {
		return h, impl.CdRoom
	}
	h.Tenants[who] = live(h.NextTag, bytes, slots)
	h.NextTag++
	return h, impl.CdOk
}

func goneTold(h impl.Heap, who int64) (impl.Heap, int64) {
	if _, is := toldOf(h); !is {
		return impl.Heap{}, impl.CdBad
	}
	h = twin(h)
	if who < 0 || who > 3 {
		return h, impl.CdBad
	}
	if !h.Tenants[who].Live {
		return h, impl.CdNone
	}
	for _, p := range placesTold(h) {
		block := h.Floor[p.At : p.At+p.Head.Size]
		if block[2] == byte(who+1) {
			block[2], block[3] = 0, 0
			clear(block[6:])
		}
	}
	h.Tenants[who] = impl.Tenant{}
	return h, impl.CdOk
}

// checkAnswer holds a Heap and a code against what is wanted; of another Heap nothing more could be asked.
func checkAnswer(t *testing.T, what string, got impl.Heap, code int64, want impl.Heap, wantCode int64) {
	t.Helper()
	if code != wantCode || !sameHeap(got, want) {
		t.Fatalf("%s: got code %d and %s %v; want code %d and %s %v", what, code, heapShown(got), got.Floor, wantCode, heapShown(want), want.Floor)
	}
}

type heapCall func(h impl.Heap) (impl.Heap, int64)

// checkChange takes the code from whoever asks; the words have to tell the same. It answers with the Heap, for what comes next.
func checkChange(t *testing.T, what string, h impl.Heap, code int64, call, told heapCall) impl.Heap {
	t.Helper()
	was := twin(h)
	want, wantCode := told(h)
	got, is := call(h)
	checkAnswer(t, what, got, is, want, code)
	if wantCode != code {
		t.Errorf("%s: want code %d, by the words %d", what, code, wantCode)
	}
	if !sameHeap(h, was) {
		t.Errorf("%s: the heap that came is %s, was %s", what, heapShown(h), heapShown(was))
	}
	return got
}

func checkEntered(t *testing.T, what string, h impl.Heap, who, bytes, slots, code int64) impl.Heap {
	t.Helper()
	what += said(": Entered", who, bytes, slots)
	call := func(h impl.Heap) (impl.Heap, int64) { return impl.Entered(h, who, bytes, slots) }
	told := func(h impl.Heap) (impl.Heap, int64) { return enteredTold(h, who, bytes, slots) }
	got := checkChange(t, what, h, code, call, told)
	if code == impl.CdOk {
		checkCome(t, what, got, h, who)
	}
	return got
}

// checkCome is the first half of promise 9: all that is promised is there, and who comes has nothing but that.
func checkCome(t *testing.T, what string, h, was impl.Heap, who int64) {
	t.Helper()
	checkRightHeap(t, what, h)
	x := h.Tenants[who]
	if impl.PromisedTo(h.Tenants) > int64(len(h.Floor)) || x.Tag != was.NextTag || h.NextTag != x.Tag+1 || !bytes.Equal(h.Floor, was.Floor) {
		t.Errorf("%s: came as %s", what, heapShown(h))
	}
	checkUsedBy(t, what, h, who, 0)
	checkWebIn(t, what, h, who, make([]impl.Knot, len(x.Table)))
}

func checkGone(t *testing.T, what string, h impl.Heap, who, code int64) impl.Heap {
	t.Helper()
	what += said(": Gone", who)
	call := func(h impl.Heap) (impl.Heap, int64) { return impl.Gone(h, who) }
	told := func(h impl.Heap) (impl.Heap, int64) { return goneTold(h, who) }
	got := checkChange(t, what, h, code, call, told)
	if code == impl.CdOk {
		checkLeft(t, what, got, h, who)
	}
	return got
}

// checkLeft is the other half: of who went nothing is left but that something of that Size, with so many Refs, was there.
func checkLeft(t *testing.T, what string, h, was impl.Heap, who int64) {
	t.Helper()
	checkRightHeap(t, what, h)
	checkNobodyIn(t, what, h, who)
	blocks := slices.Clone(impl.BlocksOf(was))
	for i, p := range blocks {
		if p.Head.Owner == who {
			blocks[i].Head = impl.Head{Size: p.Head.Size, Owner: -1, Refs: p.Head.Refs}
			if !nothingBut0(h.Floor[p.At+6 : p.At+p.Head.Size]) {
				t.Errorf("%s: left behind the head at %d: %v", what, p.At, h.Floor[p.At:p.At+p.Head.Size])
			}
		} else if !bytes.Equal(h.Floor[p.At:p.At+p.Head.Size], was.Floor[p.At:p.At+p.Head.Size]) {
			t.Errorf("%s: the block at %d of %d is otherwise", what, p.At, p.Head.Owner)
		}
	}
	checkBlocks(t, what, h, blocks)
	for other := range int64(4) {
		if other != who {
			checkWebIn(t, what, h, other, impl.WebIn(was, other))
			checkUsedBy(t, what, h, other, impl.UsedBy(was, other))
		}
	}
	if h.NextTag != was.NextTag || h.Top != was.Top || h.Sliding != was.Sliding || h.Low != was.Low || h.High != was.High {
		t.Errorf("%s: left %s, was %s", what, heapShown(h), heapShown(was))
	}
}

// without is of the same pieces when one of the tenants is gone.
func without(h impl.Heap, tenants []impl.Tenant, who int64, pieces []piece) impl.Heap {
	tenants, pieces = slices.Clone(tenants), slices.Clone(pieces)
	tenants[who] = impl.Tenant{}
	for i, p := range pieces {
		if !p.isGap && p.owner == who {
			pieces[i] = nobodys(p.size(), int64(len(p.refs)))
		}
	}
	left := heapOf(int64(len(h.Floor)), tenants, pieces...)
	left.NextTag = h.NextTag
	return left
}

func newHeap(t *testing.T, size int64) impl.Heap {
	t.Helper()
	h, is := impl.NewHeap(size)
	if !is {
		t.Fatalf("no new heap of %d", size)
	}
	return h
}

func TestTheCodes(t *testing.T) {
	codes := []int64{
		impl.CdOk, impl.CdBad, impl.CdNone, impl.CdThere, impl.CdRoom, impl.CdQuota, impl.CdSlots, impl.CdTicket, impl.CdRange, impl.CdIdle, impl.CdBusy,
	}
	for i, code := range codes {
		if code != int64(i) {
			t.Errorf("the code of %d is %d", i, code)
		}
	}
}

func TestComingOneAfterAnother(t *testing.T) {
	h := newHeap(t, 256)
	for who := range int64(4) {
		h = checkEntered(t, "one after another", h, who, 10*who, who+1, impl.CdOk)
		x := h.Tenants[who]
		if !x.Live || x.Tag != who+1 || x.Bytes != 10*who || !slices.Equal(x.Table, make([]impl.Slot, who+1)) || h.NextTag != who+2 {
			t.Fatal(heapShown(h))
		}
	}
	for _, who := range []int64{2, 0, 3, 1} {
		h = checkGone(t, "one after another", h, who, impl.CdOk)
		h = checkGone(t, "not twice", h, who, impl.CdNone)
	}
	want := newHeap(t, 256)
	want.NextTag = 5
	checkAnswer(t, "all gone", h, 0, want, 0)
	for who := int64(3); who >= 0; who-- {
		h = checkEntered(t, "again", h, who, 64, 16, impl.CdOk)
		if h.Tenants[who].Tag != 8-who {
			t.Fatal(heapShown(h))
		}
	}
}

// TestComingAndGoingInTurns has the same one come and go, others beside it or not, each time with another Tag.
func TestComingAndGoingInTurns(t *testing.T) {
	for who := range int64(4) {
		for _, h := range []impl.Heap{newHeap(t, 64), heapOf(256, []impl.Tenant{{}, {}, {}, {}}, nobodys(9, 1), gapOf(7), nobodys(30, 0))} {
			other := (who + 1) % 4
			for turn := int64(1); turn <= 20; turn++ {
				h = checkEntered(t, "in turns", h, who, turn*3, turn%16+1, impl.CdOk)
				if h.Tenants[who].Tag != turn || h.NextTag != turn+1 {
					t.Fatal(heapShown(h))
				}
				h = checkEntered(t, "there", h, who, turn*3, turn%16+1, impl.CdThere)
				h = checkGone(t, "in turns", h, who, impl.CdOk)
				h = checkGone(t, "gone", h, other, impl.CdNone)
			}
			h = checkEntered(t, "another", h, other, 64, 1, impl.CdOk)
			h = checkEntered(t, "beside the other", h, who, 0, 2, impl.CdOk)
			h = checkGone(t, "ahead of the other", h, other, impl.CdOk)
			h = checkGone(t, "behind the other", h, who, impl.CdOk)
			if h.NextTag != 23 {
				t.Errorf("NextTag is %d", h.NextTag)
			}
		}
	}
}

// TestAnOldTicket tells that what was good for one that went is good for nothing when the same t is there again.
func TestAnOldTicket(t *testing.T) {
	h := busyHeap()
	number := impl.NumberOf(impl.Ticket{Tag: 3, Gen: 7, Slot: 0})
	checkLookedUp(t, h.Tenants[0].Table, h.Tenants[0].Tag, number, 0)
	h = checkGone(t, "old", h, 0, impl.CdOk)
	h = checkEntered(t, "old", h, 0, 60, 4, impl.CdOk)
	checkLookedUp(t, h.Tenants[0].Table, h.Tenants[0].Tag, number, -1)
	h.Tenants[0].Table[0] = impl.Slot{Used: true, Gen: 7}
	checkLookedUp(t, h.Tenants[0].Table, h.Tenants[0].Tag, number, -1)
}

// TestGoneByteByByte is the busy heap with each of its tenants gone, written down.
func TestGoneByteByByte(t *testing.T) {
	first := []byte{10, 0, 1, 0, 2, 0, 2, 0, 'a', 'b', 9, 0, 3, 1, 0, 0, 'x', 'y', 'z', 7, 0, 1, 1, 1, 0, 1}
	last := []byte{11, 0, 1, 1, 2, 0, 9, 200, 'o', 'l', 'd', 9, 0, 0, 0, 0, 0, 0, 0, 0, 8, 0, 3, 2, 1, 0, 3, 'q', 6, 0, 4, 15, 0, 0}
	for _, c := range []struct {
		who         int64
		first, last []byte
	}{
		{0,
			[]byte{10, 0, 0, 0, 2, 0, 0, 0, 0, 0, 9, 0, 3, 1, 0, 0, 'x', 'y', 'z', 7, 0, 0, 0, 1, 0, 0},
			[]byte{11, 0, 0, 0, 2, 0, 0, 0, 0, 0, 0, 9, 0, 0, 0, 0, 0, 0, 0, 0, 8, 0, 3, 2, 1, 0, 3, 'q', 6, 0, 4, 15, 0, 0}},
		{2,
			[]byte{10, 0, 1, 0, 2, 0, 2, 0, 'a', 'b', 9, 0, 0, 0, 0, 0, 0, 0, 0, 7, 0, 1, 1, 1, 0, 1},
			[]byte{11, 0, 1, 1, 2, 0, 9, 200, 'o', 'l', 'd', 9, 0, 0, 0, 0, 0, 0, 0, 0, 8, 0, 0, 0, 1, 0, 0, 0, 6, 0, 4, 15, 0, 0}},
		{3, first, append(slices.Clone(last[:28]), 6, 0, 0, 0, 0, 0)},
	} {
		for _, x := range []struct {
			heap impl.Heap
			gap  int
		}{{busyHeap(), 0}, {slidingHeap(), 13}} {
			want := twin(x.heap)
			want.Tenants[c.who] = impl.Tenant{}
			floor := slices.Concat(first, make([]byte, x.gap), last)
			checkBytes(t, "the floor as it was", x.heap.Floor[:60+x.gap], true, floor, true)
			copy(want.Floor, slices.Concat(c.first, make([]byte, x.gap), c.last))
			got, code := impl.Gone(x.heap, c.who)
			checkAnswer(t, said("byte by byte", c.who), got, code, want, impl.CdOk)
			checkGone(t, "byte by byte", x.heap, c.who, impl.CdOk)
		}
	}
}

// TestGoneOfEveryGap has each tenant go from a Sliding heap, with the gap ahead of each block, and behind the last one.
func TestGoneOfEveryGap(t *testing.T) {
	for i := range len(busyPieces()) + 1 {
		for _, n := range []int64{0, 1, 6, 13, 68} {
			pieces := slices.Insert(busyPieces(), i, gapOf(n))
			h := heapOf(128, busyTenants(), pieces...)
			for who := range int64(4) {
				what := said("gap", int64(i), n)
				if who == 1 {
					checkGone(t, what, h, who, impl.CdNone)
					continue
				}
				got := checkGone(t, what, h, who, impl.CdOk)
				checkAnswer(t, what, got, 0, without(h, busyTenants(), who, pieces), 0)
			}
			h = checkEntered(t, "while Sliding", h, 1, 28, 3, impl.CdOk)
			if !h.Sliding || h.High-h.Low != n {
				t.Error(heapShown(h))
			}
		}
	}
}

// TestGoneInAnyOrder has all go, in each order; what is left does not tell which it was.
func TestGoneInAnyOrder(t *testing.T) {
	for _, fresh := range []func() impl.Heap{busyHeap, slidingHeap} {
		var left []impl.Heap
		for _, order := range [][]int64{{0, 2, 3}, {0, 3, 2}, {2, 0, 3}, {2, 3, 0}, {3, 0, 2}, {3, 2, 0}} {
			h := fresh()
			for _, who := range order {
				h = checkGone(t, said("in order", order...), h, who, impl.CdOk)
			}
			left = append(left, h)
			checkAnswer(t, said("in order", order...), h, 0, left[0], 0)
		}
		for _, p := range impl.BlocksOf(left[0]) {
			if p.Head.Owner != -1 || p.Head.Slot != 0 {
				t.Errorf("left: %v", p)
			}
		}
	}
}

func TestGoneFromRightHeaps(t *testing.T) {
	for _, c := range rightHeaps() {
		for who := range int64(4) {
			code := int64(impl.CdNone)
			if c.heap.Tenants[who].Live {
				code = impl.CdOk
			}
			h := checkGone(t, c.what, c.heap, who, code)
			checkGone(t, c.what, h, who, impl.CdNone)
			if h.NextTag <= impl.MaxTag {
				checkEntered(t, c.what, h, who, 0, 16, impl.CdOk)
			}
		}
	}
}

// TestEveryHeadOfOneGone has heads of each Size from HeadSize on, with each number of Refs, of each slot, whether they stand or not.
func TestEveryHeadOfOneGone(t *testing.T) {
	for refs := range int64(7) {
		for more := range int64(5) {
			for _, slot := range []int64{0, 1, 7, 15} {
				data := strings.Repeat("\xFF", int(more))
				for _, p := range []piece{rootOf(2, slot, data, slices.Repeat([]byte{byte(slot + 1)}, int(refs))...), fallen(2, slot, data, slices.Repeat([]byte{255}, int(refs))...)} {
					h := heapOf(64, []impl.Tenant{{}, {}, live(1, 64, 16), {}}, p, nobodys(9, 1))
					got := checkGone(t, said("head", refs, more, slot), h, 2, impl.CdOk)
					head := []byte{byte(6 + refs + more), 0, 0, 0, byte(refs), 0}
					checkBytes(t, said("head", refs, more, slot), got.Floor[:p.size()+1], true, slices.Concat(head, make([]byte, refs+more), []byte{9}), true)
				}
			}
		}
	}
	for _, size := range []int64{255, 256, 257, 512, 999, 1000} {
		p := fallen(0, 15, strings.Repeat("\x01", int(size-9)), 1, 2, 3)
		h := heapOf(1024, []impl.Tenant{live(100000, 0, 1), {}, {}, {}}, p, fallen(0, 0, "abc"))
		got := checkGone(t, said("large", size), h, 0, impl.CdOk)
		checkBytes(t, said("large", size), got.Floor[:6], true, []byte{byte(size % 256), byte(size / 256), 0, 0, 3, 0}, true)
	}
}

// TestWhatTheyWroteIsNotTold has two heaps in which other tenants wrote other things in blocks that are alike in Size and Refs.
func TestWhatTheyWroteIsNotTold(t *testing.T) {
	for _, gap := range []int64{0, 20} {
		these := []piece{rootOf(1, 0, "secret", 2), heldOf(1, 1, "abc"), gapOf(gap), fallen(1, 9, "old", 7, 8), rootOf(1, 2, "", 0, 1, 3), nobodys(8, 0)}
		those := []piece{rootOf(3, 5, "public", 0), fallen(3, 0, "\xFF\xFE\xFD"), gapOf(gap), rootOf(3, 4, "new", 6, 5), fallen(3, 15, "", 1, 2, 3), nobodys(8, 0)}
		first := heapOf(128, []impl.Tenant{{}, live(1, 60, 4), {}, {}}, these...)
		second := heapOf(128, []impl.Tenant{{}, {}, {}, live(1, 70, 16)}, those...)
		if bytes.Equal(first.Floor, second.Floor) {
			t.Fatal("the floors are alike ahead of it")
		}
		first, second = checkGone(t, "one", first, 1, impl.CdOk), checkGone(t, "another", second, 3, impl.CdOk)
		checkAnswer(t, "what they wrote", first, 0, second, 0)
		// Both in one heap.
		mixed := []piece{rootOf(1, 0, "secret", 2), rootOf(3, 0, "public", 0), heldOf(1, 1, "abc"), rootOf(3, 7, "\xFF\xFE\xFD"), gapOf(gap)}
		h := heapOf(128, []impl.Tenant{{}, live(1, 40, 2), {}, live(2, 40, 8)}, mixed...)
		h = checkGone(t, "both", checkGone(t, "both", h, 3, impl.CdOk), 1, impl.CdOk)
		size := mixed[0].size()
		if !bytes.Equal(h.Floor[:size], h.Floor[size:2*size]) || !bytes.Equal(h.Floor[2*size:2*size+9], h.Floor[2*size+9:2*size+18]) {
			t.Errorf("two that are gone: %v", h.Floor)
		}
	}
}

func TestTheEdgesOfComing(t *testing.T) {
	for _, c := range []struct{ who, bytes, slots, code int64 }{
		{-1, 10, 2, impl.CdBad}, {0, 10, 2, impl.CdOk}, {3, 10, 2, impl.CdOk}, {4, 10, 2, impl.CdBad},
		{1, -1, 2, impl.CdBad}, {1, 0, 2, impl.CdOk}, {1, 1, 2, impl.CdOk}, {1, 1023, 2, impl.CdOk}, {1, 1024, 2, impl.CdOk}, {1, 1025, 2, impl.CdBad},
		{1, 10, -1, impl.CdBad}, {1, 10, 0, impl.CdBad}, {1, 10, 1, impl.CdOk}, {1, 10, 16, impl.CdOk}, {1, 10, 17, impl.CdBad},
		{0, 0, 1, impl.CdOk}, {3, 1024, 16, impl.CdOk}, {-1, -1, 0, impl.CdBad}, {4, 1025, 17, impl.CdBad},
	} {
		h := checkEntered(t, "edges", newHeap(t, 1024), c.who, c.bytes, c.slots, c.code)
		for who := int64(-1); who <= 4; who++ {
			code := int64(impl.CdNone)
			switch {
			case who < 0 || who > 3:
				code = impl.CdBad
			case c.code == impl.CdOk && who == c.who:
				code = impl.CdOk
			}
			checkGone(t, "edges", h, who, code)
		}
	}
}

// TestHowMuchIsLeftToPromise has what was promised to others add up to each number that leaves some, and to all.
func TestHowMuchIsLeftToPromise(t *testing.T) {
	for _, size := range []int64{64, 65, 128, 1023, 1024} {
		for _, shares := range [][]int64{{0}, {1}, {size - 1}, {size}, {size - 30, 30}, {20, 0, 30}, {20, 14, 30}, {size - 2, 1, 1}, {0, 0, size}, {0, 0, size - 1}} {
			tenants, left := make([]impl.Tenant, 4), size
			for i, n := range shares {
				tenants[i] = live(int64(i)+1, n, 3)
				left -= n
			}
			h := heapOf(size, tenants)
			what := said("left", append(shares, left)...)
			for _, bytes := range []int64{0, 1, left - 1, left, left + 1, left + 2, 1024} {
				code := int64(impl.CdRoom)
				switch {
				case bytes < 0 || bytes > 1024:
					code = impl.CdBad
				case bytes <= left:
					code = impl.CdOk
				}
				checkEntered(t, what, h, 3, bytes, 1, code)
			}
			h = checkEntered(t, what, h, 3, left, 16, impl.CdOk)
			h = checkGone(t, what, h, 0, impl.CdOk)
			h = checkEntered(t, what, h, 0, shares[0]+1, 1, codeFor(shares[0]+1))
			checkEntered(t, what, h, 0, shares[0], 1, impl.CdOk)
		}
	}
}

// codeFor is of as many bytes where that is more than there is.
func codeFor(bytes int64) int64 {
	if bytes > 1024 {
		return impl.CdBad
	}
	return impl.CdRoom
}

// TestRoomIsWhatWasPromised has blocks of others fill the floor, or none: neither changes what may be promised.
func TestRoomIsWhatWasPromised(t *testing.T) {
	full := heapOf(64, []impl.Tenant{live(1, 10, 1), {}, {}, {}}, rootOf(0, 0, "abcd"), nobodys(30, 0), fallen(0, 0, strings.Repeat("x", 18)))
	bare := heapOf(64, []impl.Tenant{live(1, 10, 1), {}, {}, {}})
	for _, h := range []impl.Heap{full, bare} {
		checkEntered(t, "room", h, 1, 54, 1, impl.CdOk)
		checkEntered(t, "room", h, 1, 55, 1, impl.CdRoom)
	}
	if full.Top != 64 {
		t.Errorf("Top is %d", full.Top)
	}
}

func TestTheLastTags(t *testing.T) {
	h := newHeap(t, 64)
	h.NextTag = impl.MaxTag - 1
	h = checkEntered(t, "the last but one", h, 2, 10, 1, impl.CdOk)
	h = checkEntered(t, "the last", h, 0, 10, 1, impl.CdOk)
	if h.Tenants[0].Tag != 100000 || h.NextTag != 100001 {
		t.Fatal(heapShown(h))
	}
	h = checkEntered(t, "none left", h, 1, 10, 1, impl.CdRoom)
	h = checkEntered(t, "none left", h, 1, 0, 1, impl.CdRoom)
	h = checkEntered(t, "there", h, 0, 10, 1, impl.CdThere)
	h = checkEntered(t, "out of range", h, 4, 10, 1, impl.CdBad)
	h = checkEntered(t, "out of range", h, 1, 10, 17, impl.CdBad)
	h = checkGone(t, "none left", h, 0, impl.CdOk)
	h = checkEntered(t, "none left, though one went", h, 0, 10, 1, impl.CdRoom)
	h = checkGone(t, "none left", h, 2, impl.CdOk)
	for who := range int64(4) {
		h = checkEntered(t, "none left, and nobody there", h, who, 0, 1, impl.CdRoom)
	}
	for _, next := range []int64{1, 2, 99999, 100000} {
		x := newHeap(t, 64)
		x.NextTag = next
		checkEntered(t, said("NextTag", next), x, 3, 64, 16, impl.CdOk)
	}
	for _, next := range append(strange(), 0, -1, 100002) {
		x := newHeap(t, 64)
		x.NextTag = next
		code := int64(impl.CdBad)
		if next == 100001 {
			code = impl.CdRoom
		}
		checkEntered(t, said("NextTag", next), x, 3, 64, 16, code)
	}
}

// TestTheCodeNamedFirst has two and more codes that apply.
func TestTheCodeNamedFirst(t *testing.T) {
	worn := busyHeap()
	worn.NextTag = 100001
	for _, h := range []impl.Heap{busyHeap(), worn} {
		for _, c := range []struct{ who, bytes, slots, code int64 }{
			{0, -1, 1, impl.CdBad}, {0, 1025, 1, impl.CdBad}, {0, 1, 0, impl.CdBad}, {0, 1, 17, impl.CdBad}, {0, 1025, 17, impl.CdBad},
			{1, 1025, 1, impl.CdBad}, {1, 1024, 0, impl.CdBad}, {1, 1024, 17, impl.CdBad}, {4, 1024, 1, impl.CdBad}, {-1, 1024, 1, impl.CdBad}, {4, 1, 1, impl.CdBad},
			{0, 29, 1, impl.CdThere}, {2, 1024, 16, impl.CdThere}, {3, 0, 1, impl.CdThere}, {0, 28, 1, impl.CdThere},
			{1, 29, 1, impl.CdRoom}, {1, 1024, 16, impl.CdRoom},
		} {
			checkEntered(t, "named first", h, c.who, c.bytes, c.slots, c.code)
		}
		for _, who := range append(strange(), -1, 4, 5) {
			checkGone(t, "named first", h, who, impl.CdBad)
		}
	}
	checkEntered(t, "as many as there are", busyHeap(), 1, 28, 16, impl.CdOk)
}

// wrongHeaps are wrong for each reason that chapter 8 gives, most of them by one change of a right heap.
func wrongHeaps() []namedHeap {
	wrong := []namedHeap{{"zero", impl.Heap{}}, {"just a floor", impl.Heap{Floor: make([]byte, 64)}}, {"of a small floor", heapOf(63, nobodyThere())}, {"of a large floor", heapOf(1025, nobodyThere())}}
	for _, c := range wrongChanges() {
		h := busyHeap()
		c.do(&h)
		wrong = append(wrong, namedHeap{c.what, h})
	}
	for _, c := range []change{
		byteIs("not bare in the gap", 30, 1), {"Low one less", func(h *impl.Heap) { h.Low-- }}, {"High one more", func(h *impl.Heap) { h.High++ }},
		{"Top one less", func(h *impl.Heap) { h.Top-- }}, {"not Sliding", func(h *impl.Heap) { h.Sliding = false }},
		{"NextTag 0", func(h *impl.Heap) { h.NextTag = 0 }}, {"NextTag no more than a Tag", func(h *impl.Heap) { h.NextTag = 8 }},
		{"two of one Tag", func(h *impl.Heap) { h.Tenants[0].Tag = 5 }}, {"promised too much", func(h *impl.Heap) { h.Tenants[3].Bytes = 29 }},
		{"more than was promised", func(h *impl.Heap) { h.Tenants[0].Bytes = 16 }}, {"three tenants", func(h *impl.Heap) { h.Tenants = h.Tenants[:3] }},
		{"five tenants", func(h *impl.Heap) { h.Tenants = append(h.Tenants, impl.Tenant{}) }}, {"not Live, with a Tag", func(h *impl.Heap) { h.Tenants[1].Tag = 1 }},
	} {
		h := slidingHeap()
		c.do(&h)
		wrong = append(wrong, namedHeap{c.what, h})
	}
	return wrong
}

// TestWrongHeapsAheadOfAll has the zero Heap, with CdBad, whatever else would be told of the call.
func TestWrongHeapsAheadOfAll(t *testing.T) {
	for _, c := range wrongHeaps() {
		for who := int64(-1); who <= 4; who++ {
			for _, x := range [][2]int64{{10, 2}, {-1, 2}, {1025, 2}, {10, 0}, {10, 17}, {1024, 1}} {
				got := checkEntered(t, c.what, c.heap, who, x[0], x[1], impl.CdBad)
				checkAnswer(t, c.what, got, 0, impl.Heap{}, 0)
			}
			got := checkGone(t, c.what, c.heap, who, impl.CdBad)
			checkAnswer(t, c.what, got, 0, impl.Heap{}, 0)
		}
	}
}

// farNumbers are strange ones, and good ones but for the bits ahead of them.
func farNumbers() []int64 {
	list := append(strange(), 17, 1025, 100002)
	for bit := 17; bit < 64; bit++ {
		for _, good := range []int64{0, 1, 3, 16} {
			list = append(list, good+int64(-1)<<bit, good-int64(-1)<<bit)
		}
	}
	return list
}

func TestStrangeNumbersForComing(t *testing.T) {
	for _, h := range []impl.Heap{busyHeap(), slidingHeap(), newHeap(t, 64)} {
		for _, n := range farNumbers() {
			for _, c := range [][3]int64{{n, 10, 2}, {1, n, 2}, {1, 10, n}, {0, n, 2}, {0, 10, n}, {n, n, n}, {n, -n, n}, {1, n, n}} {
				_, code := enteredTold(h, c[0], c[1], c[2])
				checkEntered(t, "strange", h, c[0], c[1], c[2], code)
			}
			_, code := goneTold(h, n)
			checkGone(t, "strange", h, n, code)
		}
	}
}

// withStrangeFields does it for heaps that have a strange number in one field, in each of them in turn.
func withStrangeFields(do func(what string, h impl.Heap)) {
	for _, n := range farNumbers() {
		for field := range 8 {
			for _, h := range []impl.Heap{busyHeap(), slidingHeap()} {
				x := &h.Tenants[0]
				*[]*int64{&h.Top, &h.Low, &h.High, &h.NextTag, &x.Tag, &x.Bytes, &x.Table[1].At, &x.Table[3].Gen}[field] = n
				do(said(flagShown(h.Sliding, "sliding")+"field", int64(field), n), h)
			}
		}
	}
}

// checkComingAndGoing holds both calls against the words, whatever they tell.
func checkComingAndGoing(t *testing.T, what string, h impl.Heap, comes, goes int64) {
	t.Helper()
	_, code := enteredTold(h, comes, 10, 2)
	checkEntered(t, what, h, comes, 10, 2, code)
	_, code = goneTold(h, goes)
	checkGone(t, what, h, goes, code)
}

func TestStrangeFields(t *testing.T) {
	withStrangeFields(func(what string, h impl.Heap) {
		checkComingAndGoing(t, what, h, 1, 0)
		checkComingAndGoing(t, what, h, 1, 2)
	})
}

// TestDrawnComingAndGoing has heaps in which some come and some go, most of them as they may.
func TestDrawnComingAndGoing(t *testing.T) {
	var d drawn
	codes := map[int64]int{}
	for range 1500 {
		h := drawnHeap(&d)
		for range d.below(8) {
			who := []int64{-1, 0, 0, 0, 1, 1, 1, 2, 2, 2, 3, 3, 3, 4}[d.below(14)]
			if d.below(2) == 0 {
				_, code := goneTold(h, who)
				h = checkGone(t, "drawn", h, who, code)
				codes[code]++
				continue
			}
			bytes, slots := d.below(250)-1, d.below(17)+d.below(2)
			_, code := enteredTold(h, who, bytes, slots)
			h = checkEntered(t, "drawn", h, who, bytes, slots, code)
			codes[code]++
		}
	}
	checkOften(t, codes, 100, impl.CdOk, impl.CdBad, impl.CdNone, impl.CdThere, impl.CdRoom)
}

// checkOften tells whether what was drawn came to each of the codes.
func checkOften(t *testing.T, codes map[int64]int, least int, wanted ...int64) {
	t.Helper()
	for _, code := range wanted {
		if codes[code] < least {
			t.Errorf("just %d of code %d: %v", codes[code], code, codes)
		}
	}
}

// withDrawnChanges does it for as many drawn heaps, some of which are not right any more.
func withDrawnChanges(t *testing.T, n int, do func(d *drawn, h impl.Heap)) {
	t.Helper()
	var d drawn
	right := 0
	for range n {
		h := drawnHeap(&d)
		drawnChange(&d, &h)
		if _, is := toldOf(h); is {
			right++
		}
		do(&d, h)
	}
	if right < n/6 || right > n-n/6 {
		t.Errorf("%d of %d heaps are right", right, n)
	}
}

func TestDrawnChangesAheadOfGoing(t *testing.T) {
	withDrawnChanges(t, 3000, func(d *drawn, h impl.Heap) {
		who := d.below(4)
		checkComingAndGoing(t, "drawn change", h, who, who)
	})
}

// markLists writes over each Table, and over the floor, with all the room behind them; each Table has a mark of its own.
func markLists(h impl.Heap, mark int64) {
	for i, x := range h.Tenants {
		scribble(x.Table, func(impl.Slot) impl.Slot { return impl.Slot{Gen: mark + int64(i)} })
	}
	scribble(h.Floor, func(byte) byte { return byte(mark) })
}

// checkNewHeaps tells that a call leaves its arguments alone, and answers with a Heap of which each list has memory of its own.
func checkNewHeaps(t *testing.T, what string, args []kept, call func() impl.Heap) {
	t.Helper()
	first, second := call(), call()
	was := twin(second)
	for _, a := range args {
		a.checkSame(t, what)
	}
	if !sameHeap(first, second) {
		t.Errorf("%s: two answers differ: %s, %s", what, heapShown(first), heapShown(second))
	}
	markLists(first, 1000)
	for i, x := range first.Tenants {
		if slices.ContainsFunc(x.Table[:cap(x.Table)], func(s impl.Slot) bool { return s.Gen != 1000+int64(i) }) {
			t.Errorf("%s: the Table of %d shares memory with another", what, i)
		}
	}
	scribble(first.Tenants, func(impl.Tenant) impl.Tenant { return usedTenant() })
	if !sameHeap(second, was) {
		t.Errorf("%s: two answers share memory: %s, was %s", what, heapShown(second), heapShown(was))
	}
	for _, a := range args {
		a.checkSame(t, what+", when the answer is written to")
	}
}

func TestComingAndGoingIsNew(t *testing.T) {
	heaps := append(rightHeaps(), namedHeap{"zero", impl.Heap{}}, namedHeap{"wrong", heapOf(63, busyTenants(), busyPieces()...)})
	for _, c := range wrongChanges()[:12] {
		h := busyHeap()
		c.do(&h)
		heaps = append(heaps, namedHeap{c.what, h})
	}
	for _, c := range heaps {
		h, args := withSpareHeap(c.heap)
		for _, who := range []int64{-1, 0, 1, 2, 3, 4, math.MinInt64, math.MaxInt64} {
			for _, bytes := range []int64{0, 1024, -1} {
				what := c.what + said(": Entered", who, bytes, 3)
				checkNewHeaps(t, what, args, func() impl.Heap {
					got, _ := impl.Entered(h, who, bytes, 3)
					return got
				})
			}
			checkNewHeaps(t, c.what+said(": Gone", who), args, func() impl.Heap {
				got, _ := impl.Gone(h, who)
				return got
			})
		}
	}
}

// TestOneHeapTwice has two answers made of one heap: neither shows what was done to the other.
func TestOneHeapTwice(t *testing.T) {
	h := busyHeap()
	come, _ := impl.Entered(h, 1, 28, 2)
	left, _ := impl.Gone(come, 0)
	again, _ := impl.Gone(come, 2)
	markLists(left, 7)
	checkAnswer(t, "what it was made of", h, 0, busyHeap(), 0)
	want, _ := enteredTold(busyHeap(), 1, 28, 2)
	checkAnswer(t, "what came", come, 0, want, 0)
	want, _ = goneTold(want, 2)
	checkAnswer(t, "what was made beside it", again, 0, want, 0)
}
