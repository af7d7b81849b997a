package tests

import (
	"bytes"
	"math"
	"slices"
	"strings"
	"testing"

	"loop.example/g00750/impl"
)

// piece is a block to be laid, or the gap between Low and High.
type piece struct {
	owner, slot  int64
	stands, root bool
	refs         []byte // as they lie there: a slot and 1, 0 for none
	data         string
	isGap        bool
	gap          int64
}

// rootOf, heldOf and fallen are of a tenant: one that stands and is Root, one that stands and is not, and one that does not stand.
func rootOf(owner, slot int64, data string, refs ...byte) piece {
	return piece{owner: owner, slot: slot, stands: true, root: true, refs: refs, data: data}
}

func heldOf(owner, slot int64, data string, refs ...byte) piece {
	return piece{owner: owner, slot: slot, stands: true, refs: refs, data: data}
}

func fallen(owner, slot int64, data string, refs ...byte) piece {
	return piece{owner: owner, slot: slot, refs: refs, data: data}
}

// nobodys is of that Size, with so many Refs that are all 0, as all else behind its head is.
func nobodys(size, refs int64) piece {
	return piece{owner: -1, refs: make([]byte, refs), data: string(make([]byte, size-6-refs))}
}

func gapOf(n int64) piece { return piece{isGap: true, gap: n} }

func (p piece) size() int64 { return 6 + int64(len(p.refs)) + int64(len(p.data)) }

func (p piece) bytes() []byte {
	head := []byte{byte(p.size() % 256), byte(p.size() / 256), byte(p.owner + 1), byte(p.slot), byte(len(p.refs)), 0}
	return slices.Concat(head, p.refs, []byte(p.data))
}

// heapOf lays one piece behind the other from 0 on; the slot of one that stands is Used, and has its At. All its memory is its own.
func heapOf(size int64, tenants []impl.Tenant, pieces ...piece) impl.Heap {
	h := impl.Heap{Floor: make([]byte, size), NextTag: 1}
	for _, x := range tenants {
		x.Table = slices.Clone(x.Table)
		h.Tenants = append(h.Tenants, x)
		h.NextTag = max(h.NextTag, x.Tag+1)
	}
	for _, p := range pieces {
		if p.isGap {
			h.Sliding, h.Low, h.High = true, h.Top, h.Top+p.gap
			h.Top += p.gap
			continue
		}
		if p.stands {
			s := &h.Tenants[p.owner].Table[p.slot]
			s.Used, s.Root, s.At = true, p.root, h.Top
		}
		h.Top += int64(copy(h.Floor[h.Top:h.Top+p.size()], p.bytes()))
	}
	return h
}

func busyTenants() []impl.Tenant {
	list := []impl.Tenant{live(3, 60, 4), {}, live(8, 40, 3), live(5, 0, 1)}
	list[0].Table[0].Gen = 7
	list[0].Table[2].Gen = 8
	return list
}

// busyPieces begin at 0, 10, 19, 26, 37, 46 and 54, and end at 60. Tenant 0 has a ring, and tenant 2 has something that refers to itself.
func busyPieces() []piece {
	return []piece{
		rootOf(0, 0, "ab", 2, 0), rootOf(2, 1, "xyz"), heldOf(0, 1, "", 1), fallen(0, 1, "old", 9, 200),
		nobodys(9, 0), rootOf(2, 2, "q", 3), fallen(3, 15, ""),
	}
}

func busyHeap() impl.Heap { return heapOf(128, busyTenants(), busyPieces()...) }

// slidingHeap is busyHeap with 13 bytes between 26 and 39; Top is 73.
func slidingHeap() impl.Heap {
	return heapOf(128, busyTenants(), slices.Insert(busyPieces(), 3, gapOf(13))...)
}

func heapShown(h impl.Heap) string {
	what := said(flagShown(h.Sliding, "sliding")+"size top low high next", int64(len(h.Floor)), h.Top, h.Low, h.High, h.NextTag)
	return what + " " + tenantsShown(h.Tenants)
}

// told is what the chapter's words tell of a right heap.
type told struct {
	blocks []impl.Place
	webs   [][]impl.Knot
	used   []int64
}

// toldOf is written from the chapter's words; it goes by the slots, and looks for the block of each that is Used.
func toldOf(h impl.Heap) (told, bool) {
	size := int64(len(h.Floor))
	if size < 64 || size > 1024 || !tenantsFit(h) || !marksAreInOrder(h) {
		return told{}, false
	}
	first, firstIs := walked(h.Floor, 0, h.Low)
	second, secondIs := walked(h.Floor, h.High, h.Top)
	if !firstIs || !secondIs || !nothingBut0(h.Floor[h.Low:h.High]) || !nothingBut0(h.Floor[h.Top:]) {
		return told{}, false
	}
	all := told{blocks: slices.Concat(first, second)}
	for _, p := range all.blocks {
		if !ownerIsRight(h, p) {
			return told{}, false
		}
	}
	for t := range h.Tenants {
		web, used, is := webTold(h, all.blocks, t)
		if !is {
			return told{}, false
		}
		all.webs, all.used = append(all.webs, web), append(all.used, used)
	}
	return all, true
}

func nothingBut0(part []byte) bool { return len(bytes.Trim(part, "\x00")) == 0 }

func tenantsFit(h impl.Heap) bool {
	promised := promisedBytes(h.Tenants)
	if len(h.Tenants) != 4 || promised < 0 || promised > int64(len(h.Floor)) || h.NextTag < 1 || h.NextTag > 100001 {
		return false
	}
	owners := map[int64]int{}
	for _, x := range h.Tenants {
		if x.Live {
			owners[x.Tag]++
		}
		if x.Tag >= h.NextTag || owners[x.Tag] > 1 {
			return false
		}
	}
	return true
}

func marksAreInOrder(h impl.Heap) bool {
	if !h.Sliding && (h.Low != 0 || h.High != 0) {
		return false
	}
	return slices.IsSorted([]int64{0, h.Low, h.High, h.Top, int64(len(h.Floor))})
}

func ownerIsRight(h impl.Heap, p impl.Place) bool {
	if p.Head.Owner >= 0 {
		return h.Tenants[p.Head.Owner].Live
	}
	return p.Head.Slot == 0 && nothingBut0(h.Floor[p.At+6:p.At+p.Head.Size])
}

func webTold(h impl.Heap, blocks []impl.Place, t int) ([]impl.Knot, int64, bool) {
	x, used := h.Tenants[t], int64(0)
	web := make([]impl.Knot, len(x.Table))
	for i, s := range x.Table {
		if !s.Used {
			continue
		}
		at := slices.IndexFunc(blocks, func(p impl.Place) bool {
			return p.At == s.At && p.Head.Owner == int64(t) && p.Head.Slot == int64(i)
		})
		if at < 0 {
			return nil, 0, false
		}
		used += blocks[at].Head.Size
		web[i] = impl.Knot{There: true, Root: s.Root}
		for ref := range blocks[at].Head.Refs {
			web[i].Refs = append(web[i].Refs, int64(h.Floor[s.At+6+ref])-1)
		}
	}
	return web, used, webIsRight(web) && len(lostSlots(web, reachedSlots(web))) == 0 && used <= x.Bytes
}

func checkWebIn(t *testing.T, what string, h impl.Heap, who int64, want []impl.Knot) {
	t.Helper()
	if got := impl.WebIn(h, who); !slices.EqualFunc(got, want, sameKnot) {
		t.Errorf("%s: WebIn %d: got %s, want %s: %s", what, who, webShown(got), webShown(want), heapShown(h))
	}
}

func checkUsedBy(t *testing.T, what string, h impl.Heap, who int64, want int64) {
	t.Helper()
	if got := impl.UsedBy(h, who); got != want {
		t.Errorf("%s: UsedBy %d: got %d, want %d: %s", what, who, got, want, heapShown(h))
	}
}

func checkBlocks(t *testing.T, what string, h impl.Heap, want []impl.Place) {
	t.Helper()
	if got := impl.BlocksOf(h); !slices.Equal(got, want) {
		t.Errorf("%s: BlocksOf: got %v, want %v: %s", what, got, want, heapShown(h))
	}
}

// checkFilled is promise 8: each byte to Low and from High to Top is in one block, and each other one in none, and bare.
func checkFilled(t *testing.T, what string, h impl.Heap) {
	t.Helper()
	in := make([]int, len(h.Floor))
	for _, p := range impl.BlocksOf(h) {
		for at := p.At; at < p.At+p.Head.Size; at++ {
			in[at]++
		}
	}
	for at, n := range in {
		filled := int64(at) < h.Low || int64(at) >= h.High && int64(at) < h.Top
		if filled && n != 1 || !filled && (n != 0 || h.Floor[at] != 0) {
			t.Errorf("%s: byte %d, which is %d, is in %d blocks: %s", what, at, h.Floor[at], n, heapShown(h))
		}
	}
}

func checkRightHeap(t *testing.T, what string, h impl.Heap) {
	t.Helper()
	all, is := toldOf(h)
	if !is || !impl.HeapOk(h) {
		t.Errorf("%s: by the words right is %v, HeapOk %v: %s", what, is, impl.HeapOk(h), heapShown(h))
		return
	}
	checkBlocks(t, what, h, all.blocks)
	checkFilled(t, what, h)
	for who := int64(-1); who <= 5; who++ {
		if who < 0 || who > 3 || !h.Tenants[who].Live {
			checkNobodyIn(t, what, h, who)
			continue
		}
		checkWebIn(t, what, h, who, all.webs[who])
		checkUsedBy(t, what, h, who, all.used[who])
	}
}

func checkNobodyIn(t *testing.T, what string, h impl.Heap, who int64) {
	t.Helper()
	checkWebIn(t, what, h, who, nil)
	checkUsedBy(t, what, h, who, -1)
}

func checkWrongHeap(t *testing.T, what string, h impl.Heap) {
	t.Helper()
	if _, is := toldOf(h); is || impl.HeapOk(h) {
		t.Errorf("%s: by the words right is %v, HeapOk %v: %s", what, is, impl.HeapOk(h), heapShown(h))
	}
	checkBlocks(t, what, h, nil)
	for who := int64(-1); who <= 4; who++ {
		checkNobodyIn(t, what, h, who)
	}
}

// checkHeapOk takes what is wanted from whoever asks; the words have to tell the same.
func checkHeapOk(t *testing.T, what string, h impl.Heap, want bool) {
	t.Helper()
	if want {
		checkRightHeap(t, what, h)
	} else {
		checkWrongHeap(t, what, h)
	}
}

func TestABusyHeap(t *testing.T) {
	h := busyHeap()
	checkRightHeap(t, "busy", h)
	checkBlocks(t, "busy", h, []impl.Place{
		{At: 0, Head: impl.Head{Size: 10, Owner: 0, Slot: 0, Refs: 2}}, {At: 10, Head: impl.Head{Size: 9, Owner: 2, Slot: 1}},
		{At: 19, Head: impl.Head{Size: 7, Owner: 0, Slot: 1, Refs: 1}}, {At: 26, Head: impl.Head{Size: 11, Owner: 0, Slot: 1, Refs: 2}},
		{At: 37, Head: impl.Head{Size: 9, Owner: -1}}, {At: 46, Head: impl.Head{Size: 8, Owner: 2, Slot: 2, Refs: 1}},
		{At: 54, Head: impl.Head{Size: 6, Owner: 3, Slot: 15}},
	})
	for _, h := range []impl.Heap{h, slidingHeap()} {
		checkWebIn(t, "busy", h, 0, []impl.Knot{rooted(1, -1), unrooted(0), gone(), gone()})
		checkWebIn(t, "busy", h, 2, []impl.Knot{gone(), rooted(), rooted(2)})
		checkWebIn(t, "busy", h, 3, []impl.Knot{gone()})
		checkUsedBy(t, "busy", h, 0, 17)
		checkUsedBy(t, "busy", h, 2, 17)
		checkUsedBy(t, "busy", h, 3, 0)
		for _, who := range append(strange(), 1, 4, 5) {
			checkNobodyIn(t, "busy", h, who)
		}
	}
}

func TestASlidingHeap(t *testing.T) {
	h := slidingHeap()
	if !h.Sliding || h.Low != 26 || h.High != 39 || h.Top != 73 {
		t.Fatal(heapShown(h))
	}
	checkRightHeap(t, "sliding", h)
	checkBlocks(t, "sliding", h, []impl.Place{
		{At: 0, Head: impl.Head{Size: 10, Owner: 0, Slot: 0, Refs: 2}}, {At: 10, Head: impl.Head{Size: 9, Owner: 2, Slot: 1}},
		{At: 19, Head: impl.Head{Size: 7, Owner: 0, Slot: 1, Refs: 1}}, {At: 39, Head: impl.Head{Size: 11, Owner: 0, Slot: 1, Refs: 2}},
		{At: 50, Head: impl.Head{Size: 9, Owner: -1}}, {At: 59, Head: impl.Head{Size: 8, Owner: 2, Slot: 2, Refs: 1}},
		{At: 67, Head: impl.Head{Size: 6, Owner: 3, Slot: 15}},
	})
}

// TestEveryGap has gaps of each width ahead of each block, behind the last one, and none.
func TestEveryGap(t *testing.T) {
	for i := range len(busyPieces()) + 1 {
		for _, n := range []int64{0, 1, 5, 6, 7, 13, 67, 68} {
			h := heapOf(128, busyTenants(), slices.Insert(busyPieces(), i, gapOf(n))...)
			checkRightHeap(t, said("gap", int64(i), n), h)
			if n == 68 && h.Top != 128 {
				t.Errorf("Top is %d", h.Top)
			}
			for at := h.Low; at < h.High; at++ {
				h.Floor[at] = 1
				checkWrongHeap(t, said("gap, not bare at", int64(i), n, at), h)
				h.Floor[at] = 0
			}
			h.Sliding = false
			checkHeapOk(t, said("gap, not Sliding", int64(i), n), h, i == 0 && n == 0)
		}
	}
}

func checkNewHeap(t *testing.T, size int64) {
	t.Helper()
	h, is := impl.NewHeap(size)
	right := is && len(h.Floor) == int(size) && nothingBut0(h.Floor) && h.Top == 0 && !h.Sliding && h.Low == 0 && h.High == 0
	if !right || !slices.EqualFunc(h.Tenants, make([]impl.Tenant, 4), sameTenant) || h.NextTag != 1 {
		t.Fatalf("NewHeap %d: got %s, %v", size, heapShown(h), is)
	}
	checkRightHeap(t, said("NewHeap", size), h)
	checkBlocks(t, said("NewHeap", size), h, nil)
	for who := range int64(4) {
		checkNobodyIn(t, said("NewHeap", size), h, who)
	}
}

func checkNoNewHeap(t *testing.T, size int64) {
	t.Helper()
	h, is := impl.NewHeap(size)
	zero := len(h.Floor) == 0 && h.Top == 0 && !h.Sliding && h.Low == 0 && h.High == 0 && len(h.Tenants) == 0 && h.NextTag == 0
	if is || !zero {
		t.Errorf("NewHeap %d: got %s, %v; want the zero Heap, false", size, heapShown(h), is)
	}
}

func TestNewHeaps(t *testing.T) {
	for size := int64(-3); size <= 1030; size++ {
		if size >= 64 && size <= 1024 {
			checkNewHeap(t, size)
		} else {
			checkNoNewHeap(t, size)
		}
	}
	for _, size := range strange() {
		checkNoNewHeap(t, size)
	}
	for bit := 11; bit < 64; bit++ {
		ahead := int64(-1) << bit
		for _, good := range []int64{0, 64, 500} {
			checkNoNewHeap(t, good+ahead)
			checkNoNewHeap(t, good-ahead)
		}
	}
}

// TestNewHeapsHaveNothing puts something into a new heap to see that the next one has nothing all the same.
func TestNewHeapsHaveNothing(t *testing.T) {
	for _, size := range []int64{64, 256, 1024} {
		h, _ := impl.NewHeap(size)
		scribble(h.Floor, otherByte)
		scribble(h.Tenants, func(impl.Tenant) impl.Tenant { return usedTenant() })
		checkNewHeap(t, size)
	}
}

func TestTheZeroHeap(t *testing.T) {
	checkWrongHeap(t, "zero", impl.Heap{})
	checkWrongHeap(t, "just a floor", impl.Heap{Floor: make([]byte, 64)})
	checkWrongHeap(t, "just tenants", impl.Heap{Tenants: make([]impl.Tenant, 4), NextTag: 1})
}

type namedHeap struct {
	what string
	heap impl.Heap
}

// one is of tenants of whom just the first is Live, and was promised all of a floor of 128 bytes.
func one(slots int64) []impl.Tenant { return []impl.Tenant{live(1, 128, slots), {}, {}, {}} }

func oneHeap(what string, slots int64, pieces ...piece) namedHeap {
	return namedHeap{what, heapOf(128, one(slots), pieces...)}
}

func nobodyThere() []impl.Tenant { return make([]impl.Tenant, 4) }

func fourTenants() []impl.Tenant {
	return []impl.Tenant{live(4, 256, 16), live(3, 256, 16), live(2, 256, 16), live(1, 256, 16)}
}

// fullHeap has 64 that stand, all of the same Size.
func fullHeap(size int64) impl.Heap {
	var pieces []piece
	for slot := range int64(16) {
		for owner := range int64(4) {
			pieces = append(pieces, rootOf(owner, slot, strings.Repeat("d", int(size-6))))
		}
	}
	return heapOf(1024, fourTenants(), pieces...)
}

// manyRefs are so many that stand, each with six refs, to the next ones.
func manyRefs(slots int64) []piece {
	var pieces []piece
	for slot := range slots {
		p := rootOf(0, slot, "")
		for next := range int64(6) {
			p.refs = append(p.refs, byte((slot+next)%slots+1))
		}
		pieces = append(pieces, p)
	}
	return pieces
}

func rightHeaps() []namedHeap {
	many := strings.Repeat("\xFF", 40)
	return []namedHeap{
		{"busy", busyHeap()}, {"sliding", slidingHeap()}, {"nobody there", heapOf(64, nobodyThere())}, {"nothing made", heapOf(1024, fourTenants())},
		{"64 of the smallest", fullHeap(6)}, {"64 that fill the largest floor", fullHeap(16)},
		oneHeap("one", 1, rootOf(0, 0, "abc")), oneHeap("one of many slots", 16, rootOf(0, 15, "abc")),
		// Webs.
		oneHeap("refers to itself", 1, rootOf(0, 0, "", 1)), oneHeap("refers to itself six times", 1, rootOf(0, 0, "a", 1, 1, 1, 1, 1, 1)),
		oneHeap("refers to nothing", 2, rootOf(0, 0, "", 0, 0, 0, 0, 0, 0), rootOf(0, 1, "", 0)),
		oneHeap("refers to the last slot", 16, rootOf(0, 0, "", 0, 16), heldOf(0, 15, "abc")),
		oneHeap("a ring of two", 2, rootOf(0, 0, "", 2), heldOf(0, 1, "", 1)),
		oneHeap("a ring of three, against the slots", 3, heldOf(0, 2, "", 2), heldOf(0, 1, "", 1), rootOf(0, 0, "", 3)),
		oneHeap("a ring that is referred to", 3, heldOf(0, 0, "", 2), heldOf(0, 1, "", 1, 0), rootOf(0, 2, "", 0, 1)),
		oneHeap("a chain", 4, heldOf(0, 3, ""), heldOf(0, 1, "", 4), rootOf(0, 2, "", 2)),
		oneHeap("each refers to many", 10, manyRefs(10)...),
		// What does not stand.
		oneHeap("of a slot that is free", 2, fallen(0, 0, "abc"), fallen(0, 1, "", 255)), oneHeap("of a slot that is not there", 1, fallen(0, 1, "abc"), fallen(0, 15, "")),
		oneHeap("of a slot that is elsewhere", 2, fallen(0, 0, "a", 2), rootOf(0, 0, "b", 0), fallen(0, 0, "c", 17, 255)),
		oneHeap("with any bytes", 1, fallen(0, 0, many, 1, 2, 16, 17, 128, 255), rootOf(0, 0, many)),
		oneHeap("more than was promised", 1, fallen(0, 0, many), rootOf(0, 0, many), fallen(0, 0, many[:30])),
		{"of one that was promised nothing", heapOf(64, []impl.Tenant{{}, {}, {}, live(9, 0, 1)}, fallen(3, 0, "abc"))},
		oneHeap("nobody's", 1, nobodys(6, 0), nobodys(30, 0), rootOf(0, 0, "a"), nobodys(12, 6), nobodys(15, 3)),
		oneHeap("just nobody's", 1, nobodys(120, 0), nobodys(8, 2)),
		{"nobody's, and nobody Live", heapOf(1024, nobodyThere(), nobodys(1000, 6), nobodys(24, 0))},
		// How much of each there may be: no limit but the head's is told here for one block.
		{"more data than MaxData", heapOf(1024, []impl.Tenant{{}, live(1, 1000, 1), {}, {}}, rootOf(1, 0, strings.Repeat("x", 994)))},
		{"Low, High and Top 0", heapOf(64, nobodyThere(), gapOf(0))},
	}
}

func TestRightHeaps(t *testing.T) {
	for _, c := range rightHeaps() {
		checkRightHeap(t, c.what, c.heap)
		for _, who := range strange() {
			checkNobodyIn(t, c.what, c.heap, who)
		}
	}
}

// TestWhatStandsIsWhatASlotSays frees one slot after the other: the block stays, and does not stand.
func TestWhatStandsIsWhatASlotSays(t *testing.T) {
	h := fullHeap(16)
	for slot := range int64(16) {
		for who := range int64(4) {
			checkUsedBy(t, "before", h, who, 256-16*slot)
			h.Tenants[who].Table[slot] = impl.Slot{Gen: slot % 9}
			checkUsedBy(t, "after", h, who, 240-16*slot)
			checkRightHeap(t, said("freed", who, slot), h)
			if n := len(impl.BlocksOf(h)); n != 64 {
				t.Errorf("%d blocks", n)
			}
		}
	}
}

func TestHowLargeTheFloorIs(t *testing.T) {
	for _, c := range []struct {
		size int64
		is   bool
	}{{0, false}, {1, false}, {20, false}, {63, false}, {64, true}, {65, true}, {1023, true}, {1024, true}, {1025, false}, {4096, false}, {65600, false}} {
		tenants := []impl.Tenant{live(1, min(c.size, 20), 1), {}, {}, {}}
		checkHeapOk(t, said("nothing in", c.size), heapOf(c.size, tenants), c.is)
		if c.size >= 20 {
			checkHeapOk(t, said("something in", c.size), heapOf(c.size, tenants, rootOf(0, 0, "ab"), nobodys(12, 0)), c.is)
		}
	}
	h := busyHeap()
	for _, floor := range [][]byte{nil, {}, h.Floor[:63], h.Floor[:59]} {
		h.Floor = floor
		checkWrongHeap(t, said("less floor", int64(len(floor))), h)
	}
}

func TestTopAtTheEnd(t *testing.T) {
	for _, c := range []struct {
		size int64
		last piece
	}{{64, rootOf(0, 1, "ab")}, {64, fallen(0, 1, "ab")}, {64, nobodys(8, 0)}, {1024, rootOf(0, 1, strings.Repeat("a", 962))}, {1024, nobodys(968, 0)}} {
		for _, first := range [][]piece{{rootOf(0, 0, strings.Repeat("a", 50))}, {gapOf(0), nobodys(56, 0)}, {nobodys(6, 0), gapOf(50)}, {nobodys(50, 0), gapOf(6)}} {
			h := heapOf(c.size, []impl.Tenant{live(1, c.size, 2), {}, {}, {}}, append(first, c.last)...)
			checkHeapOk(t, "Top at the end", h, h.Top == c.size)
			h.Top++
			checkWrongHeap(t, "Top one beyond the end", h)
			h.Top -= 2
			checkWrongHeap(t, "Top one ahead of the end", h)
			h.Top++
			h.Floor[h.Top-c.last.size()]++
			checkWrongHeap(t, "the last one goes beyond the end", h)
			h.Floor[h.Top-c.last.size()] -= 2
			checkWrongHeap(t, "the last one does not go to Top", h)
		}
	}
}

// TestEveryLowHighAndTop has each two of them at each place, on heaps that are Sliding and on such that are not.
func TestEveryLowHighAndTop(t *testing.T) {
	small := []impl.Tenant{live(1, 30, 2), {}, {}, {}}
	plain := heapOf(64, small, rootOf(0, 0, "ab", 2), heldOf(0, 1, ""), nobodys(9, 0))
	slid := heapOf(64, small, rootOf(0, 0, "ab", 2), heldOf(0, 1, ""), gapOf(10), nobodys(9, 0))
	right := 0
	for _, h := range []impl.Heap{plain, slid, heapOf(64, small)} {
		for a := int64(-2); a <= 66; a++ {
			for b := int64(-2); b <= 66; b++ {
				for _, sliding := range []bool{false, true} {
					for _, x := range [][3]int64{{a, b, h.Top}, {a, h.High, b}, {h.Low, a, b}} {
						h := h
						h.Sliding, h.Low, h.High, h.Top = sliding, x[0], x[1], x[2]
						_, is := toldOf(h)
						if got := impl.HeapOk(h); got != is {
							t.Errorf("HeapOk: got %v: %s", got, heapShown(h))
						}
						if is {
							right++
							checkRightHeap(t, "Low, High and Top", h)
						}
					}
				}
			}
		}
	}
	if right < 50 {
		t.Errorf("just %d are right", right)
	}
}

func TestLowHighAndTop(t *testing.T) {
	blocks := func(low, high, top int64) impl.Heap {
		h := heapOf(64, []impl.Tenant{live(1, 30, 1), {}, {}, {}}, rootOf(0, 0, "ab"), nobodys(8, 0))
		h.Sliding, h.Low, h.High, h.Top = true, low, high, top
		return h
	}
	for _, c := range []struct {
		low, high, top int64
		is             bool
	}{
		{0, 0, 16, true}, {8, 8, 16, true}, {16, 16, 16, true},
		{17, 16, 16, false}, {16, 17, 16, false}, {16, 17, 17, true}, {17, 17, 16, false}, {17, 17, 17, false}, {16, 16, 17, false},
		{9, 8, 16, false}, {8, 9, 16, false}, {16, 8, 16, false}, {8, 0, 16, false}, {16, 0, 16, false}, {0, 8, 16, false}, {8, 16, 16, false},
		{8, 16, 8, false}, {0, 16, 0, false}, {16, 16, 8, false}, {16, 16, 0, false}, {8, 8, 8, false}, {0, 0, 0, false},
		{-1, 0, 16, false}, {-1, -1, 16, false}, {0, -1, 16, false}, {0, 0, -1, false}, {-1, -1, -1, false}, {-8, 0, 16, false},
		{16, 64, 64, true}, {16, 65, 65, false}, {16, 64, 65, false}, {16, 65, 64, false}, {64, 64, 64, false}, {16, 40, 40, true}, {16, 40, 41, false}, {16, 40, 39, false},
	} {
		checkHeapOk(t, said("Low, High, Top", c.low, c.high, c.top), blocks(c.low, c.high, c.top), c.is)
	}
	empty := heapOf(64, nobodyThere(), gapOf(0))
	checkRightHeap(t, "all 0", empty)
	for at := int64(1); at <= 64; at++ {
		h := empty
		h.Low, h.High, h.Top = 0, at, at
		checkRightHeap(t, said("nothing but a gap", at), h)
		h.Low = at
		checkWrongHeap(t, said("nothing to Low", at), h)
	}
	for _, n := range append(strange(), 1, 8, 16) {
		for _, x := range [][2]int64{{n, 0}, {0, n}, {n, n}, {n, -n}} {
			h := blocks(x[0], x[1], 16)
			h.Sliding = false
			checkWrongHeap(t, said("not Sliding", x[0], x[1]), h)
		}
	}
}

func TestStrangeLowHighAndTop(t *testing.T) {
	for _, fresh := range []func() impl.Heap{busyHeap, slidingHeap} {
		for _, n := range append(strange(), 129, 1025, 65536) {
			for _, sliding := range []bool{false, true} {
				for which := 1; which < 8; which++ {
					h := fresh()
					h.Sliding = sliding
					for i, mark := range []*int64{&h.Low, &h.High, &h.Top} {
						if which>>i&1 == 1 {
							*mark = n
						}
					}
					checkWrongHeap(t, said("strange", n, int64(which)), h)
				}
			}
		}
	}
	for bit := 8; bit < 64; bit++ {
		for _, ahead := range []int64{-1 << bit, -(-1 << bit)} {
			h := slidingHeap()
			h.Top += ahead
			checkWrongHeap(t, said("Top and", ahead), h)
			h.Low, h.High = h.Low+ahead, h.High+ahead
			checkWrongHeap(t, said("all and", ahead), h)
		}
	}
}

func TestNextTag(t *testing.T) {
	for _, c := range []struct {
		tag, next int64
		is        bool
	}{
		{0, 0, false}, {0, 1, true}, {0, 2, true}, {0, -1, false}, {0, 100000, true}, {0, 100001, true}, {0, 100002, false},
		{1, 0, false}, {1, 1, false}, {1, 2, true}, {7, 6, false}, {7, 7, false}, {7, 8, true}, {7, 9, true}, {7, 100001, true}, {7, 100002, false},
		{99999, 100000, true}, {100000, 100000, false}, {100000, 100001, true}, {100000, 100002, false},
	} {
		for who := range 4 {
			h := heapOf(64, nobodyThere())
			if c.tag > 0 {
				h.Tenants[who] = live(c.tag, 10, 2)
			}
			if c.tag > 1 {
				h.Tenants[(who+1)%4] = live(c.tag-1, 10, 2)
			}
			h.NextTag = c.next
			checkHeapOk(t, said("Tag, NextTag", c.tag, c.next), h, c.is)
		}
	}
	for _, n := range strange() {
		h := heapOf(64, nobodyThere())
		h.NextTag = n
		checkHeapOk(t, said("NextTag", n), h, n == 100001)
	}
	for _, next := range []int64{3, 4, 5, 6, 8} {
		h := busyHeap()
		h.NextTag = next
		checkWrongHeap(t, said("more than some", next), h)
	}
}

func TestTwoOfOneTag(t *testing.T) {
	for a := range 4 {
		for b := range 4 {
			h := heapOf(64, []impl.Tenant{live(1, 10, 2), live(2, 10, 2), live(3, 10, 2), live(4, 10, 2)})
			checkRightHeap(t, "of four Tags", h)
			h.Tenants[a].Tag = h.Tenants[b].Tag
			checkHeapOk(t, said("of one Tag", int64(a), int64(b)), h, a == b)
			if a != b {
				h.Tenants[a] = impl.Tenant{}
				checkRightHeap(t, "one of the two is not Live", h)
				h.Tenants[b] = impl.Tenant{}
				checkRightHeap(t, "two are not Live", h)
			}
		}
	}
}

func TestHowMuchIsPromised(t *testing.T) {
	for _, size := range []int64{64, 65, 128, 1023, 1024} {
		for _, shares := range [][]int64{{size}, {size - 1, 1}, {0, size}, {30, size - 60, 30}, {16, 16, size - 48, 16}, {0, 0, size, 0}} {
			tenants := make([]impl.Tenant, 4)
			for i, n := range shares {
				tenants[i] = live(int64(i)+1, n, 3)
			}
			h := heapOf(size, tenants)
			checkRightHeap(t, said("promised all", shares...), h)
			for i := range shares {
				h.Tenants[i].Bytes++
				checkWrongHeap(t, said("promised one more", shares...), h)
				h.Tenants[i].Bytes -= 2
				checkHeapOk(t, said("promised one less", shares...), h, shares[i] > 0)
				h.Tenants[i].Bytes++
			}
			h.Floor = h.Floor[:size-1]
			checkWrongHeap(t, said("of a floor of one less", shares...), h)
		}
	}
	h := heapOf(1024, fourTenants())
	for i := range h.Tenants {
		h.Tenants[i].Bytes = 1024
	}
	checkWrongHeap(t, "promised all to each", h)
}

func TestHowMuchStands(t *testing.T) {
	for _, tenant := range []struct{ who, used int64 }{{0, 17}, {2, 17}, {3, 0}} {
		for _, h := range []impl.Heap{busyHeap(), slidingHeap()} {
			for bytes := int64(-1); bytes <= 28; bytes++ {
				h.Tenants[tenant.who].Bytes = bytes
				checkHeapOk(t, said("promised to", tenant.who, bytes), h, bytes >= tenant.used)
			}
		}
	}
	h := fullHeap(16)
	for who := range h.Tenants {
		h.Tenants[who].Bytes = 255
		checkWrongHeap(t, "one less", h)
		h.Tenants[who].Table[who] = impl.Slot{}
		checkRightHeap(t, "one block less", h)
	}
}

func TestHowManyTenants(t *testing.T) {
	for n := range 9 {
		checkHeapOk(t, said("tenants", int64(n)), heapOf(64, make([]impl.Tenant, n)), n == 4)
		list := make([]impl.Tenant, n)
		if n > 0 {
			list[n-1] = live(1, 20, 1)
			checkHeapOk(t, said("tenants, the last one Live", int64(n)), heapOf(64, list), n == 4)
		}
	}
	h := busyHeap()
	h.Tenants = h.Tenants[:3]
	checkWrongHeap(t, "the fourth in the spare room", h)
	h.Tenants = append(busyHeap().Tenants, impl.Tenant{})
	checkWrongHeap(t, "one more", h)
	h.Tenants = make([]impl.Tenant, 100000)
	checkWrongHeap(t, "many", h)
}

func TestHeapsOfWrongTenants(t *testing.T) {
	for _, s := range wrongSlots() {
		h := busyHeap()
		h.Tenants[0].Table[3] = s
		checkWrongHeap(t, "a table that is not right: "+slotShown(s), h)
		h = busyHeap()
		h.Tenants[1].Table = []impl.Slot{s}
		checkWrongHeap(t, "a table of one that is not Live: "+slotShown(s), h)
	}
	for _, x := range []impl.Tenant{
		{Tag: 1}, {Bytes: 1}, {Table: []impl.Slot{{}}}, {Live: true}, live(0, 1, 1), live(-1, 1, 1), live(1, -1, 1), live(1, 1, 0), live(1, 1, 17),
		live(100001, 1, 1), live(1, 1025, 1), live(1, math.MinInt64, 1), live(math.MinInt64, 1, 1),
	} {
		h := heapOf(128, nobodyThere())
		h.NextTag = 100001
		checkRightHeap(t, "none Live", h)
		for who := range 4 {
			h.Tenants[who] = x
			checkWrongHeap(t, "wrong: "+tenantShown(x), h)
			h.Tenants[who] = impl.Tenant{}
		}
	}
	for _, n := range strange() {
		for field := range 2 {
			h := busyHeap()
			h.NextTag = 100001
			*[]*int64{&h.Tenants[2].Tag, &h.Tenants[2].Bytes}[field] = n
			checkWrongHeap(t, said("strange", n), h)
		}
		for who := range 4 {
			h := busyHeap()
			h.Tenants[who].Table = append(h.Tenants[who].Table, impl.Slot{Used: true, Root: true, At: n})
			checkWrongHeap(t, said("a strange At", n), h)
			h = busyHeap()
			h.Tenants[who].Table = append(h.Tenants[who].Table, impl.Slot{Gen: n})
			checkWrongHeap(t, said("a strange Gen", n), h)
		}
	}
}

type change struct {
	what string
	do   func(h *impl.Heap)
}

// byteIs is a change of one byte of the floor.
func byteIs(what string, at int, b byte) change {
	return change{what, func(h *impl.Heap) { h.Floor[at] = b }}
}

func slotIs(what string, who, slot int, s impl.Slot) change {
	return change{what, func(h *impl.Heap) { h.Tenants[who].Table[slot] = s }}
}

func usedAt(at int64) impl.Slot { return impl.Slot{Used: true, Root: true, At: at} }

// wrongChanges make busyHeap a wrong one, each for one reason.
func wrongChanges() []change {
	return []change{
		byteIs("not bare at Top", 60, 1), byteIs("not bare behind Top", 90, 255), byteIs("not bare at the end", 127, 1),
		byteIs("no head", 24, 1), byteIs("a Size that is less", 0, 9), byteIs("a Size that is more", 0, 11), byteIs("a Size of 0", 10, 0),
		byteIs("the owner is not Live", 2, 2), byteIs("the owner of what does not stand is not Live", 28, 2), byteIs("the owner is no tenant", 28, 5),
		{"the owner is gone", func(h *impl.Heap) { h.Tenants[3] = impl.Tenant{} }},
		byteIs("nobody's Slot", 40, 1), byteIs("nobody's Slot, the last one", 40, 15), byteIs("nobody's first byte behind the head", 43, 1),
		byteIs("nobody's last byte", 45, 255), byteIs("nobody's, that was somebody's", 12, 0), byteIs("nobody's, that did not stand", 28, 0),
		slotIs("without a block, at 0", 0, 3, usedAt(0)), slotIs("without a block, at another one's block", 0, 3, usedAt(10)),
		slotIs("without a block, at what is of another slot and does not stand", 0, 3, usedAt(26)), slotIs("without a block, at nobody's", 0, 3, usedAt(37)),
		slotIs("without a block, at nobody's, of slot 0", 2, 0, usedAt(37)), slotIs("without a block, inside a block", 0, 3, usedAt(5)),
		slotIs("without a block, at Top", 0, 3, usedAt(60)), slotIs("without a block, behind Top", 0, 3, usedAt(100)),
		slotIs("without a block, at the end", 0, 3, usedAt(128)), slotIs("without a block, behind the end", 0, 3, usedAt(1024)),
		slotIs("without a block, one of no bytes", 3, 0, usedAt(54)), slotIs("at another tenant's block of that slot", 0, 1, usedAt(10)),
		slotIs("at the block of another slot", 2, 1, usedAt(46)), slotIs("at the block of another slot, which is free", 2, 0, usedAt(46)),
		{"two slots with one At", func(h *impl.Heap) { h.Tenants[0].Table[3] = h.Tenants[0].Table[0] }},
		{"two slots for each other's block", func(h *impl.Heap) {
			table := h.Tenants[2].Table
			table[1], table[2] = table[2], table[1]
		}},
		byteIs("a ref to a slot that is free", 7, 4), byteIs("a ref to a slot that is worn out", 7, 3), byteIs("a ref to no slot", 7, 5),
		byteIs("a ref to the last slot there could be", 7, 16), byteIs("a ref beyond MaxSlots", 7, 17), byteIs("a ref far beyond", 7, 255),
		byteIs("a ref to a slot of another tenant alone", 52, 1), byteIs("a ref that was data", 4, 3),
		byteIs("a chain that is lost", 6, 0), slotIs("a ring that is lost", 0, 0, impl.Slot{Used: true, Gen: 7}),
		slotIs("one that refers to itself is lost", 2, 2, impl.Slot{Used: true, At: 46}), slotIs("one that is not referred to is lost", 2, 1, impl.Slot{Used: true, At: 10}),
		slotIs("what it refers to is free", 0, 1, impl.Slot{Gen: 1}), slotIs("what it refers to is elsewhere", 0, 1, impl.Slot{Used: true, At: 26}),
	}
}

func TestWrongHeaps(t *testing.T) {
	for _, c := range wrongChanges() {
		h := busyHeap()
		c.do(&h)
		checkWrongHeap(t, c.what, h)
	}
}

// TestChangesThatAreRight has what would be wrong of a block that stands, or of one of nobody's, with others.
func TestChangesThatAreRight(t *testing.T) {
	for _, c := range []change{
		byteIs("any ref of what does not stand", 32, 0), byteIs("any ref of what does not stand", 32, 255), byteIs("any ref of what does not stand", 33, 17),
		byteIs("any data of what does not stand", 36, 0), byteIs("any slot of what does not stand", 29, 15), byteIs("the slot of one that stands elsewhere", 29, 0),
		byteIs("more Refs of what does not stand", 30, 5), byteIs("another owner of what does not stand", 28, 3), byteIs("another owner of what does not stand", 28, 4),
		byteIs("other data", 8, 255), byteIs("other data", 18, 0), byteIs("Refs of nobody's", 41, 3), byteIs("fewer Refs", 50, 0),
		byteIs("a ref to itself", 7, 1), byteIs("a ref twice", 7, 2), byteIs("a ref to nothing", 25, 0),
		slotIs("freed", 2, 1, impl.Slot{Gen: 1}), slotIs("freed, which referred to itself", 2, 2, impl.Slot{Gen: 8}),
		slotIs("rooted", 0, 1, usedAt(19)), slotIs("another Gen", 2, 1, impl.Slot{Used: true, Root: true, Gen: 7, At: 10}),
		slotIs("worn out", 3, 0, impl.Slot{Gen: 8}), {"Sliding", func(h *impl.Heap) { h.Sliding = true }},
		{"all freed", func(h *impl.Heap) {
			for _, x := range h.Tenants {
				clear(x.Table)
			}
		}},
		{"one slot less", func(h *impl.Heap) { h.Tenants[0].Table = h.Tenants[0].Table[:3] }},
		{"one slot more", func(h *impl.Heap) { h.Tenants[0].Table = append(h.Tenants[0].Table, impl.Slot{}) }},
		{"who was not there is", func(h *impl.Heap) { h.Tenants[1] = live(1, 28, 16) }},
	} {
		h := busyHeap()
		c.do(&h)
		checkRightHeap(t, c.what, h)
	}
}

// TestNobodysIsBare has one byte that is not 0 at each place behind the head, be it one of the Refs or not, and each Slot.
func TestNobodysIsBare(t *testing.T) {
	for refs := range int64(7) {
		for more := range int64(4) {
			h := heapOf(64, nobodyThere(), nobodys(6+refs+more, refs), nobodys(6, 0))
			checkRightHeap(t, said("nobody's", refs, more), h)
			for at := int64(6); at < 6+refs+more; at++ {
				for _, b := range []byte{1, 2, 255} {
					h.Floor[at] = b
					checkWrongHeap(t, said("nobody's, not bare at", refs, more, at), h)
				}
				h.Floor[at] = 0
			}
			for slot := byte(1); slot < 16; slot++ {
				h.Floor[3] = slot
				checkWrongHeap(t, said("nobody's, of slot", refs, more, int64(slot)), h)
			}
		}
	}
}

// TestAnAtThatIsNoPlace has in the data of a block what would be a block of that slot, and in the gap.
func TestAnAtThatIsNoPlace(t *testing.T) {
	inner := string(rootOf(0, 1, "ab").bytes())
	for _, stands := range []bool{false, true} {
		outer := rootOf(0, 0, "a"+inner+"b")
		outer.stands = stands
		h := heapOf(128, one(2), nobodys(6, 0), outer, rootOf(0, 1, "ab"))
		checkRightHeap(t, "at its place", h)
		h.Tenants[0].Table[1].At = 13
		checkWrongHeap(t, "inside a block", h)
		h.Tenants[0].Table[1] = impl.Slot{}
		checkRightHeap(t, "nowhere", h)
	}
	for at := range int64(130) {
		for _, h := range []impl.Heap{busyHeap(), slidingHeap()} {
			for _, root := range []bool{false, true} {
				h.Tenants[0].Table[3] = impl.Slot{Used: true, Root: root, At: at}
				checkWrongHeap(t, said("without a block", at), h)
			}
			h.Tenants[0].Table[3] = impl.Slot{}
			was := h.Tenants[0].Table[1].At
			h.Tenants[0].Table[1].At = at
			_, is := toldOf(h)
			checkHeapOk(t, said("at", at), h, is && at == was)
		}
	}
}

func TestWrongSlidingHeaps(t *testing.T) {
	for _, c := range []change{
		byteIs("not bare at Low", 26, 1), byteIs("not bare ahead of High", 38, 255), byteIs("not bare in the gap", 30, 1), byteIs("not bare at Top", 73, 1),
		byteIs("the owner is not Live, ahead of Low", 12, 2), byteIs("the owner is not Live, behind High", 41, 2),
		byteIs("nobody's Slot", 53, 1), byteIs("nobody's last byte", 58, 1), byteIs("one goes beyond Low", 19, 8), byteIs("one does not go to Low", 23, 0x80),
		slotIs("at Low", 0, 3, usedAt(26)), slotIs("in the gap", 0, 3, usedAt(30)), slotIs("at High", 0, 3, usedAt(39)), slotIs("where it was", 2, 2, usedAt(46)),
		byteIs("a ref to a slot that is free, ahead of Low", 7, 4), byteIs("a ref to a slot that is free, behind High", 65, 1), byteIs("something lost", 6, 0),
		{"a block in the gap", func(h *impl.Heap) { copy(h.Floor[26:], nobodys(13, 0).bytes()) }},
		{"the first walk's end is the gap's", func(h *impl.Heap) { h.Low = 39 }}, {"the gap's beginning is the second walk's", func(h *impl.Heap) { h.High = 26 }},
		{"not Sliding", func(h *impl.Heap) { h.Sliding = false }}, {"not Sliding, and no Low and High", func(h *impl.Heap) { h.Sliding, h.Low, h.High = false, 0, 0 }},
		{"Low 0", func(h *impl.Heap) { h.Low = 0 }}, {"Low one less", func(h *impl.Heap) { h.Low-- }}, {"Low one more", func(h *impl.Heap) { h.Low++ }},
		{"High one less", func(h *impl.Heap) { h.High-- }}, {"High one more", func(h *impl.Heap) { h.High++ }}, {"High Top", func(h *impl.Heap) { h.High = h.Top }},
		{"Top one less", func(h *impl.Heap) { h.Top-- }}, {"Top one more", func(h *impl.Heap) { h.Top++ }}, {"Top High", func(h *impl.Heap) { h.Top = h.High }},
	} {
		h := slidingHeap()
		c.do(&h)
		checkWrongHeap(t, c.what, h)
	}
	h := slidingHeap()
	copy(h.Floor[26:], nobodys(13, 0).bytes())
	h.Sliding, h.Low, h.High = false, 0, 0
	checkRightHeap(t, "a block for the gap, and not Sliding", h)
}

// TestEveryByteOfAHeap puts each byte at each place of the floor.
func TestEveryByteOfAHeap(t *testing.T) {
	for _, h := range []impl.Heap{busyHeap(), slidingHeap()} {
		for at := range h.Floor {
			was := h.Floor[at]
			for b := range 256 {
				h.Floor[at] = byte(b)
				_, is := toldOf(h)
				if got := impl.HeapOk(h); got != is {
					t.Errorf("byte %d is %d: HeapOk: got %v", at, b, got)
				}
				if b%16 < 3 {
					checkHeapOk(t, said("byte", int64(at), int64(b)), h, is)
				}
			}
			h.Floor[at] = was
		}
	}
}

// TestEveryRef puts each byte into each of the refs of one that stands, with each number of Used slots.
func TestEveryRef(t *testing.T) {
	for slots := int64(1); slots <= 16; slots++ {
		for used := int64(1); used <= slots; used++ {
			pieces := []piece{rootOf(0, 0, "", 0, 0, 0, 0, 0, 0)}
			for slot := int64(1); slot < used; slot++ {
				pieces = append(pieces, rootOf(0, slot, ""))
			}
			h := heapOf(128, one(slots), pieces...)
			for i := range int64(6) {
				for _, b := range []int64{0, 1, 2, 8, used - 1, used, used + 1, slots - 1, slots, slots + 1, 15, 16, 17, 32, 127, 128, 254, 255} {
					h.Floor[6+i] = byte(b)
					checkHeapOk(t, said("ref", slots, used, i, b), h, b <= used)
				}
				h.Floor[6+i] = 0
			}
		}
	}
}

// drawnPieces are of tenants that are Live; they refer to slots that are Used, most of them.
func drawnPieces(d *drawn, tenants []impl.Tenant) []piece {
	var pieces []piece
	used := map[int64][]byte{}
	for range d.below(9) {
		owner := d.below(4)
		data := strings.Repeat("\x07", int(d.below(5)))
		switch {
		case d.below(5) == 0 || !tenants[owner].Live:
			pieces = append(pieces, nobodys(6+d.below(9), 0))
		case d.below(4) == 0:
			pieces = append(pieces, fallen(owner, d.below(16), data, byte(d.below(256))))
		case len(used[owner]) < len(tenants[owner].Table):
			pieces = append(pieces, rootOf(owner, int64(len(used[owner])), data))
			used[owner] = append(used[owner], byte(len(used[owner])+1))
		}
	}
	for i := range pieces {
		p := &pieces[i]
		for n := d.below(4); p.stands && n > 0; n-- {
			p.refs = append(p.refs, append(used[p.owner], 0)[d.below(int64(len(used[p.owner])+1))])
		}
		p.root = p.stands && d.below(3) > 0
	}
	return pieces
}

// drawnHeap is a right one but for now and then; some of what would be lost is rooted.
func drawnHeap(d *drawn) impl.Heap {
	tenants := make([]impl.Tenant, 4)
	for i := range tenants {
		if d.below(4) > 0 {
			tenants[i] = live(int64(i)*3+d.below(3)+1, d.below(33)+20, d.below(6)+1)
		}
	}
	pieces := drawnPieces(d, tenants)
	if d.below(2) == 0 {
		pieces = slices.Insert(pieces, int(d.below(int64(len(pieces)+1))), gapOf(d.below(20)))
	}
	h := heapOf(192+d.below(65), tenants, pieces...)
	for i, x := range h.Tenants {
		web, _, _ := webTold(h, placesTold(h), i)
		for _, slot := range lostSlots(web, reachedSlots(web)) {
			x.Table[slot].Root = d.below(20) > 0
		}
	}
	return h
}

func placesTold(h impl.Heap) []impl.Place {
	first, _ := walked(h.Floor, 0, h.Low)
	second, _ := walked(h.Floor, h.High, h.Top)
	return slices.Concat(first, second)
}

// drawnChange changes one number or byte by one, or one flag, if anything.
func drawnChange(d *drawn, h *impl.Heap) {
	by := d.below(2)*2 - 1
	x := &h.Tenants[d.below(4)]
	switch d.below(16) {
	case 0:
		h.Top += by
	case 1:
		h.Low += by
	case 2:
		h.High += by
	case 3:
		h.Sliding = !h.Sliding
	case 4:
		x.Live = !x.Live
	case 5:
		x.Bytes -= d.below(30)
	case 6, 7, 8:
		h.Floor[d.below(h.Top+2)] += byte(by)
	case 9:
		if len(x.Table) > 0 {
			s := &x.Table[d.below(int64(len(x.Table)))]
			s.Root, s.At = d.below(2) == 0, s.At+by*d.below(2)
		}
	}
}

func TestDrawnHeaps(t *testing.T) {
	var d drawn
	right, wrong := 0, 0
	for range 6000 {
		h := drawnHeap(&d)
		drawnChange(&d, &h)
		_, is := toldOf(h)
		checkHeapOk(t, "drawn", h, is)
		if is {
			right++
		} else {
			wrong++
		}
	}
	if right < 1500 || wrong < 1500 {
		t.Errorf("%d heaps are right, %d are wrong", right, wrong)
	}
}

// withSpareHeap is a heap of which the Floor, the list of Tenants and each Table have room behind them.
func withSpareHeap(h impl.Heap) (impl.Heap, []kept) {
	floor, tenants := withSpare(h.Floor), withSpareTenants(h.Tenants)
	h.Floor, h.Tenants = floor.arg, tenants.arg
	return h, []kept{floor, tenants}
}

// checkNewWeb tells that neither two answers nor two lists of one answer share memory.
func checkNewWeb(t *testing.T, what string, args []kept, call func() []impl.Knot) {
	t.Helper()
	first, second := call(), call()
	was := webShown(second)
	for i := range first {
		scribble(first[i].Refs, func(int64) int64 { return 1000 + int64(i) })
	}
	for i, k := range first {
		if slices.ContainsFunc(k.Refs[:cap(k.Refs)], func(ref int64) bool { return ref != 1000+int64(i) }) {
			t.Errorf("%s: the Refs of %d share memory with others", what, i)
		}
	}
	scribble(first, func(k impl.Knot) impl.Knot { return impl.Knot{There: !k.There, Root: !k.Root, Refs: []int64{-7}} })
	if got := webShown(second); got != was {
		t.Errorf("%s: two answers share memory: %s, was %s", what, got, was)
	}
	for _, a := range args {
		a.checkSame(t, what)
	}
}

func TestHeapAnswersAreNew(t *testing.T) {
	heaps := append(rightHeaps(), namedHeap{"zero", impl.Heap{}})
	for _, c := range wrongChanges() {
		h := busyHeap()
		c.do(&h)
		heaps = append(heaps, namedHeap{c.what, h})
	}
	for _, c := range heaps {
		h, args := withSpareHeap(c.heap)
		impl.HeapOk(h)
		for _, a := range args {
			a.checkSame(t, c.what+": HeapOk")
		}
		checkNewList(t, c.what+": BlocksOf", args, func() []impl.Place { return impl.BlocksOf(h) }, otherPlace)
		for _, who := range []int64{-1, 0, 1, 2, 3, 4, math.MinInt64, math.MaxInt64} {
			checkNewWeb(t, c.what+said(": WebIn", who), args, func() []impl.Knot { return impl.WebIn(h, who) })
			impl.UsedBy(h, who)
			for _, a := range args {
				a.checkSame(t, c.what+said(": UsedBy", who))
			}
		}
	}
}

func TestNewHeapsAreNew(t *testing.T) {
	for _, size := range []int64{63, 64, 256, 1024, 1025, -1} {
		checkNew(t, said("NewHeap", size), nil, func() []byte {
			h, _ := impl.NewHeap(size)
			return h.Floor
		})
	}
}
