package tests

import (
	"bytes"
	"math"
	"strconv"
	"testing"

	"loop.example/g00750/impl"
)

func shown(h impl.Head) string { return said("Head", h.Size, h.Owner, h.Slot, h.Refs) }

// checkHead holds both results of HeadAt against what is wanted; the zero Head stands for none.
func checkHead(t *testing.T, what string, floor []byte, at int64, want impl.Head) {
	t.Helper()
	wantIs := want != impl.Head{}
	got, is := impl.HeadAt(floor, at)
	if got != want || is != wantIs {
		t.Errorf("%s: got %s, %v; want %s, %v", what, shown(got), is, shown(want), wantIs)
	}
}

// block is a floor with head at at, and full from there to the end of size bytes.
func block(at int64, head []byte, size int64) []byte {
	floor := bytes.Repeat([]byte{0xFF}, int(at))
	floor = append(floor, head...)
	return append(floor, numbered(size-int64(len(head)))...)
}

// headIn is the chapter's words, for six bytes of which all that is asked for is there.
func headIn(b []byte) impl.Head {
	size := int64(b[0]) + 256*int64(b[1])
	refs := int64(b[4])
	if size < 6+refs || size > 1000 || b[2] > 4 || b[3] > 15 || refs > 6 || b[5] != 0 {
		return impl.Head{}
	}
	return impl.Head{Size: size, Owner: int64(b[2]) - 1, Slot: int64(b[3]), Refs: refs}
}

type headAndBytes struct {
	head impl.Head
	want []byte
}

func rightHeads() []headAndBytes {
	return []headAndBytes{
		{impl.Head{Size: 20, Owner: 1, Slot: 4, Refs: 2}, []byte{20, 0, 2, 4, 2, 0}},
		{impl.Head{Size: 300, Owner: 2, Slot: 9, Refs: 5}, []byte{44, 1, 3, 9, 5, 0}},
		{impl.Head{Size: 6, Owner: 0, Slot: 0, Refs: 0}, []byte{6, 0, 1, 0, 0, 0}},
		{impl.Head{Size: 7, Owner: 0, Slot: 0, Refs: 1}, []byte{7, 0, 1, 0, 1, 0}},
		{impl.Head{Size: 12, Owner: 3, Slot: 15, Refs: 6}, []byte{12, 0, 4, 15, 6, 0}},
		{impl.Head{Size: 999, Owner: 3, Slot: 15, Refs: 6}, []byte{231, 3, 4, 15, 6, 0}},
		{impl.Head{Size: 1000, Owner: 3, Slot: 15, Refs: 6}, []byte{232, 3, 4, 15, 6, 0}},
		{impl.Head{Size: 1000, Owner: 0, Slot: 0, Refs: 0}, []byte{232, 3, 1, 0, 0, 0}},
		{impl.Head{Size: 255, Owner: 1, Slot: 1, Refs: 0}, []byte{255, 0, 2, 1, 0, 0}},
		{impl.Head{Size: 256, Owner: 1, Slot: 1, Refs: 0}, []byte{0, 1, 2, 1, 0, 0}},
		{impl.Head{Size: 257, Owner: 1, Slot: 1, Refs: 0}, []byte{1, 1, 2, 1, 0, 0}},
		{impl.Head{Size: 512, Owner: 1, Slot: 1, Refs: 0}, []byte{0, 2, 2, 1, 0, 0}},
		{impl.Head{Size: 767, Owner: 1, Slot: 1, Refs: 0}, []byte{255, 2, 2, 1, 0, 0}},
		{impl.Head{Size: 768, Owner: 1, Slot: 1, Refs: 0}, []byte{0, 3, 2, 1, 0, 0}},
		// Nobody's: that its Slot is 0 and nothing lies behind it is for a heap to ask (chapter 8).
		{impl.Head{Size: 6, Owner: -1}, []byte{6, 0, 0, 0, 0, 0}},
		{impl.Head{Size: 1000, Owner: -1}, []byte{232, 3, 0, 0, 0, 0}},
		{impl.Head{Size: 40, Owner: -1, Slot: 15, Refs: 6}, []byte{40, 0, 0, 15, 6, 0}},
	}
}

// wrongHeads has some that would be right if a number were cut to a byte or two, or a sum went round.
func wrongHeads() []impl.Head {
	most, least := int64(math.MaxInt64), int64(math.MinInt64)
	return []impl.Head{
		{},
		{Size: 5}, {Size: 5, Refs: -1}, {Size: 0, Refs: -6}, {Size: -6}, {Size: least}, {Size: most},
		{Size: 6, Refs: 1}, {Size: 8, Refs: 3}, {Size: 11, Refs: 6},
		{Size: 1001}, {Size: 1001, Refs: 6}, {Size: 1024}, {Size: 65536 + 6}, {Size: 1<<32 + 6},
		{Size: 6, Owner: -2}, {Size: 6, Owner: 4}, {Size: 6, Owner: 5}, {Size: 6, Owner: 255},
		{Size: 6, Owner: 256}, {Size: 6, Owner: -256}, {Size: 6, Owner: least}, {Size: 6, Owner: most},
		{Size: 6, Slot: -1}, {Size: 6, Slot: 16}, {Size: 6, Slot: 256}, {Size: 6, Slot: -256},
		{Size: 6, Slot: least}, {Size: 6, Slot: most},
		{Size: 20, Refs: -1}, {Size: 20, Refs: 7}, {Size: 13, Refs: 7}, {Size: 300, Refs: 256},
		{Size: 300, Refs: -256}, {Size: 6, Refs: most}, {Size: least + 5, Refs: most},
		{Size: 6, Refs: least}, {Size: 1000, Refs: least}, {Size: least, Refs: least},
		{Size: 6, Owner: -1, Slot: 16}, {Size: 1001, Owner: -1}, {Size: 5, Owner: -1},
	}
}

func TestRightHeads(t *testing.T) {
	for _, c := range rightHeads() {
		if !impl.HeadOk(c.head) {
			t.Errorf("%s: not right", shown(c.head))
		}
		if got := impl.HeadBytes(c.head); !bytes.Equal(got, c.want) {
			t.Errorf("%s: got %v, want %v", shown(c.head), got, c.want)
		}
		for _, at := range []int64{0, 1, 24} {
			checkHead(t, said("HeadAt", at), block(at, c.want, c.head.Size), at, c.head)
		}
	}
}

func TestWrongHeads(t *testing.T) {
	for _, h := range wrongHeads() {
		if impl.HeadOk(h) {
			t.Errorf("%s: right", shown(h))
		}
		if got := impl.HeadBytes(h); len(got) != 0 {
			t.Errorf("%s: got %v, want nothing", shown(h), got)
		}
	}
}

// TestHeadAtOfHeadBytes goes through each Head there is, and those past it by one or two on each side.
func TestHeadAtOfHeadBytes(t *testing.T) {
	floor := numbered(impl.MaxFloor)
	for size := int64(4); size <= 1002; size++ {
		for owner := int64(-3); owner <= 5; owner++ {
			for slot := int64(-2); slot <= 17; slot++ {
				for refs := int64(-2); refs <= 8; refs++ {
					h := impl.Head{Size: size, Owner: owner, Slot: slot, Refs: refs}
					right := size >= 6+refs && size <= 1000 && owner >= -1 && owner < 4 && slot >= 0 && slot < 16 && refs >= 0 && refs <= 6
					b := impl.HeadBytes(h)
					if impl.HeadOk(h) != right || !right && len(b) != 0 || right && len(b) != 6 {
						t.Fatalf("%s: right is %v, got %v", shown(h), right, b)
					}
					if right {
						copy(floor[9:], b)
						checkHead(t, shown(h), floor, 9, h)
					}
				}
			}
		}
	}
}

func TestBytesOfNoHead(t *testing.T) {
	for _, c := range []struct {
		what string
		head []byte
	}{
		{"nothing but 0", []byte{0, 0, 0, 0, 0, 0}},
		{"Size less than a head", []byte{5, 0, 1, 0, 0, 0}},
		{"Size less than a head and Refs", []byte{7, 0, 1, 0, 2, 0}},
		{"Size 1001", []byte{233, 3, 1, 0, 0, 0}},
		{"Size 1024", []byte{0, 4, 1, 0, 0, 0}},
		{"Size with its bytes in the other order", []byte{0, 6, 1, 0, 0, 0}},
		{"Owner MaxTenants", []byte{6, 0, 5, 0, 0, 0}},
		{"Owner 254", []byte{6, 0, 255, 0, 0, 0}},
		{"Slot MaxSlots", []byte{6, 0, 1, 16, 0, 0}},
		{"Slot 255", []byte{6, 0, 1, 255, 0, 0}},
		{"Refs 7", []byte{20, 0, 1, 0, 7, 0}},
		{"Refs 255", []byte{20, 0, 1, 0, 255, 0}},
		{"the last byte 1", []byte{6, 0, 1, 0, 0, 1}},
		{"the last byte 255", []byte{6, 0, 1, 0, 0, 255}},
		{"nobody's, the last byte 1", []byte{6, 0, 0, 0, 0, 1}},
	} {
		checkHead(t, c.what, block(0, c.head, impl.MaxFloor), 0, impl.Head{})
		checkHead(t, c.what+", behind others", block(3, c.head, 1021), 3, impl.Head{})
	}
}

// TestEveryByteOfAHead puts each byte at each place of some heads, and each two bytes where Size stands.
func TestEveryByteOfAHead(t *testing.T) {
	for _, right := range [][]byte{{44, 1, 3, 9, 5, 0}, {12, 0, 4, 15, 6, 0}, {6, 0, 0, 0, 0, 0}, {232, 3, 1, 0, 0, 0}} {
		floor := block(24, right, 1000)
		for place := range 6 {
			for b := range 256 {
				copy(floor[24:], right)
				floor[24+place] = byte(b)
				checkHead(t, said("byte", int64(place), int64(b)), floor, 24, headIn(floor[24:30]))
			}
		}
		copy(floor[24:], right)
		for size := range 65536 {
			floor[24], floor[25] = byte(size), byte(size>>8)
			checkHead(t, said("Size", int64(size)), floor, 24, headIn(floor[24:30]))
		}
	}
}

func TestHeadAtTheEnd(t *testing.T) {
	for _, c := range rightHeads() {
		for _, at := range []int64{0, 1, 23} {
			all := block(at, c.want, c.head.Size)
			checkHead(t, shown(c.head)+", met exactly", all, at, c.head)
			checkHead(t, shown(c.head)+", one more", append(bytes.Clone(all), 0), at, c.head)
			checkHead(t, shown(c.head)+", one less", all[:len(all)-1], at, impl.Head{})
			checkHead(t, shown(c.head)+", just the head", all[:at+6], at, headOfSize(c.head, 6))
		}
	}
	floor := block(24, []byte{232, 3, 1, 0, 0, 0}, 1000)
	checkHead(t, "to the end of the largest floor", floor, 24, impl.Head{Size: 1000})
	copy(floor[25:], []byte{232, 3, 1, 0, 0, 0})
	checkHead(t, "one beyond the largest floor", floor, 25, impl.Head{})
	copy(floor[1018:], []byte{6, 0, 1, 0, 0, 0})
	checkHead(t, "the last six bytes", floor, 1018, impl.Head{Size: 6})
	copy(floor[1018:], []byte{7, 0, 1, 0, 0, 0})
	checkHead(t, "the last six bytes, one too few", floor, 1018, impl.Head{})
}

// headOfSize is none when all of the Head is more than that.
func headOfSize(h impl.Head, size int64) impl.Head {
	if h.Size > size {
		return impl.Head{}
	}
	return h
}

func TestTooFewBytesForAHead(t *testing.T) {
	head := []byte{6, 0, 1, 0, 0, 0}
	for n := range 6 {
		what := "a floor of " + strconv.Itoa(n)
		checkHead(t, what, head[:n:n], 0, impl.Head{})
		checkHead(t, what+", with the others in the spare room", head[:n], 0, impl.Head{})
	}
	checkHead(t, "no floor", nil, 0, impl.Head{})
	whole := block(0, []byte{20, 0, 1, 0, 0, 0}, 20)
	checkHead(t, "the end of Size in the spare room", whole[:19], 0, impl.Head{})

	most, least := int64(math.MaxInt64), int64(math.MinInt64)
	floor := bytes.Repeat(head, 4)
	for _, at := range []int64{
		-1, -5, -6, -24, least, least + 1, least + 6, 19, 20, 23, 24, 25, 1024, 1025,
		1 << 32, 1<<32 + 6, -1 << 32, most, most - 1, most - 5, most - 6, most - 23,
	} {
		checkHead(t, said("HeadAt", at), floor, at, impl.Head{})
	}
	for _, at := range []int64{0, 6, 12, 18} {
		checkHead(t, said("HeadAt", at), floor, at, impl.Head{Size: 6})
	}
}

func TestHeadOnTheLargestFloorAndOneMore(t *testing.T) {
	head := []byte{44, 1, 3, 9, 5, 0}
	for _, at := range []int64{0, 1, 700, 724} {
		floor := block(at, head, 1025-at)
		checkHead(t, said("1024 bytes, at", at), floor[:1024], at, impl.Head{Size: 300, Owner: 2, Slot: 9, Refs: 5})
		checkHead(t, said("1025 bytes, at", at), floor, at, impl.Head{})
	}
	checkHead(t, "many bytes", block(0, head, 5000), 0, impl.Head{})
}

func TestHeadsLeaveTheFloorAlone(t *testing.T) {
	for _, c := range rightHeads() {
		for _, size := range []int64{6, c.head.Size - 1, c.head.Size, 1024, 1025} {
			floor := withSpare(block(0, c.want, max(size, 6)))
			for _, at := range []int64{math.MinInt64, -1, 0, 1, size - 6, size, math.MaxInt64} {
				impl.HeadAt(floor.arg, at)
				floor.checkSame(t, said("HeadAt", size, at))
			}
		}
	}
}

func TestHeadBytesAreNew(t *testing.T) {
	for _, c := range rightHeads() {
		checkNew(t, shown(c.head), nil, func() []byte { return impl.HeadBytes(c.head) })
	}
	for _, h := range wrongHeads() {
		checkNew(t, shown(h), nil, func() []byte { return impl.HeadBytes(h) })
	}
}
