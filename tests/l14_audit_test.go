package tests

import (
	"math"
	"slices"
	"strings"
	"testing"

	"loop.example/g00750/impl"
)

// auditTold and cleanTold are written from the chapter's words.
func auditTold(h impl.Heap, who int64) ([]int64, int64) {
	all, is := toldOf(h)
	if !is || who < 0 || who > 3 {
		return nil, impl.CdBad
	}
	x := h.Tenants[who]
	if !x.Live {
		return nil, impl.CdNone
	}
	used, free := int64(0), int64(0)
	for _, s := range x.Table {
		switch {
		case s.Used:
			used++
		case s.Gen < 8:
			free++
		}
	}
	return []int64{all.used[who], used, free, x.Bytes}, impl.CdOk
}

func cleanTold(h impl.Heap) bool {
	if _, is := toldOf(h); !is {
		return false
	}
	anything := maybeAnything(h)
	for at, b := range h.Floor {
		if b != 0 && !anything[at] {
			return false
		}
	}
	return true
}

// maybeAnything tells of each byte whether it is in a block of a Live tenant, or in a head.
func maybeAnything(h impl.Heap) []bool {
	anything := make([]bool, len(h.Floor))
	for _, p := range placesTold(h) {
		n := int64(6)
		if p.Head.Owner >= 0 && h.Tenants[p.Head.Owner].Live {
			n = p.Head.Size
		}
		for at := range n {
			anything[p.At+at] = true
		}
	}
	return anything
}

// checkAudit takes the numbers from whoever asks; the words have to tell the same.
func checkAudit(t *testing.T, what string, h impl.Heap, who, code int64, want ...int64) {
	t.Helper()
	was := twin(h)
	got, is := impl.AuditOf(h, who)
	told, toldCode := auditTold(h, who)
	if is != code || toldCode != code || !slices.Equal(got, want) || !slices.Equal(told, want) {
		t.Errorf("%s: AuditOf %d: got %v, code %d; want %v, code %d; by the words %v, code %d: %s", what, who, got, is, want, code, told, toldCode, heapShown(h))
	}
	if !sameHeap(h, was) {
		t.Errorf("%s: AuditOf %d: the heap that came is %s, was %s", what, who, heapShown(h), heapShown(was))
	}
}

// checkAudits is of all four tenants; nothing is wanted of one that is not Live, nor of those that there are not.
func checkAudits(t *testing.T, what string, h impl.Heap, want ...[]int64) {
	t.Helper()
	for who := range int64(4) {
		code := int64(impl.CdOk)
		if want[who] == nil {
			code = impl.CdNone
		}
		checkAudit(t, what, h, who, code, want[who]...)
	}
	checkAudit(t, what, h, -1, impl.CdBad)
	checkAudit(t, what, h, 4, impl.CdBad)
}

// auditsTold are for where whoever asks can't tell beforehand.
func auditsTold(h impl.Heap) [][]int64 {
	var list [][]int64
	for who := range int64(4) {
		told, _ := auditTold(h, who)
		list = append(list, told)
	}
	return list
}

// checkClean is the second part of promise 14, too: what is right is clean, as far as it has to be.
func checkClean(t *testing.T, what string, h impl.Heap, want bool) {
	t.Helper()
	was := twin(h)
	if got, told, right := impl.CleanIn(h), cleanTold(h), impl.HeapOk(h); got != want || told != want || right != want {
		t.Errorf("%s: CleanIn: got %v, want %v, by the words %v, HeapOk %v: %s %v", what, got, want, told, right, heapShown(h), h.Floor)
	}
	if !sameHeap(h, was) {
		t.Errorf("%s: CleanIn: the heap that came is %s, was %s", what, heapShown(h), heapShown(was))
	}
}

// checkNoAudit is of a heap that is not right.
func checkNoAudit(t *testing.T, what string, h impl.Heap) {
	t.Helper()
	for who := int64(-1); who <= 4; who++ {
		checkAudit(t, what, h, who, impl.CdBad)
	}
	checkClean(t, what, h, false)
}

// auditedTenants are three, of whom no number of an audit is like another one.
func auditedTenants() []impl.Tenant {
	list := []impl.Tenant{live(4, 70, 8), {}, live(9, 33, 3), live(2, 120, 16)}
	list[0].Table[1].Gen, list[0].Table[5].Gen, list[0].Table[6].Gen = 8, 3, 7
	list[2].Table[0].Gen, list[2].Table[2].Gen = 8, 8
	for slot := range 6 {
		list[3].Table[slot*2+1].Gen = 8
	}
	return list
}

func auditedHeap() impl.Heap { return heapOf(256, auditedTenants(), auditedPieces()...) }

func auditedPieces() []piece {
	return []piece{
		rootOf(0, 6, "abc", 3, 8), fallen(0, 0, "old", 1), rootOf(3, 2, "", 15, 1, 0), heldOf(0, 2, ""), nobodys(9, 1), heldOf(3, 14, "held"),
		rootOf(2, 1, strings.Repeat("x", 22)), fallen(2, 0, ""), heldOf(3, 0, "", 15, 1), rootOf(0, 7, "q"), fallen(3, 1, "worn out", 255), rootOf(3, 12, "12345"),
	}
}

// TestAuditsWrittenDown has each number of three tenants, with a gap at each place, or none.
func TestAuditsWrittenDown(t *testing.T) {
	zero, two, three := []int64{24, 3, 4, 70}, []int64{28, 1, 0, 33}, []int64{38, 4, 6, 120}
	for gap := range len(auditedPieces()) + 2 {
		pieces := auditedPieces()
		if gap <= len(pieces) {
			pieces = slices.Insert(pieces, gap, gapOf(int64(gap*3)))
		}
		h := heapOf(256, auditedTenants(), pieces...)
		checkAudits(t, said("written down", int64(gap)), h, zero, nil, two, three)
		checkClean(t, said("written down", int64(gap)), h, true)
	}
	for _, h := range []impl.Heap{busyHeap(), slidingHeap()} {
		checkAudits(t, "busy", h, []int64{17, 2, 1, 60}, nil, []int64{17, 2, 1, 40}, []int64{0, 0, 1, 0})
		checkClean(t, "busy", h, true)
	}
}

// TestEachNumberIsItsOwn has each of the four numbers be otherwise by one where no other one is, or as few as can be.
func TestEachNumberIsItsOwn(t *testing.T) {
	for _, c := range []struct {
		what   string
		tenant impl.Tenant
		data   string
		more   []piece
		want   []int64
	}{
		{"as it is", live(7, 50, 4), "abc", nil, []int64{9, 1, 3, 50}},
		{"a byte more", live(7, 50, 4), "abcd", nil, []int64{10, 1, 3, 50}},
		{"a byte less", live(7, 50, 4), "ab", nil, []int64{8, 1, 3, 50}},
		{"a byte more is promised", live(7, 51, 4), "abc", nil, []int64{9, 1, 3, 51}},
		{"a byte less is promised", live(7, 49, 4), "abc", nil, []int64{9, 1, 3, 49}},
		{"a slot more is promised", live(7, 50, 5), "abc", nil, []int64{9, 1, 4, 50}},
		{"a slot less is promised", live(7, 50, 3), "abc", nil, []int64{9, 1, 2, 50}},
		{"another Tag", live(8, 50, 4), "abc", nil, []int64{9, 1, 3, 50}},
		{"another thing", live(7, 50, 4), "abc", []piece{rootOf(1, 3, "")}, []int64{15, 2, 2, 50}},
		{"another one's thing", live(7, 50, 4), "abc", []piece{rootOf(3, 3, "")}, []int64{9, 1, 3, 50}},
		{"something that does not stand", live(7, 50, 4), "abc", []piece{fallen(1, 3, "")}, []int64{9, 1, 3, 50}},
		{"something of nobody's", live(7, 50, 4), "abc", []piece{nobodys(6, 0)}, []int64{9, 1, 3, 50}},
	} {
		tenants := []impl.Tenant{{}, c.tenant, {}, live(1, 40, 7)}
		h := heapOf(128, tenants, append([]piece{rootOf(3, 0, "other"), rootOf(1, 0, c.data)}, c.more...)...)
		checkAudit(t, c.what, h, 1, impl.CdOk, c.want...)
		h.Tenants[1].Table[2].Gen = 7
		checkAudit(t, c.what+", a slot of the last Gen", h, 1, impl.CdOk, c.want...)
		h.Tenants[1].Table[2].Gen = 8
		c.want[2]--
		checkAudit(t, c.what+", a slot worn out", h, 1, impl.CdOk, c.want...)
	}
}

// TestEachCountOfSlots has of each number of slots as many Used, and as many worn out, as there can be; which ones they are turns round.
func TestEachCountOfSlots(t *testing.T) {
	for slots := int64(1); slots <= 16; slots++ {
		for used := range slots + 1 {
			for worn := range slots - used + 1 {
				tenants := []impl.Tenant{live(5, 30, 2), {}, {}, live(6, 200, slots)}
				pieces := []piece{rootOf(0, 1, "other")}
				bytes := int64(0)
				for slot := range slots {
					s := &tenants[3].Table[slot]
					switch i := (slot + used*3 + worn) % slots; {
					case i < used:
						pieces = append(pieces, rootOf(3, slot, strings.Repeat("u", int(i%7)), byte(slot+1)))
						bytes += 7 + i%7
						s.Gen = i % 8
					case i < used+worn:
						s.Gen = 8
					default:
						s.Gen = (slots - i) % 8
					}
				}
				what := said("slots, used, worn out", slots, used, worn)
				checkAudits(t, what, heapOf(256, tenants, pieces...), []int64{11, 1, 1, 30}, nil, nil, []int64{bytes, used, slots - used - worn, 200})
			}
		}
	}
}

// TestAuditsOfWhoJustCame has nothing used and all slots free, whatever others have.
func TestAuditsOfWhoJustCame(t *testing.T) {
	other := heapOf(1024, []impl.Tenant{{}, live(1, 0, 2), {}, {}}, fallen(1, 0, "old"), gapOf(9), nobodys(30, 2))
	for _, h := range []impl.Heap{newHeap(t, 1024), other} {
		for slots := int64(1); slots <= 16; slots++ {
			for _, bytes := range []int64{0, 1, 5, 6, 7, 63, 64, 255, 256, 1023, 1024} {
				got, code := impl.Entered(h, 2, bytes, slots)
				if code != impl.CdOk {
					t.Fatalf("did not come: code %d", code)
				}
				checkAudit(t, "just came", got, 2, impl.CdOk, 0, 0, slots, bytes)
				checkAudit(t, "just came", h, 2, impl.CdNone)
				checkClean(t, "just came", got, true)
			}
		}
	}
	for _, size := range []int64{64, 65, 1023, 1024} {
		checkAudits(t, "nobody there", newHeap(t, size), nil, nil, nil, nil)
	}
	h := newHeap(t, 1024)
	for who := range int64(4) {
		h, _ = impl.Entered(h, who, 256, 16)
	}
	all := []int64{0, 0, 16, 256}
	checkAudits(t, "all that there is", h, all, all, all, all)
}

// TestAuditsOfThings has one thing of each number of refs, with no data, as much as may be made, and between, made and laid.
func TestAuditsOfThings(t *testing.T) {
	for refs := range int64(7) {
		for _, n := range []int64{0, 1, 2, 7, 100, 199, 200} {
			what := said("thing", refs, n)
			h := heapOf(1024, []impl.Tenant{live(2, 30, 3), live(3, 994, 2), {}, {}}, rootOf(0, 0, "other"))
			h, code, number := impl.Made(h, 1, n, refs)
			if code != impl.CdOk {
				t.Fatalf("%s: code %d", what, code)
			}
			checkAudits(t, what, h, []int64{11, 1, 2, 30}, []int64{6 + refs + n, 1, 1, 994}, nil, nil)
			for i := range refs {
				h, _ = impl.RefSet(h, 1, number, i, number)
			}
			h, _ = impl.WrittenAt(h, 1, number, 0, anyData(n, 255))
			checkAudits(t, what+", written", h, []int64{11, 1, 2, 30}, []int64{6 + refs + n, 1, 1, 994}, nil, nil)
			checkClean(t, what+", written", h, true)
		}
	}
	more := heapOf(1024, []impl.Tenant{{}, {}, {}, live(1, 1024, 1)}, rootOf(3, 0, strings.Repeat("x", 988), 1, 0, 1, 0, 1, 0))
	checkAudits(t, "the largest there can be", more, nil, nil, nil, []int64{1000, 1, 0, 1024})
}

// TestAuditsOfAllThatWasPromised has the bytes used up exactly, and all but a few, with slots left or not.
func TestAuditsOfAllThatWasPromised(t *testing.T) {
	for promised := int64(12); promised <= 64; promised++ {
		for first := int64(6); first <= promised-6; first += 5 {
			for _, slots := range []int64{2, 3, 16} {
				what := said("used up", promised, first, slots)
				h := heapOf(64, []impl.Tenant{{}, {}, live(1, promised, slots), {}})
				h, _, _ = impl.Made(h, 2, first-6, 0)
				h, code, _ := impl.Made(h, 2, promised-first-6, 0)
				if code != impl.CdOk {
					t.Fatalf("%s: code %d", what, code)
				}
				checkAudits(t, what, h, nil, nil, []int64{promised, 2, slots - 2, promised}, nil)
			}
		}
	}
	full := []int64{256, 16, 0, 256}
	checkAudits(t, "64 that fill the largest floor", fullHeap(16), full, full, full, full)
	checkAudits(t, "64 of the smallest", fullHeap(6), []int64{96, 16, 0, 256}, []int64{96, 16, 0, 256}, []int64{96, 16, 0, 256}, []int64{96, 16, 0, 256})
	tenants := []impl.Tenant{live(1, 0, 1), live(2, 0, 16), live(3, 1024, 1), {}}
	checkAudits(t, "nothing, and all", heapOf(1024, tenants), []int64{0, 0, 1, 0}, []int64{0, 0, 16, 0}, []int64{0, 0, 1, 1024}, nil)
	h := heapOf(1024, tenants, fallen(0, 0, "abc"), fallen(1, 15, "", 9), rootOf(2, 0, strings.Repeat("a", 994)))
	checkAudits(t, "nothing, and almost all", h, []int64{0, 0, 1, 0}, []int64{0, 0, 16, 0}, []int64{1000, 1, 0, 1024}, nil)
}

// TestAuditsPassOverWhatDoesNotStand has something that does not stand, in each place, beside what is told of in the audits.
func TestAuditsPassOverWhatDoesNotStand(t *testing.T) {
	zero, two, three := []int64{24, 3, 4, 70}, []int64{28, 1, 0, 33}, []int64{38, 4, 6, 120}
	for _, p := range []piece{
		fallen(0, 6, "abc", 3, 8), fallen(0, 0, "of a slot that is free"), fallen(0, 1, "of one that is worn out"), fallen(2, 15, "of one that there is not", 255),
		fallen(3, 12, ""), fallen(3, 1, strings.Repeat("\xFF", 80)), nobodys(6, 0), nobodys(70, 6), gapOf(50), gapOf(0),
	} {
		for at := range len(auditedPieces()) + 1 {
			h := heapOf(256, auditedTenants(), slices.Insert(auditedPieces(), at, p)...)
			checkAudits(t, said("does not stand", p.owner, p.slot, int64(at)), h, zero, nil, two, three)
			checkClean(t, said("does not stand", p.owner, p.slot, int64(at)), h, true)
		}
	}
}

// TestRootOrNotIsNotTold has a ring of five of which any are Root, but for none.
func TestRootOrNotIsNotTold(t *testing.T) {
	for mask := int64(1); mask < 32; mask++ {
		var pieces []piece
		for slot := range int64(5) {
			p := heldOf(0, slot, "ring"[:slot], byte((slot+1)%5+1))
			p.root = mask>>slot&1 == 1
			pieces = append(pieces, p)
		}
		h := heapOf(128, one(8), pieces...)
		for slot := range int64(5) {
			checkAudits(t, said("root or not", mask), h, []int64{45, 5, 3, 128}, nil, nil, nil)
			if mask != 1<<slot {
				h, _ = impl.Unrooted(h, 0, 128+slot)
				checkAudits(t, said("let go", mask, slot), h, []int64{45, 5, 3, 128}, nil, nil, nil)
			}
			h, _ = impl.Rooted(h, 0, 128+slot)
		}
	}
}

// TestAuditsOfEachGen has one slot free, Used and free again, with each Gen there is, till it is worn out; then all of them, one after the other.
func TestAuditsOfEachGen(t *testing.T) {
	for _, slots := range []int64{1, 2, 5, 16} {
		h, _ := impl.Entered(newHeap(t, 64), 3, 40, slots)
		for turn := range slots * 8 {
			worn := turn / 8
			checkAudits(t, said("free", slots, turn), h, nil, nil, nil, []int64{0, 0, slots - worn, 40})
			h, _, _ = impl.Made(h, 3, turn%5, turn%3)
			checkAudits(t, said("used", slots, turn), h, nil, nil, nil, []int64{6 + turn%5 + turn%3, 1, slots - worn - 1, 40})
			h, _ = impl.Unrooted(h, 3, (8+turn%8)*16+worn)
			checkClean(t, said("let go", slots, turn), h, true)
		}
		checkAudits(t, said("worn out", slots), h, nil, nil, nil, []int64{0, 0, 0, 40})
	}
	for gen := range int64(9) {
		for _, used := range []bool{false, true} {
			tenants := one(3)
			for slot := range tenants[0].Table {
				tenants[0].Table[slot].Gen = gen
			}
			h, want := heapOf(128, tenants), []int64{0, 0, 3, 128}
			switch {
			case gen == 8:
				want[2] = 0
			case used:
				h, want = heapOf(128, tenants, heldOf(0, 0, "a"), rootOf(0, 2, "", 1)), []int64{14, 2, 1, 128}
			}
			checkAudits(t, said("gen", gen), h, want, nil, nil, nil)
		}
	}
}

func entering(who, bytes, slots int64) heapCall {
	return func(h impl.Heap) (impl.Heap, int64) { return impl.Entered(h, who, bytes, slots) }
}

func leaving(who int64) heapCall {
	return func(h impl.Heap) (impl.Heap, int64) { return impl.Gone(h, who) }
}

func makingOf(who, n, refs int64) heapCall {
	return func(h impl.Heap) (impl.Heap, int64) {
		h, code, _ := impl.Made(h, who, n, refs)
		return h, code
	}
}

func linking(who, number, i, to int64) heapCall {
	return func(h impl.Heap) (impl.Heap, int64) { return impl.RefSet(h, who, number, i, to) }
}

func rooting(who, number int64) heapCall {
	return func(h impl.Heap) (impl.Heap, int64) { return impl.Rooted(h, who, number) }
}

func dropping(who, number int64) heapCall {
	return func(h impl.Heap) (impl.Heap, int64) { return impl.Unrooted(h, who, number) }
}

// auditStep is what is done, and the audits of tenants 0 and 2 after it, nothing of one that is not Live.
type auditStep struct {
	what      string
	do        heapCall
	zero, two []int64
}

func auditScript() []auditStep {
	first, all := []int64{11, 1, 2, 70}, []int64{27, 3, 0, 70}
	later, its := []int64{48, 2, 1, 70}, []int64{16, 1, 1, 50}
	return []auditStep{
		{"0 comes", entering(0, 70, 3), []int64{0, 0, 3, 70}, nil},
		{"2 comes", entering(2, 50, 2), []int64{0, 0, 3, 70}, []int64{0, 0, 2, 50}},
		{"0 makes 128", makingOf(0, 4, 1), first, []int64{0, 0, 2, 50}},
		{"2 makes 256", makingOf(2, 10, 0), first, its},
		{"0 makes 129", makingOf(0, 2, 2), []int64{21, 2, 1, 70}, its},
		{"0 makes 130", makingOf(0, 0, 0), all, its},
		{"128 refers to 129", linking(0, 128, 0, 129), all, its},
		{"129 is let go, and held by that", dropping(0, 129), all, its},
		{"129 refers to 130", linking(0, 129, 1, 130), all, its},
		{"130 is let go, and held by that", dropping(0, 130), all, its},
		{"130 is held", rooting(0, 130), all, its},
		{"130 is let go again", dropping(0, 130), all, its},
		{"128 refers to nothing, and 129 and 130 are lost", linking(0, 128, 0, 0), first, its},
		{"0 makes 145, where 129 was", makingOf(0, 30, 1), later, its},
		{"2 makes 257", makingOf(2, 0, 6), later, []int64{28, 2, 0, 50}},
		{"a slide begins", impl.SlideBegun, later, []int64{28, 2, 0, 50}},
		{"a step", impl.SlideStep, later, []int64{28, 2, 0, 50}},
		{"256 is let go", dropping(2, 256), later, []int64{12, 1, 1, 50}},
		{"a step, of what does not stand", impl.SlideStep, later, []int64{12, 1, 1, 50}},
		{"2 makes 274, where 256 was", makingOf(2, 1, 1), later, []int64{20, 2, 0, 50}},
		{"2 goes", leaving(2), later, nil},
		{"another one comes in its place", entering(2, 58, 1), later, []int64{0, 0, 1, 58}},
		{"a step", impl.SlideStep, later, []int64{0, 0, 1, 58}},
		{"the slide is done", impl.SlideDone, later, []int64{0, 0, 1, 58}},
		{"2 makes 384, of all it was promised", makingOf(2, 46, 6), later, []int64{58, 1, 0, 58}},
		{"145 is let go", dropping(0, 145), first, []int64{58, 1, 0, 58}},
		{"all is slid", impl.SlideDone, first, []int64{58, 1, 0, 58}},
		{"128 is let go", dropping(0, 128), []int64{0, 0, 3, 70}, []int64{58, 1, 0, 58}},
		{"0 goes", leaving(0), nil, []int64{58, 1, 0, 58}},
		{"384 is let go", dropping(2, 384), nil, []int64{0, 0, 1, 58}},
		{"2 goes", leaving(2), nil, nil},
	}
}

// checkAuditsInASlide audits at each step, from where it is or from its beginning, till it is done; it tells how many bytes were tried that lie in a gap.
func checkAuditsInASlide(t *testing.T, what string, h impl.Heap, want ...[]int64) int {
	t.Helper()
	if !h.Sliding {
		h, _ = impl.SlideBegun(h)
	}
	gaps := 0
	for left := impl.StepsLeft(h); left >= 0; left-- {
		what := what + said(": steps left", left)
		checkAudits(t, what, h, want...)
		checkClean(t, what, h, true)
		for _, at := range []int64{h.Low, (h.Low + h.High) / 2, h.High - 1} {
			if h.Low < h.High {
				gaps++
				x := twin(h)
				x.Floor[at] = 1
				checkNoAudit(t, what+said(": not bare", at), x)
			}
		}
		if h.Sliding != (left > 0) {
			t.Fatalf("%s: %s", what, heapShown(h))
		}
		h, _ = impl.SlideStep(h)
	}
	return gaps
}

// TestAuditsOfAScript audits after each step, and at each step of a slide from there on, under way or begun anew.
func TestAuditsOfAScript(t *testing.T) {
	h := newHeap(t, 128)
	for _, c := range auditScript() {
		got, code := c.do(h)
		if code != impl.CdOk {
			t.Fatalf("%s: code %d: %s", c.what, code, heapShown(h))
		}
		h = got
		checkAudits(t, c.what, h, c.zero, nil, c.two, nil)
		checkClean(t, c.what, h, true)
		checkAuditsInASlide(t, c.what, h, c.zero, nil, c.two, nil)
	}
}

// auditedHeaps are right ones, with things of each kind in them.
func auditedHeaps() []namedHeap {
	return append(rightHeaps(), []namedHeap{
		{"slid", slidTouched()}, {"mixed", mixedHeap()}, {"mixed, with a gap", mixedHeap(gapOf(9))}, {"audited", auditedHeap()},
	}...)
}

// TestAuditsAtEachStep has slides begun with blocks that don't stand, between those that do; no step changes an audit.
func TestAuditsAtEachStep(t *testing.T) {
	gaps := 0
	for _, c := range auditedHeaps() {
		want := auditsTold(c.heap)
		gaps += checkAuditsInASlide(t, c.what, c.heap, want...)
		done, _ := impl.SlideDone(c.heap)
		checkAudits(t, c.what+": done", done, want...)
	}
	if gaps < 100 {
		t.Errorf("just %d gaps", gaps)
	}
}

// TestAuditsOfWhoCameAfter has one go, from heaps that are Sliding or not, and another one come in its place; nothing of what was is told of it.
func TestAuditsOfWhoCameAfter(t *testing.T) {
	for _, c := range auditedHeaps() {
		for who := range int64(4) {
			if !c.heap.Tenants[who].Live {
				continue
			}
			want := auditsTold(c.heap)
			h, _ := impl.Gone(c.heap, who)
			want[who] = nil
			checkAudits(t, c.what+": gone", h, want...)
			checkClean(t, c.what+": gone", h, true)
			bytes := c.heap.Tenants[who].Bytes
			for _, slots := range []int64{1, 9, 16} {
				came, _ := impl.Entered(h, who, bytes, slots)
				want[who] = []int64{0, 0, slots, bytes}
				checkAudits(t, c.what+": came", came, want...)
				checkClean(t, c.what+": came", came, true)
			}
		}
	}
}

// checkMayMake tells that an audit is what may be made: as much as is left, and not a byte more, where a slot is free.
func checkMayMake(t *testing.T, what string, h impl.Heap, who int64) {
	t.Helper()
	audit, code := impl.AuditOf(h, who)
	if code != impl.CdOk {
		return
	}
	left, free := audit[3]-audit[0], audit[2]
	for _, cost := range []int64{6, left - 1, left, left + 1, 212} {
		if cost < 6 || cost > 212 {
			continue
		}
		want := int64(impl.CdOk)
		switch {
		case cost > left:
			want = impl.CdQuota
		case free == 0:
			want = impl.CdSlots
		}
		m := costing(who, cost)
		got, code, _ := impl.Made(h, who, m.n, m.refs)
		if code != want {
			t.Errorf("%s: Made %v: code %d, want %d as the audit is %v: %s", what, m, code, want, audit, heapShown(h))
		}
		if want == impl.CdOk {
			checkAudit(t, what+said(": made", who, cost), got, who, impl.CdOk, audit[0]+cost, audit[1]+1, free-1, audit[3])
			checkClean(t, what+said(": made", who, cost), got, true)
		}
	}
}

func TestAnAuditTellsWhatMayBeMade(t *testing.T) {
	for _, c := range auditedHeaps() {
		for who := range int64(4) {
			checkMayMake(t, c.what, c.heap, who)
		}
	}
}

// TestTheCodesOfAudits has nothing with each code but CdOk; just who is a tenant may be not Live.
func TestTheCodesOfAudits(t *testing.T) {
	for _, h := range []impl.Heap{busyHeap(), slidingHeap(), auditedHeap()} {
		for _, who := range append(farNumbers(), -1, 4, 5, 16, -4, math.MinInt64, math.MinInt64+2, math.MaxInt64, math.MaxInt64-3, 1<<32+2, 1<<62, -1<<62) {
			if who < 0 || who > 3 {
				checkAudit(t, "no tenant", h, who, impl.CdBad)
			}
		}
		checkAudit(t, "not Live", h, 1, impl.CdNone)
	}
	for who := range int64(4) {
		checkAudit(t, "nobody there", newHeap(t, 64), who, impl.CdNone)
		h, _ := impl.Entered(newHeap(t, 64), who, 10, 2)
		want := make([][]int64, 4)
		want[who] = []int64{0, 0, 2, 10}
		checkAudits(t, "just one", h, want...)
		h, _ = impl.Gone(h, who)
		checkAudits(t, "gone", h, nil, nil, nil, nil)
	}
}

// TestWrongHeapsAreNotAudited has CdBad ahead of all else, whatever t is; the zero Heap is among them.
func TestWrongHeapsAreNotAudited(t *testing.T) {
	for _, c := range wrongHeaps() {
		checkNoAudit(t, c.what, c.heap)
		for _, who := range strange() {
			checkAudit(t, c.what, c.heap, who, impl.CdBad)
		}
	}
}

func TestNewHeapsAreClean(t *testing.T) {
	for size := int64(64); size <= 1024; size += 15 {
		checkClean(t, said("new", size), newHeap(t, size), true)
	}
	for _, c := range rightHeaps() {
		checkClean(t, c.what, c.heap, true)
	}
}

// TestFullFloorsAreClean has floors that are full to their end, by what stands, what does not, and what is nobody's.
func TestFullFloorsAreClean(t *testing.T) {
	old := strings.Repeat("\xFF", 48)
	for _, pieces := range [][]piece{
		{rootOf(0, 0, old), rootOf(0, 1, old[:4])}, {fallen(0, 0, old), fallen(0, 9, old[:4])}, {nobodys(54, 6), nobodys(10, 0)}, {nobodys(64, 0)},
		{gapOf(54), rootOf(0, 0, old[:4])}, {gapOf(54), nobodys(10, 2)}, {rootOf(0, 0, old), gapOf(0), fallen(0, 0, old[:4])}, {gapOf(64)}, {rootOf(0, 1, old), gapOf(10)},
	} {
		h := heapOf(64, []impl.Tenant{live(1, 64, 2), {}, {}, {}}, pieces...)
		if h.Top != 64 {
			t.Errorf("Top is %d", h.Top)
		}
		checkClean(t, "full", h, true)
		anything := maybeAnything(h)
		for at := range h.Floor {
			if !anything[at] {
				h.Floor[at] = 1
				checkNoAudit(t, said("full, not bare", int64(at)), h)
				h.Floor[at] = 0
			}
		}
	}
}

// TestWhereItMustBe0 is written down: which bytes of the two heaps must be 0, and which may be anything.
func TestWhereItMustBe0(t *testing.T) {
	for _, c := range []struct {
		what           string
		heap           impl.Heap
		must, anything []int
	}{
		{"busy", busyHeap(), []int{43, 44, 45, 60, 61, 62, 94, 126, 127}, []int{8, 9, 16, 17, 18, 32, 33, 34, 35, 36, 53}},
		{"sliding", slidingHeap(), []int{26, 27, 32, 37, 38, 56, 57, 58, 73, 74, 100, 126, 127}, []int{8, 9, 16, 17, 18, 45, 46, 47, 48, 49, 66}},
		{"nobody's refs", heapOf(64, nobodyThere(), nobodys(10, 3), nobodys(6, 0)), []int{6, 7, 8, 9, 16, 63}, nil},
		{"nobody's on both sides of the gap", heapOf(64, nobodyThere(), nobodys(7, 0), gapOf(1), nobodys(8, 1)), []int{6, 7, 14, 15, 16, 63}, nil},
	} {
		for b := 1; b < 256; b++ {
			for _, at := range c.must {
				h := twin(c.heap)
				h.Floor[at] = byte(b)
				checkNoAudit(t, c.what+said(": must be 0", int64(at), int64(b)), h)
			}
			for _, at := range c.anything {
				h := twin(c.heap)
				h.Floor[at] = byte(b)
				checkClean(t, c.what+said(": may be anything", int64(at), int64(b)), h, true)
			}
		}
	}
}

// TestEveryByteIsCleanOrNot puts some bytes at each place of the floor.
func TestEveryByteIsCleanOrNot(t *testing.T) {
	clean, must := 0, 0
	heaps := []impl.Heap{busyHeap(), slidingHeap(), slidTouched(), auditedHeap(), fullHeap(16)}
	for _, h := range append(heaps, mixedHeap(gapOf(20)), steppedBy(5, slidTouched()), steppedBy(9, auditedHeap())) {
		anything := maybeAnything(h)
		for at, was := range h.Floor {
			for _, b := range []byte{0, 1, 2, 6, 17, 255} {
				h.Floor[at] = b
				_, is := toldOf(h)
				checkClean(t, said("byte", int64(at), int64(b)), h, is)
				if is {
					clean++
				} else if !anything[at] {
					must++
				}
			}
			h.Floor[at] = was
		}
	}
	if clean < 1000 || must < 1000 {
		t.Errorf("%d are clean, and %d are not where they must be", clean, must)
	}
}

// TestCleanWhateverTheyWrote has all that is somebody's written to, then let go, then its owner gone: it stays clean, and what went left nothing.
func TestCleanWhateverTheyWrote(t *testing.T) {
	for _, c := range auditedHeaps() {
		h := written(c.heap, 0x80)
		checkClean(t, c.what+": written", h, true)
		for _, x := range thingsIn(h) {
			h, _ = impl.Unrooted(h, x.who, x.number)
			checkClean(t, c.what+": let go", h, true)
		}
		for who := range int64(4) {
			h, _ = impl.Gone(h, who)
			checkClean(t, c.what+": gone", h, true)
		}
		for _, p := range impl.BlocksOf(h) {
			if p.Head.Owner != -1 || !nothingBut0(h.Floor[p.At+6:p.At+p.Head.Size]) {
				t.Errorf("%s: left: %v", c.what, p)
			}
		}
		h, _ = impl.SlideDone(h)
		h, _ = impl.SlideDone(h)
		checkClean(t, c.what+": all gone", h, true)
		if h.Top != 0 || !nothingBut0(h.Floor) {
			t.Errorf("%s: all gone: %s", c.what, heapShown(h))
		}
	}
}

// TestStrangeFieldsOfAudits holds both calls against the words, whatever they tell.
func TestStrangeFieldsOfAudits(t *testing.T) {
	withStrangeFields(func(what string, h impl.Heap) {
		for who := int64(-1); who <= 4; who++ {
			told, code := auditTold(h, who)
			checkAudit(t, what, h, who, code, told...)
		}
		checkClean(t, what, h, cleanTold(h))
	})
}

func TestDrawnAudits(t *testing.T) {
	codes := map[int64]int{}
	withDrawnChanges(t, 3000, func(d *drawn, h impl.Heap) {
		for range 3 {
			who := d.below(6) - 1
			told, code := auditTold(h, who)
			checkAudit(t, "drawn", h, who, code, told...)
			codes[code]++
		}
		checkClean(t, "drawn", h, cleanTold(h))
	})
	checkOften(t, codes, 500, impl.CdOk, impl.CdBad, impl.CdNone)
}

// auditOf is of what is known without any floor; just what was promised is the heap's to tell. It tells how many slots are worn out, too.
func (s *shadows) auditOf(who int64) ([]int64, int64) {
	x := s.heap.Tenants[who]
	if !x.Live {
		return nil, 0
	}
	bytes, used, worn := int64(0), int64(0), int64(0)
	for _, y := range s.things {
		if y.who == who {
			used++
			bytes += 6 + int64(len(y.refs)+len(y.data))
		}
	}
	for _, y := range s.old {
		if y.number/128 == x.Tag && y.number/16%8 == 7 {
			worn++
		}
	}
	return []int64{bytes, used, int64(len(x.Table)) - used - worn, x.Bytes}, worn
}

// auditTurn lets go more often than turn does, so that slots are worn out.
func (s *shadows) auditTurn(t *testing.T, d *drawn) {
	t.Helper()
	switch x, kind := s.drawnThing(d), d.below(9); {
	case x == nil || kind > 6:
		s.turn(t, d)
	case kind < 3:
		s.holdAs(t, x, false)
	case kind == 3:
		s.holdAs(t, x, true)
	default:
		s.make(d)
	}
}

// TestShadowsOfAudits has drawn things done, and audits of all after each of them.
func TestShadowsOfAudits(t *testing.T) {
	var d drawn
	most, worn, sliding := int64(0), int64(0), 0
	for range 40 {
		s := shadows{heap: newHeap(t, 200+d.below(100))}
		for range 240 {
			s.auditTurn(t, &d)
			var want [][]int64
			for who := range int64(4) {
				audit, out := s.auditOf(who)
				want = append(want, audit)
				worn += min(out, 1)
				if audit != nil {
					most = max(most, audit[1])
				}
			}
			checkAudits(t, "shadows", s.heap, want...)
			checkClean(t, "shadows", s.heap, true)
			if s.heap.Low < s.heap.High {
				sliding++
			}
		}
	}
	if most < 6 || worn < 200 || sliding < 200 {
		t.Errorf("%d things at most, %d audits with something worn out, %d heaps with a gap", most, worn, sliding)
	}
}

func TestAuditsAreNew(t *testing.T) {
	heaps := append(rightHeaps(), wrongHeaps()...)
	for steps := range len(impl.BlocksOf(slidTouched())) + 1 {
		heaps = append(heaps, namedHeap{said("under way", int64(steps)), steppedBy(steps, slidTouched())})
	}
	for _, c := range heaps {
		h, args := withSpareHeap(c.heap)
		for _, who := range []int64{-1, 0, 1, 2, 3, 4, math.MinInt64, math.MaxInt64} {
			checkNewList(t, c.what+said(": AuditOf", who), args, func() []int64 {
				got, _ := impl.AuditOf(h, who)
				return got
			}, func(n int64) int64 { return ^n })
		}
		impl.CleanIn(h)
		for _, a := range args {
			a.checkSame(t, c.what+": CleanIn")
		}
	}
}

// TestOneHeapAuditedTwice writes over the audits of each tenant: none shows in another one, nor in what comes after.
func TestOneHeapAuditedTwice(t *testing.T) {
	h := auditedHeap()
	for who := range int64(4) {
		var others [4][]int64
		for other := range int64(4) {
			others[other], _ = impl.AuditOf(h, other)
		}
		scribble(others[who], func(int64) int64 { return -9 })
		for other, want := range auditsTold(h) {
			if other != int(who) && !slices.Equal(others[other], want) {
				t.Errorf("the audit of %d is %v, want %v", other, others[other], want)
			}
		}
		checkAudits(t, "written over", h, auditsTold(h)...)
		checkClean(t, "written over", h, true)
	}
	checkAnswer(t, "what was audited", h, 0, auditedHeap(), 0)
}
