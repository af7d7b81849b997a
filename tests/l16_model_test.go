package tests

import (
	"bytes"
	"math"
	"slices"
	"strings"
	"testing"

	"loop.example/g00750/impl"
)

// rootThing, heldThing and freeThing are one that is Used and Root, one that is Used and is not, and one that is not Used.
func rootThing(gen int64, data string, refs ...int64) impl.Thing {
	return impl.Thing{Used: true, Root: true, Gen: gen, Refs: refs, Data: []byte(data)}
}

func heldThing(gen int64, data string, refs ...int64) impl.Thing {
	return impl.Thing{Used: true, Gen: gen, Refs: refs, Data: []byte(data)}
}

func freeThing(gen int64) impl.Thing { return impl.Thing{Gen: gen} }

// roomOf is of one that is Live.
func roomOf(tag, bytes int64, things ...impl.Thing) impl.Room {
	return impl.Room{Live: true, Tag: tag, Bytes: bytes, Things: things}
}

func freeThings(n int64) []impl.Thing { return make([]impl.Thing, n) }

// modelFrom has as many rooms of nobody behind those that are told as there must be.
func modelFrom(size, next int64, rooms ...impl.Room) impl.Model {
	return impl.Model{Size: size, Rooms: slices.Concat(rooms, make([]impl.Room, 4-len(rooms))), NextTag: next}
}

// busyModel is the model of busyHeap, and of slidingHeap.
func busyModel() impl.Model {
	return modelFrom(128, 9,
		roomOf(3, 60, rootThing(7, "ab", 1, -1), heldThing(0, "", 0), freeThing(8), freeThing(0)), impl.Room{},
		roomOf(8, 40, freeThing(0), rootThing(0, "xyz"), rootThing(0, "q", 2)), roomOf(5, 0, freeThing(0)))
}

func thingShown(x impl.Thing) string {
	return said(flagShown(x.Used, "used")+flagShown(x.Root, "root")+"gen", x.Gen) + said(" refs", x.Refs...) + " data " + shortened(string(x.Data)) + said(" of", int64(len(x.Data)))
}

func modelShown(m impl.Model) string {
	what := said("model size next rooms", m.Size, m.NextTag, int64(len(m.Rooms)))
	for _, r := range m.Rooms[:min(len(m.Rooms), 6)] {
		what += said(" ("+flagShown(r.Live, "live")+"tag bytes things", r.Tag, r.Bytes, int64(len(r.Things)))
		for _, x := range r.Things[:min(len(r.Things), 18)] {
			what += " [" + thingShown(x) + "]"
		}
		what += ")"
	}
	return what
}

func sameThing(a, b impl.Thing) bool {
	return a.Used == b.Used && a.Root == b.Root && a.Gen == b.Gen && slices.Equal(a.Refs, b.Refs) && bytes.Equal(a.Data, b.Data)
}

func sameRoom(a, b impl.Room) bool {
	return a.Live == b.Live && a.Tag == b.Tag && a.Bytes == b.Bytes && slices.EqualFunc(a.Things, b.Things, sameThing)
}

func sameModelTold(a, b impl.Model) bool {
	return a.Size == b.Size && a.NextTag == b.NextTag && slices.EqualFunc(a.Rooms, b.Rooms, sameRoom)
}

func modelTwin(m impl.Model) impl.Model {
	m.Rooms = slices.Clone(m.Rooms)
	for i := range m.Rooms {
		m.Rooms[i].Things = slices.Clone(m.Rooms[i].Things)
		for j := range m.Rooms[i].Things {
			x := &m.Rooms[i].Things[j]
			x.Refs, x.Data = slices.Clone(x.Refs), slices.Clone(x.Data)
		}
	}
	return m
}

// modelBy is the model with a change, which does nothing to the one that came.
func modelBy(m impl.Model, do func(m *impl.Model)) impl.Model {
	m = modelTwin(m)
	do(&m)
	return m
}

// modelTold, modelRight and modelDidTold are written from the chapter's words.
func modelTold(h impl.Heap) impl.Model {
	if _, is := toldOf(h); !is {
		return impl.Model{}
	}
	m := impl.Model{Size: int64(len(h.Floor)), NextTag: h.NextTag}
	for who, x := range h.Tenants {
		r := impl.Room{Live: x.Live, Tag: x.Tag, Bytes: x.Bytes}
		for slot, s := range x.Table {
			one := impl.Thing{Used: s.Used, Root: s.Root, Gen: s.Gen}
			if s.Used {
				refs, data := partsTold(h, int64(who), int64(slot))
				for _, b := range refs {
					one.Refs = append(one.Refs, int64(b)-1)
				}
				one.Data = slices.Clone(data)
			}
			r.Things = append(r.Things, one)
		}
		m.Rooms = append(m.Rooms, r)
	}
	return m
}

func modelRight(m impl.Model) bool {
	if m.Size < 64 || m.Size > 1024 || len(m.Rooms) != 4 || !tenantsFit(impl.Heap{Floor: make([]byte, m.Size), Tenants: tenantsOf(m), NextTag: m.NextTag}) {
		return false
	}
	for _, r := range m.Rooms {
		var web []impl.Knot
		cost := 0
		for _, x := range r.Things {
			if len(x.Refs) > 6 || len(x.Data) > 200 || !x.Used && len(x.Refs)+len(x.Data) > 0 {
				return false
			}
			if x.Used {
				cost += 6 + len(x.Refs) + len(x.Data)
			}
			web = append(web, impl.Knot{There: x.Used, Root: x.Root, Refs: x.Refs})
		}
		if !webIsRight(web) || len(lostSlots(web, reachedSlots(web))) > 0 || int64(cost) > r.Bytes {
			return false
		}
	}
	return true
}

// tenantsOf are the rooms, with At 0 of each slot.
func tenantsOf(m impl.Model) []impl.Tenant {
	var list []impl.Tenant
	for _, r := range m.Rooms {
		x := impl.Tenant{Live: r.Live, Tag: r.Tag, Bytes: r.Bytes}
		for _, one := range r.Things {
			x.Table = append(x.Table, impl.Slot{Used: one.Used, Root: one.Root, Gen: one.Gen})
		}
		list = append(list, x)
	}
	return list
}

// modelDidTold goes by way of a heap of that model: what comes of an Order is told of that one.
func modelDidTold(m impl.Model, o impl.Order) (impl.Model, impl.Answer) {
	switch {
	case !modelRight(m) || !orderRight(o):
		return m, withCode(impl.CdBad)
	case o.Kind >= 11:
		return m, impl.Answer{}
	}
	h, answer := orderTold(heapFor(m, piecesOf(m)...), o)
	return modelTold(h), answer
}

// piecesOf are blocks for all that is Used in a right model, in the order of the slots.
func piecesOf(m impl.Model) []piece {
	var pieces []piece
	for who, r := range m.Rooms {
		for slot, x := range r.Things {
			p := piece{owner: int64(who), slot: int64(slot), stands: true, root: x.Root, data: string(x.Data)}
			for _, ref := range x.Refs {
				p.refs = append(p.refs, byte(ref+1))
			}
			if x.Used {
				pieces = append(pieces, p)
			}
		}
	}
	return pieces
}

// heapFor is one of a right model, with those blocks.
func heapFor(m impl.Model, pieces ...piece) impl.Heap {
	tenants := tenantsOf(m)
	for _, x := range tenants {
		for slot := range x.Table {
			x.Table[slot].Used, x.Table[slot].Root = false, false
		}
	}
	h := heapOf(m.Size, tenants, pieces...)
	h.NextTag = m.NextTag
	return h
}

// leftBehind are blocks that do not stand, of each who is there and of nobody, of so many bytes at most, all together.
func leftBehind(m impl.Model, most int64) []piece {
	var list []piece
	for i := range int64(12) {
		p := fallen(i%4, i*7%16, "old"[:i%3], 200)
		if !m.Rooms[i%4].Live {
			p = nobodys(p.size(), i%2)
		}
		if p.size() <= most {
			most -= p.size()
			list = append(list, p)
		}
	}
	return list
}

// heapsFor are heaps of one model: the same things in other places, a slide under way or not, with blocks between them that do not stand, or not.
func heapsFor(m impl.Model) []namedHeap {
	pieces := piecesOf(m)
	left := m.Size
	for _, p := range pieces {
		left -= p.size()
	}
	back := slices.Clone(pieces)
	slices.Reverse(back)
	list := []namedHeap{{"in order", heapFor(m, pieces...)}, {"the other way round", heapFor(m, back...)}}
	if left >= 6 {
		list = append(list, namedHeap{"all behind nobody's", heapFor(m, slices.Insert(slices.Clone(back), 0, nobodys(min(left, 1000), 0))...)})
	}
	for i := range len(pieces) + 1 {
		some := leftBehind(m, left)
		list = append(list, namedHeap{said("left behind at", int64(i)), heapFor(m, slices.Insert(slices.Clone(pieces), i, some...)...)})
		for _, n := range []int64{0, left / 2, left} {
			slid := slices.Insert(slices.Clone(back), i, append(leftBehind(m, left-n), gapOf(n))...)
			list = append(list, namedHeap{said("a gap at", int64(i), n), heapFor(m, slid...)})
		}
	}
	return list
}

// checkAlike takes what is wanted from whoever asks, both ways round; the words have to tell the same.
func checkAlike(t *testing.T, what string, a, b impl.Model, want bool) {
	t.Helper()
	if one, other, told := impl.SameModel(a, b), impl.SameModel(b, a), sameModelTold(a, b); one != want || other != want || told != want {
		t.Errorf("%s: SameModel: got %v, and %v the other way round; want %v, by the words %v: %s; %s", what, one, other, want, told, modelShown(a), modelShown(b))
	}
}

func checkModelOf(t *testing.T, what string, h impl.Heap, want impl.Model) impl.Model {
	t.Helper()
	was := twin(h)
	got := impl.ModelOf(h)
	checkAlike(t, what+": ModelOf", got, want, true)
	checkAlike(t, what+": ModelOf, by the words", got, modelTold(h), true)
	if !sameHeap(h, was) {
		t.Errorf("%s: the heap that came is %s, was %s", what, heapShown(h), heapShown(was))
	}
	checkModelOk(t, what, got, modelRight(got))
	return got
}

func checkModelOk(t *testing.T, what string, m impl.Model, want bool) {
	t.Helper()
	was := modelTwin(m)
	if got, told := impl.ModelOk(m), modelRight(m); got != want || told != want {
		t.Errorf("%s: ModelOk: got %v, want %v, by the words %v: %s", what, got, want, told, modelShown(m))
	}
	if !sameModelTold(m, was) {
		t.Errorf("%s: ModelOk: the model that came is %s, was %s", what, modelShown(m), modelShown(was))
	}
}

// checkModelDid takes the answer from whoever asks; the words have to tell the same. It answers with the Model, for what comes next.
func checkModelDid(t *testing.T, what string, m impl.Model, o impl.Order, want impl.Answer) impl.Model {
	t.Helper()
	what += ": " + orderShown(o)
	was := modelTwin(m)
	got, answer := impl.ModelDid(m, o)
	told, toldAnswer := modelDidTold(m, o)
	if !sameAnswer(answer, want) || !sameAnswer(toldAnswer, want) {
		t.Errorf("%s: got %s; want %s; by the words %s: %s", what, answerShown(answer), answerShown(want), answerShown(toldAnswer), modelShown(m))
	}
	checkAlike(t, what+": by the words", got, told, true)
	if !sameModelTold(m, was) {
		t.Errorf("%s: the model that came is %s, was %s", what, modelShown(m), modelShown(was))
	}
	checkModelOk(t, what, got, modelRight(was))
	if answer.Code != impl.CdOk {
		checkAlike(t, what+": refused", got, was, true)
	}
	checkNothingBeside(t, what, o, answer)
	return got
}

// checkNothingBeside has Number 0 and no Data of all Kinds but those that tell some, and of each code but CdOk.
func checkNothingBeside(t *testing.T, what string, o impl.Order, a impl.Answer) {
	t.Helper()
	ok := a.Code == impl.CdOk
	if a.Number != 0 && !(ok && (o.Kind == 3 || o.Kind == 6)) || len(a.Data) > 0 && !(ok && (o.Kind == 4 || o.Kind == 10)) {
		t.Errorf("%s: %s", what, answerShown(a))
	}
}

// checkBecomes has what comes of it written down.
func checkBecomes(t *testing.T, what string, m impl.Model, o impl.Order, answer impl.Answer, do func(m *impl.Model)) impl.Model {
	t.Helper()
	got := checkModelDid(t, what, m, o, answer)
	checkAlike(t, what+": becomes: "+orderShown(o), got, modelBy(m, do), true)
	return got
}

// checkTells is for what just tells something, or is refused: the model is as it is.
func checkTells(t *testing.T, what string, m impl.Model, o impl.Order, answer impl.Answer) {
	t.Helper()
	checkBecomes(t, what, m, o, answer, func(*impl.Model) {})
}

// checkModelled is promise 16 of one order: the heap answers as its model does, and each is the other's afterwards. Of a slide the model knows nothing.
func checkModelled(t *testing.T, what string, h impl.Heap, m impl.Model, o impl.Order) (impl.Heap, impl.Model, impl.Answer) {
	t.Helper()
	what += ": " + orderShown(o)
	was := modelTwin(m)
	got, answer := impl.Did(h, o)
	model, told := impl.ModelDid(m, o)
	want := answer
	if orderRight(o) && o.Kind >= 11 {
		want = impl.Answer{}
		checkAlike(t, what+": of a slide", model, was, true)
	}
	if !sameAnswer(told, want) {
		t.Errorf("%s: the heap answers %s, the model %s: %s", what, answerShown(answer), answerShown(told), modelShown(m))
	}
	checkAlike(t, what+": ModelOf", impl.ModelOf(got), model, true)
	checkAlike(t, what+": by the words", modelTold(got), model, true)
	checkModelOk(t, what, model, true)
	checkNothingBeside(t, what, o, told)
	if !sameModelTold(m, was) {
		t.Errorf("%s: the model that came is %s, was %s", what, modelShown(m), modelShown(was))
	}
	return got, model, answer
}

// checkModelIs has a model that is one of some heap, of which it is the model then, or one that is of none, and is handed back as it is, whatever the Order.
func checkModelIs(t *testing.T, what string, m impl.Model, want bool) {
	t.Helper()
	checkModelOk(t, what, m, want)
	if modelRight(m) {
		h := heapFor(m, piecesOf(m)...)
		checkRightHeap(t, what, h)
		checkModelOf(t, what, h, m)
		for _, o := range rightOrders() {
			checkModelled(t, what, h, m, o)
		}
		return
	}
	for _, o := range append(rightOrders(), impl.Order{}, odAudit(0), odAudit(4), odEnter(3, 0, 1)) {
		checkTells(t, what, m, o, withCode(impl.CdBad))
	}
}

// TestTheModelOfABusyHeap has it written down; neither the gap nor what does not stand is told.
func TestTheModelOfABusyHeap(t *testing.T) {
	for _, h := range []impl.Heap{busyHeap(), slidingHeap()} {
		checkModelOf(t, "busy", h, busyModel())
	}
	checkModelIs(t, "busy", busyModel(), true)
	h := heapOf(256, auditedTenants(), auditedPieces()...)
	m := checkModelOf(t, "audited", h, modelTold(h))
	x := m.Rooms[3].Things[2]
	if !sameThing(x, rootThing(h.Tenants[3].Table[2].Gen, "", 14, 0, -1)) {
		t.Errorf("audited: %s", thingShown(x))
	}
}

// checkZeroModel goes field by field, as SameModel might be wrong, too.
func checkZeroModel(t *testing.T, what string, m impl.Model) {
	t.Helper()
	if m.Size != 0 || len(m.Rooms) != 0 || m.NextTag != 0 {
		t.Errorf("%s: got %s; want the zero Model", what, modelShown(m))
	}
}

func TestModelsOfWrongHeaps(t *testing.T) {
	for _, c := range wrongHeaps() {
		checkZeroModel(t, c.what, checkModelOf(t, c.what, c.heap, impl.Model{}))
	}
	withStrangeFields(func(what string, h impl.Heap) { checkModelOf(t, what, h, modelTold(h)) })
}

func TestModelsOfRightHeaps(t *testing.T) {
	large := 0
	for _, c := range auditedHeaps() {
		m := checkModelOf(t, c.what, c.heap, modelTold(c.heap))
		if !modelRight(m) {
			large++
			continue
		}
		checkModelIs(t, c.what, m, true)
	}
	if large != 1 {
		t.Errorf("of %d heaps the model is not right; just one has more than MaxData data", large)
	}
}

func TestModelsOfNewHeaps(t *testing.T) {
	for size := int64(64); size <= 1024; size++ {
		m := checkModelOf(t, said("new", size), newHeap(t, size), impl.Model{Size: size, Rooms: make([]impl.Room, 4), NextTag: 1})
		checkModelOk(t, said("new", size), m, true)
	}
}

// TestModelsOfSlots has each number of slots of each tenant, with no thing, and slots that are free with each Gen that they may have.
func TestModelsOfSlots(t *testing.T) {
	for who := range 4 {
		for slots := int64(1); slots <= 16; slots++ {
			h := heapOf(64, nobodyThere())
			h.Tenants[who], h.NextTag = live(7, 33, slots), 8
			want := modelFrom(64, 8)
			want.Rooms[who] = roomOf(7, 33, freeThings(slots)...)
			for gen := range int64(9) {
				slot := (slots*5 + gen) % slots
				h.Tenants[who].Table[slot].Gen, want.Rooms[who].Things[slot].Gen = gen, gen
				m := checkModelOf(t, said("slots, gen", slots, gen), h, want)
				checkModelOk(t, said("slots, gen", slots, gen), m, true)
			}
		}
	}
	// A free slot of which a block is left, which does not stand, has no Refs and no Data.
	h := heapOf(64, []impl.Tenant{{}, live(2, 40, 3), {}, {}}, fallen(1, 0, "abc", 1), fallen(1, 1, "", 2, 3), rootOf(1, 2, "x", 3), fallen(1, 2, "y", 0))
	h.Tenants[1].Table[1].Gen = 8
	checkModelOf(t, "left behind", h, modelFrom(64, 3, impl.Room{}, roomOf(2, 40, freeThing(0), freeThing(8), rootThing(0, "x", 2))))
}

// TestModelsOfThings has things with each number of refs, to nothing, to themselves, to others, to slot 0 and to the last one, and with data of each length.
func TestModelsOfThings(t *testing.T) {
	data := "\x00\xFFdata\x06\x00"
	for _, gap := range [][]piece{nil, {gapOf(0)}, {gapOf(9)}, {nobodys(11, 2)}, {fallen(1, 2, "old", 255)}} {
		pieces := append([]piece{rootOf(1, 0, data, 0, 1, 2, 15, 16, 0), heldOf(1, 15, "", 16, 1), heldOf(1, 14, "a"), heldOf(1, 1, "", 0, 0, 0, 0, 0, 0)}, gap...)
		h := heapOf(128, []impl.Tenant{live(3, 10, 1), live(6, 70, 16), {}, {}}, append(pieces, rootOf(0, 0, "", 1), rootOf(1, 7, "zz", 2))...)
		h.Tenants[1].Table[14].Gen = 7
		things := freeThings(16)
		things[0], things[15], things[14] = rootThing(0, data, -1, 0, 1, 14, 15, -1), heldThing(0, "", 15, 0), heldThing(7, "a")
		things[1], things[7] = heldThing(0, "", -1, -1, -1, -1, -1, -1), rootThing(0, "zz", 1)
		m := checkModelOf(t, "things", h, modelFrom(128, 7, roomOf(3, 10, rootThing(0, "", 0)), roomOf(6, 70, things...)))
		checkModelIs(t, "things", m, true)
	}
	for refs := range 7 {
		for n := range int64(201) {
			h := heapOf(256, []impl.Tenant{{}, {}, live(1, 256, 1), {}}, nobodys(6, 0), rootOf(2, 0, string(anyData(n, int64(refs))), make([]byte, refs)...))
			nothing := slices.Repeat([]int64{-1}, refs)
			m := checkModelOf(t, "refs and data", h, modelFrom(256, 2, impl.Room{}, impl.Room{}, roomOf(1, 256, rootThing(0, string(anyData(n, int64(refs))), nothing...))))
			checkModelOk(t, "refs and data", m, true)
		}
	}
}

// TestModelsOfMoreThanMaxData has heaps that are right, of which the model is one that ModelOk refuses, as the chapter has it in brackets; ModelDid hands it back.
func TestModelsOfMoreThanMaxData(t *testing.T) {
	for _, n := range []int64{199, 200, 201, 202, 300, 700, 994} {
		data := string(anyData(n, n))
		h := heapOf(1024, []impl.Tenant{live(2, 1000, 2), {}, {}, {}}, rootOf(0, 1, data))
		checkRightHeap(t, said("data", n), h)
		m := checkModelOf(t, said("data", n), h, modelFrom(1024, 3, roomOf(2, 1000, freeThing(0), rootThing(0, data))))
		checkModelIs(t, said("data", n), m, n <= 200)
	}
}

// TestModelsAtEachStep has slides begun, stepped and done: the model is the same all the time.
func TestModelsAtEachStep(t *testing.T) {
	steps, gaps := 0, 0
	for _, c := range auditedHeaps() {
		want := modelTold(c.heap)
		h := c.heap
		if !h.Sliding {
			h, _ = impl.SlideBegun(h)
		}
		for left := impl.StepsLeft(h); left > 0; left-- {
			checkModelOf(t, c.what+said(": steps left", left), h, want)
			h, _ = impl.SlideStep(h)
			if steps++; h.Low < h.High {
				gaps++
			}
		}
		checkModelOf(t, c.what+": done", h, want)
	}
	if steps < 200 || gaps < 50 {
		t.Errorf("just %d steps, with %d gaps", steps, gaps)
	}
}

func TestModelsOfDrawnHeaps(t *testing.T) {
	right := 0
	withDrawnChanges(t, 3000, func(_ *drawn, h impl.Heap) {
		m := checkModelOf(t, "drawn", h, modelTold(h))
		if len(m.Rooms) > 0 {
			right++
		}
	})
	if right < 500 {
		t.Errorf("just %d heaps are right", right)
	}
}

func TestHowLargeAModelIs(t *testing.T) {
	for _, c := range []struct {
		size int64
		is   bool
	}{
		{63, false}, {64, true}, {65, true}, {1023, true}, {1024, true}, {1025, false}, {0, false}, {-1, false}, {-64, false}, {-1024, false}, {1 << 16, false},
		{1 << 32, false}, {1<<32 + 64, false}, {-1<<32 + 64, false}, {math.MinInt64, false}, {math.MinInt64 + 64, false}, {math.MaxInt64, false},
	} {
		checkModelIs(t, said("nothing in", c.size), modelFrom(c.size, 1), c.is)
		checkModelIs(t, said("something in", c.size), modelFrom(c.size, 4, impl.Room{}, roomOf(3, 30, rootThing(1, "ab", 0))), c.is)
	}
}

func TestHowManyRooms(t *testing.T) {
	for n := range 9 {
		for next := int64(1); next <= 3; next++ {
			checkModelIs(t, said("rooms", int64(n)), impl.Model{Size: 64, Rooms: make([]impl.Room, n), NextTag: next}, n == 4)
		}
		if n > 0 {
			m := impl.Model{Size: 64, Rooms: make([]impl.Room, n), NextTag: 2}
			m.Rooms[n-1] = roomOf(1, 20, rootThing(0, "abc"))
			checkModelIs(t, said("rooms, the last one Live", int64(n)), m, n == 4)
		}
	}
	spare := modelTwin(busyModel())
	spare.Rooms = spare.Rooms[:3]
	checkModelIs(t, "the fourth in the spare room", spare, false)
	checkModelIs(t, "one more", modelBy(busyModel(), func(m *impl.Model) { m.Rooms = append(m.Rooms, impl.Room{}) }), false)
	checkModelIs(t, "many", impl.Model{Size: 64, Rooms: make([]impl.Room, 3000), NextTag: 1}, false)
	checkModelIs(t, "none, and all else", impl.Model{Size: 64, NextTag: 1}, false)
	checkModelIs(t, "zero", impl.Model{}, false)
}

// TestRoomsOfNobody has a room that is not Live, in each place, with one thing that it must not have.
func TestRoomsOfNobody(t *testing.T) {
	for who := range 4 {
		for _, c := range []struct {
			room impl.Room
			is   bool
		}{
			{impl.Room{}, true}, {impl.Room{Things: []impl.Thing{}}, true}, {impl.Room{Tag: 1}, false}, {impl.Room{Tag: -1}, false}, {impl.Room{Tag: 100001}, false},
			{impl.Room{Bytes: 1}, false}, {impl.Room{Bytes: -1}, false}, {impl.Room{Bytes: 64}, false}, {impl.Room{Things: freeThings(1)}, false}, {impl.Room{Things: freeThings(16)}, false},
			{impl.Room{Things: []impl.Thing{rootThing(0, "")}}, false}, {impl.Room{Tag: 1, Bytes: 10, Things: freeThings(2)}, false}, {roomOf(1, 10, freeThings(2)...), true},
		} {
			m := modelFrom(64, 100)
			m.Rooms[who] = c.room
			checkModelIs(t, said("not Live", int64(who)), m, c.is)
			m.Rooms[(who+1)%4] = roomOf(99, 20, rootThing(7, "a"))
			checkModelIs(t, said("not Live, beside one that is", int64(who)), m, c.is)
		}
	}
}

func TestTagsOfRooms(t *testing.T) {
	for _, c := range []struct {
		tag, next int64
		is        bool
	}{
		{0, 1, false}, {0, 100001, false}, {-1, 1, false}, {1, 1, false}, {1, 2, true}, {1, 0, false}, {1, 3, true}, {7, 6, false}, {7, 7, false}, {7, 8, true}, {7, 100001, true}, {7, 100002, false},
		{99999, 100000, true}, {99999, 100001, true}, {100000, 99999, false}, {100000, 100000, false}, {100000, 100001, true}, {100000, 100002, false}, {100001, 100001, false}, {100001, 100002, false},
		{math.MinInt64, 1, false}, {math.MaxInt64, math.MaxInt64, false}, {math.MaxInt64, 1, false}, {5, -1, false}, {5, math.MinInt64, false}, {5, math.MaxInt64, false}, {-1, -1, false}, {-2, -1, false}, {-1, 100001, false},
	} {
		for who := range 4 {
			m := modelFrom(64, c.next)
			m.Rooms[who] = roomOf(c.tag, 20, freeThings(2)...)
			checkModelIs(t, said("tag, next", c.tag, c.next), m, c.is)
		}
	}
	for _, c := range []struct {
		next int64
		is   bool
	}{{0, false}, {1, true}, {2, true}, {-1, false}, {100000, true}, {100001, true}, {100002, false}, {math.MinInt64, false}, {math.MaxInt64, false}} {
		checkModelIs(t, said("next, and nobody", c.next), modelFrom(64, c.next), c.is)
	}
	for next := range int64(12) {
		checkModelIs(t, said("next, and three", next), modelBy(busyModel(), func(m *impl.Model) { m.NextTag = next }), next > 8)
	}
	for a := range 4 {
		for b := range 4 {
			m := modelFrom(64, 5, roomOf(1, 9, freeThings(1)...), roomOf(2, 9, freeThings(1)...), roomOf(3, 9, freeThings(1)...), roomOf(4, 9, freeThings(1)...))
			m.Rooms[a].Tag = m.Rooms[b].Tag
			checkModelIs(t, said("of one Tag", int64(a), int64(b)), m, a == b)
			m.Rooms[a] = impl.Room{}
			checkModelIs(t, said("of one Tag, one is gone", int64(a), int64(b)), m, true)
		}
	}
}

func TestBytesOfRooms(t *testing.T) {
	for _, size := range []int64{64, 65, 500, 1023, 1024} {
		for _, shares := range [][]int64{{size}, {size - 1, 1}, {0, size}, {30, size - 60, 30}, {16, 16, size - 48, 16}, {0, 0, size, 0}} {
			m := modelFrom(size, 5)
			for i, n := range shares {
				m.Rooms[i] = roomOf(int64(i)+1, n, freeThings(3)...)
			}
			checkModelIs(t, said("promised all", shares...), m, true)
			for i, n := range shares {
				checkModelIs(t, said("one more", shares...), modelBy(m, func(m *impl.Model) { m.Rooms[i].Bytes++ }), false)
				checkModelIs(t, said("one less", shares...), modelBy(m, func(m *impl.Model) { m.Rooms[i].Bytes-- }), n > 0)
			}
			if size > 64 {
				checkModelIs(t, said("a smaller one", shares...), modelBy(m, func(m *impl.Model) { m.Size-- }), false)
			}
		}
	}
	most, least := int64(math.MaxInt64), int64(math.MinInt64)
	for _, bytes := range [][]int64{
		{-1}, {1025}, {1024, 1024, 1024, 1024}, {-1, 1}, {-1, 1025}, {1025, -1}, {-1024, 1024, 1024}, {most}, {least}, {least, least}, {most, 1}, {1, most}, {most, most, 2}, {least, 1, most},
		{1 << 62, 1 << 62, 1 << 62, 1 << 62}, {most/2 + 1, most/2 + 1, 64}, {1 << 32}, {1<<32 + 5}, {-1<<32 + 5}, {least + 5}, {least + 5, least}, {most, -most, 5},
	} {
		m := modelFrom(1024, 5)
		for i, n := range bytes {
			m.Rooms[i] = roomOf(int64(i)+1, n, freeThings(1)...)
		}
		checkModelIs(t, said("bytes", bytes...), m, false)
	}
	checkModelIs(t, "as many as may be", modelFrom(1024, 5, roomOf(4, 1024, freeThings(1)...), roomOf(3, 0, freeThings(1)...)), true)
}

func TestHowManyThings(t *testing.T) {
	for who := range 4 {
		for _, n := range []int64{0, 1, 2, 15, 16, 17, 18, 32, 255, 256, 257, 272, 5000} {
			m := modelFrom(64, 3)
			m.Rooms[who] = roomOf(2, 40, freeThings(n)...)
			checkModelIs(t, said("things", n), m, n >= 1 && n <= 16)
			if n > 0 {
				m.Rooms[who].Things[n-1] = rootThing(3, "abc", -1)
				checkModelIs(t, said("things, the last one Used", n), m, n <= 16)
			}
		}
	}
}

func TestGensOfThings(t *testing.T) {
	for _, gen := range append(farNumbers(), -9, -8, -1, 0, 1, 6, 7, 8, 9, 10, 15, 16, 255, 256, 263, 264) {
		for slot := range 3 {
			for _, x := range []impl.Thing{rootThing(gen, ""), heldThing(gen, "a", -1), freeThing(gen)} {
				things := []impl.Thing{rootThing(0, "", 1, 2), heldThing(0, "", 0), heldThing(0, "")}
				if slot == 0 || !x.Used {
					things = []impl.Thing{rootThing(0, ""), rootThing(0, ""), rootThing(0, "")}
					x.Root = x.Used
				}
				things[slot] = x
				most := int64(8)
				if x.Used {
					most = 7
				}
				checkModelIs(t, said("gen", gen), modelFrom(64, 2, roomOf(1, 64, things...)), gen >= 0 && gen <= most)
			}
		}
	}
}

// TestWhatIsNotUsed has a slot that is free or worn out, with one thing that it must not have.
func TestWhatIsNotUsed(t *testing.T) {
	for gen := range int64(9) {
		for _, c := range []struct {
			thing impl.Thing
			is    bool
		}{
			{impl.Thing{}, true}, {impl.Thing{Refs: []int64{}, Data: []byte{}}, true}, {impl.Thing{Root: true}, false}, {impl.Thing{Refs: []int64{-1}}, false}, {impl.Thing{Refs: []int64{0}}, false},
			{impl.Thing{Refs: []int64{1}}, false}, {impl.Thing{Refs: []int64{-1, -1, -1, -1, -1, -1, -1}}, false}, {impl.Thing{Data: []byte{0}}, false}, {impl.Thing{Data: []byte("a")}, false},
			{impl.Thing{Data: make([]byte, 201)}, false}, {impl.Thing{Root: true, Refs: []int64{-1}, Data: []byte{0}}, false},
		} {
			for slot := range 2 {
				things := []impl.Thing{rootThing(0, "z"), rootThing(0, "z")}
				things[slot] = c.thing
				things[slot].Gen = gen
				checkModelIs(t, said("not Used", gen), modelFrom(1024, 2, roomOf(1, 1024, things...)), c.is)
			}
		}
	}
}

func TestRefsOfThings(t *testing.T) {
	for _, slots := range []int64{1, 2, 5, 15, 16} {
		for _, used := range []int64{1, slots - 1, slots} {
			things := freeThings(slots)
			for slot := range max(used, 1) {
				things[slot] = rootThing(0, "", -1, -1, -1, -1, -1, -1)
			}
			m := modelFrom(1024, 2, roomOf(1, 1024, things...))
			setTo := func(i int, ref int64) {
				is := ref >= -1 && ref < max(used, 1)
				checkModelIs(t, said("ref", slots, used, ref), modelBy(m, func(m *impl.Model) { m.Rooms[0].Things[0].Refs[i] = ref }), is)
			}
			for _, ref := range []int64{-3, -2, -1, 0, 1, used - 1, used, used + 1, slots - 1, slots, slots + 1, 15, 16, 17, 127, 128, 254, 255, 256} {
				for i := range 6 {
					setTo(i, ref)
				}
			}
			if used == slots {
				for i, ref := range farNumbers() {
					setTo(i%6, ref)
				}
			}
		}
	}
	// What is of another room is no slot of this one.
	other := modelFrom(128, 3, roomOf(1, 40, rootThing(0, "", 1)), roomOf(2, 60, rootThing(0, ""), rootThing(0, "")))
	checkModelIs(t, "a ref to a thing of another room", other, false)
	checkModelIs(t, "a ref to its own", modelBy(other, func(m *impl.Model) { m.Rooms[0].Things[0].Refs[0] = 0 }), true)
}

func TestWhatIsLostInARoom(t *testing.T) {
	root, held := rootThing, heldThing
	for _, c := range []struct {
		what   string
		things []impl.Thing
		is     bool
	}{
		{"one that is held by nothing", []impl.Thing{held(0, "")}, false}, {"one that is Root", []impl.Thing{root(0, "")}, true},
		{"one that refers to itself", []impl.Thing{held(0, "", 0)}, false}, {"one that refers to itself and is Root", []impl.Thing{root(0, "", 0)}, true},
		{"one that another one refers to", []impl.Thing{held(0, ""), root(0, "", 0)}, true}, {"one that another one does not refer to", []impl.Thing{held(0, ""), root(0, "", 1)}, false},
		{"one that refers to one that is Root", []impl.Thing{held(0, "", 1), root(0, "")}, false}, {"a ring of two", []impl.Thing{held(0, "", 1), held(0, "", 0)}, false},
		{"a ring of two, one Root", []impl.Thing{held(0, "", 1), root(0, "", 0)}, true}, {"a ring of three", []impl.Thing{held(0, "", 1), held(0, "", 2), held(0, "", 0), root(0, "")}, false},
		{"a ring of three that is referred to", []impl.Thing{held(0, "", 1), held(0, "", 2), held(0, "", 0), root(0, "", -1, 2)}, true},
		{"a chain", []impl.Thing{held(0, ""), held(0, "", 0), held(0, "", 1), root(0, "", 2)}, true}, {"a chain, not Root", []impl.Thing{held(0, ""), held(0, "", 0), held(0, "", 1), held(0, "", 2)}, false},
		{"a chain, broken", []impl.Thing{held(0, ""), held(0, "", -1), held(0, "", 1), root(0, "", 2)}, false},
	} {
		for who := range 4 {
			m := modelFrom(128, 9, roomOf(5, 20, rootThing(0, "x")), roomOf(6, 20, rootThing(0, "x")), roomOf(7, 20, rootThing(0, "x")), roomOf(8, 20, rootThing(0, "x")))
			m.Rooms[who].Things, m.Rooms[who].Bytes = c.things, 60
			checkModelIs(t, c.what, m, c.is)
		}
	}
}

func TestHowManyRefsAndData(t *testing.T) {
	for slot := range 2 {
		for _, root := range []bool{true, false} {
			for _, n := range []int{0, 1, 5, 6, 7, 8, 12, 255, 256, 262} {
				things := []impl.Thing{rootThing(0, "", 0, 1), rootThing(0, "", 0, 1)}
				things[slot].Root, things[slot].Refs = root, slices.Repeat([]int64{int64(slot)}, n)
				checkModelIs(t, said("refs", int64(n)), modelFrom(1024, 2, roomOf(1, 1024, things...)), n <= 6)
			}
			for _, n := range []int{0, 1, 199, 200, 201, 202, 255, 256, 400, 456, 1000, 1 << 16} {
				things := []impl.Thing{rootThing(0, "", 0, 1), rootThing(0, "", 0, 1)}
				things[slot].Root, things[slot].Data = root, make([]byte, n)
				checkModelIs(t, said("data", int64(n)), modelFrom(1024, 2, roomOf(1, 1024, things...)), n <= 200)
			}
		}
	}
	full := slices.Repeat([]impl.Thing{rootThing(0, strings.Repeat("d", 200), 0, 0, 0, 0, 0, 0)}, 4)
	checkModelIs(t, "as much of both as may be", modelFrom(1024, 2, roomOf(1, 848, full...)), true)
}

// TestHowMuchThingsCost has what is promised met exactly, and passed by one, by a head, a ref, or a byte of data; what is not Used costs nothing.
func TestHowMuchThingsCost(t *testing.T) {
	for _, c := range []struct {
		things []impl.Thing
		cost   int64
	}{
		{freeThings(16), 0}, {[]impl.Thing{rootThing(0, "")}, 6}, {[]impl.Thing{rootThing(0, "a")}, 7}, {[]impl.Thing{rootThing(0, "", -1)}, 7}, {[]impl.Thing{rootThing(0, "", 0)}, 7},
		{[]impl.Thing{rootThing(0, "abc", 0, 1, -1), heldThing(0, "ab")}, 20}, {[]impl.Thing{rootThing(3, "abc", -1), freeThing(8), heldThing(7, "d", 0, 0), rootThing(0, "", 2)}, 26},
		{slices.Repeat([]impl.Thing{rootThing(0, "")}, 16), 96}, {slices.Repeat([]impl.Thing{rootThing(0, strings.Repeat("x", 58))}, 16), 1024},
		{[]impl.Thing{rootThing(0, strings.Repeat("x", 200), 0, 0, 0, 0, 0, 0), rootThing(0, strings.Repeat("x", 200)), freeThing(1)}, 418},
	} {
		for bytes := max(c.cost-3, 0); bytes <= min(c.cost+3, 1024); bytes++ {
			m := modelFrom(1024, 9, impl.Room{}, roomOf(5, min(3, 1024-bytes), freeThing(3)), roomOf(8, bytes, c.things...))
			checkModelIs(t, said("cost, bytes", c.cost, bytes), m, bytes >= c.cost)
		}
	}
	// Rooms with bytes left do not help one that has none.
	checkModelIs(t, "bytes of another room", modelFrom(128, 3, roomOf(1, 6, rootThing(0, "a")), roomOf(2, 122, freeThing(0))), false)
}

type namedModel struct {
	what  string
	model impl.Model
}

// wrongModels are of no heap, each for one reason, by one change of busyModel.
func wrongModels() []namedModel {
	list := []namedModel{{"zero", impl.Model{}}, {"just a Size", impl.Model{Size: 64}}, {"just rooms", impl.Model{Rooms: make([]impl.Room, 4), NextTag: 1}}}
	for _, c := range []struct {
		what string
		do   func(m *impl.Model)
	}{
		{"small", func(m *impl.Model) { m.Size = 63 }}, {"large", func(m *impl.Model) { m.Size = 1025 }}, {"smaller than what is promised", func(m *impl.Model) { m.Size = 99 }},
		{"three rooms", func(m *impl.Model) { m.Rooms = m.Rooms[:3] }}, {"five rooms", func(m *impl.Model) { m.Rooms = append(m.Rooms, impl.Room{}) }}, {"NextTag", func(m *impl.Model) { m.NextTag = 8 }},
		{"no Tag", func(m *impl.Model) { m.Rooms[3].Tag = 0 }}, {"two of one Tag", func(m *impl.Model) { m.Rooms[3].Tag = 3 }}, {"not Live, with a Tag", func(m *impl.Model) { m.Rooms[1].Tag = 1 }},
		{"not Live, with things", func(m *impl.Model) { m.Rooms[1].Things = freeThings(2) }}, {"no things", func(m *impl.Model) { m.Rooms[3].Things = nil }},
		{"seventeen things", func(m *impl.Model) { m.Rooms[3].Things = freeThings(17) }}, {"fewer bytes than things cost", func(m *impl.Model) { m.Rooms[0].Bytes = 16 }},
		{"more bytes than there are", func(m *impl.Model) { m.Rooms[3].Bytes = 29 }}, {"a Gen", func(m *impl.Model) { m.Rooms[0].Things[0].Gen = 8 }},
		{"free, with data", func(m *impl.Model) { m.Rooms[3].Things[0].Data = []byte{0} }}, {"free, with refs", func(m *impl.Model) { m.Rooms[3].Things[0].Refs = []int64{-1} }},
		{"free, and Root", func(m *impl.Model) { m.Rooms[3].Things[0].Root = true }}, {"a ref to what is free", func(m *impl.Model) { m.Rooms[0].Things[0].Refs[0] = 3 }},
		{"a ref below -1", func(m *impl.Model) { m.Rooms[0].Things[0].Refs[0] = -2 }}, {"lost", func(m *impl.Model) { m.Rooms[2].Things[1].Root = false }},
		{"a ring that is lost", func(m *impl.Model) { m.Rooms[0].Things[0].Root = false }}, {"seven refs", func(m *impl.Model) { m.Rooms[0].Things[1].Refs = make([]int64, 7) }},
	} {
		list = append(list, namedModel{c.what, modelBy(busyModel(), c.do)})
	}
	return append(list, namedModel{"more than MaxData", modelFrom(1024, 2, roomOf(1, 1000, rootThing(0, string(anyData(201, 5)))))})
}

// TestFarNumbersInModels has each number of a model far from what it may be, alone.
func TestFarNumbersInModels(t *testing.T) {
	right := 0
	for _, n := range farNumbers() {
		for field := range 9 {
			m := modelTwin(busyModel())
			r := m.Rooms
			*[]*int64{&m.Size, &m.NextTag, &r[0].Tag, &r[2].Bytes, &r[1].Tag, &r[1].Bytes, &r[0].Things[0].Gen, &r[0].Things[0].Refs[1], &r[3].Things[0].Gen}[field] = n
			is := modelRight(m)
			if checkModelIs(t, said("far", int64(field), n), m, is); is {
				right++
			}
		}
	}
	if right > 8 {
		t.Errorf("%d are right", right)
	}
}

// drawnModel is of a drawn heap, with a change or two by which it may be of no heap any more.
func drawnModel(d *drawn) impl.Model {
	h := drawnHeap(d)
	for _, is := toldOf(h); !is; _, is = toldOf(h) {
		h = drawnHeap(d)
	}
	m := modelTold(h)
	for range d.below(3) {
		drawnModelChange(d, &m)
	}
	return m
}

func drawnModelChange(d *drawn, m *impl.Model) {
	r := &m.Rooms[d.below(int64(len(m.Rooms)))]
	by := d.below(2)*2 - 1
	switch d.below(14) {
	case 0:
		m.Size += by * d.below(200)
	case 1:
		m.NextTag += by * d.below(3)
	case 2:
		r.Live = !r.Live
	case 3:
		r.Tag += by * d.below(3)
	case 4:
		r.Bytes += by * d.below(20)
	}
	if len(r.Things) == 0 {
		return
	}
	x := &r.Things[d.below(int64(len(r.Things)))]
	switch d.below(10) {
	case 0:
		x.Root = !x.Root
	case 1:
		x.Used = !x.Used
	case 2:
		x.Gen += by * d.below(9)
	case 3:
		x.Data = append(x.Data, byte(d.below(256)))
	case 4:
		x.Refs = append(x.Refs, d.below(int64(len(r.Things))+2)-1)
	case 5:
		r.Things = append(r.Things, *x)
	case 6:
		r.Things = r.Things[:len(r.Things)-1]
	}
}

func TestDrawnModels(t *testing.T) {
	var d drawn
	right, wrong := 0, 0
	codes := map[int64]int{}
	for range 6000 {
		m := drawnModel(&d)
		is := modelRight(m)
		checkModelOk(t, "drawn", m, is)
		o := drawnWild(&d, newHeap(t, 64))
		if is {
			right++
			o = []impl.Order{drawnWild(&d, heapFor(m, piecesOf(m)...)), drawnOrdinary(&d, heapFor(m, piecesOf(m)...))}[d.below(2)]
		} else {
			wrong++
		}
		_, want := modelDidTold(m, o)
		checkModelDid(t, "drawn", m, o, want)
		codes[want.Code]++
	}
	if right < 1500 || wrong < 1500 {
		t.Errorf("%d models are right, %d are wrong", right, wrong)
	}
	checkOften(t, codes, 5, 0, 1, 2, 3, 4, 5, 7, 8)
}

// differing are changes of busyModel in one field each, by which it is not alike any more.
func differing() []func(m *impl.Model) {
	list := []func(m *impl.Model){
		func(m *impl.Model) { m.Size++ }, func(m *impl.Model) { m.Size += 1 << 32 }, func(m *impl.Model) { m.NextTag-- }, func(m *impl.Model) { m.NextTag = math.MinInt64 + m.NextTag },
		func(m *impl.Model) { m.Rooms = m.Rooms[:3] }, func(m *impl.Model) { m.Rooms = append(m.Rooms, impl.Room{}) }, func(m *impl.Model) { m.Rooms = nil },
		func(m *impl.Model) { m.Rooms[0], m.Rooms[2] = m.Rooms[2], m.Rooms[0] }, func(m *impl.Model) { m.Rooms[1].Things = freeThings(1) },
		func(m *impl.Model) { m.Rooms[3].Things = nil },
	}
	for who := range 4 {
		list = append(list,
			func(m *impl.Model) { m.Rooms[who].Live = !m.Rooms[who].Live }, func(m *impl.Model) { m.Rooms[who].Tag++ }, func(m *impl.Model) { m.Rooms[who].Tag += 1 << 32 },
			func(m *impl.Model) { m.Rooms[who].Bytes-- }, func(m *impl.Model) { m.Rooms[who].Bytes += 1 << 40 }, func(m *impl.Model) { m.Rooms[who].Things = append(m.Rooms[who].Things, impl.Thing{}) })
		for slot := range busyModel().Rooms[who].Things {
			list = append(list, differingThings(func(m *impl.Model) *impl.Thing { return &m.Rooms[who].Things[slot] })...)
		}
	}
	return list
}

func differingThings(in func(m *impl.Model) *impl.Thing) []func(m *impl.Model) {
	list := []func(m *impl.Model){
		func(m *impl.Model) { in(m).Used = !in(m).Used }, func(m *impl.Model) { in(m).Root = !in(m).Root }, func(m *impl.Model) { in(m).Gen++ }, func(m *impl.Model) { in(m).Gen += 1 << 32 },
		func(m *impl.Model) { in(m).Refs = append(in(m).Refs, -1) }, func(m *impl.Model) { in(m).Refs = append(in(m).Refs, 0) },
		func(m *impl.Model) { in(m).Data = append(in(m).Data, 0) }, func(m *impl.Model) { in(m).Data = append(in(m).Data, 'a') },
	}
	base := busyModel()
	for i := range in(&base).Refs {
		list = append(list, func(m *impl.Model) { in(m).Refs[i]-- }, func(m *impl.Model) { in(m).Refs[i] += 1 << 32 })
	}
	for i := range in(&base).Data {
		list = append(list, func(m *impl.Model) { in(m).Data[i]++ }, func(m *impl.Model) { in(m).Data[i] ^= 0x80 })
	}
	if len(in(&base).Refs) > 0 {
		list = append(list, func(m *impl.Model) { in(m).Refs = in(m).Refs[1:] }, func(m *impl.Model) { in(m).Refs = nil })
	}
	if len(in(&base).Data) > 0 {
		list = append(list, func(m *impl.Model) { in(m).Data = in(m).Data[1:] }, func(m *impl.Model) { in(m).Data = nil })
	}
	return list
}

func TestModelsThatAreAlike(t *testing.T) {
	models := []impl.Model{busyModel(), makingModel(), modelFrom(64, 1), modelTold(auditedHeap()), modelTold(fullHeap(16)), modelTold(mixedHeap())}
	for _, c := range wrongModels() {
		models = append(models, c.model)
	}
	for i, m := range models {
		checkAlike(t, "with itself", m, m, true)
		checkAlike(t, "with its twin", m, modelTwin(m), true)
		for j, other := range models {
			checkAlike(t, said("with another one", int64(i), int64(j)), m, other, i == j)
		}
	}
	for i, do := range differing() {
		checkAlike(t, said("one field", int64(i)), busyModel(), modelBy(busyModel(), do), false)
		for j, also := range differing() {
			if (i+j)%7 == 0 {
				a, b := modelBy(busyModel(), do), modelBy(busyModel(), also)
				checkAlike(t, said("one field each", int64(i), int64(j)), a, b, sameModelTold(a, b))
			}
		}
	}
}

// TestNilAndEmptyAreAlike has each list of a model nil or empty, with room behind it or not.
func TestNilAndEmptyAreAlike(t *testing.T) {
	empty := impl.Room{Live: true, Things: []impl.Thing{{Refs: []int64{}, Data: []byte{}}, {Refs: []int64{5}[:0], Data: []byte{5}[:0]}}}
	bare := impl.Room{Live: true, Things: []impl.Thing{{}, {}}}
	checkAlike(t, "zero", impl.Model{}, impl.Model{Rooms: []impl.Room{}}, true)
	checkAlike(t, "zero", impl.Model{}, impl.Model{Rooms: make([]impl.Room, 0, 4)}, true)
	checkAlike(t, "rooms", impl.Model{Rooms: []impl.Room{{}}}, impl.Model{Rooms: []impl.Room{{Things: []impl.Thing{}}}}, true)
	checkAlike(t, "rooms", impl.Model{Rooms: []impl.Room{{}}}, impl.Model{}, false)
	checkAlike(t, "things", impl.Model{Rooms: []impl.Room{empty}}, impl.Model{Rooms: []impl.Room{bare}}, true)
	checkAlike(t, "things", impl.Model{Rooms: []impl.Room{{Things: []impl.Thing{{}}}}}, impl.Model{Rooms: []impl.Room{{}}}, false)
	bareModel := modelBy(busyModel(), func(m *impl.Model) {
		m.Rooms[0].Things[1].Data, m.Rooms[1].Things, m.Rooms[2].Things[1].Refs = nil, nil, nil
	})
	emptyModel := modelBy(busyModel(), func(m *impl.Model) {
		m.Rooms[0].Things[1].Data, m.Rooms[1].Things, m.Rooms[2].Things[1].Refs = []byte{}, []impl.Thing{}, []int64{}
	})
	checkAlike(t, "busy", bareModel, emptyModel, true)
	for _, m := range []impl.Model{bareModel, emptyModel} {
		checkModelIs(t, "busy", m, true)
	}
}

// keptAll are kept together.
type keptAll []kept

func (k keptAll) checkSame(t *testing.T, what string) {
	t.Helper()
	for _, one := range k {
		one.checkSame(t, what)
	}
}

// withSpareModel is a model of which each list has room behind it: Rooms, Things, Refs and Data.
func withSpareModel(m impl.Model) (impl.Model, []kept) {
	things := func(r *impl.Room) kept {
		mark := impl.Thing{Used: true, Root: true, Gen: -5, Refs: []int64{-5}, Data: []byte{5}}
		spare := withSpareRows(r.Things, mark, sameThing, func(x *impl.Thing) kept {
			refs, data := withSpareOf(x.Refs, -5), withSpare(x.Data)
			x.Refs, x.Data = refs.arg, data.arg
			return keptAll{refs, data}
		})
		r.Things = spare.arg
		return spare
	}
	mark := impl.Room{Live: true, Tag: -5, Bytes: -5, Things: []impl.Thing{{Root: true}}}
	rooms := withSpareRows(m.Rooms, mark, sameRoom, things)
	m.Rooms = rooms.arg
	return m, []kept{rooms}
}

// markModel writes over each list of a model, with all the room behind it, from the innermost on, and tells of those that share memory with another one.
func markModel(t *testing.T, what string, m impl.Model) {
	t.Helper()
	each := func(do func(x impl.Thing, mark int64)) {
		for i, r := range m.Rooms {
			for j, x := range r.Things {
				do(x, int64(i*16+j))
			}
		}
	}
	each(func(x impl.Thing, mark int64) {
		scribble(x.Refs, func(int64) int64 { return 1000 + mark })
		scribble(x.Data, func(byte) byte { return byte(mark) })
	})
	each(func(x impl.Thing, mark int64) {
		others := slices.ContainsFunc(x.Refs[:cap(x.Refs)], func(ref int64) bool { return ref != 1000+mark })
		if others || slices.ContainsFunc(x.Data[:cap(x.Data)], func(b byte) bool { return b != byte(mark) }) {
			t.Errorf("%s: the Refs or Data of thing %d share memory with others", what, mark)
		}
	})
	for i, r := range m.Rooms {
		scribble(r.Things, func(impl.Thing) impl.Thing { return impl.Thing{Gen: int64(i)} })
	}
	for i, r := range m.Rooms {
		if slices.ContainsFunc(r.Things[:cap(r.Things)], func(x impl.Thing) bool { return x.Gen != int64(i) }) {
			t.Errorf("%s: the Things of room %d share memory with others", what, i)
		}
	}
	scribble(m.Rooms, func(impl.Room) impl.Room { return impl.Room{Tag: -7} })
}

// checkNewModels tells that a call leaves its arguments alone, and answers with a Model of which each list has memory of its own, each time.
func checkNewModels(t *testing.T, what string, args []kept, call func() impl.Model) {
	t.Helper()
	first, second := call(), call()
	was := modelTwin(second)
	keptAll(args).checkSame(t, what)
	if !sameModelTold(first, second) {
		t.Errorf("%s: two answers differ: %s, %s", what, modelShown(first), modelShown(second))
	}
	markModel(t, what, first)
	keptAll(args).checkSame(t, what+", when the answer is written to")
	if !sameModelTold(second, was) {
		t.Errorf("%s: two answers share memory: %s, was %s", what, modelShown(second), modelShown(was))
	}
}

func TestModelsOfHeapsAreNew(t *testing.T) {
	heaps := append(auditedHeaps(), wrongHeaps()...)
	for steps := range len(impl.BlocksOf(slidTouched())) + 1 {
		heaps = append(heaps, namedHeap{said("under way", int64(steps)), steppedBy(steps, slidTouched())})
	}
	for _, c := range heaps {
		h, args := withSpareHeap(c.heap)
		checkNewModels(t, c.what, args, func() impl.Model { return impl.ModelOf(h) })
	}
}

// checkModelDidIsNew tells that neither the Model nor the Data of an answer shares memory with the argument, with another answer, or with each other.
func checkModelDidIsNew(t *testing.T, what string, m impl.Model, args []kept, o impl.Order) {
	t.Helper()
	what += ": " + orderShown(o)
	checkNewModels(t, what, args, func() impl.Model {
		got, _ := impl.ModelDid(m, o)
		return got
	})
	checkNew(t, what, args, func() []byte {
		_, answer := impl.ModelDid(m, o)
		return answer.Data
	})
	got, answer := impl.ModelDid(m, o)
	data := slices.Clone(answer.Data)
	markModel(t, what, got)
	if !bytes.Equal(answer.Data, data) {
		t.Errorf("%s: the Data is %v, was %v", what, answer.Data, data)
	}
	got, answer = impl.ModelDid(m, o)
	was := modelTwin(got)
	scribble(answer.Data, otherByte)
	if !sameModelTold(got, was) {
		t.Errorf("%s: the model is %s, was %s, ahead of writing to the Data", what, modelShown(got), modelShown(was))
	}
	keptAll(args).checkSame(t, what+", when the Data is written to")
}

func TestWhatModelsDidIsNew(t *testing.T) {
	for _, h := range []impl.Heap{busyHeap(), slidTouched(), auditedHeap(), mixedHeap(), fullTable(), lastTag(), fullHeap(16), newHeap(t, 64)} {
		m, args := withSpareModel(modelTold(h))
		for _, o := range append(ordersIn(h, 5), impl.Order{}, odLeave(4), odRead(0, -1, 0, 0), odWrite(0, 496, 0, "A")) {
			checkModelDidIsNew(t, "right", m, args, o)
		}
	}
	for _, c := range wrongModels() {
		m, args := withSpareModel(c.model)
		for _, o := range append(rightOrders(), impl.Order{}, odLeave(4), odRead(0, 496, 0, 2)) {
			checkModelDidIsNew(t, c.what, m, args, o)
		}
	}
}

// TestModelsStayAsTheyAre has what just asks of them.
func TestModelsStayAsTheyAre(t *testing.T) {
	models := wrongModels()
	for _, c := range auditedHeaps() {
		models = append(models, namedModel{c.what, modelTold(c.heap)})
	}
	for _, c := range models {
		m, args := withSpareModel(c.model)
		other, otherArgs := withSpareModel(modelBy(c.model, func(m *impl.Model) { m.NextTag++ }))
		impl.ModelOk(m)
		keptAll(args).checkSame(t, c.what+": ModelOk")
		for _, x := range []impl.Model{m, other, c.model, busyModel()} {
			impl.SameModel(m, x)
			impl.SameModel(x, m)
			keptAll(append(args, otherArgs...)).checkSame(t, c.what+": SameModel")
		}
	}
}

// TestOneModelTwice has answers made of one model: none shows what was done to the others, nor does the model.
func TestOneModelTwice(t *testing.T) {
	for _, fresh := range []func() impl.Heap{busyHeap, slidTouched, auditedHeap} {
		m := impl.ModelOf(fresh())
		orders := ordersIn(fresh(), 5)
		var models []impl.Model
		var answers []impl.Answer
		for _, o := range orders {
			got, answer := impl.ModelDid(m, o)
			models, answers = append(models, got), append(answers, answer)
		}
		for i, o := range orders {
			want, wantAnswer := modelDidTold(modelTold(fresh()), o)
			checkAlike(t, orderShown(o), models[i], want, true)
			if !sameAnswer(answers[i], wantAnswer) {
				t.Errorf("%s: the answer is %s, was %s", orderShown(o), answerShown(answers[i]), answerShown(wantAnswer))
			}
			markModel(t, orderShown(o), models[i])
			scribble(answers[i].Data, otherByte)
		}
		checkAlike(t, "what it was made of", m, modelTold(fresh()), true)
	}
}
