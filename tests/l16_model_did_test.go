package tests

import (
	"slices"
	"strings"
	"testing"

	"loop.example/g00750/impl"
)

// TestTheScriptWithoutAFloor has each answer of a script of all Kinds written down, and what there is at its end.
func TestTheScriptWithoutAFloor(t *testing.T) {
	h := newHeap(t, 128)
	m := checkModelOf(t, "at the beginning", h, modelFrom(128, 1))
	for i, c := range orderScript() {
		want := c.answer
		if c.order.Kind >= 11 && orderRight(c.order) && c.order.Kind <= 13 {
			want = impl.Answer{}
		}
		checkModelDid(t, said("script", int64(i)), m, c.order, want)
		h, m, _ = checkModelled(t, said("script", int64(i)), h, m, c.order)
	}
	zeros := string(make([]byte, 34))
	checkAlike(t, "at the end", m, modelFrom(128, 5,
		roomOf(1, 60, rootThing(0, "\x00ab\x00", 0), rootThing(3, ""), rootThing(0, "")), roomOf(3, 28, rootThing(0, zeros[:21]+"q")), impl.Room{}, roomOf(4, 40, rootThing(0, zeros))), true)
}

// floorSizes go from the smallest floor to the largest.
func floorSizes() []int64 {
	return []int64{64, 65, 66, 67, 68, 71, 80, 90, 100, 127, 128, 129, 200, 255, 256, 257, 300, 400, 511, 512, 513, 777, 1000, 1022, 1023, 1024}
}

// TestScriptsOnEachFloorWithoutIt has four tenants do all that there is in turn, with slides begun, stepped and done between them.
func TestScriptsOnEachFloorWithoutIt(t *testing.T) {
	for _, size := range floorSizes() {
		h := newHeap(t, size)
		m := impl.ModelOf(h)
		kinds := map[int64]int{}
		var answer impl.Answer
		for i, o := range scriptFor(size) {
			if h, m, answer = checkModelled(t, said("floor", size, int64(i)), h, m, o); answer.Code == impl.CdOk {
				kinds[o.Kind]++
			}
		}
		checkOften(t, kinds, 1, 1, 2, 3, 4, 5, 6, 7, 8, 9, 10, 11, 12, 13)
	}
}

// TestDrawnScriptsWithoutAFloor has what several tenants do as it goes; one script has as many orders as a played heap may have.
func TestDrawnScriptsWithoutAFloor(t *testing.T) {
	var d drawn
	kinds, codes := map[int64]int{}, map[int64]int{}
	gaps := 0
	for _, size := range floorSizes() {
		h := newHeap(t, size)
		m := impl.ModelOf(h)
		var answer impl.Answer
		n := 200
		if size == 256 {
			n = impl.MaxOrders
		}
		for range n {
			o := drawnOrdinary(&d, h)
			h, m, answer = checkModelled(t, said("drawn script", size), h, m, o)
			if codes[answer.Code]++; answer.Code == impl.CdOk {
				kinds[o.Kind]++
			}
			if h.Low < h.High {
				gaps++
			}
		}
	}
	checkOften(t, kinds, 50, 1, 2, 3, 4, 5, 6, 7, 8, 9, 10, 11, 12, 13)
	checkOften(t, codes, 4000, impl.CdOk)
	if gaps < 300 {
		t.Errorf("just %d heaps have a gap", gaps)
	}
}

// TestDrawnOrdersWithoutAFloor has orders most of which are refused, in heaps that ordinary ones made.
func TestDrawnOrdersWithoutAFloor(t *testing.T) {
	var d drawn
	codes, done := map[int64]int{}, map[int64]int{}
	refused, wrong := 0, 0
	for turn := range int64(60) {
		h := newHeap(t, 64+turn*16)
		m := impl.ModelOf(h)
		var answer impl.Answer
		for i := range 130 {
			o := drawnOrdinary(&d, h)
			if i > 8 && d.below(6) > 0 {
				o = drawnWild(&d, h)
			}
			h, m, answer = checkModelled(t, "drawn order", h, m, o)
			if codes[answer.Code]++; answer.Code == impl.CdOk {
				done[o.Kind]++
			} else {
				refused++
			}
			if !orderRight(o) {
				wrong++
			}
		}
	}
	checkOften(t, codes, 10, 0, 1, 2, 3, 4, 5, 6, 7, 8, 9, 10)
	checkOften(t, done, 10, 1, 2, 3, 4, 5, 6, 7, 8, 9, 10, 11, 12, 13)
	if wrong < 500 || refused < 4500 {
		t.Errorf("%d are refused, and %d are not right", refused, wrong)
	}
}

// TestEveryShortScriptWithoutAFloor has each script of four of a few orders, from nothing and from where some was made, as far as nothing is refused.
func TestEveryShortScriptWithoutAFloor(t *testing.T) {
	few := []impl.Order{
		odEnter(0, 30, 2), odEnter(1, 34, 1), odLeave(0), odMake(0, 5, 1), odMake(0, 0, 0), odMake(1, 20, 2), odLink(0, 128, 0, 129), odLink(0, 128, 0, 128), odLink(0, 129, 0, 0), odDrop(0, 128), odDrop(0, 129),
		odRoot(0, 129), odRef(0, 128, 0), odRead(1, 256, 0, 3), odWrite(1, 256, 18, "abc"), odAudit(0), odBegin(), odStep(), odSlide(),
	}
	codes := map[int64]int{}
	var play func(h impl.Heap, m impl.Model, depth int)
	play = func(h impl.Heap, m impl.Model, depth int) {
		for _, o := range few {
			got, model, answer := checkModelled(t, "short", h, m, o)
			if codes[answer.Code]++; depth > 1 && answer.Code == impl.CdOk && !t.Failed() {
				play(got, model, depth-1)
			}
		}
	}
	h := newHeap(t, 64)
	play(h, impl.ModelOf(h), 4)
	for _, o := range []impl.Order{odEnter(0, 30, 2), odMake(0, 5, 1), odEnter(1, 34, 1), odMake(1, 20, 2), odMake(0, 3, 1)} {
		h, _ = impl.Did(h, o)
	}
	play(h, impl.ModelOf(h), 4)
	checkOften(t, codes, 100, 0, 2, 3, 5, 6, 7, 8, 9, 10)
}

// TestEachCodeOfEachKindWithoutAFloor has each Kind with each code that the chapter of its function has.
func TestEachCodeOfEachKindWithoutAFloor(t *testing.T) {
	seen := map[[2]int64]bool{}
	for _, c := range codedOrders() {
		m := checkModelOf(t, "each code", c.heap, modelTold(c.heap))
		want := c.answer
		if c.order.Kind >= 11 {
			want = impl.Answer{}
		}
		checkModelDid(t, "each code", m, c.order, want)
		checkModelled(t, "each code", c.heap, m, c.order)
		seen[[2]int64{c.order.Kind, want.Code}] = true
	}
	for kind, codes := range [][]int64{
		{}, {0, 1, 3, 4}, {0, 2}, {0, 1, 2, 5, 6}, {0, 2, 7, 8}, {0, 2, 7, 8}, {0, 2, 7, 8}, {0, 2, 7, 8}, {0, 2, 7}, {0, 2, 7}, {0, 2}, {0}, {0}, {0},
	} {
		for code := range int64(11) {
			if seen[[2]int64{int64(kind), code}] != slices.Contains(codes, code) {
				t.Errorf("Kind %d, code %d: %v", kind, code, seen[[2]int64{int64(kind), code}])
			}
		}
	}
}

// TestTwoCodesAtOnce has each pair of codes that apply at once: the one that the chapter names first is told.
func TestTwoCodesAtOnce(t *testing.T) {
	bad, none, there, room := withCode(impl.CdBad), withCode(impl.CdNone), withCode(impl.CdThere), withCode(impl.CdRoom)
	quota, ticket, out := withCode(impl.CdQuota), withCode(impl.CdTicket), withCode(impl.CdRange)
	for _, c := range []codedOrder{
		{busyHeap(), odEnter(0, 0, 0), bad}, {busyHeap(), odEnter(0, 28, 17), bad}, {busyHeap(), odEnter(1, 1025, 1), bad}, {busyHeap(), odEnter(1, 29, 0), bad}, {busyHeap(), odEnter(0, 1025, 0), bad},
		{lastTag(), odEnter(1, 0, 17), bad}, {lastTag(), odEnter(0, 0, 17), bad}, {busyHeap(), odEnter(0, 29, 1), there}, {lastTag(), odEnter(0, 0, 1), there}, {lastTag(), odEnter(3, 1024, 16), there},
		{lastTag(), odEnter(1, 29, 1), room},
		{busyHeap(), odMake(1, 201, 0), bad}, {busyHeap(), odMake(1, 0, 7), bad}, {busyHeap(), odMake(0, 201, 0), bad}, {busyHeap(), odMake(3, 0, 7), bad}, {fullTable(), odMake(0, 0, 7), bad},
		{fullTable(), odMake(0, 201, 0), bad}, {busyHeap(), odMake(1, 0, 0), none}, {busyHeap(), odMake(1, 200, 6), none}, {fullTable(), odMake(0, 200, 0), quota}, {fullTable(), odMake(0, 107, 0), quota},
		{fullTable(), odMake(0, 106, 0), withCode(impl.CdSlots)},
		{busyHeap(), odRead(1, 0, 0, 0), none}, {busyHeap(), odRead(1, 496, 0, 3), none}, {busyHeap(), odRead(1, 497, 9, 9), none}, {busyHeap(), odRead(2, 496, 0, 3), ticket}, {busyHeap(), odRead(0, 480, 0, 3), ticket},
		{busyHeap(), odRead(0, 386, 0, 1), ticket}, {busyHeap(), odWrite(1, 0, 0, ""), none}, {busyHeap(), odWrite(1, 496, 0, "abc"), none}, {busyHeap(), odWrite(2, 496, 0, "abc"), ticket},
		{busyHeap(), odWrite(0, 480, 3, ""), ticket}, {busyHeap(), odRef(1, 0, 0), none}, {busyHeap(), odRef(1, 496, 2), none}, {busyHeap(), odRef(2, 496, 2), ticket}, {busyHeap(), odRef(0, 387, 0), ticket},
		{busyHeap(), odLink(1, 0, 0, 0), none}, {busyHeap(), odLink(1, 496, 2, 0), none}, {busyHeap(), odLink(1, 496, 0, 1026), none}, {busyHeap(), odLink(1, 1, 9, 1), none}, {busyHeap(), odLink(2, 496, 2, 0), ticket},
		{busyHeap(), odLink(0, 480, 0, 1026), ticket}, {busyHeap(), odLink(2, 496, 2, 496), ticket}, {busyHeap(), odLink(0, 496, 2, 1026), out}, {busyHeap(), odLink(2, 1025, 0, mostArg), out},
		{busyHeap(), odRoot(1, 0), none}, {busyHeap(), odRoot(1, 496), none}, {busyHeap(), odDrop(1, mostArg), none}, {busyHeap(), odDrop(1, 385), none},
	} {
		m := modelTold(c.heap)
		checkOrder(t, "two codes", c.order, true)
		checkTells(t, "two codes", m, c.order, c.answer)
		checkModelled(t, "two codes", c.heap, m, c.order)
	}
}

// TestHeapsOfOneModel has heaps of one model, which answer alike and have the same model after each order, as their model has it.
func TestHeapsOfOneModel(t *testing.T) {
	heaps, gaps := 0, 0
	codes := map[int64]int{}
	for _, fresh := range []impl.Heap{busyHeap(), slidTouched(), auditedHeap(), mixedHeap(), fullTable(), lastTag(), fullHeap(16), newHeap(t, 64)} {
		m := modelTold(fresh)
		var answers []impl.Answer
		var models []impl.Model
		orders := slices.DeleteFunc(ordersIn(fresh, 4), func(o impl.Order) bool { return o.Kind >= 11 })
		for _, o := range orders {
			h, answer := orderTold(fresh, o)
			answers, models = append(answers, answer), append(models, modelTold(h))
		}
		for i, c := range heapsFor(m) {
			// Of the larger ones not all heaps are asked: they just have one thing more on one side of the gap, or of what is left behind.
			if i%7 != 0 && len(c.heap.Floor) > 200 || i > 120 {
				continue
			}
			heaps++
			checkRightHeap(t, c.what, c.heap)
			checkModelOf(t, c.what, c.heap, m)
			if c.heap.Low < c.heap.High {
				gaps++
			}
			for j, o := range orders {
				_, model, answer := checkModelled(t, c.what, c.heap, m, o)
				codes[answer.Code]++
				if !sameAnswer(answer, answers[j]) {
					t.Errorf("%s: %s: answers %s, another heap of its model %s", c.what, orderShown(o), answerShown(answer), answerShown(answers[j]))
				}
				checkAlike(t, c.what+": "+orderShown(o), model, models[j], true)
			}
		}
	}
	checkOften(t, codes, 30, 0, 1, 2, 3, 4, 5, 6, 7, 8)
	if heaps < 120 || gaps < 50 {
		t.Errorf("just %d heaps, %d with a gap", heaps, gaps)
	}
}

// TestHeapsOfOneModelInTurns has a drawn script done in several heaps of one model, each of which slides, or not, when it likes; no answer shows which of them it is.
func TestHeapsOfOneModelInTurns(t *testing.T) {
	var d drawn
	slides, others := 0, 0
	for _, fresh := range []impl.Heap{busyHeap(), slidTouched(), auditedHeap(), mixedHeap(), newHeap(t, 64), newHeap(t, 300)} {
		m := modelTold(fresh)
		heaps := heapsFor(m)
		heaps = append(heaps[:min(len(heaps), 12)], namedHeap{"fresh", fresh})
		for range 60 {
			o := []impl.Order{drawnOrdinary(&d, heaps[0].heap), drawnWild(&d, heaps[0].heap)}[d.below(2)]
			if o.Kind >= 11 {
				continue
			}
			others++
			wanted, answer := impl.ModelDid(m, o)
			for i := range heaps {
				x := &heaps[i]
				got, model, told := checkModelled(t, x.what, x.heap, m, o)
				checkAlike(t, x.what, model, wanted, true)
				if x.heap = got; !sameAnswer(told, answer) {
					t.Errorf("%s: %s: answers %s, the model %s", x.what, orderShown(o), answerShown(told), answerShown(answer))
				}
				if d.below(3) == 0 {
					slides++
					x.heap, _, _ = checkModelled(t, x.what, x.heap, wanted, []impl.Order{odBegin(), odStep(), odStep(), odSlide()}[d.below(4)])
				}
			}
			m = wanted
		}
	}
	if slides < 500 || others < 150 {
		t.Errorf("just %d slides and %d others", slides, others)
	}
}

func TestModelsAreEntered(t *testing.T) {
	m := busyModel()
	for _, slots := range []int64{1, 2, 15, 16} {
		for _, bytes := range []int64{0, 1, 27, 28} {
			checkBecomes(t, "enter", m, odEnter(1, bytes, slots), impl.Answer{}, func(m *impl.Model) {
				m.Rooms[1], m.NextTag = roomOf(9, bytes, freeThings(slots)...), 10
			})
		}
		for _, bytes := range []int64{29, 30, 64, 1023, 1024} {
			checkTells(t, "one more than there is", m, odEnter(1, bytes, slots), withCode(impl.CdRoom))
		}
		for _, who := range []int64{0, 2, 3} {
			checkTells(t, "there", m, odEnter(who, 0, slots), withCode(impl.CdThere))
		}
	}
	for _, x := range [][2]int64{{0, 0}, {0, 17}, {0, mostArg}, {1025, 1}, {mostArg, 1}, {28, 256}, {28, 257}, {1025, 0}} {
		checkTells(t, "out of range", m, odEnter(1, x[0], x[1]), withCode(impl.CdBad))
	}
	for _, next := range []int64{9, 10, 99999, 100000, 100001} {
		last := modelBy(m, func(m *impl.Model) { m.NextTag = next })
		if next > 100000 {
			checkTells(t, "no Tag left", last, odEnter(1, 0, 1), withCode(impl.CdRoom))
			continue
		}
		got := checkBecomes(t, "next", last, odEnter(1, 28, 1), impl.Answer{}, func(m *impl.Model) {
			m.Rooms[1], m.NextTag = roomOf(next, 28, freeThing(0)), next+1
		})
		got = checkModelDid(t, "next", got, odMake(1, 0, 0), withNumber(next*128))
		checkModelDid(t, "next", got, odLeave(1), impl.Answer{})
	}
	for _, size := range []int64{64, 65, 1023, 1024} {
		for who := range int64(4) {
			checkBecomes(t, "all that there is", modelFrom(size, 1), odEnter(who, size, 16), impl.Answer{}, func(m *impl.Model) {
				m.Rooms[who], m.NextTag = roomOf(1, size, freeThings(16)...), 2
			})
			code := int64(impl.CdRoom)
			if size == 1024 {
				code = impl.CdBad
			}
			checkTells(t, "one more", modelFrom(size, 1), odEnter(who, size+1, 16), withCode(code))
		}
	}
}

func TestModelsAreLeft(t *testing.T) {
	for who := range int64(4) {
		if who == 1 {
			checkTells(t, "leave", busyModel(), odLeave(who), withCode(impl.CdNone))
			continue
		}
		m := checkBecomes(t, "leave", busyModel(), odLeave(who), impl.Answer{}, func(m *impl.Model) { m.Rooms[who] = impl.Room{} })
		checkTells(t, "left", m, odLeave(who), withCode(impl.CdNone))
		checkTells(t, "left", m, odAudit(who), withCode(impl.CdNone))
		for _, number := range []int64{496, 385, 1025, 1026} {
			checkTells(t, "left", m, odRead(who, number, 0, 0), withCode(impl.CdNone))
		}
		// Who comes after has another Tag, and no ticket of before is good for anything.
		m = checkModelDid(t, "again", m, odEnter(who, 0, 16), impl.Answer{})
		for _, number := range []int64{496, 385, 1025, 1026} {
			checkTells(t, "again", m, odRead(who, number, 0, 0), withCode(impl.CdTicket))
		}
	}
}

// makingModel has 10 bytes used of 40, and slots that are used, worn out, free after some, and free.
func makingModel() impl.Model {
	return modelFrom(1024, 3, roomOf(1, 40, rootThing(3, "abc", -1), freeThing(8), freeThing(2), freeThing(0)), roomOf(2, 984, freeThings(2)...))
}

func TestModelsMake(t *testing.T) {
	nothing := []int64{-1, -1, -1, -1, -1, -1}
	for refs := range int64(7) {
		for n := range int64(201) {
			checkBecomes(t, "make", makingModel(), odMake(1, n, refs), withNumber(256), func(m *impl.Model) {
				m.Rooms[1].Things[0] = rootThing(0, string(make([]byte, n)), nothing[:refs]...)
			})
		}
		for _, n := range []int64{201, 202, 256, 1000, mostArg} {
			checkTells(t, "more than MaxData", makingModel(), odMake(1, n, refs), withCode(impl.CdBad))
		}
		// As many bytes as are left, and one more.
		left := 24 - refs
		checkBecomes(t, "as many as are left", makingModel(), odMake(0, left, refs), withNumber(162), func(m *impl.Model) {
			m.Rooms[0].Things[2] = rootThing(2, string(make([]byte, left)), nothing[:refs]...)
		})
		checkTells(t, "one more than is left", makingModel(), odMake(0, left+1, refs), withCode(impl.CdQuota))
	}
	for _, refs := range []int64{7, 8, 255, 256, mostArg} {
		checkTells(t, "more than MaxRefs", makingModel(), odMake(1, 0, refs), withCode(impl.CdBad))
		checkTells(t, "more than MaxRefs, and not Live", makingModel(), odMake(3, 0, refs), withCode(impl.CdBad))
	}
	for _, x := range [][2]int64{{0, 0}, {200, 6}, {24, 0}, {1, 1}} {
		checkTells(t, "not Live", makingModel(), odMake(2, x[0], x[1]), withCode(impl.CdNone))
		checkTells(t, "not Live, and out of range", makingModel(), odMake(2, x[0]+201, x[1]), withCode(impl.CdBad))
	}
}

// TestModelsHaveNoSlotLeft takes the first of those that are free, till none is; what is worn out is none.
func TestModelsHaveNoSlotLeft(t *testing.T) {
	m := makingModel()
	m = checkModelDid(t, "first", m, odMake(0, 0, 0), withNumber(162))
	m = checkModelDid(t, "second", m, odMake(0, 0, 1), withNumber(131))
	checkTells(t, "none left", m, odMake(0, 0, 0), withCode(impl.CdSlots))
	checkTells(t, "none left, nor bytes", m, odMake(0, 12, 0), withCode(impl.CdQuota))
	m = checkModelDid(t, "let go", m, odDrop(0, 176), impl.Answer{})
	checkModelDid(t, "the first again", m, odMake(0, 11, 0), withNumber(192))
	checkTells(t, "one byte more", m, odMake(0, 22, 1), withCode(impl.CdQuota))
	worn := modelFrom(64, 2, roomOf(1, 64, freeThing(8), freeThing(8)))
	checkTells(t, "all worn out", worn, odMake(0, 0, 0), withCode(impl.CdSlots))
	checkTells(t, "all worn out", worn, odAudit(0), withData("\x00\x00\x00\x00\x00\x00\x40\x00"))
	checkTells(t, "all worn out", worn, odMake(0, 59, 0), withCode(impl.CdQuota))
	full := modelFrom(1024, 2, roomOf(1, 1024, freeThings(16)...))
	for slot := range int64(16) {
		full = checkModelDid(t, "sixteen", full, odMake(0, slot, slot%7), withNumber(128+slot))
	}
	checkTells(t, "sixteen", full, odMake(0, 0, 0), withCode(impl.CdSlots))
}

// TestModelsWearOut has one slot made of and let go, again and again: its Gen is one more each time, and nothing else is kept.
func TestModelsWearOut(t *testing.T) {
	for _, byLink := range []bool{false, true} {
		m := modelFrom(64, 6, impl.Room{}, impl.Room{}, roomOf(5, 64, rootThing(0, "", -1), freeThing(0)))
		for gen := range int64(8) {
			number := (5*8+gen)*16 + 1
			m = checkModelDid(t, "made", m, odMake(2, 9, 2), withNumber(number))
			m = checkModelDid(t, "written", m, odWrite(2, number, 2, "secret"), impl.Answer{})
			m = checkModelDid(t, "linked", m, odLink(2, number, 1, number), impl.Answer{})
			m = checkModelDid(t, "held", m, odLink(2, 640, 0, number), impl.Answer{})
			last, free := odDrop(2, number), func(m *impl.Model) { m.Rooms[2].Things[1] = freeThing(gen + 1) }
			if byLink {
				m = checkModelDid(t, "let go", m, last, impl.Answer{})
				last = odLink(2, 640, 0, 0)
			} else {
				m = checkModelDid(t, "let go", m, odLink(2, 640, 0, 0), impl.Answer{})
			}
			m = checkBecomes(t, "lost", m, last, impl.Answer{}, func(m *impl.Model) {
				free(m)
				m.Rooms[2].Things[0].Refs[0] = -1
			})
			for _, o := range []impl.Order{odRead(2, number, 0, 0), odWrite(2, number, 0, ""), odRef(2, number, 0), odLink(2, number, 0, 0), odLink(2, 640, 0, number), odRoot(2, number), odDrop(2, number)} {
				checkTells(t, "good for nothing", m, o, withCode(impl.CdTicket))
			}
		}
		checkTells(t, "worn out", m, odMake(2, 0, 0), withCode(impl.CdSlots))
		checkTells(t, "worn out", m, odRead(2, (5*8+8)*16+1, 0, 0), withCode(impl.CdTicket))
		checkTells(t, "worn out", m, odAudit(2), withData("\x07\x00\x01\x00\x00\x00\x40\x00"))
	}
}

// TestModelsAreReadAndWritten has no byte, one, all, and one too many, from each place on, at the end and beyond it.
func TestModelsAreReadAndWritten(t *testing.T) {
	for _, data := range []string{"", "a", "abc", "\x00\xFFz9 A\x80\n", string(anyData(200, 3))} {
		m := modelFrom(1024, 4, roomOf(3, 500, rootThing(0, "other", 1), rootThing(6, data, 0, -1)), roomOf(1, 500, rootThing(0, "more")))
		number, size := int64((3*8+6)*16+1), int64(len(data))
		for _, at := range []int64{0, 1, 2, 3, 7, 8, 9, 199, 200, 201, size - 1, size, size + 1, mostArg} {
			for _, n := range []int64{0, 1, 2, 3, 7, 8, 9, 199, 200, size - at, size - at + 1} {
				if at < 0 || n < 0 || n > 200 {
					continue
				}
				text := strings.Repeat(plainBytes, 6)[:n]
				if at+n > size {
					checkTells(t, "beyond", m, odRead(0, number, at, n), withCode(impl.CdRange))
					checkTells(t, "beyond", m, odWrite(0, number, at, text), withCode(impl.CdRange))
					continue
				}
				checkTells(t, "read", m, odRead(0, number, at, n), withData(data[at:at+n]))
				got := checkBecomes(t, "write", m, odWrite(0, number, at, text), impl.Answer{}, func(m *impl.Model) { copy(m.Rooms[0].Things[1].Data[at:], text) })
				checkTells(t, "what is written", got, odRead(0, number, at, n), withData(text))
			}
			if at >= 0 {
				checkTells(t, "far", m, odRead(0, number, at, mostArg), withCode(impl.CdRange))
				checkTells(t, "far", m, odRead(0, number, at, 201), withCode(impl.CdRange))
			}
		}
	}
}

// TestRefsOfModels has each ref, to nothing, to another one, to itself, and one beyond, told and set.
func TestRefsOfModels(t *testing.T) {
	m := modelFrom(256, 9, roomOf(3, 100, rootThing(2, "ab", -1, 1, 0, 3), rootThing(0, ""), freeThing(1), heldThing(7, "q", 3, -1)), roomOf(8, 60, rootThing(0, "", 0)))
	numbers := []int64{416, 385, 0, 499}
	for i, want := range []int64{0, 385, 416, 499} {
		checkTells(t, "ref", m, odRef(0, 416, int64(i)), withNumber(want))
	}
	checkTells(t, "ref", m, odRef(0, 499, 0), withNumber(499))
	checkTells(t, "ref", m, odRef(0, 499, 1), withNumber(0))
	checkTells(t, "ref", m, odRef(1, 1024, 0), withNumber(1024))
	for _, i := range []int64{4, 5, 6, 7, 255, 256, 260, mostArg} {
		checkTells(t, "beyond the refs", m, odRef(0, 416, i), withCode(impl.CdRange))
		checkTells(t, "beyond the refs", m, odLink(0, 416, i, 385), withCode(impl.CdRange))
		checkTells(t, "no refs", m, odRef(0, 385, i-4), withCode(impl.CdRange))
		checkTells(t, "no refs", m, odLink(0, 385, i-4, 0), withCode(impl.CdRange))
	}
	for i := range int64(3) {
		for slot, to := range numbers {
			if slot == 2 {
				slot = -1
			}
			got := checkBecomes(t, "link", m, odLink(0, 416, i, to), impl.Answer{}, func(m *impl.Model) { m.Rooms[0].Things[0].Refs[i] = int64(slot) })
			checkTells(t, "linked", got, odRef(0, 416, i), withNumber(to))
		}
		for _, to := range []int64{1, 127, 128, 386, 401, 402, 384, 400, 432, 387, 388, 399, 498, 1024, 1025, 12800127, mostArg} {
			checkTells(t, "link to what is good for nothing", m, odLink(0, 416, i, to), withCode(impl.CdTicket))
		}
	}
}

// TestTicketsForModels has those of another Tag, of another Gen, of a slot that is not there, and of one that is free.
func TestTicketsForModels(t *testing.T) {
	m := busyModel()
	for who := range int64(4) {
		good := map[int64][]int64{0: {496, 385}, 2: {1025, 1026}}[who]
		for _, number := range []int64{0, 1, 127, 128, 384, 385, 386, 387, 388, 399, 401, 464, 480, 496, 497, 498, 511, 512, 640, 641, 1024, 1025, 1026, 1027, 1040, 1041, 1152, 12800000, 12800127, 12800128, mostArg} {
			for _, o := range []impl.Order{odRead(who, number, 0, 0), odWrite(who, number, 0, ""), odRef(who, number, mostArg), odLink(who, number, mostArg, 0), odRoot(who, number)} {
				want := withCode(impl.CdTicket)
				switch {
				case who == 1:
					want = withCode(impl.CdNone)
				case slices.Contains(good, number) && (o.Kind == 6 || o.Kind == 7):
					want = withCode(impl.CdRange)
				case slices.Contains(good, number):
					want = impl.Answer{}
				}
				checkModelDid(t, "ticket", m, o, want)
			}
			if who != 1 && !slices.Contains(good, number) {
				checkTells(t, "ticket", m, odDrop(who, number), withCode(impl.CdTicket))
			}
		}
	}
}

// TestWhatModelsHold has things rooted and let go of, and what stays by another one that refers to it.
func TestWhatModelsHold(t *testing.T) {
	m := busyModel()
	checkBecomes(t, "held already", m, odRoot(0, 496), impl.Answer{}, func(*impl.Model) {})
	held := checkBecomes(t, "held", m, odRoot(0, 385), impl.Answer{}, func(m *impl.Model) { m.Rooms[0].Things[1].Root = true })
	checkBecomes(t, "let go, and referred to", held, odDrop(0, 496), impl.Answer{}, func(m *impl.Model) { m.Rooms[0].Things[0].Root = false })
	checkBecomes(t, "not held at all", m, odDrop(0, 385), impl.Answer{}, func(*impl.Model) {})
	checkBecomes(t, "a ring of two", m, odDrop(0, 496), impl.Answer{}, func(m *impl.Model) { m.Rooms[0].Things[0], m.Rooms[0].Things[1] = freeThing(8), freeThing(1) })
	checkBecomes(t, "one that refers to itself", m, odDrop(2, 1026), impl.Answer{}, func(m *impl.Model) { m.Rooms[2].Things[2] = freeThing(1) })
	checkBecomes(t, "one thing", m, odDrop(2, 1025), impl.Answer{}, func(m *impl.Model) { m.Rooms[2].Things[1] = freeThing(1) })
	chain := modelFrom(64, 2, roomOf(1, 60, heldThing(1, "z"), heldThing(2, "", 0), rootThing(3, "", 1, 3), heldThing(4, "y", 4), rootThing(0, "x"), freeThing(5)))
	checkBecomes(t, "a chain, but for what is Root", chain, odDrop(0, 178), impl.Answer{}, func(m *impl.Model) {
		copy(m.Rooms[0].Things, []impl.Thing{freeThing(2), freeThing(3), freeThing(4), freeThing(5)})
	})
	checkBecomes(t, "the end of a chain", chain, odLink(0, 161, 0, 0), impl.Answer{}, func(m *impl.Model) {
		m.Rooms[0].Things[0], m.Rooms[0].Things[1].Refs[0] = freeThing(2), -1
	})
	checkBecomes(t, "a chain by a ref", chain, odLink(0, 178, 0, 195), impl.Answer{}, func(m *impl.Model) {
		m.Rooms[0].Things[0], m.Rooms[0].Things[1], m.Rooms[0].Things[2].Refs[0] = freeThing(2), freeThing(3), 3
	})
	checkBecomes(t, "what another one still refers to", chain, odDrop(0, 132), impl.Answer{}, func(m *impl.Model) { m.Rooms[0].Things[4].Root = false })
}

// TestWhatModelsLose has each losing of chapter 12, with others about.
func TestWhatModelsLose(t *testing.T) {
	for _, c := range losings() {
		h := heapOf(256, []impl.Tenant{live(4, 100, 9), {}, live(3, 60, 2), {}}, append(c.pieces, rootOf(2, 1, "other", 2))...)
		for slot := range h.Tenants[0].Table {
			h.Tenants[0].Table[slot].Gen = int64(slot % 8)
		}
		m := checkModelOf(t, c.what, h, modelTold(h))
		number, to := numberFor(h, 0, c.slot), int64(0)
		if c.to >= 0 {
			to = numberFor(h, 0, c.to)
		}
		got := checkBecomes(t, c.what, m, odLink(0, number, c.i, to), impl.Answer{}, func(m *impl.Model) {
			m.Rooms[0].Things[c.slot].Refs[c.i] = c.to
			for _, slot := range c.lost {
				m.Rooms[0].Things[slot] = freeThing(slot%8 + 1)
			}
		})
		for _, slot := range c.lost {
			checkTells(t, c.what, got, odRead(0, numberFor(h, 0, slot), 0, 0), withCode(impl.CdTicket))
		}
		checkModelled(t, c.what, h, m, odLink(0, number, c.i, to))
	}
}

// TestEverySmallWebWithoutAFloor has all webs of three things with one ref each, and of two with two: each ref set to each, and each thing held and let go.
func TestEverySmallWebWithoutAFloor(t *testing.T) {
	webs := 0
	for _, x := range [][2]int64{{3, 1}, {2, 2}} {
		withSmallWebs(x[0], x[1], func(web int64, h impl.Heap) {
			webs++
			m := modelTold(h)
			for slot := range x[0] {
				checkModelled(t, said("web", web), h, m, odRoot(0, 128+slot))
				checkModelled(t, said("web", web), h, m, odDrop(0, 128+slot))
				for i := range x[1] {
					checkModelled(t, said("web", web), h, m, odLink(0, 128+slot, i, 0))
					for to := range x[0] {
						checkModelled(t, said("web", web), h, m, odLink(0, 128+slot, i, 128+to))
					}
				}
			}
		})
	}
	if webs < 300 {
		t.Errorf("just %d webs", webs)
	}
}

// TestModelsAreAudited has each of the four numbers, in two bytes, the lower one first: eight bytes.
func TestModelsAreAudited(t *testing.T) {
	for bytes := range int64(1025) {
		m := modelFrom(1024, 8, impl.Room{}, roomOf(7, bytes, freeThings(bytes%16+1)...))
		_, got := impl.ModelDid(m, odAudit(1))
		if want := inTwoBytes(0, 0, bytes%16+1, bytes); got.Code != impl.CdOk || len(got.Data) != 8 || string(got.Data) != string(want) {
			t.Errorf("audit: got %s, want %v", answerShown(got), want)
		}
	}
	checkTells(t, "audit", busyModel(), odAudit(0), withData("\x11\x00\x02\x00\x01\x00\x3C\x00"))
	checkTells(t, "audit", busyModel(), odAudit(1), withCode(impl.CdNone))
	checkTells(t, "audit", busyModel(), odAudit(2), withData("\x11\x00\x02\x00\x01\x00\x28\x00"))
	checkTells(t, "audit", busyModel(), odAudit(3), withData("\x00\x00\x00\x00\x01\x00\x00\x00"))
	full := slices.Repeat([]impl.Thing{rootThing(0, strings.Repeat("d", 200), 0, -1)}, 4)
	m := modelFrom(1024, 8, roomOf(7, 1000, slices.Concat(full, freeThings(9), []impl.Thing{freeThing(8), freeThing(7)})...))
	checkTells(t, "audit", m, odAudit(0), withData("\x40\x03\x04\x00\x0A\x00\xE8\x03"))
}

// TestSlidesAreNothingToModels has a right Model as it is and the zero Answer; one of no heap has CdBad.
func TestSlidesAreNothingToModels(t *testing.T) {
	for _, o := range []impl.Order{odBegin(), odStep(), odSlide()} {
		for _, c := range auditedHeaps() {
			m := modelTold(c.heap)
			want := impl.Answer{}
			if !modelRight(m) {
				want.Code = impl.CdBad
			}
			checkTells(t, c.what, m, o, want)
		}
		for _, wrong := range wrongModels() {
			checkTells(t, wrong.what, wrong.model, o, withCode(impl.CdBad))
		}
		for _, change := range []func(o *impl.Order){
			func(o *impl.Order) { o.Who = 1 }, func(o *impl.Order) { o.A = 1 }, func(o *impl.Order) { o.B = 1 }, func(o *impl.Order) { o.C = 1 }, func(o *impl.Order) { o.Text = "a" },
		} {
			checkTells(t, "not right", busyModel(), changedBy(o, change), withCode(impl.CdBad))
		}
	}
}

// TestWrongOrdersWithoutAFloor has the model as it is, and CdBad, be it one of a heap or not; so has each order to a model of no heap.
func TestWrongOrdersWithoutAFloor(t *testing.T) {
	for _, m := range []impl.Model{busyModel(), modelFrom(64, 1), makingModel(), modelTold(fullHeap(16))} {
		for _, o := range wrongOrders() {
			checkTells(t, "not right", m, o, withCode(impl.CdBad))
		}
	}
	for _, wrong := range wrongModels() {
		checkModelOk(t, wrong.what, wrong.model, false)
		for i, o := range append(wrongOrders(), rightOrders()...) {
			if i%5 == 0 || orderRight(o) {
				checkTells(t, wrong.what, wrong.model, o, withCode(impl.CdBad))
			}
		}
		for _, o := range []impl.Order{odAudit(0), odAudit(1), odEnter(1, 0, 1), odRead(0, 496, 0, 1), odDrop(2, 1025), odLeave(3)} {
			checkTells(t, wrong.what, wrong.model, o, withCode(impl.CdBad))
		}
	}
}
