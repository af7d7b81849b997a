package tests

import (
	"bytes"
	"math"
	"slices"
	"strconv"
	"strings"
	"testing"

	"loop.example/g00750/impl"
)

const (
	plainBytes = "abcdefghijklmnopqrstuvwxyz0123456789"
	mostArg    = 99999999
)

func odEnter(who, bytes, slots int64) impl.Order {
	return impl.Order{Kind: impl.OdEnter, Who: who, A: bytes, B: slots}
}

func odLeave(who int64) impl.Order { return impl.Order{Kind: impl.OdLeave, Who: who} }

func odMake(who, n, refs int64) impl.Order {
	return impl.Order{Kind: impl.OdMake, Who: who, A: n, B: refs}
}

func odRead(who, number, at, n int64) impl.Order {
	return impl.Order{Kind: impl.OdRead, Who: who, A: number, B: at, C: n}
}

func odWrite(who, number, at int64, text string) impl.Order {
	return impl.Order{Kind: impl.OdWrite, Who: who, A: number, B: at, Text: text}
}

func odRef(who, number, i int64) impl.Order {
	return impl.Order{Kind: impl.OdRef, Who: who, A: number, B: i}
}

func odLink(who, number, i, to int64) impl.Order {
	return impl.Order{Kind: impl.OdLink, Who: who, A: number, B: i, C: to}
}

func odRoot(who, number int64) impl.Order {
	return impl.Order{Kind: impl.OdRoot, Who: who, A: number}
}

func odDrop(who, number int64) impl.Order {
	return impl.Order{Kind: impl.OdDrop, Who: who, A: number}
}

func odAudit(who int64) impl.Order { return impl.Order{Kind: impl.OdAudit, Who: who} }

func odBegin() impl.Order { return impl.Order{Kind: impl.OdBegin} }
func odStep() impl.Order  { return impl.Order{Kind: impl.OdStep} }
func odSlide() impl.Order { return impl.Order{Kind: impl.OdSlide} }

func withCode(code int64) impl.Answer     { return impl.Answer{Code: code} }
func withNumber(number int64) impl.Answer { return impl.Answer{Number: number} }
func withData(data string) impl.Answer    { return impl.Answer{Data: []byte(data)} }

func sameAnswer(a, b impl.Answer) bool {
	return a.Code == b.Code && a.Number == b.Number && bytes.Equal(a.Data, b.Data)
}

func orderShown(o impl.Order) string {
	return said("order", o.Kind, o.Who, o.A, o.B, o.C) + " " + shortened(o.Text)
}

func answerShown(a impl.Answer) string {
	return said("code, number, data", a.Code, a.Number) + " " + shortened(string(a.Data))
}

func changedBy(o impl.Order, do func(o *impl.Order)) impl.Order {
	do(&o)
	return o
}

func shortened(text string) string { return strconv.Quote(text[:min(len(text), 40)]) }

// rowOf are the fields of Kind's row of the table: w for Who, a, b and c, and t for Text.
func rowOf(kind int64) string {
	return []string{"", "wab", "w", "wab", "wabc", "wabt", "wab", "wabc", "wa", "wa", "w", "", "", ""}[kind]
}

// orderRight and orderTold are written from the chapter's words.
func orderRight(o impl.Order) bool {
	if o.Kind < 1 || o.Kind > 13 {
		return false
	}
	row := rowOf(o.Kind)
	for i, n := range []int64{o.Who, o.A, o.B, o.C} {
		most := []int64{3, mostArg, mostArg, mostArg}[i]
		if !strings.Contains(row, "wabc"[i:i+1]) {
			most = 0
		}
		if n < 0 || n > most {
			return false
		}
	}
	if !strings.HasSuffix(row, "t") {
		return o.Text == ""
	}
	return len(o.Text) <= 200 && strings.Trim(o.Text, plainBytes) == ""
}

func orderTold(h impl.Heap, o impl.Order) (impl.Heap, impl.Answer) {
	if _, is := toldOf(h); !is {
		return impl.Heap{}, withCode(impl.CdBad)
	}
	if !orderRight(o) {
		return h, withCode(impl.CdBad)
	}
	var a impl.Answer
	switch o.Kind {
	case 1:
		h, a.Code = enteredTold(h, o.Who, o.A, o.B)
	case 2:
		h, a.Code = goneTold(h, o.Who)
	case 3:
		h, a.Code, a.Number = madeTold(h, making{o.Who, o.A, o.B})
	case 4:
		a.Data, a.Code = readTold(h, touch{o.Who, o.A, o.B, o.C})
	case 5:
		h, a.Code = writtenTold(h, touch{o.Who, o.A, o.B, int64(len(o.Text))}, []byte(o.Text))
	case 6:
		a.Number, a.Code = refTold(h, setting{o.Who, o.A, o.B, 0})
	case 7:
		h, a.Code = setTold(h, setting{o.Who, o.A, o.B, o.C})
	case 8, 9:
		h, a.Code = rootToldTo(h, o.Who, o.A, o.Kind == 8)
	case 10:
		var audit []int64
		audit, a.Code = auditTold(h, o.Who)
		a.Data = inTwoBytes(audit...)
	default:
		h, a.Code = ofRight([]func(*impl.Heap) int64{begunTold, steppedTold, doneTold}[o.Kind-11])(h)
	}
	return h, a
}

func inTwoBytes(numbers ...int64) []byte {
	var data []byte
	for _, n := range numbers {
		data = append(data, byte(n%256), byte(n/256))
	}
	return data
}

// orderCalled is what the function answers that the Kind of a right Order names, called with its own numbers.
func orderCalled(h impl.Heap, o impl.Order) (impl.Heap, impl.Answer) {
	var a impl.Answer
	switch o.Kind {
	case impl.OdEnter:
		h, a.Code = impl.Entered(h, o.Who, o.A, o.B)
	case impl.OdLeave:
		h, a.Code = impl.Gone(h, o.Who)
	case impl.OdMake:
		h, a.Code, a.Number = impl.Made(h, o.Who, o.A, o.B)
	case impl.OdRead:
		a.Data, a.Code = impl.ReadAt(h, o.Who, o.A, o.B, o.C)
	case impl.OdWrite:
		h, a.Code = impl.WrittenAt(h, o.Who, o.A, o.B, []byte(o.Text))
	case impl.OdRef:
		a.Number, a.Code = impl.RefAt(h, o.Who, o.A, o.B)
	case impl.OdLink:
		h, a.Code = impl.RefSet(h, o.Who, o.A, o.B, o.C)
	case impl.OdRoot:
		h, a.Code = impl.Rooted(h, o.Who, o.A)
	case impl.OdDrop:
		h, a.Code = impl.Unrooted(h, o.Who, o.A)
	case impl.OdAudit:
		var audit []int64
		audit, a.Code = impl.AuditOf(h, o.Who)
		a.Data = inTwoBytes(audit...)
	case impl.OdBegin:
		h, a.Code = impl.SlideBegun(h)
	case impl.OdStep:
		h, a.Code = impl.SlideStep(h)
	case impl.OdSlide:
		h, a.Code = impl.SlideDone(h)
	}
	return h, a
}

// checkDid takes the answer from whoever asks; the words, and the function that is called, have to tell the same. It answers with the Heap, for what comes next.
func checkDid(t *testing.T, what string, h impl.Heap, o impl.Order, want impl.Answer) impl.Heap {
	t.Helper()
	what += ": " + orderShown(o)
	was := twin(h)
	got, answer := impl.Did(h, o)
	told, toldAnswer := orderTold(h, o)
	if !sameAnswer(answer, want) || !sameAnswer(toldAnswer, want) {
		t.Errorf("%s: got %s; want %s; by the words %s: %s", what, answerShown(answer), answerShown(want), answerShown(toldAnswer), heapShown(h))
	}
	checkAnswer(t, what, got, 0, told, 0)
	if !sameHeap(h, was) {
		t.Errorf("%s: the heap that came is %s, was %s", what, heapShown(h), heapShown(was))
	}
	checkOrder(t, what, o, orderRight(o))
	if orderRight(o) {
		called, calledAnswer := orderCalled(h, o)
		if _, is := toldOf(h); !is {
			called = impl.Heap{}
		}
		checkAnswer(t, what+": as it is called", got, 0, called, 0)
		if !sameAnswer(answer, calledAnswer) {
			t.Errorf("%s: got %s, called %s", what, answerShown(answer), answerShown(calledAnswer))
		}
	}
	checkStaysRight(t, what, got, h, answer)
	return got
}

// checkStaysRight is promise 15: what was right is right, and what is refused changes nothing and tells nothing but its code.
func checkStaysRight(t *testing.T, what string, h, was impl.Heap, answer impl.Answer) {
	t.Helper()
	_, wasRight := toldOf(was)
	if _, is := toldOf(h); is != wasRight || impl.HeapOk(h) != wasRight {
		t.Errorf("%s: right is %v, was %v: %s", what, is, wasRight, heapShown(h))
	}
	if answer.Code == impl.CdOk {
		return
	}
	if !wasRight {
		was = impl.Heap{}
	}
	checkAnswer(t, what+": refused", h, 0, was, 0)
	if answer.Number != 0 || len(answer.Data) > 0 {
		t.Errorf("%s: refused with %s", what, answerShown(answer))
	}
}

// checkDidAsTold is for where whoever asks can't tell beforehand.
func checkDidAsTold(t *testing.T, what string, h impl.Heap, o impl.Order) (impl.Heap, impl.Answer) {
	t.Helper()
	_, want := orderTold(h, o)
	return checkDid(t, what, h, o, want), want
}

// checkOrder takes what is wanted from whoever asks; the words have to tell the same.
func checkOrder(t *testing.T, what string, o impl.Order, want bool) {
	t.Helper()
	if got, told := impl.OrderOk(o), orderRight(o); got != want || told != want {
		t.Errorf("%s: %s: OrderOk: got %v, want %v, by the words %v", what, orderShown(o), got, want, told)
	}
	own := want && slices.Contains([]int64{3, 4, 5, 6, 7, 8, 9, 10}, o.Kind)
	if got := impl.Private(o); got != own {
		t.Errorf("%s: %s: Private: got %v, want %v", what, orderShown(o), got, own)
	}
}

func TestTheKinds(t *testing.T) {
	kinds := []int64{
		impl.OdEnter, impl.OdLeave, impl.OdMake, impl.OdRead, impl.OdWrite, impl.OdRef, impl.OdLink, impl.OdRoot, impl.OdDrop, impl.OdAudit,
		impl.OdBegin, impl.OdStep, impl.OdSlide,
	}
	for i, kind := range kinds {
		if kind != int64(i)+1 {
			t.Errorf("the Kind %d is %d", i+1, kind)
		}
	}
	if impl.MaxArg != mostArg {
		t.Errorf("MaxArg is %d", impl.MaxArg)
	}
}

// orderStep is what is ordered, and what is answered.
type orderStep struct {
	order  impl.Order
	answer impl.Answer
}

// orderScript is of a floor of 128 bytes; tenants 0, 3, 1 and once more 3 get the Tags 1 to 4.
func orderScript() []orderStep {
	ok := impl.Answer{}
	return []orderStep{
		{odAudit(0), withCode(impl.CdNone)}, {odEnter(0, 60, 3), ok}, {odEnter(3, 40, 2), ok}, {odEnter(0, 1, 1), withCode(impl.CdThere)},
		{odMake(0, 4, 1), withNumber(128)}, {odMake(3, 3, 2), withNumber(256)}, {odMake(0, 0, 0), withNumber(129)},
		{odRead(0, 128, 0, 4), withData("\x00\x00\x00\x00")}, {odWrite(0, 128, 1, "ab"), ok}, {odRead(0, 128, 0, 4), withData("\x00ab\x00")},
		{odRead(3, 128, 0, 1), withCode(impl.CdTicket)}, {odLink(0, 128, 0, 129), ok}, {odRef(0, 128, 0), withNumber(129)}, {odDrop(0, 129), ok},
		{odRead(0, 129, 0, 0), ok}, {odAudit(0), withData("\x11\x00\x02\x00\x01\x00\x3C\x00")}, {odStep(), withCode(impl.CdIdle)},
		// A slide under way, while others go on: 129 is let go of ahead of its step, and 145 is made behind Top.
		{odBegin(), ok}, {odBegin(), withCode(impl.CdBusy)}, {odStep(), ok}, {odEnter(1, 28, 1), ok}, {odEnter(2, 1, 1), withCode(impl.CdRoom)},
		{odWrite(3, 256, 0, "xyz"), ok}, {odLink(0, 128, 0, 0), ok}, {odRef(0, 128, 0), withNumber(0)}, {odRoot(0, 129), withCode(impl.CdTicket)},
		{odStep(), ok}, {odStep(), ok}, {odMake(0, 2, 0), withNumber(145)}, {odStep(), ok}, {odStep(), ok}, {odStep(), withCode(impl.CdIdle)},
		{odMake(1, 22, 0), withNumber(384)}, {odMake(1, 0, 0), withCode(impl.CdQuota)}, {odRead(3, 256, 0, 3), withData("xyz")},
		{odLeave(3), ok}, {odAudit(3), withCode(impl.CdNone)}, {odEnter(3, 40, 1), ok}, {odRead(3, 256, 0, 3), withCode(impl.CdTicket)},
		{odMake(3, 34, 0), withNumber(512)}, {odMake(0, 0, 0), withNumber(130)}, {odMake(0, 0, 0), withCode(impl.CdSlots)},
		{odSlide(), ok}, {odDrop(0, 145), ok}, {odMake(0, 29, 0), withNumber(161)}, {odDrop(0, 161), ok},
		// There is no room till all is slid.
		{odMake(0, 0, 0), withNumber(177)}, {odRoot(0, 128), ok}, {odRead(1, 384, 20, 3), withCode(impl.CdRange)}, {odRead(1, 384, 20, 2), withData("\x00\x00")},
		{odWrite(1, 384, 22, ""), ok}, {odWrite(1, 384, 21, "q"), ok}, {odLink(0, 128, 1, 0), withCode(impl.CdRange)}, {odLink(0, 128, 0, 384), withCode(impl.CdTicket)},
		{odLink(0, 128, 0, 128), ok}, {odRef(0, 128, 0), withNumber(128)}, {odLeave(2), withCode(impl.CdNone)}, {odEnter(2, 2000, 1), withCode(impl.CdBad)},
		{odMake(1, 201, 0), withCode(impl.CdBad)}, {impl.Order{Kind: 14}, withCode(impl.CdBad)}, {odAudit(3), withData("\x28\x00\x01\x00\x00\x00\x28\x00")},
	}
}

// TestOrdersWrittenDown has each answer of a script of all Kinds, and what lies there at its end.
func TestOrdersWrittenDown(t *testing.T) {
	h := newHeap(t, 128)
	for i, c := range orderScript() {
		h = checkDid(t, said("written down", int64(i)), h, c.order, c.answer)
		checkRightHeap(t, said("written down", int64(i)), h)
	}
	floor := slices.Concat(
		[]byte{11, 0, 1, 0, 1, 0, 1, 0, 'a', 'b', 0}, []byte{28, 0, 2, 0, 0, 0}, make([]byte, 21), []byte{'q'}, []byte{40, 0, 4, 0, 0, 0}, make([]byte, 34),
		[]byte{6, 0, 1, 2, 0, 0}, []byte{6, 0, 1, 1, 0, 0}, make([]byte, 37))
	want := impl.Heap{Floor: floor, Top: 91, Tenants: []impl.Tenant{live(1, 60, 3), live(3, 28, 1), {}, live(4, 40, 1)}, NextTag: 5}
	copy(want.Tenants[0].Table, []impl.Slot{usedAt(0), {Used: true, Root: true, Gen: 3, At: 85}, usedAt(79)})
	want.Tenants[1].Table[0], want.Tenants[3].Table[0] = usedAt(11), usedAt(39)
	checkAnswer(t, "written down", h, 0, want, 0)
}

// TestTheScriptHasAllKinds keeps the script from leaving one out, or one of the codes.
func TestTheScriptHasAllKinds(t *testing.T) {
	kinds, codes := map[int64]int{}, map[int64]int{}
	for _, c := range orderScript() {
		if c.answer.Code == impl.CdOk {
			kinds[c.order.Kind]++
		}
		codes[c.answer.Code]++
	}
	checkOften(t, kinds, 1, 1, 2, 3, 4, 5, 6, 7, 8, 9, 10, 11, 12, 13)
	checkOften(t, codes, 1, 0, 1, 2, 3, 4, 5, 6, 7, 8, 9, 10)
}

// scriptFor has four tenants do all that there is in turn, on any floor of 64 bytes or more: each makes three things, of a size that goes with the floor, that refer to each other, and lets go of one and of all.
func scriptFor(size int64) []impl.Order {
	share := size / 4
	n := min(share/2-8, 200)
	var list []impl.Order
	slides := []impl.Order{odBegin(), odStep(), odStep(), odSlide(), odBegin(), odStep(), odSlide()}
	turn := 0
	inTurn := func(order func(who, tag int64) impl.Order) {
		for who := range int64(4) {
			list = append(list, order(who, (who+1)*128))
		}
		list = append(list, slides[turn%len(slides)])
		turn++
	}
	inTurn(func(who, _ int64) impl.Order { return odEnter(who, share, 3) })
	inTurn(func(who, _ int64) impl.Order { return odMake(who, n, 1) })
	inTurn(func(who, tag int64) impl.Order {
		return odWrite(who, tag, 0, strings.Repeat(plainBytes[who:who+1], int(n)))
	})
	inTurn(func(who, _ int64) impl.Order { return odMake(who, 0, 2) })
	inTurn(func(who, tag int64) impl.Order { return odLink(who, tag+1, 1, tag) })
	inTurn(func(who, tag int64) impl.Order { return odDrop(who, tag) })
	inTurn(func(who, tag int64) impl.Order { return odRef(who, tag+1, who%2) })
	inTurn(func(who, tag int64) impl.Order { return odRead(who, tag, who%(n+1), n-who%(n+1)) })
	inTurn(func(who, _ int64) impl.Order { return odAudit(who) })
	inTurn(func(who, tag int64) impl.Order { return odRoot(who, tag+who%2) })
	inTurn(func(who, tag int64) impl.Order { return odLink(who, tag+1, 1, tag+1) })
	inTurn(func(who, tag int64) impl.Order { return odDrop(who, tag+1) })
	inTurn(func(who, tag int64) impl.Order { return odMake(who, min(share-n-13, 200), 0) })
	inTurn(func(who, tag int64) impl.Order { return odMake(who, min(n, 9), 6) })
	inTurn(func(who, _ int64) impl.Order { return odLeave(who) })
	inTurn(func(who, _ int64) impl.Order { return odEnter(3-who, share+size%4*(who/3), 16) })
	inTurn(func(who, tag int64) impl.Order { return odMake(3-who, min(share-6, 200), 0) })
	return append(list, odSlide(), odBegin(), odSlide())
}

// TestOrdersOnEachFloor has the same done on floors of several sizes, from the smallest to the largest.
func TestOrdersOnEachFloor(t *testing.T) {
	for _, size := range []int64{64, 65, 66, 67, 68, 71, 80, 100, 127, 128, 129, 200, 255, 256, 257, 300, 511, 512, 513, 777, 1000, 1022, 1023, 1024} {
		h := newHeap(t, size)
		kinds, refused := map[int64]int{}, 0
		for i, o := range scriptFor(size) {
			got, answer := checkDidAsTold(t, said("floor", size, int64(i)), h, o)
			checkRightHeap(t, said("floor", size, int64(i)), got)
			if h = got; answer.Code == impl.CdOk {
				kinds[o.Kind]++
			} else {
				refused++
			}
		}
		checkOften(t, kinds, 1, 1, 2, 3, 4, 5, 6, 7, 8, 9, 10, 11, 12, 13)
		if refused > 20 || impl.CleanIn(h) != true {
			t.Errorf("floor of %d: %d were refused: %s", size, refused, heapShown(h))
		}
	}
}

// ownThing is one of the things of a tenant; one that there is not where it has none.
func ownThing(d *drawn, h impl.Heap, who int64) thing {
	list := slices.DeleteFunc(thingsIn(h), func(x thing) bool { return x.who != who })
	if len(list) == 0 {
		return thing{who: who, number: 127}
	}
	return list[d.below(int64(len(list)))]
}

func drawnText(d *drawn, n int64) string {
	var text []byte
	for range n {
		text = append(text, plainBytes[d.below(36)])
	}
	return string(text)
}

// drawnComing is for who is not there: some of what is left to promise.
func drawnComing(d *drawn, h impl.Heap, who int64) impl.Order {
	left := int64(len(h.Floor)) - promisedBytes(h.Tenants)
	return odEnter(who, left-d.below(left/2+1), 1+d.below(1+d.below(16)))
}

// drawnOrdinary may be done as things are; who has nothing and can make nothing goes.
func drawnOrdinary(d *drawn, h impl.Heap) impl.Order {
	who := d.below(4)
	if !h.Tenants[who].Live {
		return drawnComing(d, h, who)
	}
	x := ownThing(d, h, who)
	kind := d.below(40)
	if left := leftTo(h, who); left > 0 && (kind < 8 || x.number == 127) {
		m := costing(who, 6+d.below(min(left-5, 40)))
		return odMake(who, m.n, m.refs)
	}
	switch at := d.below(x.data + 1); {
	case kind == 8 || x.number == 127:
		return odLeave(who)
	case kind < 13:
		return odRead(who, x.number, at, d.below(x.data-at+1))
	case kind < 17:
		return odWrite(who, x.number, at, drawnText(d, d.below(x.data-at+1)))
	case kind < 28 && x.refs > 0:
		i := d.below(x.refs)
		return []impl.Order{odRef(who, x.number, i), odLink(who, x.number, i, 0), odLink(who, x.number, i, ownThing(d, h, who).number)}[kind%3]
	case kind < 31:
		return odDrop(who, x.number)
	case kind < 33:
		return odRoot(who, x.number)
	case kind < 35:
		return odAudit(who)
	case h.Sliding:
		return []impl.Order{odStep(), odStep(), odStep(), odSlide(), odStep()}[kind-35]
	}
	return []impl.Order{odBegin(), odBegin(), odSlide(), odBegin(), odBegin()}[kind-35]
}

// TestDrawnScripts has what several tenants do as it goes, on floors of several sizes.
func TestDrawnScripts(t *testing.T) {
	var d drawn
	kinds, codes := map[int64]int{}, map[int64]int{}
	gaps := 0
	for _, size := range []int64{64, 65, 90, 128, 200, 256, 257, 400, 700, 1023, 1024} {
		h := newHeap(t, size)
		for range 350 {
			o := drawnOrdinary(&d, h)
			got, answer := checkDidAsTold(t, said("drawn script", size), h, o)
			if codes[answer.Code]++; answer.Code == impl.CdOk {
				kinds[o.Kind]++
			}
			if h = got; h.Low < h.High {
				gaps++
			}
		}
		checkRightHeap(t, said("drawn script", size), h)
	}
	checkOften(t, kinds, 50, 1, 2, 3, 4, 5, 6, 7, 8, 9, 10, 11, 12, 13)
	checkOften(t, codes, 3000, impl.CdOk)
	if gaps < 300 {
		t.Errorf("just %d heaps have a gap", gaps)
	}
}

// drawnArg is of something of that one or, now and then, of another one, of an old ticket, or of none.
func drawnArg(d *drawn, h impl.Heap, who int64) int64 {
	number, other := ownThing(d, h, who).number, ownThing(d, h, d.below(4)).number
	return []int64{number, number, number, number, other, other, number + 1, number + 16, max(0, number-16), 0, mostArg, d.below(2000)}[d.below(12)]
}

// drawnWild is of any Kind, with any numbers that it may have; now and then it is not right.
func drawnWild(d *drawn, h impl.Heap) impl.Order {
	o := impl.Order{Kind: []int64{1, 1, 3, 3, 3, 3, 4, 4, 5, 5, 6, 6, 7, 7, 8, 8, 9, 10, 11, 12, 13, 2 + d.below(2)*2}[d.below(22)], Who: d.below(4)}
	switch row := rowOf(o.Kind); {
	case row == "":
		o.Who = 0
	case o.Kind == 1 || o.Kind == 3:
		o.A, o.B = []int64{0, 0, d.below(8), d.below(300), d.below(1100)}[d.below(5)], []int64{d.below(3), d.below(18)}[d.below(2)]
	case row != "w":
		o.A = drawnArg(d, h, o.Who)
		if len(row) > 2 {
			o.B = d.below(5)
		}
		if strings.HasSuffix(row, "t") {
			o.Text = drawnText(d, d.below(6))
		}
		if o.Kind == 4 {
			o.C = d.below(6)
		}
		if o.Kind == 7 {
			o.C = drawnArg(d, h, o.Who)
		}
	}
	if d.below(6) == 0 {
		makeWrong(d, &o)
	}
	return o
}

// makeWrong makes an Order that is not right of one that is, but where the change is one that may be.
func makeWrong(d *drawn, o *impl.Order) {
	field := []*int64{&o.Kind, &o.Who, &o.A, &o.B, &o.C}[d.below(5)]
	switch d.below(5) {
	case 0:
		*field = -1 - d.below(3)
	case 1:
		*field = mostArg + 1 + d.below(3)
	case 2:
		*field += []int64{1 << 32, -1 << 32, math.MinInt64, 1 << 62}[d.below(4)]
	case 3:
		o.Text += []string{"A", " ", "\x00", "\xFF", "é", "-", "a"}[d.below(7)]
	default:
		o.A, o.B, o.C = o.A+d.below(2), o.B+d.below(2), o.C+d.below(2)
	}
}

// TestDrawnOrders has orders most of which are refused, in heaps that ordinary ones made, and some that are drawn.
func TestDrawnOrders(t *testing.T) {
	var d drawn
	codes := map[int64]int{}
	done := map[int64]int{}
	wrong := 0
	for turn := range int64(60) {
		h := newHeap(t, 64+turn*16)
		for range 8 {
			h, _ = impl.Did(h, drawnOrdinary(&d, h))
		}
		for range 120 {
			if d.below(3) == 0 {
				h, _ = impl.Did(h, drawnOrdinary(&d, h))
			}
			o := drawnWild(&d, h)
			got, answer := checkDidAsTold(t, "drawn order", h, o)
			h = got
			if codes[answer.Code]++; answer.Code == impl.CdOk {
				done[o.Kind]++
			}
			if !orderRight(o) {
				wrong++
			}
		}
	}
	checkOften(t, codes, 10, 0, 1, 2, 3, 4, 5, 6, 7, 8, 9, 10)
	checkOften(t, done, 10, 1, 2, 3, 4, 5, 6, 7, 8, 9, 10, 11, 12, 13)
	if codes[impl.CdOk] > 3000 || wrong < 500 {
		t.Errorf("%d are not right, and of each code there are %v", wrong, codes)
	}
}

func TestDrawnHeapsAheadOfOrders(t *testing.T) {
	codes := map[int64]int{}
	withDrawnChanges(t, 1500, func(d *drawn, h impl.Heap) {
		o := drawnWild(d, newHeap(t, 64))
		if _, is := toldOf(h); is {
			o = []impl.Order{drawnWild(d, h), drawnOrdinary(d, h)}[d.below(2)]
		}
		_, answer := checkDidAsTold(t, "drawn change", h, o)
		codes[answer.Code]++
	})
	checkOften(t, codes, 300, impl.CdOk, impl.CdBad)
}

// fullTable is of tenant 0, who has no slot left, but bytes.
func fullTable() impl.Heap { return oneHeap("full", 2, rootOf(0, 0, "abc", 2), heldOf(0, 1, "")).heap }

// lastTag is busyHeap with no Tag left.
func lastTag() impl.Heap {
	h := busyHeap()
	h.NextTag = impl.MaxTag + 1
	return h
}

// codedOrder is a right Order, and what its function answers in that heap.
type codedOrder struct {
	heap   impl.Heap
	order  impl.Order
	answer impl.Answer
}

// codedOrders have each code of each Kind that a right Order of it may be answered by in a right heap.
func codedOrders() []codedOrder {
	busy, sliding := busyHeap(), slidingHeap()
	ok, bad, none := impl.Answer{}, withCode(impl.CdBad), withCode(impl.CdNone)
	room, ticket, out := withCode(impl.CdRoom), withCode(impl.CdTicket), withCode(impl.CdRange)
	list := []codedOrder{
		{fullTable(), odMake(0, 0, 0), withCode(impl.CdSlots)}, {lastTag(), odEnter(1, 0, 1), room}, {heapOf(64, nobodyThere()), odEnter(2, 65, 1), room},
		{sliding, odBegin(), withCode(impl.CdBusy)}, {busy, odBegin(), ok}, {busy, odStep(), withCode(impl.CdIdle)}, {sliding, odStep(), ok},
		{busy, odMake(0, 10, 1), withNumber(387)}, {sliding, odMake(0, 10, 1), withNumber(387)}, {busy, odMake(2, 17, 0), withNumber(1024)},
	}
	for _, h := range []impl.Heap{busy, sliding} {
		for _, c := range []orderStep{
			{odEnter(1, 28, 1), ok}, {odEnter(1, 0, 16), ok}, {odEnter(1, 1025, 1), bad}, {odEnter(1, 28, 0), bad}, {odEnter(1, 28, 17), bad}, {odEnter(1, mostArg, mostArg), bad},
			{odEnter(0, 0, 1), withCode(impl.CdThere)}, {odEnter(3, 28, 1), withCode(impl.CdThere)}, {odEnter(1, 29, 1), room}, {odEnter(1, 1024, 16), room},
			{odLeave(0), ok}, {odLeave(1), none}, {odLeave(2), ok}, {odLeave(3), ok},
			{odMake(1, 0, 0), none}, {odMake(0, 201, 0), bad}, {odMake(0, 0, 7), bad}, {odMake(1, 0, mostArg), bad}, {odMake(0, 38, 0), withCode(impl.CdQuota)},
			{odMake(3, 0, 0), withCode(impl.CdQuota)}, {odMake(2, 200, 6), withCode(impl.CdQuota)},
			{odRead(0, 496, 0, 2), withData("ab")}, {odRead(2, 1025, 1, 2), withData("yz")}, {odRead(1, 496, 0, 0), none}, {odRead(0, 497, 0, 0), ticket}, {odRead(0, 0, 0, 0), ticket},
			{odRead(2, 496, 0, 2), ticket}, {odRead(0, 496, 0, 3), out}, {odRead(0, 496, 3, 0), out}, {odRead(0, 496, mostArg, mostArg), out},
			{odWrite(0, 496, 1, "z"), ok}, {odWrite(2, 1025, 0, "123"), ok}, {odWrite(1, 496, 0, ""), none}, {odWrite(0, mostArg, 0, ""), ticket}, {odWrite(3, 496, 0, "a"), ticket},
			{odWrite(0, 496, 1, "ab"), out}, {odWrite(0, 496, 3, ""), out}, {odWrite(0, 385, 0, "a"), out},
			{odRef(0, 496, 0), withNumber(385)}, {odRef(0, 496, 1), withNumber(0)}, {odRef(2, 1026, 0), withNumber(1026)}, {odRef(1, 496, 0), none}, {odRef(0, 1026, 0), ticket},
			{odRef(0, 386, 0), ticket}, {odRef(0, 496, 2), out}, {odRef(2, 1025, 0), out}, {odRef(0, 496, mostArg), out},
			{odLink(0, 496, 1, 385), ok}, {odLink(0, 496, 1, 496), ok}, {odLink(0, 496, 0, 0), ok}, {odLink(2, 1026, 0, 1025), ok}, {odLink(1, 496, 0, 0), none},
			{odLink(0, 1026, 0, 0), ticket}, {odLink(0, 496, 0, 1026), ticket}, {odLink(0, 496, 0, mostArg), ticket}, {odLink(0, 496, 2, 385), out}, {odLink(2, 1025, 0, 1), out},
			{odRoot(0, 385), ok}, {odRoot(0, 496), ok}, {odRoot(1, 385), none}, {odRoot(2, 385), ticket}, {odRoot(0, 0), ticket},
			{odDrop(0, 496), ok}, {odDrop(0, 385), ok}, {odDrop(2, 1026), ok}, {odDrop(1, 496), none}, {odDrop(0, 1026), ticket}, {odDrop(3, mostArg), ticket},
			{odAudit(0), withData("\x11\x00\x02\x00\x01\x00\x3C\x00")}, {odAudit(2), withData("\x11\x00\x02\x00\x01\x00\x28\x00")}, {odAudit(3), withData("\x00\x00\x00\x00\x01\x00\x00\x00")}, {odAudit(1), none},
			{odSlide(), ok},
		} {
			list = append(list, codedOrder{h, c.order, c.answer})
		}
	}
	return list
}

// TestEachCodeOfEachKind has a right Order each time: what is refused is refused by its function.
func TestEachCodeOfEachKind(t *testing.T) {
	seen := map[[2]int64]bool{}
	for _, c := range codedOrders() {
		got := checkDid(t, "each code", c.heap, c.order, c.answer)
		checkRightHeap(t, "each code", got)
		checkOrder(t, "each code", c.order, true)
		seen[[2]int64{c.order.Kind, c.answer.Code}] = true
		if tells := c.order.Kind == 4 || c.order.Kind == 6 || c.order.Kind == 10; tells || c.answer.Code != impl.CdOk {
			checkAnswer(t, "each code: "+orderShown(c.order), got, 0, c.heap, 0)
		}
	}
	for kind, codes := range [][]int64{
		{}, {0, 1, 3, 4}, {0, 2}, {0, 1, 2, 5, 6}, {0, 2, 7, 8}, {0, 2, 7, 8}, {0, 2, 7, 8}, {0, 2, 7, 8}, {0, 2, 7}, {0, 2, 7}, {0, 2}, {0, 10}, {0, 9}, {0},
	} {
		for code := range int64(11) {
			if seen[[2]int64{int64(kind), code}] != slices.Contains(codes, code) {
				t.Errorf("Kind %d, code %d: %v", kind, code, seen[[2]int64{int64(kind), code}])
			}
		}
	}
}

// TestNothingBesideTheCode has Number 0 and no Data of all Kinds but those that tell something.
func TestNothingBesideTheCode(t *testing.T) {
	for _, c := range codedOrders() {
		_, got := impl.Did(c.heap, c.order)
		ok, kind := got.Code == impl.CdOk, c.order.Kind
		if got.Number != 0 && !(ok && (kind == impl.OdMake || kind == impl.OdRef)) || len(got.Data) > 0 && !(ok && (kind == impl.OdRead || kind == impl.OdAudit)) {
			t.Errorf("%s: %s", orderShown(c.order), answerShown(got))
		}
	}
}

// TestNumbersOfWhatIsMade has each slot, and each Gen of one, till it is worn out.
func TestNumbersOfWhatIsMade(t *testing.T) {
	h := checkDid(t, "made", newHeap(t, 1024), odEnter(2, 1024, 16), impl.Answer{})
	for slot := range int64(16) {
		h = checkDid(t, "made", h, odMake(2, slot, slot%7), withNumber(128+slot))
	}
	h = checkDid(t, "made", h, odMake(2, 0, 0), withCode(impl.CdSlots))
	for gen := range int64(8) {
		h = checkDid(t, "made", h, odDrop(2, 128+gen*16+9), impl.Answer{})
		if gen < 7 {
			h = checkDid(t, "made", h, odMake(2, 7, 1), withNumber(128+gen*16+16+9))
		}
	}
	h = checkDid(t, "worn out", h, odMake(2, 0, 0), withCode(impl.CdSlots))
	h = checkDid(t, "another Tag", checkDid(t, "gone", h, odLeave(2), impl.Answer{}), odEnter(2, 700, 2), impl.Answer{})
	h = checkDid(t, "another Tag", h, odMake(2, 200, 6), withNumber(256))
	h.NextTag = impl.MaxTag
	h = checkDid(t, "the last Tag", h, odEnter(0, 40, 16), impl.Answer{})
	checkDid(t, "the last Tag", h, odMake(0, 0, 0), withNumber(12800000))
}

// TestNumbersOfRefs has each ref to each thing, and to nothing.
func TestNumbersOfRefs(t *testing.T) {
	for slots := int64(1); slots <= 6; slots++ {
		for refs := int64(1); refs <= 6; refs++ {
			for i := range refs {
				for to := range slots + 1 {
					p := rootOf(3, 0, "data", make([]byte, refs)...)
					p.refs[i] = byte(to)
					pieces := []piece{p}
					for slot := int64(1); slot < slots; slot++ {
						pieces = append(pieces, rootOf(3, slot, ""))
					}
					h := heapOf(64, []impl.Tenant{{}, {}, {}, live(2, 64, slots)}, pieces...)
					for other := range refs {
						want := int64(0)
						if other == i && to > 0 {
							want = 256 + to - 1
						}
						checkDid(t, "ref", h, odRef(3, 256, other), withNumber(want))
					}
					checkDid(t, "ref", h, odRef(3, 256, refs), withCode(impl.CdRange))
				}
			}
		}
	}
}

// TestDataOfReads has each part of what may lie there, any byte among it, and of what nobody wrote to.
func TestDataOfReads(t *testing.T) {
	data := "\x00\xFFa9Z\x80 \n"
	for _, refs := range [][]byte{nil, {1}, {1, 0, 1, 0, 1, 1}} {
		h := heapOf(64, []impl.Tenant{{}, live(5, 64, 3), {}, {}}, fallen(1, 0, "xyz"), rootOf(1, 0, data, refs...), rootOf(1, 2, ""))
		for at := range int64(10) {
			for n := range int64(10) {
				want := withCode(impl.CdRange)
				if at+n <= 8 {
					want = withData(data[at : at+n])
				}
				checkDid(t, "part", h, odRead(1, 640, at, n), want)
			}
		}
		for _, far := range []int64{200, 201, 1024, mostArg - 1, mostArg} {
			for _, x := range [][2]int64{{far, 0}, {0, far}, {1, far}, {far, 1}, {far, far}} {
				checkDid(t, "far", h, odRead(1, 640, x[0], x[1]), withCode(impl.CdRange))
			}
		}
		checkDid(t, "no data", h, odRead(1, 642, 0, 0), impl.Answer{})
		checkDid(t, "no data", h, odRead(1, 642, 0, 1), withCode(impl.CdRange))
	}
	for _, n := range []int64{0, 1, 7, 199, 200} {
		h := checkDid(t, "nobody wrote", heapOf(1024, []impl.Tenant{live(1, 1024, 1), {}, {}, {}}, fallen(0, 0, strings.Repeat("\xFF", 990))), odMake(0, n, 3), withNumber(128))
		checkDid(t, "nobody wrote", h, odRead(0, 128, 0, n), withData(string(make([]byte, n))))
		checkDid(t, "nobody wrote", h, odRead(0, 128, n, 0), impl.Answer{})
	}
	long := strings.Repeat("0123456789abcdef\xF0", 58)
	h := heapOf(1024, []impl.Tenant{live(1, 1024, 1), {}, {}, {}}, rootOf(0, 0, long))
	checkDid(t, "more than MaxData", h, odRead(0, 128, 0, 986), withData(long))
	checkDid(t, "more than MaxData", h, odRead(0, 128, 300, 201), withData(long[300:501]))
}

// TestDataOfAudits has each number that each of the four may be, in two bytes, the lower one first.
func TestDataOfAudits(t *testing.T) {
	for promised := range int64(1025) {
		h := heapOf(1024, []impl.Tenant{{}, {}, live(3, promised, 5), {}})
		checkDid(t, "promised", h, odAudit(2), withData(string([]byte{0, 0, 0, 0, 5, 0, byte(promised % 256), byte(promised / 256)})))
	}
	for size := int64(6); size <= 1000; size += 7 {
		h := heapOf(1024, []impl.Tenant{{}, {}, {}, live(3, 1000, 2)}, rootOf(3, 1, strings.Repeat("u", int(size-6))))
		checkDid(t, "used", h, odAudit(3), withData(string([]byte{byte(size % 256), byte(size / 256), 1, 0, 1, 0, 0xE8, 3})))
	}
	for slots := int64(1); slots <= 16; slots++ {
		for used := range slots + 1 {
			var pieces []piece
			for slot := range used {
				pieces = append(pieces, rootOf(0, slot, ""))
			}
			h := heapOf(256, []impl.Tenant{live(1, 256, slots), {}, {}, {}}, pieces...)
			checkDid(t, "slots", h, odAudit(0), withData(string([]byte{byte(used * 6), 0, byte(used), 0, byte(slots - used), 0, 0, 1})))
		}
	}
	for _, c := range []struct {
		size, promised int64
		data           string
	}{
		{6, 255, "\x06\x00\x01\x00\x02\x00\xFF\x00"}, {255, 255, "\xFF\x00\x01\x00\x02\x00\xFF\x00"}, {255, 256, "\xFF\x00\x01\x00\x02\x00\x00\x01"},
		{256, 257, "\x00\x01\x01\x00\x02\x00\x01\x01"}, {257, 511, "\x01\x01\x01\x00\x02\x00\xFF\x01"}, {512, 512, "\x00\x02\x01\x00\x02\x00\x00\x02"},
		{1000, 1023, "\xE8\x03\x01\x00\x02\x00\xFF\x03"}, {999, 1024, "\xE7\x03\x01\x00\x02\x00\x00\x04"},
	} {
		h := heapOf(1024, []impl.Tenant{{}, live(9, c.promised, 3), {}, {}}, rootOf(1, 0, strings.Repeat("\xFF", int(c.size-6))))
		checkDid(t, "in two bytes", h, odAudit(1), withData(c.data))
	}
	checkDid(t, "all that there is", fullHeap(16), odAudit(0), withData("\x00\x01\x10\x00\x00\x00\x00\x01"))
}

// TestTextsThatAreWritten has none, one, as many as there are and one too many, from each place on.
func TestTextsThatAreWritten(t *testing.T) {
	for size := range int64(9) {
		h := heapOf(64, []impl.Tenant{live(1, 40, 1), {}, {}, {}}, nobodys(7, 0), rootOf(0, 0, strings.Repeat("\x01", int(size)), 1, 0))
		for at := range size + 2 {
			for n := range size + 2 {
				text := plainBytes[30-n : 30]
				want := impl.Answer{}
				if at+n > size {
					want = withCode(impl.CdRange)
				}
				got := checkDid(t, "written", h, odWrite(0, 128, at, text), want)
				if want.Code == impl.CdOk {
					lies := strings.Repeat("\x01", int(at)) + text + strings.Repeat("\x01", int(size-at-n))
					checkDid(t, "written", got, odRead(0, 128, 0, size), withData(lies))
				}
			}
		}
	}
	h := heapOf(1024, []impl.Tenant{{}, {}, {}, live(1, 1024, 2)}, rootOf(3, 0, strings.Repeat("\x01", 200)), rootOf(3, 1, strings.Repeat("\x02", 201)))
	for _, n := range []int64{0, 1, 36, 199, 200} {
		text := strings.Repeat(plainBytes, 6)[:n]
		got := checkDid(t, "as long as may be", h, odWrite(3, 128, 200-n, text), impl.Answer{})
		checkDid(t, "as long as may be", got, odRead(3, 128, 200-n, n), withData(text))
		checkDid(t, "as long as may be", h, odWrite(3, 129, 202-n, text), withCode(impl.CdRange))
		checkDid(t, "as long as may be", h, odWrite(3, 129, 201-n, text), impl.Answer{})
	}
	checkDid(t, "too long", h, odWrite(3, 129, 0, strings.Repeat("a", 201)), withCode(impl.CdBad))
	for b := range 256 {
		want := withCode(impl.CdBad)
		if strings.IndexByte(plainBytes, byte(b)) >= 0 {
			want = impl.Answer{}
		}
		got := checkDid(t, "a byte", h, odWrite(3, 128, 7, string([]byte{byte(b)})), want)
		if want.Code == impl.CdOk {
			checkDid(t, "a byte", got, odRead(3, 128, 6, 3), withData("\x01"+string([]byte{byte(b)})+"\x01"))
		}
	}
}

// TestLinksByOrders refers to each thing of its own, to nothing, and to what is no number of its own; what is lost by it is good for nothing then.
func TestLinksByOrders(t *testing.T) {
	for _, gap := range []piece{gapOf(0), gapOf(11)} {
		h := heapOf(128, []impl.Tenant{live(1, 64, 6), {}, live(2, 40, 2), {}},
			rootOf(0, 0, "ab", 2, 0, 3), heldOf(0, 1, "c", 4), fallen(0, 4, "old"), gap, rootOf(2, 0, "his", 0), heldOf(0, 2, "", 0), heldOf(0, 3, "d"), rootOf(0, 4, "e"))
		for i := range int64(3) {
			for _, to := range []int64{128, 129, 130, 131, 132, 0} {
				got := checkDid(t, "link", h, odLink(0, 128, i, to), impl.Answer{})
				checkDid(t, "link", got, odRef(0, 128, i), withNumber(to))
			}
			for _, to := range []int64{133, 144, 256, 257, 1, 127, mostArg} {
				checkDid(t, "link to what is not its own", h, odLink(0, 128, i, to), withCode(impl.CdTicket))
				checkDid(t, "link beyond", h, odLink(0, 128, 3+i, to), withCode(impl.CdRange))
				checkDid(t, "link of what is not its own", h, odLink(2, 128, i, to), withCode(impl.CdTicket))
				checkDid(t, "link of who is not there", h, odLink(1, 128, i, to), withCode(impl.CdNone))
			}
		}
		h = checkDid(t, "link", h, odLink(0, 128, 1, 131), impl.Answer{})
		h = checkDid(t, "lost", h, odLink(0, 128, 0, 128), impl.Answer{})
		for number, code := range map[int64]int64{128: 0, 129: 7, 130: 0, 131: 0, 132: 0} {
			checkDid(t, "lost", h, odRead(0, number, 0, 0), withCode(code))
			checkDid(t, "lost", h, odRoot(0, number), withCode(code))
		}
		h = checkDid(t, "kept", h, odRoot(0, 131), impl.Answer{})
		h = checkDid(t, "all lost but what is held", h, odDrop(0, 128), impl.Answer{})
		checkDid(t, "all lost but what is held", h, odAudit(0), withData("\x0E\x00\x02\x00\x04\x00\x40\x00"))
	}
}

// TestEnteringByOrders has what is left to promise, none of it and one more, and each number of slots.
func TestEnteringByOrders(t *testing.T) {
	for _, size := range []int64{64, 65, 500, 1023, 1024} {
		for _, before := range []int64{0, 1, 30, size} {
			h := heapOf(size, []impl.Tenant{{}, live(4, before, 2), {}, {}})
			left := size - before
			for who := range int64(4) {
				for _, bytes := range []int64{0, left / 2, left, left + 1, 1024, 1025, mostArg} {
					want := impl.Answer{}
					switch {
					case bytes > 1024:
						want.Code = impl.CdBad
					case who == 1:
						want.Code = impl.CdThere
					case bytes > left:
						want.Code = impl.CdRoom
					}
					got := checkDid(t, "enter", h, odEnter(who, bytes, 3), want)
					if want.Code == impl.CdOk {
						checkDid(t, "enter", got, odAudit(who), withData(string(inTwoBytes(0, 0, 3, bytes))))
					}
				}
				for _, slots := range []int64{0, 1, 2, 15, 16, 17, 256, 257, mostArg} {
					want := impl.Answer{}
					switch {
					case slots < 1 || slots > 16:
						want.Code = impl.CdBad
					case who == 1:
						want.Code = impl.CdThere
					}
					checkDid(t, "slots", h, odEnter(who, left, slots), want)
				}
			}
		}
	}
}

// TestComingAndGoingByOrders has all four come and go in turn, each time with another Tag.
func TestComingAndGoingByOrders(t *testing.T) {
	h := newHeap(t, 64)
	for turn := range int64(24) {
		who := turn % 4
		h = checkDid(t, "in turn", h, odEnter(who, 16, 1+turn%16), impl.Answer{})
		h = checkDid(t, "in turn", h, odMake(who, turn%8, turn%3), withNumber((turn+1)*128))
		h = checkDid(t, "in turn", h, odWrite(who, (turn+1)*128, 0, "secrets"[:turn%8]), impl.Answer{})
		if turn%5 == 0 {
			h, _ = checkDidAsTold(t, "in turn", h, odBegin())
		}
		h, _ = checkDidAsTold(t, "in turn", h, odStep())
		h, _ = checkDidAsTold(t, "in turn", h, odLeave((who+2)%4))
	}
	for who := range int64(4) {
		h, _ = checkDidAsTold(t, "all gone", h, odLeave(who))
	}
	h = checkDid(t, "all gone", checkDid(t, "all gone", h, odSlide(), impl.Answer{}), odSlide(), impl.Answer{})
	want := newHeap(t, 64)
	want.NextTag = 25
	checkAnswer(t, "all gone", h, 0, want, 0)
}

// TestSlidesByOrders has a slide begun, stepped and done, as it comes by the calls; OdBegin and OdStep are refused where they must be.
func TestSlidesByOrders(t *testing.T) {
	steps, gaps := 0, 0
	for _, c := range auditedHeaps() {
		h := c.heap
		done := checkDid(t, c.what, h, odSlide(), impl.Answer{})
		if !h.Sliding {
			checkDid(t, c.what, h, odStep(), withCode(impl.CdIdle))
			h = checkDid(t, c.what, h, odBegin(), impl.Answer{})
		}
		for left := stepsTold(h); left > 0; left-- {
			checkDid(t, c.what, h, odBegin(), withCode(impl.CdBusy))
			checkAnswer(t, c.what, checkDid(t, c.what, h, odSlide(), impl.Answer{}), 0, done, 0)
			was := h
			h = checkDid(t, c.what, h, odStep(), impl.Answer{})
			checkUnnoticed(t, c.what, h, was)
			if steps++; h.Low < h.High {
				gaps++
			}
		}
		checkDid(t, c.what, h, odStep(), withCode(impl.CdIdle))
		checkAnswer(t, c.what, h, 0, done, 0)
		again := checkDid(t, c.what, h, odSlide(), impl.Answer{})
		checkTogether(t, c.what, again)
	}
	if steps < 250 || gaps < 60 {
		t.Errorf("just %d steps, with %d gaps", steps, gaps)
	}
}

// ordersIn are of each Kind, for a right heap: some of all four tenants, and of the first of their things; some of them are refused.
func ordersIn(h impl.Heap, things int) []impl.Order {
	left := int64(len(h.Floor)) - promisedBytes(h.Tenants)
	list := []impl.Order{odBegin(), odStep(), odSlide()}
	for who := range int64(4) {
		list = append(list, odEnter(who, 0, 1), odEnter(who, left, 16), odEnter(who, left+1, 2), odEnter(who, 1025, 1), odLeave(who), odMake(who, 0, 0), odMake(who, 3, 2), odMake(who, 200, 6), odAudit(who))
	}
	for i, x := range thingsIn(h) {
		if i >= things {
			break
		}
		who, other, number, n := x.who, (x.who+1)%4, x.number, min(x.data, 200)
		text := strings.Repeat(plainBytes, 6)[:n]
		list = append(list, odRead(who, number, 0, x.data), odRead(who, number, x.data, 1), odRead(other, number, 0, 0), odRead(who, number+16, 0, 0))
		list = append(list, odWrite(who, number, x.data-n, text), odWrite(who, number, 0, ""), odWrite(who, number, x.data, "a"), odWrite(other, number, 0, text))
		for i := range x.refs + 1 {
			list = append(list, odRef(who, number, i), odLink(who, number, i, 0), odLink(who, number, i, number), odLink(who, number, i, thingsIn(h)[0].number))
		}
		list = append(list, odRef(other, number, 0), odLink(other, number, 0, 0), odRoot(who, number), odRoot(other, number), odDrop(who, number), odDrop(who, number+1))
	}
	return list
}

// TestOrdersInRightHeaps has each of them twice, one behind the other, as the second one may be of what is there no more.
func TestOrdersInRightHeaps(t *testing.T) {
	codes := map[int64]int{}
	for _, c := range auditedHeaps() {
		for _, o := range ordersIn(c.heap, 6) {
			got, answer := checkDidAsTold(t, c.what, c.heap, o)
			codes[answer.Code]++
			_, answer = checkDidAsTold(t, c.what+": twice", got, o)
			codes[answer.Code]++
		}
	}
	checkOften(t, codes, 30, 0, 1, 2, 3, 4, 5, 7, 8, 9, 10)
}

// TestOrdersAtEachStep has all that may be done at each step of a slide; what is answered does not hang on the step, but for OdBegin and OdStep.
func TestOrdersAtEachStep(t *testing.T) {
	gaps, below := 0, 0
	for _, still := range []impl.Heap{slidTouched(), busyHeap(), auditedHeap(), heapOf(85, []impl.Tenant{{}, live(1, 66, 5), live(2, 19, 3), {}}, slidden()...)} {
		for steps := range len(impl.BlocksOf(still)) + 2 {
			h := steppedBy(steps, still)
			if h.Low < h.High {
				gaps++
			}
			for _, o := range ordersIn(still, 8) {
				what := said("at step", int64(steps))
				_, answer := orderTold(still, o)
				if o.Kind == impl.OdBegin || o.Kind == impl.OdStep {
					_, answer = orderTold(h, o)
				}
				got := checkDid(t, what, h, o, answer)
				if answer.Code == impl.CdOk && got.Sliding && got.Low < got.High {
					below++
					checkDid(t, what+": then done", got, odSlide(), impl.Answer{})
				}
			}
		}
	}
	if gaps < 15 || below < 300 {
		t.Errorf("%d heaps have a gap, and of %d orders one was left", gaps, below)
	}
}

// TestEveryShortScript has each script of five of a few orders, from nothing and from where some was made, as far as nothing is refused.
func TestEveryShortScript(t *testing.T) {
	few := []impl.Order{
		odEnter(0, 30, 2), odEnter(1, 34, 1), odLeave(0), odMake(0, 5, 1), odMake(1, 20, 2), odLink(0, 128, 0, 129), odLink(0, 128, 0, 128), odDrop(0, 128), odDrop(1, 256),
		odRead(1, 256, 0, 3), odWrite(1, 256, 18, "abc"), odBegin(), odStep(), odSlide(),
	}
	codes := map[int64]int{}
	var play func(h impl.Heap, depth int)
	play = func(h impl.Heap, depth int) {
		for _, o := range few {
			got, answer := impl.Did(h, o)
			told, want := orderTold(h, o)
			if codes[want.Code]++; !sameHeap(got, told) || !sameAnswer(answer, want) || !impl.HeapOk(got) {
				t.Fatalf("short: %s: %s, want %s: %s, of %s", orderShown(o), answerShown(answer), answerShown(want), heapShown(got), heapShown(h))
			}
			if depth > 1 && answer.Code == impl.CdOk {
				play(got, depth-1)
			}
		}
	}
	h := newHeap(t, 64)
	play(h, 5)
	for _, o := range []impl.Order{odEnter(0, 30, 2), odMake(0, 5, 1), odEnter(1, 34, 1), odMake(1, 20, 2), odMake(0, 3, 0)} {
		h, _ = checkDidAsTold(t, "short", h, o)
	}
	play(h, 5)
	checkOften(t, codes, 100, 0, 2, 3, 5, 7, 8, 9, 10)
}

// rightOrders are of each Kind, with all that its row tells set.
func rightOrders() []impl.Order {
	return []impl.Order{
		odEnter(1, 28, 16), odLeave(2), odMake(2, 5, 1), odRead(2, 1025, 1, 2), odWrite(2, 1025, 1, "a9"), odRef(2, 1026, 1), odLink(2, 1026, 1, 1025), odRoot(2, 1025), odDrop(2, 1026),
		odAudit(2), odBegin(), odStep(), odSlide(),
	}
}

func TestRightOrders(t *testing.T) {
	for i, o := range rightOrders() {
		if o.Kind != int64(i)+1 {
			t.Fatal(orderShown(o))
		}
		checkOrder(t, "right", o, true)
		checkOrder(t, "nothing but the Kind", impl.Order{Kind: o.Kind}, true)
	}
	checkOrder(t, "zero", impl.Order{}, false)
	checkOrder(t, "all there is", odWrite(3, mostArg, mostArg, strings.Repeat("z9a0", 50)), true)
	checkOrder(t, "all there is", odRead(3, mostArg, mostArg, mostArg), true)
	checkOrder(t, "all there is", odLink(3, mostArg, mostArg, mostArg), true)
}

// TestKindsThatThereAreNot has nothing else that could be wrong, and all that might be.
func TestKindsThatThereAreNot(t *testing.T) {
	kinds := append(farNumbers(), -14, -13, -1, 0, 14, 15, 16, 255, 256, 257, 269, 65537, 1<<32+11, 1<<32+13, 1<<62+12, math.MinInt64+11, math.MinInt64+13, math.MaxInt64)
	for _, kind := range kinds {
		if kind >= 1 && kind <= 13 {
			continue
		}
		for _, o := range append(rightOrders(), impl.Order{}) {
			o.Kind = kind
			checkOrder(t, "no Kind", o, false)
		}
		checkDid(t, "no Kind", busyHeap(), impl.Order{Kind: kind}, withCode(impl.CdBad))
	}
}

// TestFieldsAtTheirEdges has each field of each Kind at its smallest, its largest, one below and above, and far from it.
func TestFieldsAtTheirEdges(t *testing.T) {
	values := append(farNumbers(), -1, 0, 1, 2, 3, 4, 5, 16, 255, 256, mostArg-1, mostArg, mostArg+1, mostArg+2, 2*mostArg, math.MinInt64, math.MaxInt64, math.MinInt64+3, 1<<32+1, 1<<32+mostArg)
	for _, right := range rightOrders() {
		row := rowOf(right.Kind)
		for _, n := range values {
			for i, field := range []string{"w", "a", "b", "c"} {
				for _, base := range []impl.Order{right, {Kind: right.Kind}} {
					*[]*int64{&base.Who, &base.A, &base.B, &base.C}[i] = n
					most := []int64{3, mostArg, mostArg, mostArg}[i]
					checkOrder(t, "edge "+field, base, n == 0 || strings.Contains(row, field) && n > 0 && n <= most)
				}
			}
		}
	}
}

// TestTextsAtTheirEdges has Texts of each length up to more than MaxData, of each Kind; just one that writes has a Text.
func TestTextsAtTheirEdges(t *testing.T) {
	for _, right := range rightOrders() {
		for n := range 260 {
			for _, text := range []string{"a", "0"} {
				checkOrder(t, "length", changedBy(right, func(o *impl.Order) { o.Text = strings.Repeat(text, n) }), n == 0 || n <= 200 && right.Kind == 5)
			}
		}
		for _, n := range []int{1 << 10, 1<<16 + 1, 1 << 20} {
			checkOrder(t, "length", changedBy(right, func(o *impl.Order) { o.Text = strings.Repeat("a", n) }), false)
		}
	}
}

// TestEachByteAsText has it alone, at the beginning, in the midst and at the end, in a short Text and in one that is as long as may be.
func TestEachByteAsText(t *testing.T) {
	for b := range 256 {
		one := string([]byte{byte(b)})
		plain := b >= 'a' && b <= 'z' || b >= '0' && b <= '9'
		for _, text := range []string{one, one + "bc", "a" + one + "c", "ab" + one, one + one, strings.Repeat("x", 199) + one, one + strings.Repeat("7", 199), strings.Repeat("x", 100) + one + strings.Repeat("y", 99)} {
			checkOrder(t, "a byte", odWrite(1, 1, 1, text), plain)
			checkOrder(t, "a byte, no Text told", changedBy(odRead(1, 1, 1, 1), func(o *impl.Order) { o.Text = text }), false)
		}
	}
	for _, letter := range []string{
		"ä", "é", "ß", "š", "İ", "ı", "ａ", "а", "٣", "１", "²", "𝐚", "a\u0301", "\u0161", "\u0130", "\uFFFD", "\u0000", "A", "Z", " ", "-", "_", ".", "\n", "\r", "\t", "\x7F", "\x80", "\xC3", "\xFF", "\xED\xA0\x80",
	} {
		for _, text := range []string{letter, letter + "b", "a" + letter, "a" + letter + "b", strings.Repeat("a", 200-len(letter)) + letter} {
			checkOrder(t, "a letter that may not be", odWrite(0, 1, 1, text), false)
		}
	}
}

// TestWhatIsNotTold has each field that a row does not tell set to something, alone and with others.
func TestWhatIsNotTold(t *testing.T) {
	for _, right := range rightOrders() {
		row := rowOf(right.Kind)
		for mask := range 32 {
			for _, n := range []int64{1, 3} {
				o, is := impl.Order{Kind: right.Kind}, true
				for i, field := range []*int64{&o.Who, &o.A, &o.B, &o.C} {
					if mask>>i&1 == 1 {
						*field = n
						is = is && strings.Contains(row, "wabc"[i:i+1])
					}
				}
				if mask>>4 == 1 {
					o.Text = "a"
					is = is && strings.Contains(row, "t")
				}
				checkOrder(t, "what is told", o, is)
			}
		}
	}
}

// wrongOrders are of each Kind, and of none, each wrong for one reason.
func wrongOrders() []impl.Order {
	list := []impl.Order{{}, {Kind: -1}, {Kind: 14}, {Kind: math.MinInt64}, {Kind: math.MaxInt64}}
	for _, right := range rightOrders() {
		for _, change := range []func(o *impl.Order){
			func(o *impl.Order) { o.Who = 4 }, func(o *impl.Order) { o.Who = -1 }, func(o *impl.Order) { o.Who = math.MaxInt64 },
			func(o *impl.Order) { o.A = mostArg + 1 }, func(o *impl.Order) { o.A = -1 }, func(o *impl.Order) { o.A = math.MinInt64 }, func(o *impl.Order) { o.A += 1 << 32 },
			func(o *impl.Order) { o.B = mostArg + 1 }, func(o *impl.Order) { o.B = -1 }, func(o *impl.Order) { o.B = math.MinInt64 }, func(o *impl.Order) { o.B += 1 << 32 },
			func(o *impl.Order) { o.C = mostArg + 1 }, func(o *impl.Order) { o.C = -1 }, func(o *impl.Order) { o.C = math.MinInt64 }, func(o *impl.Order) { o.C += 1 << 32 },
			func(o *impl.Order) { o.Text += "A" }, func(o *impl.Order) { o.Text += "\x00" }, func(o *impl.Order) { o.Text = strings.Repeat("a", 201) },
			func(o *impl.Order) { o.Who++ }, func(o *impl.Order) { o.A++ }, func(o *impl.Order) { o.B++ }, func(o *impl.Order) { o.C++ }, func(o *impl.Order) { o.Text += "a" },
		} {
			if wrong := changedBy(right, change); !orderRight(wrong) {
				list = append(list, wrong)
			}
		}
	}
	return list
}

// TestWrongOrdersDoNothing has the heap as it is, whatever the Kind would do with it.
func TestWrongOrdersDoNothing(t *testing.T) {
	kinds := map[int64]int{}
	for _, h := range []impl.Heap{busyHeap(), slidingHeap(), slidTouched(), newHeap(t, 64), lastTag(), fullHeap(16), steppedBy(3, busyHeap())} {
		for _, o := range wrongOrders() {
			kinds[o.Kind]++
			checkOrder(t, "wrong", o, false)
			checkAnswer(t, "wrong: "+orderShown(o), checkDid(t, "wrong", h, o, withCode(impl.CdBad)), 0, h, 0)
		}
	}
	checkOften(t, kinds, 100, 1, 2, 3, 4, 5, 6, 7, 8, 9, 10, 11, 12, 13)
}

// TestRightButRefused tells an Order that is right and that its function refuses from one that is not right, though both change nothing, and both may have CdBad.
func TestRightButRefused(t *testing.T) {
	for _, c := range []struct {
		order impl.Order
		code  int64
		is    bool
	}{
		{odEnter(1, 1025, 1), impl.CdBad, true}, {odEnter(1, mostArg, 1), impl.CdBad, true}, {odEnter(1, mostArg+1, 1), impl.CdBad, false}, {odEnter(1, -1, 1), impl.CdBad, false},
		{odEnter(1, 0, 0), impl.CdBad, true}, {odEnter(1, 0, 17), impl.CdBad, true}, {odEnter(1, 0, -1), impl.CdBad, false}, {odEnter(4, 0, 1), impl.CdBad, false},
		{odLeave(1), impl.CdNone, true}, {odLeave(4), impl.CdBad, false}, {odLeave(-1), impl.CdBad, false},
		{odMake(0, 201, 0), impl.CdBad, true}, {odMake(0, 0, 7), impl.CdBad, true}, {odMake(0, mostArg+1, 0), impl.CdBad, false}, {odMake(0, -1, 0), impl.CdBad, false}, {odMake(4, 0, 0), impl.CdBad, false},
		{odRead(0, mostArg, 0, 0), impl.CdTicket, true}, {odRead(0, mostArg+1, 0, 0), impl.CdBad, false}, {odRead(0, -1, 0, 0), impl.CdBad, false},
		{odRead(0, 496, mostArg, 0), impl.CdRange, true}, {odRead(0, 496, mostArg+1, 0), impl.CdBad, false}, {odRead(0, 496, -1, 1), impl.CdBad, false},
		{odRead(0, 496, 0, mostArg), impl.CdRange, true}, {odRead(0, 496, 0, mostArg+1), impl.CdBad, false}, {odRead(0, 496, 1, -1), impl.CdBad, false},
		{odWrite(0, 496, 0, "abc"), impl.CdRange, true}, {odWrite(0, 496, 0, "aB"), impl.CdBad, false}, {odWrite(0, 496, 0, strings.Repeat("a", 200)), impl.CdRange, true},
		{odWrite(0, 496, 0, strings.Repeat("a", 201)), impl.CdBad, false}, {odWrite(1, 496, 0, "a"), impl.CdNone, true}, {odWrite(1, 496, 0, "\xFF"), impl.CdBad, false},
		{odRef(0, 496, mostArg), impl.CdRange, true}, {odRef(0, 496, mostArg+1), impl.CdBad, false}, {odRef(0, 496, -1), impl.CdBad, false},
		{odLink(0, 496, 0, mostArg), impl.CdTicket, true}, {odLink(0, 496, 0, mostArg+1), impl.CdBad, false}, {odLink(0, 496, 0, -1), impl.CdBad, false},
		{odRoot(0, 1), impl.CdTicket, true}, {odRoot(0, -1), impl.CdBad, false}, {changedBy(odRoot(0, 496), func(o *impl.Order) { o.B = 1 }), impl.CdBad, false},
		{odDrop(2, 496), impl.CdTicket, true}, {odDrop(2, -16), impl.CdBad, false}, {changedBy(odDrop(0, 496), func(o *impl.Order) { o.C = 1 }), impl.CdBad, false},
		{odAudit(1), impl.CdNone, true}, {odAudit(4), impl.CdBad, false}, {changedBy(odAudit(0), func(o *impl.Order) { o.A = 1 }), impl.CdBad, false},
		{odStep(), impl.CdIdle, true}, {changedBy(odStep(), func(o *impl.Order) { o.Who = 1 }), impl.CdBad, false}, {changedBy(odBegin(), func(o *impl.Order) { o.Text = "a" }), impl.CdBad, false},
	} {
		checkOrder(t, "right or not", c.order, c.is)
		checkAnswer(t, "right or not", checkDid(t, "right or not", busyHeap(), c.order, withCode(c.code)), 0, busyHeap(), 0)
	}
}

// TestPrivate has each Kind, right and not.
func TestPrivate(t *testing.T) {
	for _, o := range rightOrders() {
		want := o.Kind >= impl.OdMake && o.Kind <= impl.OdAudit
		for _, x := range []impl.Order{o, {Kind: o.Kind}} {
			if got := impl.Private(x); got != want {
				t.Errorf("Private: %s: got %v, want %v", orderShown(x), got, want)
			}
		}
	}
	for _, o := range wrongOrders() {
		if impl.Private(o) {
			t.Errorf("Private: %s, which is not right", orderShown(o))
		}
	}
}

// TestWrongHeapsAreOrderedNothing has the zero Heap, and CdBad, ahead of all else, for each Kind, and for Orders that are not right.
func TestWrongHeapsAreOrderedNothing(t *testing.T) {
	orders := slices.Concat(rightOrders(), wrongOrders(), []impl.Order{
		odEnter(0, 0, 1), odLeave(1), odMake(1, 0, 0), odRead(0, 496, 0, 2), odWrite(0, 496, 0, "ab"), odRef(0, 496, 0), odLink(0, 496, 0, 0), odRoot(0, 385), odDrop(0, 385), odAudit(0),
	})
	for _, c := range wrongHeaps() {
		for _, o := range orders {
			got := checkDid(t, c.what, c.heap, o, withCode(impl.CdBad))
			if len(got.Floor) != 0 || got.Top != 0 || got.Sliding || got.Low != 0 || got.High != 0 || len(got.Tenants) != 0 || got.NextTag != 0 {
				t.Errorf("%s: %s: got %s", c.what, orderShown(o), heapShown(got))
			}
		}
	}
}

func TestStrangeFieldsOfOrders(t *testing.T) {
	withStrangeFields(func(what string, h impl.Heap) {
		for _, o := range []impl.Order{odEnter(1, 28, 2), odMake(2, 5, 1), odRead(0, 496, 0, 2), odRef(2, 1026, 0), odDrop(0, 496), odAudit(0), odStep(), odSlide(), {}} {
			checkDidAsTold(t, what, h, o)
		}
	})
}

// checkDidIsNew tells that neither the Heap nor the Data of an answer shares memory with the argument, with another answer, or with each other.
func checkDidIsNew(t *testing.T, what string, h impl.Heap, args []kept, o impl.Order) {
	t.Helper()
	what += ": " + orderShown(o)
	checkNewHeaps(t, what, args, func() impl.Heap {
		got, _ := impl.Did(h, o)
		return got
	})
	checkNew(t, what, args, func() []byte {
		_, answer := impl.Did(h, o)
		return answer.Data
	})
	got, answer := impl.Did(h, o)
	data := slices.Clone(answer.Data)
	markLists(got, 9)
	if !bytes.Equal(answer.Data, data) {
		t.Errorf("%s: the Data is %v, was %v", what, answer.Data, data)
	}
	got, answer = impl.Did(h, o)
	was := twin(got)
	scribble(answer.Data, otherByte)
	checkAnswer(t, what+", when the Data is written to", got, 0, was, 0)
	for _, a := range args {
		a.checkSame(t, what+", when the Data is written to")
	}
}

func TestOrdersAreNew(t *testing.T) {
	heaps := append(rightHeaps(), namedHeap{"slid", slidTouched()}, namedHeap{"full", fullTable()})
	for steps := range len(impl.BlocksOf(slidTouched())) + 1 {
		heaps = append(heaps, namedHeap{said("under way", int64(steps)), steppedBy(steps, slidTouched())})
	}
	for _, c := range heaps {
		h, args := withSpareHeap(c.heap)
		orders := append(ordersIn(c.heap, 3), impl.Order{}, odLeave(4), odRead(0, -1, 0, 0), odWrite(0, 496, 0, "A"), odMake(0, 1, -1))
		for _, o := range orders {
			checkDidIsNew(t, c.what, h, args, o)
		}
	}
	for _, c := range wrongHeaps() {
		h, args := withSpareHeap(c.heap)
		for _, o := range append(rightOrders(), impl.Order{}, odLeave(4)) {
			checkDidIsNew(t, c.what, h, args, o)
		}
	}
}

// TestOneHeapOrderedTwice has answers made of one heap: none shows what was done to the others, nor does the heap.
func TestOneHeapOrderedTwice(t *testing.T) {
	for _, fresh := range []func() impl.Heap{busyHeap, slidingHeap, slidTouched, auditedHeap} {
		h := fresh()
		orders := ordersIn(h, 5)
		var heaps []impl.Heap
		var answers []impl.Answer
		for _, o := range orders {
			got, answer := impl.Did(h, o)
			heaps, answers = append(heaps, got), append(answers, answer)
		}
		for i, o := range orders {
			want, wantAnswer := orderTold(fresh(), o)
			checkAnswer(t, orderShown(o), heaps[i], 0, want, 0)
			if !sameAnswer(answers[i], wantAnswer) {
				t.Errorf("%s: the answer is %s, was %s", orderShown(o), answerShown(answers[i]), answerShown(wantAnswer))
			}
			markLists(heaps[i], int64(i))
			scribble(answers[i].Data, otherByte)
		}
		checkAnswer(t, "what it was made of", h, 0, fresh(), 0)
	}
}
