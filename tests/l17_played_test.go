package tests

import (
	"math"
	"slices"
	"strings"
	"testing"

	"loop.example/g00750/impl"
)

// playedTold and heardTold are written from the chapter's words.
func playedTold(h impl.Heap, list []impl.Order) (impl.Heap, []impl.Answer) {
	if _, is := toldOf(h); !is || len(list) > 1000 {
		return impl.Heap{}, nil
	}
	var answers []impl.Answer
	for _, o := range list {
		var a impl.Answer
		h, a = orderTold(h, o)
		answers = append(answers, a)
	}
	return h, answers
}

func heardTold(list []impl.Order, answers []impl.Answer, who int64) []impl.Answer {
	var heard []impl.Answer
	for i, o := range list {
		slides := o.Kind == 11 || o.Kind == 12 || o.Kind == 13
		if i < len(answers) && o.Who == who && !slides {
			heard = append(heard, answers[i])
		}
	}
	return heard
}

func sameAnswers(a, b []impl.Answer) bool { return slices.EqualFunc(a, b, sameAnswer) }

func answersShown(list []impl.Answer) string {
	var shown []string
	for _, a := range list {
		shown = append(shown, answerShown(a))
	}
	return strings.Join(shown, "; ")
}

func checkAnswers(t *testing.T, what string, got, want []impl.Answer) {
	t.Helper()
	if len(got) != len(want) {
		t.Errorf("%s: %d answers, want %d", what, len(got), len(want))
		return
	}
	for i := range want {
		if !sameAnswer(got[i], want[i]) {
			t.Errorf("%s: answer %d is %s, want %s", what, i, answerShown(got[i]), answerShown(want[i]))
		}
	}
}

// didInTurn is each order done by Did, one after another.
func didInTurn(h impl.Heap, list []impl.Order) (impl.Heap, []impl.Answer) {
	var answers []impl.Answer
	for _, o := range list {
		var a impl.Answer
		h, a = impl.Did(h, o)
		answers = append(answers, a)
	}
	return h, answers
}

// checkPlayed holds a script against the words and, where it may be played, against Did; what came stays as it was.
func checkPlayed(t *testing.T, what string, h impl.Heap, list []impl.Order) (impl.Heap, []impl.Answer) {
	t.Helper()
	was, listWas := twin(h), slices.Clone(list)
	got, answers := impl.Played(h, list)
	told, toldAnswers := playedTold(h, list)
	checkAnswer(t, what, got, 0, told, 0)
	checkAnswers(t, what, answers, toldAnswers)
	if _, is := toldOf(h); is && len(list) <= impl.MaxOrders {
		did, didAnswers := didInTurn(h, list)
		checkAnswer(t, what+": in turn", got, 0, did, 0)
		checkAnswers(t, what+": in turn", answers, didAnswers)
	}
	if !sameHeap(h, was) || !slices.Equal(list, listWas) {
		t.Errorf("%s: the heap that came is %s, was %s, or the list is another one", what, heapShown(h), heapShown(was))
	}
	return got, answers
}

// checkNotPlayed has the zero Heap, and nothing.
func checkNotPlayed(t *testing.T, what string, h impl.Heap, list []impl.Order) {
	t.Helper()
	got, answers := checkPlayed(t, what, h, list)
	if len(got.Floor) != 0 || got.Top != 0 || got.Sliding || got.Low != 0 || got.High != 0 || len(got.Tenants) != 0 || got.NextTag != 0 || len(answers) != 0 {
		t.Errorf("%s: got %s, %d answers", what, heapShown(got), len(answers))
	}
}

// checkHeard takes what is wanted from whoever asks; the words have to tell the same.
func checkHeard(t *testing.T, what string, list []impl.Order, answers []impl.Answer, who int64, want ...impl.Answer) {
	t.Helper()
	what += said(": heard by", who)
	checkAnswers(t, what, impl.HeardBy(list, answers, who), want)
	checkAnswers(t, what+": by the words", heardTold(list, answers, who), want)
}

// writtenScript is orderScript with its orders and its answers apart.
func writtenScript() ([]impl.Order, []impl.Answer) {
	var list []impl.Order
	var answers []impl.Answer
	for _, c := range orderScript() {
		list, answers = append(list, c.order), append(answers, c.answer)
	}
	return list, answers
}

func TestTheScriptPlayed(t *testing.T) {
	list, want := writtenScript()
	h, answers := checkPlayed(t, "script", newHeap(t, 128), list)
	checkAnswers(t, "script", answers, want)
	checkRightHeap(t, "script", h)
	if impl.MaxOrders != 1000 || h.Top != 91 || h.NextTag != 5 {
		t.Errorf("MaxOrders %d; %s", impl.MaxOrders, heapShown(h))
	}
	for i := range list {
		_, answers := impl.Played(newHeap(t, 128), list[:i])
		checkAnswers(t, said("so far", int64(i)), answers, want[:i])
	}
}

// TestPlayedOnEachFloor has four tenants do all that there is in turn.
func TestPlayedOnEachFloor(t *testing.T) {
	for _, size := range floorSizes() {
		h, answers := checkPlayed(t, said("floor", size), newHeap(t, size), scriptFor(size))
		checkRightHeap(t, said("floor", size), h)
		codes := map[int64]int{}
		for _, a := range answers {
			codes[a.Code]++
		}
		checkOften(t, codes, 50, impl.CdOk)
	}
}

// TestNothingPlayed has a right heap as it is, and no answer.
func TestNothingPlayed(t *testing.T) {
	heaps := auditedHeaps()
	for steps := range len(impl.BlocksOf(slidTouched())) + 2 {
		heaps = append(heaps, namedHeap{said("under way", int64(steps)), steppedBy(steps, slidTouched())})
	}
	for _, c := range heaps {
		for _, list := range [][]impl.Order{nil, {}, rightOrders()[:0]} {
			got, answers := checkPlayed(t, c.what, c.heap, list)
			if checkAnswer(t, c.what, got, 0, c.heap, 0); len(answers) != 0 {
				t.Errorf("%s: %s", c.what, answersShown(answers))
			}
		}
	}
}

// TestOneOrderPlayed has each Kind, of each code that there may be, in heaps of all sorts.
func TestOneOrderPlayed(t *testing.T) {
	for _, c := range codedOrders() {
		_, answers := checkPlayed(t, "coded", c.heap, []impl.Order{c.order})
		checkAnswers(t, "coded: "+orderShown(c.order), answers, []impl.Answer{c.answer})
	}
	kinds := map[int64]int{}
	for _, c := range auditedHeaps() {
		for _, o := range ordersIn(c.heap, 2) {
			if _, answers := checkPlayed(t, c.what, c.heap, []impl.Order{o}); len(answers) == 1 && answers[0].Code == impl.CdOk {
				kinds[o.Kind]++
			}
		}
	}
	checkOften(t, kinds, 3, 1, 2, 3, 4, 5, 6, 7, 8, 9, 10, 11, 12, 13)
}

// TestPlayedUnderWay has a script go on at each step of a slide.
func TestPlayedUnderWay(t *testing.T) {
	gaps := 0
	for _, still := range []impl.Heap{slidTouched(), busyHeap(), auditedHeap(), mixedHeap()} {
		for steps := range len(impl.BlocksOf(still)) + 2 {
			h := steppedBy(steps, still)
			if h.Low < h.High {
				gaps++
			}
			checkPlayed(t, said("under way", int64(steps)), h, ordersIn(still, 4))
			checkPlayed(t, said("under way", int64(steps)), h, []impl.Order{odStep(), odBegin(), odAudit(0), odSlide(), odStep(), {}, odBegin()})
		}
	}
	if gaps < 8 {
		t.Errorf("just %d heaps have a gap", gaps)
	}
}

// manyOrders may be done in any heap, again and again; some are refused, and some are not right.
func manyOrders(n int) []impl.Order {
	few := []impl.Order{odEnter(0, 20, 2), odMake(0, 3, 1), odStep(), {}, odRead(0, 128, 0, 3), odBegin(), odAudit(0), odAudit(4), odMake(0, 0, 0), odLeave(1), odSlide(), odDrop(0, 129), odWrite(0, 128, 0, "A")}
	return slices.Repeat(few, n/len(few)+1)[:n]
}

// TestHowManyOrdersArePlayed has as many as there may be, and one more.
func TestHowManyOrdersArePlayed(t *testing.T) {
	for _, h := range []impl.Heap{newHeap(t, 64), slidingHeap()} {
		for _, list := range [][]impl.Order{manyOrders(999), manyOrders(1000), make([]impl.Order, 1000), slices.Repeat([]impl.Order{odStep()}, 1000)} {
			if _, answers := checkPlayed(t, "as many as there may be", h, list); len(answers) != len(list) {
				t.Errorf("%d answers to %d orders", len(answers), len(list))
			}
		}
		for _, n := range []int{1001, 1002, 1013, 1024, 2000, 1 << 16, 1<<16 + 1} {
			checkNotPlayed(t, "more", h, manyOrders(n))
			checkNotPlayed(t, "more, not right", h, make([]impl.Order, n))
		}
	}
	for _, h := range []impl.Heap{{}, heapOf(63, nobodyThere())} {
		for _, n := range []int{0, 1, 999, 1000, 1001, 5000} {
			checkNotPlayed(t, "wrong heap", h, manyOrders(n))
		}
	}
}

func TestWrongHeapsArePlayedNothing(t *testing.T) {
	for _, c := range wrongHeaps() {
		for _, list := range [][]impl.Order{nil, {}, {odAudit(0)}, {{}}, {odSlide()}, rightOrders(), {odEnter(1, 0, 1), odLeave(1)}, manyOrders(1001)} {
			checkNotPlayed(t, c.what, c.heap, list)
		}
	}
	withStrangeFields(func(what string, h impl.Heap) {
		checkPlayed(t, what, h, []impl.Order{odBegin(), odMake(2, 5, 1), odStep()})
		checkPlayed(t, what, h, nil)
	})
}

// TestWrongOrdersArePlayed has CdBad for each, and the heap as it was.
func TestWrongOrdersArePlayed(t *testing.T) {
	for _, c := range []namedHeap{{"busy", busyHeap()}, {"sliding", slidingHeap()}, {"slid", slidTouched()}, {"new", newHeap(t, 64)}, {"full", fullHeap(16)}} {
		wrong := wrongOrders()
		for at := 0; at < len(wrong); at += 50 {
			part := wrong[at:min(at+50, len(wrong))]
			h, answers := checkPlayed(t, c.what, c.heap, part)
			checkAnswer(t, c.what, h, 0, c.heap, 0)
			checkAnswers(t, c.what, answers, slices.Repeat([]impl.Answer{withCode(impl.CdBad)}, len(part)))
		}
	}
}

// TestWhatIsBehindARefusedOne has it done all the same, be the one ahead refused or not right.
func TestWhatIsBehindARefusedOne(t *testing.T) {
	for _, no := range append(wrongOrders(), odStep(), odLeave(3), odMake(0, 200, 0), odRead(0, 130, 0, 0), odLink(0, 128, 1, 0), odEnter(0, 65, 1), odEnter(2, 200, 1), odAudit(3)) {
		list := []impl.Order{no, odEnter(0, 30, 2), no, odMake(0, 2, 1), no, odWrite(0, 128, 1, "x"), no, no, odRead(0, 128, 0, 2), no}
		_, answers := checkPlayed(t, "behind", newHeap(t, 64), list)
		want := []impl.Answer{{}, withNumber(128), {}, withData("\x00x")}
		for i, at := range []int{1, 3, 5, 8} {
			if !sameAnswer(answers[at], want[i]) {
				t.Errorf("behind %s: %s", orderShown(no), answersShown(answers))
			}
		}
		for _, at := range []int{2, 4, 6, 7, 9} {
			if answers[at].Code == impl.CdOk || answers[at].Number != 0 || len(answers[at].Data) != 0 {
				t.Errorf("%s: %s", orderShown(no), answersShown(answers))
			}
		}
	}
}

// drawnScript is of any orders; many of them are refused, or not right.
func drawnScript(d *drawn, h impl.Heap, n int) []impl.Order {
	var list []impl.Order
	for range n {
		o := drawnOrdinary(d, h)
		if d.below(3) == 0 {
			o = drawnWild(d, h)
		}
		h, _ = impl.Did(h, o)
		list = append(list, o)
	}
	return list
}

func TestDrawnScriptsPlayed(t *testing.T) {
	var d drawn
	codes := map[int64]int{}
	for _, size := range floorSizes() {
		h := newHeap(t, size)
		_, answers := checkPlayed(t, said("drawn", size), h, drawnScript(&d, h, 100))
		for _, a := range answers {
			codes[a.Code]++
		}
	}
	checkOften(t, codes, 5, 0, 1, 2, 3, 4, 5, 6, 7, 8, 9, 10)
	withDrawnChanges(t, 300, func(d *drawn, h impl.Heap) {
		list := []impl.Order{odBegin(), odAudit(d.below(4)), drawnWild(d, newHeap(t, 64))}
		if _, is := toldOf(h); is {
			list = drawnScript(d, h, 6)
		}
		checkPlayed(t, "drawn change", h, list)
	})
}

// checkInParts plays each part on the heap of the one ahead: the same heap, and the same answers one behind the other.
func checkInParts(t *testing.T, what string, h impl.Heap, list []impl.Order, whole impl.Heap, answers []impl.Answer, cuts ...int) {
	t.Helper()
	for _, cut := range cuts {
		what = said(what+", cut at", int64(cut))
	}
	var all []impl.Answer
	at := 0
	for _, cut := range append(cuts, len(list)) {
		var part []impl.Answer
		h, part = impl.Played(h, list[at:cut])
		all, at = append(all, part...), cut
	}
	checkAnswer(t, what, h, 0, whole, 0)
	checkAnswers(t, what, all, answers)
}

// namedScript is a heap, and what is played on it.
type namedScript struct {
	what string
	heap impl.Heap
	list []impl.Order
}

func scripts(t *testing.T) []namedScript {
	t.Helper()
	written, _ := writtenScript()
	list := []namedScript{
		{"none", busyHeap(), nil}, {"one", busyHeap(), []impl.Order{odBegin()}}, {"written down", newHeap(t, 128), written},
		{"on 64", newHeap(t, 64), scriptFor(64)}, {"on 100", newHeap(t, 100), scriptFor(100)}, {"on 1024", newHeap(t, 1024), scriptFor(1024)[:60]},
		{"in a busy heap", busyHeap(), ordersIn(busyHeap(), 3)}, {"under way", steppedBy(3, slidTouched()), ordersIn(slidTouched(), 3)}, {"not right", busyHeap(), wrongOrders()[:40]}, {"mixed", slidingHeap(), manyOrders(40)},
	}
	var d drawn
	for _, size := range []int64{64, 90, 200, 700} {
		h := newHeap(t, size)
		list = append(list, namedScript{said("drawn on", size), h, drawnScript(&d, h, 60)})
	}
	return list
}

// TestAScriptInTwoParts has it cut at each place, at none and at the end, too.
func TestAScriptInTwoParts(t *testing.T) {
	for _, c := range scripts(t) {
		whole, answers := checkPlayed(t, c.what, c.heap, c.list)
		for cut := range len(c.list) + 1 {
			checkInParts(t, c.what, c.heap, c.list, whole, answers, cut)
		}
	}
	h := newHeap(t, 300)
	var d drawn
	list := drawnScript(&d, h, impl.MaxOrders)
	whole, answers := impl.Played(h, list)
	for _, cut := range []int{0, 1, 499, 999, 1000} {
		checkInParts(t, "as many as there may be", h, list, whole, answers, cut)
	}
}

// TestAScriptInThreeParts has each two places of short ones, and some of longer ones; a part in the midst may be none.
func TestAScriptInThreeParts(t *testing.T) {
	var d drawn
	for _, c := range scripts(t) {
		whole, answers := impl.Played(c.heap, c.list)
		n := len(c.list)
		for range 12 {
			first := int(d.below(int64(n + 1)))
			checkInParts(t, c.what, c.heap, c.list, whole, answers, first, first+int(d.below(int64(n-first+1))))
			checkInParts(t, c.what, c.heap, c.list, whole, answers, first, first)
		}
		short := c.list[:min(n, 14)]
		whole, answers = impl.Played(c.heap, short)
		for first := range len(short) + 1 {
			for second := first; second <= len(short); second++ {
				checkInParts(t, c.what, c.heap, short, whole, answers, first, second)
			}
		}
	}
}

// TestAScriptOrderByOrder has as many parts as orders.
func TestAScriptOrderByOrder(t *testing.T) {
	for _, c := range scripts(t) {
		whole, answers := impl.Played(c.heap, c.list)
		var cuts []int
		for i := range c.list {
			cuts = append(cuts, i, i)
		}
		checkInParts(t, c.what, c.heap, c.list, whole, answers, cuts...)
	}
}

// TestScriptsReadFromWords has the orders of a script shown, read, and played: nothing is lost but what is not right.
func TestScriptsReadFromWords(t *testing.T) {
	for _, c := range scripts(t) {
		var read []impl.Order
		for _, o := range c.list {
			if x, is := impl.ReadOrder(impl.ShowOrder(o)); is {
				read = append(read, x)
			}
		}
		right := slices.DeleteFunc(slices.Clone(c.list), func(o impl.Order) bool { return !orderRight(o) })
		if !slices.Equal(read, right) {
			t.Errorf("%s: %d of %d are read", c.what, len(read), len(right))
		}
		want, _ := impl.Played(c.heap, c.list)
		got, _ := impl.Played(c.heap, read)
		checkAnswer(t, c.what, got, 0, want, 0)
	}
}

// answersIn are as many answers as are asked for, each another one; each second one has Data.
func answersIn(n int) []impl.Answer {
	var list []impl.Answer
	for i := range n {
		a := impl.Answer{Code: int64(i % 11), Number: int64(i + 1)}
		if i%2 == 1 {
			a.Data = []byte{byte(i), byte(i >> 8), 7}
		}
		list = append(list, a)
	}
	return list
}

func TestHeardWrittenDown(t *testing.T) {
	list := []impl.Order{odEnter(1, 30, 2), odEnter(0, 34, 2), odMake(1, 4, 0), odBegin(), odLeave(2), odRead(1, 128, 0, 4), {}, odStep(), odAudit(0), {Kind: 99, Who: 1}, odSlide(), odWrite(3, 1, 1, "a"), odLeave(1)}
	a := answersIn(len(list))
	checkHeard(t, "written down", list, a, 0, a[1], a[6], a[8])
	checkHeard(t, "written down", list, a, 1, a[0], a[2], a[5], a[9], a[12])
	checkHeard(t, "written down", list, a, 2, a[4])
	checkHeard(t, "written down", list, a, 3, a[11])
	checkHeard(t, "fewer answers", list, a[:9], 1, a[0], a[2], a[5])
	checkHeard(t, "fewer answers", list, a[:10], 1, a[0], a[2], a[5], a[9])
	checkHeard(t, "fewer answers", list, a[:1], 0)
	checkHeard(t, "fewer orders", list[:3], a, 1, a[0], a[2])
	for _, who := range append(farNumbers(), -1, 4, 5, math.MinInt64, math.MaxInt64) {
		if who < 0 || who > 3 {
			checkHeard(t, "no tenant", list, a, who)
		}
	}
}

// TestHeardByEach has orders whose Who is any number, of each Kind and of none: just slides are left out, whatever their Who.
func TestHeardByEach(t *testing.T) {
	whos := []int64{-2, -1, 0, 1, 2, 3, 4, 5, 1 << 32, 1<<32 + 1, math.MinInt64, math.MinInt64 + 1, math.MaxInt64}
	kinds := []int64{-1, 0, 1, 2, 3, 4, 5, 6, 7, 8, 9, 10, 11, 12, 13, 14, 15, 16, 255, 256, 267, 268, 269, 1<<32 + 11, 1<<32 + 13, -11, -12, -13, math.MinInt64, math.MaxInt64}
	var list []impl.Order
	for _, kind := range kinds {
		for i, who := range whos {
			o := impl.Order{Kind: kind, Who: who}
			if i%3 == 1 {
				o.A, o.B, o.C, o.Text = -5, math.MaxInt64, 7, "No Text"
			}
			list = append(list, o)
		}
	}
	a := answersIn(len(list))
	for i, who := range whos {
		var want []impl.Answer
		for j, kind := range kinds {
			if kind != 11 && kind != 12 && kind != 13 {
				want = append(want, a[j*len(whos)+i])
			}
		}
		checkHeard(t, "each", list, a, who, want...)
		if len(want) != len(kinds)-3 {
			t.Error(len(want))
		}
	}
	checkHeard(t, "of nobody", list, a, 6)
}

// TestHowManyAreHeard has as many answers as orders, fewer, none, and more.
func TestHowManyAreHeard(t *testing.T) {
	for _, n := range []int{0, 1, 2, 7, 40, 999, 1000, 1001, 3000} {
		var list []impl.Order
		for i := range n {
			list = append(list, append(rightOrders(), impl.Order{}, impl.Order{Kind: 14, Who: 2})[i%15])
		}
		all := answersIn(n + 20)
		for _, m := range []int{0, 1, 2, n / 2, n - 2, n - 1, n, n + 1, n + 20} {
			if m < 0 {
				continue
			}
			for who := int64(-1); who <= 4; who++ {
				checkHeard(t, said("how many", int64(n), int64(m)), list, all[:m], who, heardTold(list[:min(n, m)], all[:min(n, m)], who)...)
			}
			for _, who := range []int64{math.MinInt64, math.MaxInt64} {
				checkHeard(t, "nobody", list, all[:m], who)
			}
		}
		checkHeard(t, "none", list, nil, 2)
		checkHeard(t, "none", nil, all, 0)
	}
	checkHeard(t, "none", nil, nil, 0)
	checkHeard(t, "none", []impl.Order{}, []impl.Answer{}, 0)
	checkHeard(t, "the zero Order", []impl.Order{{}}, []impl.Answer{{}}, 0, impl.Answer{})
	checkHeard(t, "the zero Order", []impl.Order{{}}, []impl.Answer{{}}, 1)
}

// TestHeardOfScripts has each answer heard by the one whose order it is, and no other.
func TestHeardOfScripts(t *testing.T) {
	for _, c := range scripts(t) {
		_, answers := impl.Played(c.heap, c.list)
		heard := 0
		for _, who := range append(farNumbers(), 0, 1, 2, 3, 4, -1) {
			checkHeard(t, c.what, c.list, answers, who, heardTold(c.list, answers, who)...)
		}
		for who := range int64(4) {
			heard += len(impl.HeardBy(c.list, answers, who))
		}
		for _, o := range c.list {
			if o.Kind >= 11 && o.Kind <= 13 || o.Who < 0 || o.Who > 3 {
				heard++
			}
		}
		if heard != len(c.list) {
			t.Errorf("%s: %d of %d are somebody's", c.what, heard, len(c.list))
		}
	}
}

// withSpareAnswers has room behind the list and behind each Data.
func withSpareAnswers(list []impl.Answer) sparedRows[impl.Answer] {
	mark := impl.Answer{Code: -5, Number: -5, Data: []byte{5, 5}}
	return withSpareRows(list, mark, sameAnswer, func(a *impl.Answer) kept {
		data := withSpare(a.Data)
		a.Data = data.arg
		return data
	})
}

func answersTwin(list []impl.Answer) []impl.Answer {
	list = slices.Clone(list)
	for i := range list {
		list[i].Data = slices.Clone(list[i].Data)
	}
	return list
}

// markAnswers writes over each Data, with all the room behind it, and over the list, and tells of those that share memory with another one.
func markAnswers(t *testing.T, what string, list []impl.Answer) {
	t.Helper()
	for i, a := range list {
		scribble(a.Data, func(byte) byte { return byte(i) })
		for j, other := range list[:i] {
			if slices.ContainsFunc(other.Data[:cap(other.Data)], func(b byte) bool { return b != byte(j) }) {
				t.Errorf("%s: the Data of %d and %d share memory", what, j, i)
			}
		}
	}
	scribble(list, func(impl.Answer) impl.Answer { return impl.Answer{Code: -7} })
}

// checkPlayedIsNew tells that neither the Heap nor any Data shares memory with what came, with another answer, or with each other.
func checkPlayedIsNew(t *testing.T, what string, h impl.Heap, list []impl.Order) {
	t.Helper()
	h, heapArgs := withSpareHeap(h)
	orders := withSpareOf(list, impl.Order{Kind: -5, Text: "mark"})
	args := append(heapArgs, orders)
	checkNewHeaps(t, what, args, func() impl.Heap {
		got, _ := impl.Played(h, orders.arg)
		return got
	})
	first, firstAnswers := impl.Played(h, orders.arg)
	second, secondAnswers := impl.Played(h, orders.arg)
	was, answersWere := twin(second), answersTwin(secondAnswers)
	markAnswers(t, what, firstAnswers)
	checkAnswer(t, what+", when the answers are written to", first, 0, was, 0)
	markLists(first, 9)
	scribble(first.Tenants, func(impl.Tenant) impl.Tenant { return usedTenant() })
	checkAnswer(t, what+": two heaps share memory", second, 0, was, 0)
	markLists(second, 9)
	checkAnswers(t, what+", when the heap is written to", secondAnswers, answersWere)
	keptAll(args).checkSame(t, what+", when all is written to")
}

func TestPlayedIsNew(t *testing.T) {
	for _, c := range scripts(t) {
		checkPlayedIsNew(t, c.what, c.heap, c.list)
		checkPlayedIsNew(t, c.what+": none", c.heap, nil)
		checkPlayedIsNew(t, c.what+": too many", c.heap, make([]impl.Order, 1001))
	}
	for _, c := range auditedHeaps() {
		checkPlayedIsNew(t, c.what+": none", c.heap, nil)
		checkPlayedIsNew(t, c.what+": none is right", c.heap, wrongOrders()[:9])
		checkPlayedIsNew(t, c.what+": none changes it", c.heap, []impl.Order{odAudit(0), odAudit(0), odAudit(1), odRead(0, 496, 0, 2), odRead(0, 496, 0, 2), odRef(0, 496, 0), {}})
		checkPlayedIsNew(t, c.what, c.heap, ordersIn(c.heap, 2))
	}
	for _, c := range wrongHeaps() {
		checkPlayedIsNew(t, c.what, c.heap, nil)
		checkPlayedIsNew(t, c.what, c.heap, rightOrders())
	}
}

// TestTablesOfOneList has two tenants whose Tables are the same memory, as they come; those of the answer are not.
func TestTablesOfOneList(t *testing.T) {
	h, _ := impl.Played(newHeap(t, 64), []impl.Order{odEnter(0, 30, 4), odEnter(3, 30, 4)})
	h.Tenants[3].Table = h.Tenants[0].Table
	for _, list := range [][]impl.Order{nil, {{}}, {odAudit(0)}, {odBegin()}, {odMake(0, 1, 1)}} {
		got, _ := checkPlayed(t, "one list", h, list)
		markLists(got, 20)
		if got.Tenants[0].Table[1].Gen != 20 || got.Tenants[3].Table[1].Gen != 23 || h.Tenants[0].Table[1].Gen != 0 {
			t.Errorf("after %d orders: %v", len(list), got.Tenants)
		}
	}
}

// checkHeardIsNew tells that no Data of what is heard shares memory with the list that it came from, or with another one.
func checkHeardIsNew(t *testing.T, what string, list []impl.Order, answers []impl.Answer, who int64) {
	t.Helper()
	orders, given := withSpareOf(list, impl.Order{Kind: 3, Who: who, Text: "mark"}), withSpareAnswers(answers)
	args := keptAll{orders, given}
	first, second := impl.HeardBy(orders.arg, given.arg, who), impl.HeardBy(orders.arg, given.arg, who)
	was := answersTwin(second)
	args.checkSame(t, what)
	checkAnswers(t, what, first, was)
	markAnswers(t, what, first)
	args.checkSame(t, what+", when the answer is written to")
	checkAnswers(t, what+": two answers share memory", second, was)
}

func TestHeardIsNew(t *testing.T) {
	for _, c := range scripts(t) {
		_, answers := impl.Played(c.heap, c.list)
		for who := int64(-1); who <= 4; who++ {
			checkHeardIsNew(t, c.what, c.list, answers, who)
			checkHeardIsNew(t, c.what+": some", c.list, answers[:len(answers)/2], who)
			checkHeardIsNew(t, c.what+": some orders", c.list[:len(answers)/2], answers, who)
		}
	}
	list := make([]impl.Order, 100)
	checkHeardIsNew(t, "all", list, answersIn(100), 0)
	checkHeardIsNew(t, "more", list, answersIn(120), 0)
}

// TestHeardOfOneList has answers whose Data are the same memory, as they come; those that are heard are not.
func TestHeardOfOneList(t *testing.T) {
	data := []byte("abcdef")
	given := []impl.Answer{{Data: data}, {Data: data}, {Data: data[:2]}, {Data: data[2:4]}, {Data: data[:0]}, {Data: data[4:]}, {}}
	heard := impl.HeardBy(make([]impl.Order, len(given)), given, 0)
	checkAnswers(t, "one list", heard, given)
	markAnswers(t, "one list", heard)
	if string(data) != "abcdef" {
		t.Errorf("what came is %q", data)
	}
}

// TestOneScriptTwice has one heap and one list played again and again: none shows what was done to the others, nor does what came.
func TestOneScriptTwice(t *testing.T) {
	h, list := busyHeap(), ordersIn(busyHeap(), 3)
	want, wantAnswers := playedTold(busyHeap(), list)
	for i := range int64(4) {
		got, answers := impl.Played(h, list)
		checkAnswer(t, "again", got, 0, want, 0)
		checkAnswers(t, "again", answers, wantAnswers)
		heard := impl.HeardBy(list, answers, 2)
		markAnswers(t, "again", answers)
		checkAnswers(t, "again", heard, heardTold(list, wantAnswers, 2))
		markLists(got, i)
	}
	checkAnswer(t, "what it was played on", h, 0, busyHeap(), 0)
}
