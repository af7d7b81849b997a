package tests

import (
	"slices"
	"testing"

	"loop.example/g00750/impl"
)

// noticeSizes go from the smallest floor to the largest.
func noticeSizes() []int64 {
	return []int64{64, 65, 90, 128, 200, 257, 400, 777, 1023, 1024}
}

func isSlide(o impl.Order) bool { return o.Kind >= impl.OdBegin && o.Kind <= impl.OdSlide }

// isComing is of what is no tenant's own, though a tenant is told in it.
func isComing(o impl.Order) bool { return o.Kind == impl.OdEnter || o.Kind == impl.OdLeave }

// allCome is a heap that is promised to the last byte, to all four of them.
func allCome(t *testing.T, d *drawn, size int64) impl.Heap {
	t.Helper()
	h := newHeap(t, size)
	left := size - 4*6
	for who := range int64(4) {
		share := left
		if who < 3 {
			share = d.below(min(left, size/3) + 1)
		}
		left -= share
		var answer impl.Answer
		if h, answer = impl.Did(h, odEnter(who, 6+share, 2+d.below(7))); answer.Code != impl.CdOk {
			t.Fatalf("%d does not enter a floor of %d: code %d", who, size, answer.Code)
		}
	}
	return h
}

// ownOrder is one of that tenant's own; now and then it is refused, or not right.
func ownOrder(d *drawn, h impl.Heap, who int64) impl.Order {
	for {
		o := drawnOrdinary(d, h)
		switch d.below(12) {
		case 0, 1, 2:
			o = drawnWild(d, h)
		case 3:
			o = odMake(who, d.below(40), d.below(7))
		case 4:
			x := ownThing(d, h, who)
			o = odRead(who, x.number, d.below(x.data+2), d.below(4))
		}
		if o.Who == who && !isSlide(o) && !isComing(o) {
			return o
		}
	}
}

func anySlide(d *drawn) impl.Order {
	return []impl.Order{odBegin(), odStep(), odStep(), odStep(), odSlide()}[d.below(5)]
}

// askingAll has each tenant ask for all that it has: the data and the last ref of each thing, and an audit.
func askingAll(h impl.Heap) []impl.Order {
	var list []impl.Order
	for _, x := range thingsIn(h) {
		list = append(list, odRead(x.who, x.number, 0, x.data))
		if x.refs > 0 {
			list = append(list, odRef(x.who, x.number, x.refs-1))
		}
	}
	return append(list, odAudit(0), odAudit(1), odAudit(2), odAudit(3))
}

// drawnTogether has about every fifth one slide, and ends with each tenant asking for all that it has.
func drawnTogether(t *testing.T, d *drawn, size int64, n int) namedScript {
	t.Helper()
	x := namedScript{what: said("together on", size), heap: allCome(t, d, size)}
	h := x.heap
	for range n {
		o := ownOrder(d, h, d.below(4))
		if d.below(5) == 0 {
			o = anySlide(d)
		}
		h, _ = impl.Did(h, o)
		x.list = append(x.list, o)
	}
	x.list = append(x.list, askingAll(h)...)
	return x
}

func ownOrders(list []impl.Order, who int64) []impl.Order {
	return slices.DeleteFunc(slices.Clone(list), func(o impl.Order) bool { return o.Who != who || isSlide(o) })
}

// ownHeard is what a tenant hears of its own orders alone.
func ownHeard(list []impl.Order, answers []impl.Answer, who int64) []impl.Answer {
	var heard []impl.Answer
	for i, o := range list {
		if o.Who == who && !isSlide(o) && !isComing(o) {
			heard = append(heard, answers[i])
		}
	}
	return heard
}

// checkHearsTheSame has a tenant hear of one script what it hears of another, where it orders the same itself.
func checkHearsTheSame(t *testing.T, what string, list []impl.Order, answers []impl.Answer, others []impl.Order, othersAnswers []impl.Answer, who int64) {
	t.Helper()
	what += said(": tenant", who)
	if !slices.Equal(ownOrders(list, who), ownOrders(others, who)) {
		t.Fatalf("%s: its own orders are not the same", what)
	}
	want := ownHeard(list, answers, who)
	checkAnswers(t, what, ownHeard(others, othersAnswers, who), want)
	checkAnswers(t, what+": HeardBy", impl.HeardBy(others, othersAnswers, who), impl.HeardBy(list, answers, who))
	checkHeard(t, what, list, answers, who, want...)
}

// leavingOut has all that is so left out.
func leavingOut(list []impl.Order, so func(o impl.Order) bool) []impl.Order {
	return slices.DeleteFunc(slices.Clone(list), so)
}

// leftOut are scripts of which others' orders, all or some, or slides, are left out.
func leftOut(d *drawn, list []impl.Order, who int64) [][]impl.Order {
	others := func(o impl.Order) bool { return o.Who != who && !isSlide(o) }
	scripts := [][]impl.Order{
		leavingOut(list, others), leavingOut(list, isSlide), leavingOut(list, func(o impl.Order) bool { return others(o) || isSlide(o) }),
		leavingOut(list, func(o impl.Order) bool { return o.Kind == impl.OdBegin }), leavingOut(list, func(o impl.Order) bool { return o.Kind == impl.OdStep }),
		leavingOut(list, func(o impl.Order) bool { return o.Kind == impl.OdSlide }),
		leavingOut(list, func(o impl.Order) bool { return others(o) && o.Kind == impl.OdMake }), leavingOut(list, func(o impl.Order) bool { return others(o) && o.Kind != impl.OdMake }),
	}
	for other := range int64(4) {
		if other != who {
			scripts = append(scripts, leavingOut(list, func(o impl.Order) bool { return o.Who == other && !isSlide(o) }))
		}
	}
	for range 2 {
		scripts = append(scripts, leavingOut(list, func(o impl.Order) bool { return others(o) && d.below(2) == 0 }))
		scripts = append(scripts, leavingOut(list, func(o impl.Order) bool { return (others(o) || isSlide(o)) && d.below(2) == 0 }))
	}
	return scripts
}

// inPlaces puts others' orders in the places of those that are not who's own, as what was done so far has it.
func inPlaces(h impl.Heap, list []impl.Order, who int64, put func(h impl.Heap, o impl.Order) []impl.Order) []impl.Order {
	var script []impl.Order
	for _, o := range list {
		instead := []impl.Order{o}
		if o.Who != who && !isSlide(o) {
			instead = put(h, o)
		}
		h, _ = impl.Played(h, instead)
		script = append(script, instead...)
	}
	return script
}

// greedy makes as much as another one may have, and as many as it may have.
func greedy(other int64) []impl.Order {
	return []impl.Order{odMake(other, 200, 6), odMake(other, 100, 0), odMake(other, 40, 1), odMake(other, 9, 0), odMake(other, 0, 0), odMake(other, 0, 0), odMake(other, 0, 0)}
}

// otherwise are scripts with other orders in the places of others': drawn ones, ones that use up what they were promised, ones with who's own numbers, and coming and going.
func otherwise(d *drawn, h impl.Heap, list []impl.Order, who int64) [][]impl.Order {
	own := append(ownOrders(list, who), odAudit(who))
	drawnOne := func(h impl.Heap, o impl.Order) []impl.Order {
		return []impl.Order{ownOrder(d, h, (who+1+d.below(3))%4)}
	}
	all := func(_ impl.Heap, o impl.Order) []impl.Order { return greedy((who + 1 + d.below(3)) % 4) }
	likeIt := func(_ impl.Heap, o impl.Order) []impl.Order {
		return []impl.Order{changedBy(own[d.below(int64(len(own)))], func(x *impl.Order) { x.Who = (who + 1 + d.below(3)) % 4 })}
	}
	lettingGo := func(h impl.Heap, o impl.Order) []impl.Order {
		other := (who + 1 + d.below(3)) % 4
		return []impl.Order{odDrop(other, ownThing(d, h, other).number), odMake(other, d.below(20), d.below(3))}
	}
	going := func(h impl.Heap, o impl.Order) []impl.Order {
		other := (who + 1 + d.below(3)) % 4
		if !h.Tenants[other].Live {
			return []impl.Order{drawnComing(d, h, other)}
		}
		return []impl.Order{odMake(other, 3, 1), odLeave(other)}
	}
	var scripts [][]impl.Order
	for _, put := range []func(impl.Heap, impl.Order) []impl.Order{drawnOne, drawnOne, all, likeIt, lettingGo, going} {
		scripts = append(scripts, inPlaces(h, list, who, put))
	}
	return scripts
}

// withSlides has slides put in at many places.
func withSlides(list []impl.Order, slides ...impl.Order) []impl.Order {
	var script []impl.Order
	for i, o := range list {
		script = append(script, slides[i%len(slides)], o)
	}
	return append(script, slides[0])
}

// slidingMore are scripts with a slide begun, stepped or done at each place, or one step a place.
func slidingMore(d *drawn, list []impl.Order) [][]impl.Order {
	still := leavingOut(list, isSlide)
	many := []impl.Order{}
	for range 17 {
		many = append(many, anySlide(d))
	}
	return [][]impl.Order{
		withSlides(list, odSlide()), withSlides(list, odStep()), withSlides(list, odBegin()), withSlides(list, odBegin(), odStep()), withSlides(list, many...),
		withSlides(still, odBegin(), odStep(), odStep(), odStep(), odStep()), withSlides(still, odBegin(), odStep()), withSlides(still, many...), withSlides(still, odBegin(), odStep(), odStep(), odSlide()),
	}
}

// TestNobodyNoticesTheOthers has each tenant in turn hear the same, whatever the others do, on floors of several sizes.
func TestNobodyNoticesTheOthers(t *testing.T) {
	var d drawn
	codes, kinds := map[int64]int{}, map[int64]int{}
	for _, size := range noticeSizes() {
		x := drawnTogether(t, &d, size, 56)
		_, answers := impl.Played(x.heap, x.list)
		for i, a := range answers {
			if codes[a.Code]++; a.Code == impl.CdOk {
				kinds[x.list[i].Kind]++
			}
		}
		for who := range int64(4) {
			for i, others := range append(leftOut(&d, x.list, who), otherwise(&d, x.heap, x.list, who)...) {
				_, othersAnswers := impl.Played(x.heap, others)
				checkHearsTheSame(t, said(x.what+", script", int64(i)), x.list, answers, others, othersAnswers, who)
			}
		}
	}
	checkOften(t, kinds, 6, 3, 4, 5, 6, 7, 8, 9, 10, 11, 12, 13)
	checkOften(t, codes, 3, 0, 1, 5, 6, 7, 8, 9, 10)
}

// TestNobodyNoticesSlides has all tenants hear the same, with slides left out and put in at many places.
func TestNobodyNoticesSlides(t *testing.T) {
	var d drawn
	gaps := 0
	for _, size := range noticeSizes() {
		x := drawnTogether(t, &d, size, 60)
		_, answers := impl.Played(x.heap, x.list)
		for i, others := range slidingMore(&d, x.list) {
			_, othersAnswers := impl.Played(x.heap, others)
			if h, _ := impl.Played(x.heap, others[:len(others)/2]); h.Low < h.High {
				gaps++
			}
			for who := range int64(4) {
				checkHearsTheSame(t, said(x.what+", slides", int64(i)), x.list, answers, others, othersAnswers, who)
			}
		}
	}
	if gaps < 10 {
		t.Errorf("just %d have a gap in their midst", gaps)
	}
}

// TestNobodyNoticesASlideAtEachPlace has a slide begun, stepped and done put in at each place, alone and one behind the other.
func TestNobodyNoticesASlideAtEachPlace(t *testing.T) {
	var d drawn
	for _, size := range []int64{64, 129, 1024} {
		x := drawnTogether(t, &d, size, 30)
		still := namedScript{x.what + ", still", x.heap, leavingOut(x.list, isSlide)}
		for _, x := range []namedScript{x, still} {
			_, answers := impl.Played(x.heap, x.list)
			for at := range len(x.list) + 1 {
				for i, slides := range [][]impl.Order{{odBegin()}, {odStep()}, {odSlide()}, {odBegin(), odStep(), odStep()}, {odSlide(), odBegin(), odStep()}} {
					others := slices.Insert(slices.Clone(x.list), at, slides...)
					_, othersAnswers := impl.Played(x.heap, others)
					for who := range int64(4) {
						checkHearsTheSame(t, said(x.what+", slide and place", int64(i), int64(at)), x.list, answers, others, othersAnswers, who)
					}
				}
			}
		}
	}
}

// TestNobodyNoticesOneOrder has each single order of another one left out, and some put in at each place.
func TestNobodyNoticesOneOrder(t *testing.T) {
	var d drawn
	for _, size := range []int64{64, 129, 700} {
		x := drawnTogether(t, &d, size, 30)
		_, answers := impl.Played(x.heap, x.list)
		for at := range len(x.list) {
			others := slices.Delete(slices.Clone(x.list), at, at+1)
			_, othersAnswers := impl.Played(x.heap, others)
			for who := range int64(4) {
				if isSlide(x.list[at]) || x.list[at].Who != who {
					checkHearsTheSame(t, said(x.what+", left out", int64(at)), x.list, answers, others, othersAnswers, who)
				}
			}
		}
		for at := range len(x.list) + 1 {
			h, _ := impl.Played(x.heap, x.list[:at])
			for i := range int64(5) {
				other := (int64(at) + i) % 4
				put := [][]impl.Order{greedy(other), {ownOrder(&d, h, other)}, {odDrop(other, ownThing(&d, h, other).number)}, {odMake(other, d.below(60), d.below(7)), odBegin()}, {odLeave(other)}}[i]
				others := slices.Insert(slices.Clone(x.list), at, put...)
				_, othersAnswers := impl.Played(x.heap, others)
				for who := range int64(4) {
					if who != other {
						checkHearsTheSame(t, said(x.what+", put in, place, by", i, int64(at), other), x.list, answers, others, othersAnswers, who)
					}
				}
			}
		}
	}
}

// TestNobodyNoticesWhoIsFull has others use up all bytes, or all slots, that they were promised, ahead of a script and in its midst.
func TestNobodyNoticesWhoIsFull(t *testing.T) {
	var d drawn
	for _, size := range []int64{72, 100, 256, 1000, 1024} {
		share := size / 4
		h, _ := impl.Played(newHeap(t, size), []impl.Order{odEnter(0, share, 16), odEnter(1, share, 2), odEnter(2, share, 16), odEnter(3, share, 3)})
		x := namedScript{said("full", size), h, nil}
		for range 30 {
			o := ownOrder(&d, h, 0)
			h, _ = impl.Did(h, o)
			x.list = append(x.list, o)
		}
		x.list = append(x.list, askingAll(h)...)
		_, answers := impl.Played(x.heap, x.list)
		for i, full := range []struct {
			orders []impl.Order
			code   int64
		}{
			{[]impl.Order{odMake(1, 0, 0), odMake(1, 0, 0), odMake(1, 0, 0)}, impl.CdSlots},
			{[]impl.Order{odMake(2, min(share-6, 200), 0), odMake(2, max(share-212, 0), 0), odMake(2, min(share, 200), 6)}, impl.CdQuota},
		} {
			for at := 0; at <= len(x.list); at += 5 {
				others := slices.Insert(slices.Clone(x.list), at, full.orders...)
				_, othersAnswers := impl.Played(x.heap, others)
				if got := othersAnswers[at+len(full.orders)-1].Code; got != full.code {
					t.Errorf("%s: not full, but code %d, want %d: %d", x.what, got, full.code, i)
				}
				checkHearsTheSame(t, said(x.what+", way and place", int64(i), int64(at)), x.list, answers, others, othersAnswers, 0)
			}
		}
	}
}

// noticed is what one tenant orders and hears, written down.
func noticed() []orderStep {
	return []orderStep{
		{odAudit(0), withData("\x00\x00\x00\x00\x03\x00\x24\x00")}, {odMake(0, 4, 2), withNumber(128)}, {odWrite(0, 128, 0, "ab12"), withCode(impl.CdOk)}, {odMake(0, 10, 1), withNumber(129)},
		{odLink(0, 128, 1, 129), withCode(impl.CdOk)}, {odMake(0, 2, 0), withCode(impl.CdQuota)}, {odDrop(0, 129), withCode(impl.CdOk)}, {odMake(0, 1, 0), withNumber(130)}, {odMake(0, 0, 0), withCode(impl.CdQuota)},
		{odWrite(0, 129, 9, "z"), withCode(impl.CdOk)}, {odWrite(0, 129, 9, "zz"), withCode(impl.CdRange)}, {odRead(0, 129, 8, 2), withData("\x00z")}, {odRef(0, 128, 1), withNumber(129)}, {odLink(0, 128, 1, 0), withCode(impl.CdOk)},
		{odRead(0, 129, 0, 1), withCode(impl.CdTicket)}, {odRead(0, 256, 0, 0), withCode(impl.CdTicket)}, {odAudit(0), withData("\x13\x00\x02\x00\x01\x00\x24\x00")}, {odMake(0, 12, 0), withCode(impl.CdQuota)}, {odMake(0, 11, 0), withNumber(145)},
		{odMake(0, 201, 0), withCode(impl.CdBad)}, {odRoot(0, 130), withCode(impl.CdOk)}, {odRead(0, 128, 0, 4), withData("ab12")}, {odRead(0, 145, 0, 11), withData("\x00\x00\x00\x00\x00\x00\x00\x00\x00\x00\x00")},
		{odDrop(0, 128), withCode(impl.CdOk)}, {odRef(0, 128, 0), withCode(impl.CdTicket)}, {odAudit(0), withData("\x18\x00\x02\x00\x01\x00\x24\x00")}, {odAudit(4), withCode(impl.CdBad)},
	}
}

// TestNoticedByNobodyWrittenDown has one tenant's answers written down, and the others do what they like between them: on a floor with no byte more than was promised, and on larger ones.
func TestNoticedByNobodyWrittenDown(t *testing.T) {
	between := [][]impl.Order{
		nil, {odSlide()}, {odBegin()}, {odStep()}, {odBegin(), odStep()}, {odMake(1, 4, 1)}, {odMake(1, 5, 0), odWrite(1, 256, 0, "other"), odWrite(1, 256, 4, "s")}, {odMake(1, 200, 0)}, {odMake(2, 0, 0)}, {odMake(3, 0, 0), odMake(3, 2, 0)}, {odDrop(1, 256), odMake(1, 4, 1), odDrop(2, 384)},
		{odWrite(1, 128, 0, "no"), odRead(1, 128, 0, 4), odDrop(1, 128), odRoot(2, 128)}, {odLink(1, 256, 0, 128), odLink(1, 256, 0, 256), odDrop(1, 256)}, {odAudit(1), odAudit(2), {}, {Kind: 14, Who: 1}},
		{odMake(2, 3, 0), odBegin(), odStep(), odDrop(2, 384), odStep()}, {odLeave(1), odEnter(1, 11, 2), odMake(1, 5, 0)}, {odLeave(2), odLeave(3), odEnter(3, 17, 4)}, {odSlide(), odMake(3, 0, 0), odBegin(), odStep()},
	}
	for _, size := range []int64{64, 65, 70, 128, 256, 1023, 1024} {
		h, _ := impl.Played(newHeap(t, size), []impl.Order{odEnter(0, 36, 3), odEnter(1, 11, 2), odEnter(2, 9, 2), odEnter(3, 8, 1)})
		var d drawn
		for i := range 3 * len(between) {
			var list []impl.Order
			var want []impl.Answer
			for _, c := range noticed() {
				put := between[i%len(between)]
				if i >= len(between) {
					put = between[d.below(int64(len(between)))]
				}
				list = append(append(list, put...), c.order)
				if want = append(want, c.answer); c.order.Who != 0 {
					want = want[:len(want)-1]
				}
			}
			_, answers := impl.Played(h, list)
			// The zero Order is of tenant 0, too, as far as its Who goes.
			mine, mineAnswers := []impl.Order{}, []impl.Answer{}
			for j, o := range list {
				if o != (impl.Order{}) {
					mine, mineAnswers = append(mine, o), append(mineAnswers, answers[j])
				}
			}
			checkHeard(t, said("noticed", size, int64(i)), mine, mineAnswers, 0, want...)
		}
	}
}

// TestNoticedByNobodyAlone has each tenant hear what it hears alone in a heap of its own that is as large, and in the model.
func TestNoticedByNobodyAlone(t *testing.T) {
	var d drawn
	for _, size := range []int64{64, 100, 300, 1024} {
		x := drawnTogether(t, &d, size, 60)
		_, answers := impl.Played(x.heap, x.list)
		for who := range int64(4) {
			own := ownOrders(x.list, who)
			want := ownHeard(x.list, answers, who)
			m := impl.ModelOf(x.heap)
			alone := twin(x.heap)
			for other := range alone.Tenants {
				if int64(other) != who {
					alone.Tenants[other] = impl.Tenant{}
				}
			}
			_, heard := impl.Played(alone, own)
			checkAnswers(t, x.what+": alone", heard, want)
			for i, o := range own {
				var answer impl.Answer
				if m, answer = impl.ModelDid(m, o); !sameAnswer(answer, want[i]) {
					t.Errorf("%s: the model answers %s, want %s", x.what, answerShown(answer), answerShown(want[i]))
				}
			}
		}
	}
}

// TestNobodyNoticesAnyTwoOrders has each two of a few orders of another one, and of slides, put in at each two places of a short script.
func TestNobodyNoticesAnyTwoOrders(t *testing.T) {
	h, _ := impl.Played(newHeap(t, 64), []impl.Order{odEnter(0, 30, 2), odEnter(1, 24, 2), odEnter(2, 6, 1), odEnter(3, 4, 1), odMake(1, 2, 0), odMake(0, 2, 1), odMake(1, 1, 1), odMake(2, 0, 0)})
	x := namedScript{"two orders", h, []impl.Order{odMake(0, 9, 1), odLink(0, 128, 0, 129), odDrop(0, 129), odLink(0, 128, 0, 0), odMake(0, 16, 0), odRead(0, 145, 0, 16), odAudit(0)}}
	_, answers := impl.Played(x.heap, x.list)
	checkAnswers(t, "two orders", answers, []impl.Answer{
		withNumber(129), {}, {}, {}, withCode(impl.CdQuota), withCode(impl.CdTicket), withData("\x09\x00\x01\x00\x01\x00\x1E\x00"),
	})
	few := []impl.Order{odDrop(1, 256), odDrop(1, 257), odDrop(2, 384), odMake(1, 3, 0), odLink(1, 257, 0, 256), odWrite(1, 256, 0, "xy"), odLeave(1), odBegin(), odStep(), odSlide()}
	for at := range len(x.list) + 1 {
		for _, first := range few {
			for behind := at; behind <= len(x.list); behind++ {
				for _, second := range few {
					others := slices.Insert(slices.Clone(x.list), behind, second)
					others = slices.Insert(others, at, first)
					_, othersAnswers := impl.Played(x.heap, others)
					if heard := impl.HeardBy(others, othersAnswers, 0); !sameAnswers(heard, answers) {
						t.Errorf("two orders, places %d and %d: heard %s, want %s", at, behind, answersShown(heard), answersShown(answers))
					}
				}
			}
		}
	}
}
