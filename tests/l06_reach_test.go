package tests

import (
	"math"
	"slices"
	"testing"

	"loop.example/g00750/impl"
)

func knotShown(k impl.Knot) string {
	return said(flagShown(k.There, "there")+flagShown(k.Root, "root")+"refs", k.Refs...)
}

func webShown(web []impl.Knot) string {
	all := "web of"
	for _, k := range web {
		all += " [" + knotShown(k) + "]"
	}
	return all
}

// rooted, unrooted and gone are the three kinds of right knots.
func rooted(refs ...int64) impl.Knot { return impl.Knot{There: true, Root: true, Refs: refs} }

func unrooted(refs ...int64) impl.Knot { return impl.Knot{There: true, Refs: refs} }

func gone() impl.Knot { return impl.Knot{} }

// refIsRight, webIsRight and reachedSlots are written from the chapter's words.
func refIsRight(web []impl.Knot, ref int64) bool {
	if ref == -1 {
		return true
	}
	for i, k := range web {
		if int64(i) == ref {
			return k.There
		}
	}
	return false
}

func webIsRight(web []impl.Knot) bool {
	for _, k := range web {
		if len(k.Refs) > 6 || !k.There && (k.Root || len(k.Refs) > 0) {
			return false
		}
		for _, ref := range k.Refs {
			if !refIsRight(web, ref) {
				return false
			}
		}
	}
	return len(web) <= 16
}

// reachedSlots holds from each root all ways against each other: over no slot between, over the first one, over the first two, and so on.
func reachedSlots(web []impl.Knot) []bool {
	if !webIsRight(web) {
		return nil
	}
	var way [16][16]bool
	for i, k := range web {
		way[i][i] = true
		for _, ref := range k.Refs {
			if ref != -1 {
				way[i][ref] = true
			}
		}
	}
	for over := range web {
		for from := range web {
			for to := range web {
				way[from][to] = way[from][to] || way[from][over] && way[over][to]
			}
		}
	}
	reached := make([]bool, len(web))
	for from, k := range web {
		for to := range web {
			reached[to] = reached[to] || k.There && k.Root && way[from][to]
		}
	}
	return reached
}

func lostSlots(web []impl.Knot, reached []bool) []int64 {
	var lost []int64
	for i, is := range reached {
		if web[i].There && !is {
			lost = append(lost, int64(i))
		}
	}
	return lost
}

func checkReached(t *testing.T, web []impl.Knot, want []bool) {
	t.Helper()
	if got := impl.Reached(web); !slices.Equal(got, want) {
		t.Errorf("%s: Reached: got %v, want %v", webShown(web), got, want)
	}
}

func checkLost(t *testing.T, web []impl.Knot, want []int64) {
	t.Helper()
	if got := impl.LostIn(web); !slices.Equal(got, want) {
		t.Errorf("%s: LostIn: got %v, want %v", webShown(web), got, want)
	}
}

// checkWeb holds all three calls against the chapter's words.
func checkWeb(t *testing.T, web []impl.Knot) {
	t.Helper()
	if got := impl.WebOk(web); got != webIsRight(web) {
		t.Errorf("%s: WebOk: got %v", webShown(web), got)
	}
	reached := reachedSlots(web)
	checkReached(t, web, reached)
	checkLost(t, web, lostSlots(web, reached))
}

func checkNoWeb(t *testing.T, web []impl.Knot) {
	t.Helper()
	if impl.WebOk(web) {
		t.Errorf("%s: right", webShown(web))
	}
	checkReached(t, web, nil)
	checkLost(t, web, nil)
}

type webAndLost struct {
	web     []impl.Knot
	reached []bool
	lost    []int64
}

func rightWebs() []webAndLost {
	const y, n = true, false
	return []webAndLost{
		{nil, nil, nil},
		{[]impl.Knot{}, nil, nil},
		{[]impl.Knot{gone()}, []bool{n}, nil},
		{[]impl.Knot{rooted()}, []bool{y}, nil},
		{[]impl.Knot{unrooted()}, []bool{n}, []int64{0}},
		{[]impl.Knot{unrooted(), gone(), rooted(), unrooted()}, []bool{n, n, y, n}, []int64{0, 3}},
		// Of a reference, one way alone leads on.
		{[]impl.Knot{rooted(1), unrooted()}, []bool{y, y}, nil},
		{[]impl.Knot{rooted(), unrooted(0)}, []bool{y, n}, []int64{1}},
		{[]impl.Knot{unrooted(1), rooted()}, []bool{n, y}, []int64{0}},
		{[]impl.Knot{unrooted(), rooted(0)}, []bool{y, y}, nil},
		// Chains, one along the slots, one against them, one to and fro, one that nobody rooted begins.
		{[]impl.Knot{rooted(1), unrooted(2), unrooted(3), unrooted()}, []bool{y, y, y, y}, nil},
		{[]impl.Knot{unrooted(), unrooted(0), unrooted(1), rooted(2)}, []bool{y, y, y, y}, nil},
		{[]impl.Knot{unrooted(), rooted(4), unrooted(3), unrooted(0), unrooted(2)}, []bool{y, y, y, y, y}, nil},
		{[]impl.Knot{unrooted(1), unrooted(2), unrooted(3), rooted()}, []bool{n, n, n, y}, []int64{0, 1, 2}},
		{[]impl.Knot{unrooted(1), unrooted(2), rooted(3), unrooted()}, []bool{n, n, y, y}, []int64{0, 1}},
		// Rings, and some that refer to themselves.
		{[]impl.Knot{unrooted(0)}, []bool{n}, []int64{0}},
		{[]impl.Knot{rooted(0)}, []bool{y}, nil},
		{[]impl.Knot{rooted(0, 0, 1), unrooted(1), unrooted(2)}, []bool{y, y, n}, []int64{2}},
		{[]impl.Knot{unrooted(1), unrooted(2), unrooted(0), rooted()}, []bool{n, n, n, y}, []int64{0, 1, 2}},
		{[]impl.Knot{unrooted(1), unrooted(2), unrooted(0), rooted(1)}, []bool{y, y, y, y}, nil},
		{[]impl.Knot{unrooted(1, 3), unrooted(2), unrooted(0), rooted()}, []bool{n, n, n, y}, []int64{0, 1, 2}},
		{[]impl.Knot{unrooted(1), rooted(2), unrooted(0)}, []bool{y, y, y}, nil},
		{[]impl.Knot{unrooted(1), unrooted(0, 2), unrooted(3), unrooted(2), rooted(2)}, []bool{n, n, y, y, y}, []int64{0, 1}},
		// Many refer to one, one to many, and to none in between.
		{[]impl.Knot{rooted(3), rooted(3), unrooted(3), unrooted()}, []bool{y, y, n, y}, []int64{2}},
		{[]impl.Knot{unrooted(), rooted(-1, 0, -1, -1, 4, 3), unrooted(), unrooted(), unrooted()}, []bool{y, y, n, y, y}, []int64{2}},
		{[]impl.Knot{rooted(-1), unrooted(-1, -1)}, []bool{y, n}, []int64{1}},
	}
}

func TestWebs(t *testing.T) {
	for _, c := range rightWebs() {
		if !impl.WebOk(c.web) {
			t.Errorf("%s: not right", webShown(c.web))
		}
		checkReached(t, c.web, c.reached)
		checkLost(t, c.web, c.lost)
		checkWeb(t, c.web)
	}
}

// chain is of so many knots, each referring to the one that is step behind it, as if the first one lay behind the last one.
func chain(size, step int64) []impl.Knot {
	web := make([]impl.Knot, size)
	for i := range web {
		web[i] = unrooted((int64(i) + step + size) % size)
	}
	return web
}

func TestLongChains(t *testing.T) {
	for size := int64(1); size <= impl.MaxSlots; size++ {
		for step := -size; step <= size; step++ {
			ring := chain(size, step)
			checkLost(t, ring, upTo(size))
			checkWeb(t, ring)
			for root := range ring {
				ring[root].Root = true
				checkWeb(t, ring)
				last := (int64(root) - step + size) % size
				if step == 1 || step == -1 {
					checkLost(t, ring, nil)
					ring[last].Refs[0] = -1
					checkLost(t, ring, nil)
					ring[last].Refs[0] = int64(root)
				}
				ring[root].Root = false
			}
		}
	}
}

func upTo(size int64) []int64 {
	all := make([]int64, size)
	for i := range all {
		all[i] = int64(i)
	}
	return all
}

// TestTheEndOfAChain cuts a chain through all slots at each place: what lies behind the cut is lost, what lies ahead of it is not.
func TestTheEndOfAChain(t *testing.T) {
	const size = impl.MaxSlots
	for cut := range int64(size) {
		on := chain(size, 1)
		on[0].Root = true
		on[cut].Refs[0] = -1
		checkLost(t, on, upTo(size)[cut+1:])
		back := chain(size, -1)
		back[size-1].Root = true
		back[cut].Refs[0] = -1
		checkLost(t, back, upTo(cut))
	}
}

func TestHowManyKnots(t *testing.T) {
	for _, k := range []impl.Knot{gone(), rooted(), unrooted(), rooted(0), unrooted(-1), rooted(15), unrooted(14, 15)} {
		for size := range 20 {
			web := slices.Repeat([]impl.Knot{k}, size)
			checkWeb(t, web)
			want := size <= 16 && !slices.ContainsFunc(k.Refs, func(ref int64) bool { return ref >= int64(size) && size > 0 })
			if got := impl.WebOk(web); got != want {
				t.Errorf("%d of %s: WebOk: got %v", size, knotShown(k), got)
			}
		}
	}
	for _, size := range []int{17, 18, 32, 256, 1 << 16} {
		for _, k := range []impl.Knot{gone(), rooted(), unrooted(1), rooted(16)} {
			checkNoWeb(t, slices.Repeat([]impl.Knot{k}, size))
		}
	}
}

func TestHowManyRefs(t *testing.T) {
	for _, ref := range []int64{-1, 0, 1, 2} {
		for n := range 9 {
			refs := slices.Repeat([]int64{ref}, n)
			for _, k := range []impl.Knot{rooted(refs...), unrooted(refs...)} {
				for at := range 3 {
					web := slices.Insert([]impl.Knot{rooted(), unrooted()}, at, k)
					checkWeb(t, web)
					if got := impl.WebOk(web); got != (n <= 6) {
						t.Errorf("%s: WebOk: got %v", webShown(web), got)
					}
				}
			}
		}
	}
	for _, n := range []int{7, 8, 16, 256, 1 << 16} {
		checkNoWeb(t, []impl.Knot{rooted(slices.Repeat([]int64{-1}, n)...)})
		checkNoWeb(t, []impl.Knot{rooted(), unrooted(make([]int64, n)...)})
	}
}

// TestOneRef puts each reference at each place of a knot's six.
func TestOneRef(t *testing.T) {
	for size := int64(1); size <= impl.MaxSlots; size++ {
		for at := range 6 {
			for _, ref := range []int64{-2, -1, 0, size / 2, size - 1, size, size + 1, 15, 16} {
				web := make([]impl.Knot, size)
				for i := range web {
					web[i] = unrooted()
				}
				refs := slices.Repeat([]int64{-1}, 6)
				refs[at] = ref
				web[size-1] = rooted(refs...)
				if got := impl.WebOk(web); got != (ref >= -1 && ref < size) {
					t.Errorf("%s: WebOk: got %v", webShown(web), got)
				}
				checkWeb(t, web)
			}
		}
	}
}

func TestRefsToWhatIsNotThere(t *testing.T) {
	for _, k := range []impl.Knot{rooted(2), unrooted(2), unrooted(-1, 0, 2), rooted(0, 0, 1, 1, 0, 2)} {
		checkNoWeb(t, []impl.Knot{k, rooted(), gone()})
		checkNoWeb(t, []impl.Knot{unrooted(), k, gone()})
		checkNoWeb(t, []impl.Knot{rooted(), k, gone(), rooted(0)})
		checkWeb(t, []impl.Knot{k, rooted(), unrooted()})
		checkWeb(t, []impl.Knot{unrooted(), k, unrooted()})
	}
}

// wrongKnots are wrong in each web, whatever the others are.
func wrongKnots() []impl.Knot {
	most, least := int64(math.MaxInt64), int64(math.MinInt64)
	wrong := []impl.Knot{
		{Root: true}, {Root: true, Refs: []int64{0}}, {Root: true, Refs: []int64{-1}},
		{Refs: []int64{-1}}, {Refs: []int64{0}}, {Refs: []int64{-1, -1, -1, -1, -1, -1}}, {Refs: []int64{0, 0, 0, 0, 0, 0, 0}}, {Refs: []int64{most}},
		rooted(0, 0, 0, 0, 0, 0, 0), rooted(-1, -1, -1, -1, -1, -1, -1), unrooted(-1, -1, -1, -1, -1, -1, 0), unrooted(0, 0, 0, 0, 0, 0, most),
	}
	for _, ref := range []int64{-2, -3, 16, 17, 255, 256, most, most - 1, least, least + 1} {
		wrong = append(wrong, rooted(ref), unrooted(ref), rooted(0, ref), unrooted(ref, 0), rooted(-1, 0, 0, -1, 0, ref))
	}
	for bit := 4; bit < 64; bit++ {
		ahead := int64(-1) << bit
		wrong = append(wrong, rooted(ahead), unrooted(-ahead), rooted(ahead+1), unrooted(1-ahead))
	}
	return wrong
}

func TestWrongWebs(t *testing.T) {
	others := []impl.Knot{rooted(), unrooted(-1), rooted()}
	for _, k := range wrongKnots() {
		checkNoWeb(t, []impl.Knot{k})
		for at := range 4 {
			checkNoWeb(t, slices.Insert(slices.Clone(others), at, k))
		}
		whole := slices.Repeat([]impl.Knot{rooted(0)}, 16)
		for _, at := range []int{1, 7, 15} {
			web := slices.Clone(whole)
			web[at] = k
			checkNoWeb(t, web)
		}
	}
}

// knotsOf has all right and wrong knots of at most two references, to slots from -2 to size.
func knotsOf(size int64) []impl.Knot {
	lists := [][]int64{nil}
	for a := int64(-2); a <= size; a++ {
		lists = append(lists, []int64{a})
		for b := int64(-1); b < size; b++ {
			lists = append(lists, []int64{a, b})
		}
	}
	knots := []impl.Knot{gone(), {Root: true}, {Refs: []int64{-1}}, {Root: true, Refs: []int64{0}}}
	for _, refs := range lists {
		knots = append(knots, rooted(refs...), unrooted(refs...))
	}
	return knots
}

func TestEverySmallWeb(t *testing.T) {
	for _, a := range knotsOf(1) {
		checkWeb(t, []impl.Knot{a})
	}
	pair, three := knotsOf(2), knotsOf(3)
	for _, a := range pair {
		for _, b := range pair {
			checkWeb(t, []impl.Knot{a, b})
		}
	}
	for _, a := range three {
		for _, b := range three {
			for _, c := range three {
				checkWeb(t, []impl.Knot{a, b, c})
			}
		}
	}
}

// drawn is a row of numbers that look as if they were drawn, and are the same in each run.
type drawn uint64

func (d *drawn) below(n int64) int64 {
	*d = *d*6364136223846793005 + 1442695040888963407
	return int64(uint64(*d)>>33) % n
}

// drawnWeb is a right web but for now and then: few are rooted, and there are few references, so that something is lost.
func drawnWeb(d *drawn) []impl.Knot {
	web := make([]impl.Knot, d.below(17))
	for i := range web {
		web[i].There = d.below(8) > 0
		web[i].Root = web[i].There && d.below(6) == 0
	}
	for i := range web {
		for n := d.below(4); web[i].There && n > 0; n-- {
			ref := d.below(int64(len(web))+1) - 1
			if ref >= 0 && !web[ref].There && d.below(50) > 0 {
				ref = -1
			}
			web[i].Refs = append(web[i].Refs, ref)
		}
	}
	return web
}

// TestDrawnWebs asks of each web for what promise 6 tells, too: what is reached is rooted, or referred to by what is reached, and nothing else is lost.
func TestDrawnWebs(t *testing.T) {
	var d drawn
	right, lost := 0, 0
	for range 20000 {
		web := drawnWeb(&d)
		checkWeb(t, web)
		reached := impl.Reached(web)
		for slot, is := range reached {
			if is && !web[slot].Root && !referredTo(web, reached, int64(slot)) {
				t.Errorf("%s: %d is reached from nothing", webShown(web), slot)
			}
			if !is && (web[slot].Root || referredTo(web, reached, int64(slot))) {
				t.Errorf("%s: %d is not reached", webShown(web), slot)
			}
		}
		right += min(1, len(reached))
		lost += min(1, len(impl.LostIn(web)))
	}
	if right < 5000 || lost < 2000 {
		t.Errorf("only %d webs are right, of %d something is lost", right, lost)
	}
}

func referredTo(web []impl.Knot, reached []bool, slot int64) bool {
	for by, k := range web {
		if reached[by] && slices.Contains(k.Refs, slot) {
			return true
		}
	}
	return false
}

func TestCostOf(t *testing.T) {
	for n := int64(-3); n <= 205; n++ {
		for refs := int64(-3); refs <= 9; refs++ {
			want := 6 + refs + n
			if n < 0 || n > 200 || refs < 0 || refs > 6 {
				want = -1
			}
			checkCost(t, n, refs, want)
		}
	}
	if impl.MaxData != 200 {
		t.Errorf("MaxData is %d", impl.MaxData)
	}
}

func checkCost(t *testing.T, n, refs, want int64) {
	t.Helper()
	if got := impl.CostOf(n, refs); got != want {
		t.Errorf("CostOf %d and %d refs: got %d, want %d", n, refs, got, want)
	}
}

func TestStrangeNumbersForCosts(t *testing.T) {
	for _, n := range strange() {
		if n >= 0 && n <= 200 {
			continue
		}
		for _, m := range append(strange(), 0, 1, 5, 6, 7, 199, 200, 201, -1, -n, -n+6, 6-n, n-1, n+1) {
			checkCost(t, n, m, -1)
			if n > 6 || n < 0 {
				checkCost(t, m, n, -1)
			}
		}
	}
	// Each is a good number but for the bits ahead of it.
	for bit := 8; bit < 64; bit++ {
		ahead := int64(-1) << bit
		for _, more := range []int64{ahead, -ahead} {
			checkCost(t, 20+more, 3, -1)
			checkCost(t, 20, 3+more, -1)
			checkCost(t, 20+more, 3-more, -1)
		}
	}
}

func withSpareWeb(web []impl.Knot) sparedRows[impl.Knot] {
	return withSpareRows(web, impl.Knot{Root: true, Refs: []int64{-7}}, sameKnot, func(k *impl.Knot) kept {
		refs := withSpareOf(k.Refs, -99)
		k.Refs = refs.arg
		return refs
	})
}

func sameKnot(a, b impl.Knot) bool {
	return a.There == b.There && a.Root == b.Root && slices.Equal(a.Refs, b.Refs)
}

func TestReachAnswersAreNew(t *testing.T) {
	webs := [][]impl.Knot{slices.Repeat([]impl.Knot{unrooted(3)}, 16), slices.Repeat([]impl.Knot{unrooted(3)}, 17), {rooted(0, -2)}, {unrooted(1), gone()}}
	for _, c := range rightWebs() {
		webs = append(webs, c.web)
	}
	for _, web := range webs {
		spare := withSpareWeb(web)
		what := webShown(web)
		checkWeb(t, spare.arg)
		spare.checkSame(t, what)
		checkNewList(t, what+": Reached", []kept{spare}, func() []bool { return impl.Reached(spare.arg) }, func(b bool) bool { return !b })
		checkNewList(t, what+": LostIn", []kept{spare}, func() []int64 { return impl.LostIn(spare.arg) }, func(n int64) int64 { return n + 77 })
	}
}
