package tests

import (
	"math"
	"slices"
	"testing"

	"loop.example/g00750/impl"
)

func slotShown(s impl.Slot) string {
	return said(flagShown(s.Used, "used")+flagShown(s.Root, "root")+"gen at", s.Gen, s.At)
}

func flagShown(flag bool, name string) string {
	if flag {
		return name + " "
	}
	return ""
}

func tableShown(table []impl.Slot) string {
	all := "table of"
	for _, s := range table {
		all += " [" + slotShown(s) + "]"
	}
	return all
}

// slotIsRight is written from the chapter's words.
func slotIsRight(s impl.Slot) bool {
	if s.Gen < 0 || s.Gen > 8 || s.At < 0 || s.At > 1024 {
		return false
	}
	if s.Used {
		return s.Gen <= 7
	}
	return !s.Root && s.At == 0
}

func tableIsRight(table []impl.Slot) bool {
	for _, s := range table {
		if !slotIsRight(s) {
			return false
		}
	}
	return len(table) <= 16
}

func freeSlot(table []impl.Slot) int64 {
	if !tableIsRight(table) {
		return -1
	}
	for i, s := range table {
		if !s.Used && s.Gen != 8 {
			return int64(i)
		}
	}
	return -1
}

func slotIsIn(table []impl.Slot, slot int64) bool { return slot >= 0 && slot < int64(len(table)) }

func takenTable(table []impl.Slot, slot int64, at int64) ([]impl.Slot, bool) {
	if !tableIsRight(table) {
		return nil, false
	}
	if !slotIsIn(table, slot) || table[slot].Used || table[slot].Gen == 8 || at < 0 || at > 1024 {
		return table, false
	}
	taken := slices.Clone(table)
	taken[slot].Used, taken[slot].Root, taken[slot].At = true, true, at
	return taken, true
}

func freedTable(table []impl.Slot, slot int64) ([]impl.Slot, bool) {
	if !tableIsRight(table) {
		return nil, false
	}
	if !slotIsIn(table, slot) || !table[slot].Used {
		return table, false
	}
	freed := slices.Clone(table)
	freed[slot] = impl.Slot{Gen: table[slot].Gen + 1}
	return freed, true
}

// slotLookedUp goes through the table's slots and makes the number that each would be looked up by.
func slotLookedUp(table []impl.Slot, tag int64, number int64) int64 {
	if !tableIsRight(table) || tag < 1 || tag > 100000 {
		return -1
	}
	for i, s := range table {
		if s.Used && number == (tag*8+s.Gen)*16+int64(i) {
			return int64(i)
		}
	}
	return -1
}

func checkSlots(t *testing.T, table []impl.Slot, got []impl.Slot, is bool, want []impl.Slot, wantIs bool, call string, numbers ...int64) {
	t.Helper()
	if is != wantIs || !slices.Equal(got, want) {
		what := tableShown(table) + ": " + said(call, numbers...)
		t.Errorf("%s: got %s, %v; want %s, %v", what, tableShown(got), is, tableShown(want), wantIs)
	}
}

func checkTaken(t *testing.T, table []impl.Slot, slot int64, at int64) {
	t.Helper()
	got, is := impl.SlotTaken(table, slot, at)
	want, wantIs := takenTable(table, slot, at)
	checkSlots(t, table, got, is, want, wantIs, "SlotTaken", slot, at)
}

func checkFreed(t *testing.T, table []impl.Slot, slot int64) {
	t.Helper()
	got, is := impl.SlotFreed(table, slot)
	want, wantIs := freedTable(table, slot)
	checkSlots(t, table, got, is, want, wantIs, "SlotFreed", slot)
}

func checkFree(t *testing.T, table []impl.Slot, want int64) {
	t.Helper()
	if got := impl.FreeIn(table); got != want {
		t.Errorf("%s: FreeIn: got %d, want %d", tableShown(table), got, want)
	}
}

func checkLookedUp(t *testing.T, table []impl.Slot, tag int64, number int64, want int64) {
	t.Helper()
	if got := impl.LookedUp(table, tag, number); got != want {
		t.Errorf("%s: LookedUp tag %d, number %d: got %d, want %d", tableShown(table), tag, number, got, want)
	}
}

// checkTable holds all five calls against the chapter's words.
func checkTable(t *testing.T, table []impl.Slot) {
	t.Helper()
	if got := impl.TableOk(table); got != tableIsRight(table) {
		t.Errorf("%s: TableOk: got %v", tableShown(table), got)
	}
	checkFree(t, table, freeSlot(table))
	last := int64(len(table)) - 1
	for _, slot := range []int64{-1, 0, 1, last / 2, last, last + 1, 16} {
		for _, at := range []int64{-1, 0, 1, 512, 1024, 1025} {
			checkTaken(t, table, slot, at)
		}
		checkFreed(t, table, slot)
		for gen := int64(-1); gen <= 9; gen++ {
			for _, tag := range []int64{0, 1, 2, 100000, 100001} {
				number := (tag*8+gen)*16 + slot
				for _, by := range []int64{tag - 1, tag, tag + 1} {
					checkLookedUp(t, table, by, number, slotLookedUp(table, by, number))
				}
			}
		}
	}
}

// mixedTable has slots that are free, used, rooted and worn out.
func mixedTable() []impl.Slot {
	return []impl.Slot{
		{Used: true, Root: true, Gen: 3, At: 100}, {Gen: 8}, {Used: true, Gen: 7, At: 1024}, {Gen: 7}, {}, {Used: true},
	}
}

func TestTableOk(t *testing.T) {
	for _, table := range [][]impl.Slot{
		nil, {}, {{}}, mixedTable(),
		make([]impl.Slot, 15), make([]impl.Slot, 16),
		slices.Repeat([]impl.Slot{{Gen: 8}}, 16),
		slices.Repeat([]impl.Slot{{Used: true, Root: true, Gen: 7, At: 1024}}, 16),
	} {
		if !impl.TableOk(table) {
			t.Errorf("%s: not right", tableShown(table))
		}
	}
}

// edgeSlots has the right slots on the near side of each limit, and wrongSlots those on the far side.
func edgeSlots() []impl.Slot {
	return []impl.Slot{
		{}, {Gen: 1}, {Gen: 7}, {Gen: 8},
		{Used: true}, {Used: true, Gen: 7}, {Used: true, At: 1}, {Used: true, At: 1024}, {Used: true, Gen: 7, At: 1024},
		{Used: true, Root: true}, {Used: true, Root: true, Gen: 7}, {Used: true, Root: true, Gen: 7, At: 1024},
	}
}

func wrongSlots() []impl.Slot {
	most, least := int64(math.MaxInt64), int64(math.MinInt64)
	wrong := []impl.Slot{
		{Gen: -1}, {Gen: 9}, {Gen: 16}, {Gen: 256}, {Gen: 1 << 32}, {Gen: most}, {Gen: least},
		{Root: true}, {Root: true, Gen: 7}, {Root: true, Gen: 8}, {Root: true, At: 40}, {Root: true, Gen: -1}, {Root: true, Gen: 9},
		{At: 1}, {At: -1}, {At: 1024}, {At: 1025}, {At: 1 << 32}, {At: most}, {At: least}, {Gen: 8, At: 1}, {Gen: 7, At: 1}, {Gen: 8, At: -1},
	}
	for _, root := range []bool{false, true} {
		for _, s := range []impl.Slot{
			{Gen: -1}, {Gen: 8}, {Gen: 9}, {Gen: most}, {Gen: least}, {Gen: 1 << 32}, {Gen: 8, At: 1024},
			{At: -1}, {At: 1025}, {At: 1026}, {At: 1 << 16}, {At: 1 << 32}, {At: most}, {At: least}, {Gen: 8, At: 1025}, {Gen: -1, At: -1},
		} {
			wrong = append(wrong, impl.Slot{Used: true, Root: root, Gen: s.Gen, At: s.At})
		}
	}
	return wrong
}

func TestSlotsAtTheEdges(t *testing.T) {
	for _, s := range edgeSlots() {
		if !impl.TableOk([]impl.Slot{s}) {
			t.Errorf("%s: not right", slotShown(s))
		}
		checkTable(t, []impl.Slot{s})
	}
	for _, s := range wrongSlots() {
		if impl.TableOk([]impl.Slot{s}) {
			t.Errorf("%s: right", slotShown(s))
		}
		checkTable(t, []impl.Slot{s})
	}
}

func TestFreeIn(t *testing.T) {
	used := impl.Slot{Used: true, At: 8}
	for _, c := range []struct {
		table []impl.Slot
		want  int64
	}{
		{nil, -1},
		{[]impl.Slot{{}}, 0},
		{[]impl.Slot{{Gen: 7}}, 0},
		{[]impl.Slot{{Gen: 8}}, -1},
		{[]impl.Slot{used}, -1},
		{[]impl.Slot{used, {Gen: 5}, {}}, 1},
		{[]impl.Slot{{Gen: 8}, used, {Gen: 8}, {Gen: 7}, {}}, 3},
		{mixedTable(), 3},
		{append(slices.Repeat([]impl.Slot{{Gen: 8}}, 15), impl.Slot{}), 15},
		{append(slices.Repeat([]impl.Slot{used}, 15), impl.Slot{Gen: 7}), 15},
		{slices.Repeat([]impl.Slot{used}, 16), -1},
		{slices.Repeat([]impl.Slot{{Gen: 8}}, 16), -1},
		{make([]impl.Slot, 16), 0},
		{make([]impl.Slot, 17), -1},
		{append(make([]impl.Slot, 15), impl.Slot{Gen: 9}), -1},
	} {
		checkFree(t, c.table, c.want)
	}
}

func TestSlotTaken(t *testing.T) {
	table := mixedTable()
	for _, c := range []struct {
		slot, at int64
		want     impl.Slot
	}{
		{3, 0, impl.Slot{Used: true, Root: true, Gen: 7}},
		{3, 1024, impl.Slot{Used: true, Root: true, Gen: 7, At: 1024}},
		{4, 100, impl.Slot{Used: true, Root: true, At: 100}},
	} {
		want := mixedTable()
		want[c.slot] = c.want
		got, is := impl.SlotTaken(table, c.slot, c.at)
		checkSlots(t, table, got, is, want, true, "SlotTaken", c.slot, c.at)
	}
	for _, c := range [][2]int64{
		{0, 9}, {1, 9}, {2, 9}, {5, 9}, {6, 9}, {-1, 9}, {3, -1}, {3, 1025}, {4, -1}, {4, 1025}, {-1, -1}, {6, 1025},
	} {
		got, is := impl.SlotTaken(table, c[0], c[1])
		checkSlots(t, table, got, is, table, false, "SlotTaken", c[0], c[1])
	}
	got, is := impl.SlotTaken(nil, 0, 0)
	checkSlots(t, nil, got, is, nil, false, "SlotTaken", 0, 0)
}

func TestSlotFreed(t *testing.T) {
	table := mixedTable()
	for _, c := range []struct{ slot, gen int64 }{{0, 4}, {2, 8}, {5, 1}} {
		want := mixedTable()
		want[c.slot] = impl.Slot{Gen: c.gen}
		got, is := impl.SlotFreed(table, c.slot)
		checkSlots(t, table, got, is, want, true, "SlotFreed", c.slot)
	}
	for _, slot := range []int64{-1, 1, 3, 4, 6, 15, 16} {
		got, is := impl.SlotFreed(table, slot)
		checkSlots(t, table, got, is, table, false, "SlotFreed", slot)
	}
	got, is := impl.SlotFreed(nil, 0)
	checkSlots(t, nil, got, is, nil, false, "SlotFreed", 0)
}

func TestLookedUp(t *testing.T) {
	table := mixedTable()
	for _, c := range []struct{ tag, number, want int64 }{
		{1, (1*8+3)*16 + 0, 0},
		{1, (1*8+7)*16 + 2, 2},
		{1, (1*8+0)*16 + 5, 5},
		{100000, (100000*8+7)*16 + 2, 2},
		// Of another tag, gen or slot; worn out, free, or not there.
		{2, (1*8+3)*16 + 0, -1}, {0, (1*8+3)*16 + 0, -1},
		{1, (1*8+2)*16 + 0, -1}, {1, (1*8+4)*16 + 0, -1}, {1, (1*8+3)*16 + 5, -1}, {1, (1*8+0)*16 + 0, -1},
		{1, (1*8+7)*16 + 1, -1}, {1, (1*8+8)*16 + 1, -1}, {2, (1*8+8)*16 + 1, -1}, {1, (1*8+0)*16 + 1, -1},
		{1, (1*8+7)*16 + 3, -1}, {1, (1*8+0)*16 + 4, -1},
		{1, (1*8+0)*16 + 6, -1}, {1, (1*8+0)*16 + 15, -1},
		// Of no ticket at all, be the tag like it or not.
		{0, 5, -1}, {0, 3 * 16, -1}, {0, 0, -1}, {0, -1, -1}, {1, 0, -1}, {1, -1, -1}, {-1, -1, -1},
		{-1, -128 + 5, -1}, {-1, -128 + 3*16, -1}, {-1, -16 + 2, -1}, {-1, -(1*8+3)*16 - 0, -1},
		{100001, 100001*128 + 5, -1}, {100001, 100001*128 + 3*16, -1},
	} {
		checkLookedUp(t, table, c.tag, c.number, c.want)
	}
	checkLookedUp(t, nil, 1, 128, -1)
	checkLookedUp(t, []impl.Slot{{Used: true}}, 1, 128, 0)
	checkLookedUp(t, slices.Repeat([]impl.Slot{{Used: true, Gen: 7}}, 16), 1, 255, 15)
}

// checkGens tells that of all tickets of a slot just the one of gen is good; of gen -1, none is.
func checkGens(t *testing.T, table []impl.Slot, slot int64, gen int64) {
	t.Helper()
	for g := int64(0); g <= impl.MaxGen; g++ {
		want := int64(-1)
		if g == gen {
			want = slot
		}
		number := impl.NumberOf(impl.Ticket{Tag: 9, Gen: g, Slot: slot})
		checkLookedUp(t, table, 9, number, want)
		checkLookedUp(t, table, 8, number, -1)
		checkLookedUp(t, table, 10, number, -1)
	}
}

// TestATicketIsGoodForOneThing takes and frees each slot of a whole table till all are worn out.
func TestATicketIsGoodForOneThing(t *testing.T) {
	for _, size := range []int64{1, 3, impl.MaxSlots} {
		table := make([]impl.Slot, size)
		for slot := int64(0); slot < size; slot++ {
			for gen := int64(0); gen <= impl.MaxGen; gen++ {
				checkFree(t, table, slot)
				checkGens(t, table, slot, -1)
				taken, is := impl.SlotTaken(table, slot, 10*slot+gen)
				want := slices.Clone(table)
				want[slot] = impl.Slot{Used: true, Root: true, Gen: gen, At: 10*slot + gen}
				checkSlots(t, table, taken, is, want, true, "SlotTaken", slot, 10*slot+gen)
				checkGens(t, taken, slot, gen)
				checkTaken(t, taken, slot, 3)
				table, is = impl.SlotFreed(taken, slot)
				want[slot] = impl.Slot{Gen: gen + 1}
				checkSlots(t, taken, table, is, want, true, "SlotFreed", slot)
				checkFreed(t, table, slot)
			}
			checkGens(t, table, slot, -1)
			checkTaken(t, table, slot, 3)
		}
		checkFree(t, table, -1)
	}
}

func TestTablesAgainstTheWords(t *testing.T) {
	for _, used := range []bool{false, true} {
		for _, root := range []bool{false, true} {
			for gen := int64(-2); gen <= 10; gen++ {
				for _, at := range []int64{-2, -1, 0, 1, 2, 1023, 1024, 1025} {
					checkTable(t, []impl.Slot{{Used: used, Root: root, Gen: gen, At: at}})
				}
			}
		}
	}
	pool := []impl.Slot{
		{}, {Gen: 7}, {Gen: 8}, {Used: true}, {Used: true, Root: true, Gen: 7, At: 1024}, {Used: true, Gen: 2, At: 40},
		{Gen: 9}, {Root: true}, {Used: true, Gen: 8},
	}
	for _, a := range pool {
		for _, b := range pool {
			checkTable(t, []impl.Slot{a, b})
			for _, c := range pool {
				checkTable(t, []impl.Slot{a, b, c})
			}
		}
	}
	for _, size := range []int{0, 1, 2, 15, 16, 17, 18, 1000} {
		for _, s := range pool {
			checkTable(t, slices.Repeat([]impl.Slot{s}, size))
		}
	}
}

// checkRefused tells that each call has its fixed answer, for a slot that could be taken, freed and looked up if the table were right.
func checkRefused(t *testing.T, table []impl.Slot) {
	t.Helper()
	if impl.TableOk(table) {
		t.Errorf("%s: right", tableShown(table))
	}
	checkFree(t, table, -1)
	for slot := int64(-1); slot <= int64(len(table)); slot++ {
		for _, at := range []int64{-1, 0, 9, 1025} {
			got, is := impl.SlotTaken(table, slot, at)
			checkSlots(t, table, got, is, nil, false, "SlotTaken", slot, at)
		}
		got, is := impl.SlotFreed(table, slot)
		checkSlots(t, table, got, is, nil, false, "SlotFreed", slot)
		for gen := int64(0); gen <= 8; gen++ {
			checkLookedUp(t, table, 1, (8+gen)*16+slot, -1)
		}
	}
}

func TestWrongTables(t *testing.T) {
	for _, s := range wrongSlots() {
		checkRefused(t, []impl.Slot{s})
		for at := range 3 {
			checkRefused(t, slices.Insert([]impl.Slot{{}, {Used: true, Root: true, At: 9}}, at, s))
		}
		whole := slices.Repeat([]impl.Slot{{}, {Used: true}}, 8)
		whole[15] = s
		checkRefused(t, whole)
	}
	for _, s := range []impl.Slot{{}, {Gen: 8}, {Used: true}, {Used: true, Root: true, Gen: 7, At: 1024}} {
		for _, size := range []int{17, 18, 32, 300} {
			checkRefused(t, slices.Repeat([]impl.Slot{s}, size))
		}
	}
}

func TestStrangeNumbersForTables(t *testing.T) {
	table := mixedTable()
	whole := slices.Repeat([]impl.Slot{{Used: true}, {}}, 8)
	for _, n := range strange() {
		for _, right := range [][]impl.Slot{nil, {{}}, {{Used: true}}, table, whole} {
			for _, m := range []int64{-1, 0, 1, 4, 9, n} {
				checkTaken(t, right, n, m)
				checkTaken(t, right, m, n)
			}
			checkFreed(t, right, n)
			for _, m := range []int64{-1, 0, 1, 2, 128, 176, 247, 12800117, n} {
				checkLookedUp(t, right, n, m, slotLookedUp(right, n, m))
				checkLookedUp(t, right, m, n, slotLookedUp(right, m, n))
			}
		}
	}
	// Each is a good number, or a good slot, but for the bits ahead of it.
	for bit := 24; bit < 64; bit++ {
		ahead := int64(-1) << bit
		for _, number := range []int64{176, 247, 133} {
			for _, more := range []int64{number + ahead, number - ahead} {
				checkLookedUp(t, table, 1, more, -1)
				checkLookedUp(t, table, more>>7, more, slotLookedUp(table, more>>7, more))
				checkLookedUp(t, table, 1+ahead, number, -1)
			}
		}
		for _, more := range []int64{ahead, -ahead} {
			checkTaken(t, table, 3+more, 9)
			checkTaken(t, table, 3, 9+more)
			checkFreed(t, table, 0+more)
			checkFreed(t, table, 2+more)
		}
	}
}

func otherSlot(s impl.Slot) impl.Slot {
	return impl.Slot{Used: !s.Used, Root: !s.Root, Gen: s.Gen + 77, At: s.At - 77}
}

func TestTableAnswersAreNew(t *testing.T) {
	for _, right := range [][]impl.Slot{
		nil, {{}}, {{Used: true, At: 3}}, mixedTable(), make([]impl.Slot, 16), make([]impl.Slot, 17), {{}, {Gen: 9}},
	} {
		table := withSpareOf(right, impl.Slot{Used: true, Root: true, Gen: -5, At: -5})
		what := tableShown(right)
		for slot := int64(-1); slot <= int64(len(right)); slot++ {
			for _, at := range []int64{-1, 0, 9, 1024, 1025} {
				checkNewList(t, what+said(": SlotTaken", slot, at), []kept{table}, func() []impl.Slot {
					got, _ := impl.SlotTaken(table.arg, slot, at)
					return got
				}, otherSlot)
			}
			checkNewList(t, what+said(": SlotFreed", slot), []kept{table}, func() []impl.Slot {
				got, _ := impl.SlotFreed(table.arg, slot)
				return got
			}, otherSlot)
			impl.LookedUp(table.arg, 1, 128+slot)
		}
		impl.TableOk(table.arg)
		impl.FreeIn(table.arg)
		table.checkSame(t, what)
	}
}
