package tests

import (
	"math"
	"slices"
	"testing"

	"loop.example/g00750/impl"
)

func tenantShown(x impl.Tenant) string {
	return flagShown(x.Live, "live") + said("tag bytes", x.Tag, x.Bytes) + " " + tableShown(x.Table)
}

func tenantsShown(list []impl.Tenant) string {
	all := "tenants"
	for _, x := range list {
		all += " (" + tenantShown(x) + ")"
	}
	return all
}

func sameTenant(a, b impl.Tenant) bool {
	return a.Live == b.Live && a.Tag == b.Tag && a.Bytes == b.Bytes && slices.Equal(a.Table, b.Table)
}

// tenantIsRight and promisedBytes are written from the chapter's words.
func tenantIsRight(x impl.Tenant) bool {
	if !x.Live {
		return x.Tag == 0 && x.Bytes == 0 && len(x.Table) == 0
	}
	return x.Tag >= 1 && x.Tag <= 100000 && x.Bytes >= 0 && x.Bytes <= 1024 && len(x.Table) >= 1 && tableIsRight(x.Table)
}

func promisedBytes(list []impl.Tenant) int64 {
	all := int64(0)
	for i := range list {
		x := list[len(list)-1-i]
		if !tenantIsRight(x) {
			return -1
		}
		all += x.Bytes
	}
	return all
}

func checkPromised(t *testing.T, list []impl.Tenant, want int64) {
	t.Helper()
	if got := impl.PromisedTo(list); got != want {
		t.Errorf("%s: PromisedTo: got %d, want %d", tenantsShown(list), got, want)
	}
}

func checkRightTenant(t *testing.T, x impl.Tenant) {
	t.Helper()
	if !impl.TenantOk(x) {
		t.Errorf("%s: not right", tenantShown(x))
	}
	checkPromised(t, []impl.Tenant{x}, x.Bytes)
}

// checkWrongTenant tells that a tenant is not right, and that no list that has it, wherever, is promised anything.
func checkWrongTenant(t *testing.T, x impl.Tenant) {
	t.Helper()
	if impl.TenantOk(x) {
		t.Errorf("%s: right", tenantShown(x))
	}
	checkPromised(t, []impl.Tenant{x}, -1)
	for at := range 4 {
		checkPromised(t, slices.Insert([]impl.Tenant{live(1, 100, 2), {}, usedTenant()}, at, x), -1)
	}
}

// checkTenant holds both calls against the chapter's words.
func checkTenant(t *testing.T, x impl.Tenant) {
	t.Helper()
	if tenantIsRight(x) {
		checkRightTenant(t, x)
	} else {
		checkWrongTenant(t, x)
	}
}

// checkNewTenant tells, too, that a new tenant is right and has nothing.
func checkNewTenant(t *testing.T, tag, bytes, slots int64) {
	t.Helper()
	what := said("NewTenant", tag, bytes, slots)
	got, is := impl.NewTenant(tag, bytes, slots)
	if !is || !sameTenant(got, live(tag, bytes, slots)) {
		t.Fatalf("%s: got %s, %v", what, tenantShown(got), is)
	}
	checkRightTenant(t, got)
	checkFree(t, got.Table, 0)
	for slot := range slots {
		for gen := range int64(8) {
			checkLookedUp(t, got.Table, tag, (tag*8+gen)*16+slot, -1)
		}
	}
}

func checkNoNewTenant(t *testing.T, tag, bytes, slots int64) {
	t.Helper()
	got, is := impl.NewTenant(tag, bytes, slots)
	if is || !sameTenant(got, impl.Tenant{}) {
		t.Errorf("%s: got %s, %v; want the zero Tenant, false", said("NewTenant", tag, bytes, slots), tenantShown(got), is)
	}
}

// live is what a new tenant is, written down without the program.
func live(tag, bytes, slots int64) impl.Tenant {
	return impl.Tenant{Live: true, Tag: tag, Bytes: bytes, Table: make([]impl.Slot, slots)}
}

func usedTenant() impl.Tenant {
	return impl.Tenant{Live: true, Tag: 77, Bytes: 300, Table: mixedTable()}
}

func TestNewTenants(t *testing.T) {
	x, is := impl.NewTenant(7, 100, 3)
	if !is || !x.Live || x.Tag != 7 || x.Bytes != 100 || !slices.Equal(x.Table, []impl.Slot{{}, {}, {}}) {
		t.Fatal(tenantShown(x))
	}
	for _, c := range [][3]int64{
		{7, 100, 3}, {1, 64, 1}, {2, 1000, 16}, {3, 6, 8}, {12345, 212, 5}, {100, 1, 7}, {65536, 512, 2},
	} {
		checkNewTenant(t, c[0], c[1], c[2])
	}
}

// TestNewTenantsHaveNothing goes through all numbers of slots, and puts something into a new tenant to see that the next one has nothing all the same.
func TestNewTenantsHaveNothing(t *testing.T) {
	for slots := int64(1); slots <= 16; slots++ {
		for _, tag := range []int64{1, 2, 99999, 100000} {
			for _, bytes := range []int64{0, 1, 1023, 1024} {
				checkNewTenant(t, tag, bytes, slots)
				x, _ := impl.NewTenant(tag, bytes, slots)
				for slot := range x.Table {
					x.Table[slot] = impl.Slot{Used: true, Root: true, Gen: 7, At: 9}
				}
				checkNewTenant(t, tag, bytes, slots)
			}
		}
	}
}

func TestNewTenantsAtTheEdges(t *testing.T) {
	for _, c := range [][3]int64{
		{1, 100, 3}, {100000, 100, 3},
		{7, 0, 3}, {7, 1024, 3},
		{7, 100, 1}, {7, 100, 16},
		{1, 0, 1}, {100000, 1024, 16}, {1, 1024, 1}, {100000, 0, 16},
	} {
		checkNewTenant(t, c[0], c[1], c[2])
	}
	for _, c := range [][3]int64{
		{0, 100, 3}, {100001, 100, 3}, {-1, 100, 3},
		{7, -1, 3}, {7, 1025, 3},
		{7, 100, 0}, {7, 100, 17}, {7, 100, -1},
		{0, 0, 1}, {100001, 1024, 16}, {1, -1, 1}, {100000, 1025, 16}, {1, 0, 0}, {100000, 1024, 17},
		{0, 0, 0}, {0, -1, 0}, {-1, -1, -1}, {100001, 1025, 17}, {0, 1025, 17}, {0, 100, 0},
	} {
		checkNoNewTenant(t, c[0], c[1], c[2])
	}
}

func TestNewTenantsAgainstTheWords(t *testing.T) {
	for _, tag := range []int64{-2, -1, 0, 1, 2, 50000, 99999, 100000, 100001, 100002} {
		for _, bytes := range []int64{-2, -1, 0, 1, 2, 63, 64, 512, 1023, 1024, 1025, 1026} {
			for slots := int64(-2); slots <= 18; slots++ {
				if tag < 1 || tag > 100000 || bytes < 0 || bytes > 1024 || slots < 1 || slots > 16 {
					checkNoNewTenant(t, tag, bytes, slots)
				} else {
					checkNewTenant(t, tag, bytes, slots)
				}
			}
		}
	}
}

// checkStrangeTenant asks for a tenant with a strange number in each field; it is right where the number is, in that field.
func checkStrangeTenant(t *testing.T, n int64) {
	t.Helper()
	for _, right := range [][3]int64{{1, 0, 1}, {7, 100, 3}, {100000, 1024, 16}, {n, n, n}} {
		if n < 1 || n > 100000 {
			checkNoNewTenant(t, n, right[1], right[2])
			checkTenant(t, impl.Tenant{Live: true, Tag: n, Bytes: right[1], Table: make([]impl.Slot, 3)})
		}
		if n < 0 || n > 1024 {
			checkNoNewTenant(t, right[0], n, right[2])
			checkTenant(t, impl.Tenant{Live: true, Tag: right[0], Bytes: n, Table: make([]impl.Slot, 3)})
		}
		if n < 1 || n > 16 {
			checkNoNewTenant(t, right[0], right[1], n)
		}
	}
	if n != 0 {
		checkWrongTenant(t, impl.Tenant{Tag: n})
		checkWrongTenant(t, impl.Tenant{Bytes: n})
		checkWrongTenant(t, impl.Tenant{Tag: n, Bytes: -n})
	}
}

func TestStrangeNumbersForTenants(t *testing.T) {
	for _, n := range append(strange(), 17, 18, 1025, 1026, 65535, 100001) {
		checkStrangeTenant(t, n)
	}
	// Each is a good number but for the bits ahead of it.
	for bit := 17; bit < 64; bit++ {
		ahead := int64(-1) << bit
		for _, good := range []int64{0, 1, 3, 16} {
			checkStrangeTenant(t, good+ahead)
			checkStrangeTenant(t, good-ahead)
		}
	}
}

func TestRightTenants(t *testing.T) {
	for _, x := range []impl.Tenant{
		{}, {Table: []impl.Slot{}}, {Table: make([]impl.Slot, 0, 5)}, {Table: mixedTable()[:0]},
		live(1, 0, 1), live(1, 1024, 16), live(100000, 0, 16), live(100000, 1024, 1), live(7, 100, 3),
		usedTenant(),
		{Live: true, Tag: 7, Bytes: 0, Table: mixedTable()},
		{Live: true, Tag: 7, Bytes: 6, Table: []impl.Slot{{Gen: 8}}},
		{Live: true, Tag: 7, Bytes: 6, Table: []impl.Slot{{Used: true, Root: true, Gen: 7, At: 1024}}},
		{Live: true, Tag: 7, Bytes: 6, Table: slices.Repeat([]impl.Slot{{Gen: 8}}, 16)},
		{Live: true, Tag: 7, Bytes: 6, Table: slices.Repeat([]impl.Slot{{Used: true, Gen: 7, At: 1024}}, 16)},
	} {
		checkRightTenant(t, x)
	}
	for _, s := range edgeSlots() {
		checkRightTenant(t, impl.Tenant{Live: true, Tag: 3, Bytes: 20, Table: []impl.Slot{s}})
		checkRightTenant(t, impl.Tenant{Live: true, Tag: 3, Bytes: 20, Table: slices.Repeat([]impl.Slot{s}, 16)})
	}
}

// TestTenantsThatAreNotLive has each field other than zero on its own, and all that would be right if it were Live.
func TestTenantsThatAreNotLive(t *testing.T) {
	most, least := int64(math.MaxInt64), int64(math.MinInt64)
	for _, x := range []impl.Tenant{
		{Tag: 1}, {Tag: -1}, {Tag: 100000}, {Tag: 100001}, {Tag: most}, {Tag: least},
		{Bytes: 1}, {Bytes: -1}, {Bytes: 1024}, {Bytes: 1025}, {Bytes: most}, {Bytes: least},
		{Table: []impl.Slot{{}}}, {Table: make([]impl.Slot, 16)}, {Table: make([]impl.Slot, 17)}, {Table: []impl.Slot{{Gen: 8}}},
		{Table: []impl.Slot{{Gen: 9}}}, {Table: mixedTable()}, {Table: []impl.Slot{{Used: true}}},
		{Tag: 1, Bytes: -1}, {Tag: -1, Bytes: 1}, {Tag: 1, Bytes: 1}, {Tag: 1, Bytes: 100},
		{Tag: 1, Table: []impl.Slot{{}}}, {Bytes: 100, Table: []impl.Slot{{}}},
	} {
		checkWrongTenant(t, x)
	}
	for _, x := range []impl.Tenant{live(1, 0, 1), live(7, 100, 3), live(100000, 1024, 16), usedTenant()} {
		x.Live = false
		checkWrongTenant(t, x)
	}
}

func TestWrongTenants(t *testing.T) {
	for _, x := range []impl.Tenant{
		{Live: true},
		{Live: true, Tag: 1}, {Live: true, Tag: 1, Bytes: 100}, {Live: true, Tag: 1, Bytes: 100, Table: []impl.Slot{}},
		{Live: true, Table: []impl.Slot{{}}},
		live(0, 100, 3), live(100001, 100, 3), live(-1, 100, 3),
		live(7, -1, 3), live(7, 1025, 3),
		live(7, 100, 0), live(7, 100, 17), live(7, 100, 18), live(7, 100, 300),
		live(0, -1, 0), live(100001, 1025, 17),
	} {
		checkWrongTenant(t, x)
	}
	for _, size := range []int{17, 32, 300} {
		for _, s := range []impl.Slot{{Gen: 8}, {Used: true}, {Used: true, Root: true, Gen: 7, At: 1024}} {
			checkWrongTenant(t, impl.Tenant{Live: true, Tag: 7, Bytes: 100, Table: slices.Repeat([]impl.Slot{s}, size)})
		}
	}
}

func TestTenantsOfWrongTables(t *testing.T) {
	for _, s := range wrongSlots() {
		checkWrongTenant(t, impl.Tenant{Live: true, Tag: 7, Bytes: 100, Table: []impl.Slot{s}})
		checkWrongTenant(t, impl.Tenant{Table: []impl.Slot{s}})
		for at := range 3 {
			table := slices.Insert([]impl.Slot{{}, {Used: true, Root: true, At: 9}}, at, s)
			checkWrongTenant(t, impl.Tenant{Live: true, Tag: 7, Bytes: 100, Table: table})
		}
		whole := make([]impl.Slot, 16)
		whole[15] = s
		checkWrongTenant(t, impl.Tenant{Live: true, Tag: 7, Bytes: 100, Table: whole})
	}
}

func TestTenantsAgainstTheWords(t *testing.T) {
	tables := [][]impl.Slot{
		nil, {}, {{}}, {{Gen: 8}}, {{Gen: 9}}, {{Root: true}}, mixedTable(),
		make([]impl.Slot, 15), make([]impl.Slot, 16), make([]impl.Slot, 17), append(make([]impl.Slot, 15), impl.Slot{At: 1}),
	}
	for _, is := range []bool{false, true} {
		for _, tag := range []int64{-1, 0, 1, 2, 99999, 100000, 100001} {
			for _, bytes := range []int64{-1, 0, 1, 100, 1023, 1024, 1025} {
				for _, table := range tables {
					checkTenant(t, impl.Tenant{Live: is, Tag: tag, Bytes: bytes, Table: table})
				}
			}
		}
	}
}

func TestPromisedTo(t *testing.T) {
	x, y := live(7, 100, 3), live(8, 1024, 16)
	none := live(9, 0, 1)
	for _, c := range []struct {
		list []impl.Tenant
		want int64
	}{
		{nil, 0}, {[]impl.Tenant{}, 0},
		{[]impl.Tenant{{}}, 0}, {make([]impl.Tenant, 4), 0}, {make([]impl.Tenant, 50), 0},
		{[]impl.Tenant{x}, 100}, {[]impl.Tenant{y}, 1024}, {[]impl.Tenant{none}, 0},
		{[]impl.Tenant{x, {}, x}, 200}, {[]impl.Tenant{{}, x, {}, y}, 1124}, {[]impl.Tenant{none, y, none, x}, 1124},
		{[]impl.Tenant{usedTenant(), x, usedTenant()}, 700}, {[]impl.Tenant{x, y, usedTenant(), none}, 1424},
		// Neither that there are more than MaxTenants, nor that they have more than a floor together, is asked here.
		{slices.Repeat([]impl.Tenant{x}, 5), 500}, {slices.Repeat([]impl.Tenant{y}, 4), 4096}, {slices.Repeat([]impl.Tenant{y}, 70000), 71680000},
	} {
		checkPromised(t, c.list, c.want)
	}
}

// TestPromisedToOneThatIsWrong has it at the beginning, in the middle and at the end of lists of each length.
func TestPromisedToOneThatIsWrong(t *testing.T) {
	for _, x := range []impl.Tenant{
		{Tag: 1}, {Bytes: 1}, {Table: []impl.Slot{{}}}, {Live: true}, live(0, 1, 1), live(100001, 1, 1),
		live(1, -1, 1), live(1, 1025, 1), live(1, 1, 0), live(1, 1, 17),
		{Live: true, Tag: 1, Bytes: 1, Table: []impl.Slot{{Gen: 9}}},
		{Bytes: -300}, live(1, -300, 1), live(1, math.MaxInt64, 1), live(1, math.MinInt64, 1),
	} {
		for size := range 9 {
			for _, other := range []impl.Tenant{{}, live(2, 0, 1), live(2, 300, 4), usedTenant()} {
				for at := range size + 1 {
					list := slices.Repeat([]impl.Tenant{other}, size)
					checkPromised(t, list, other.Bytes*int64(size))
					checkPromised(t, slices.Insert(list, at, x), -1)
				}
			}
		}
		checkPromised(t, []impl.Tenant{x, x}, -1)
		checkPromised(t, []impl.Tenant{x, {}, live(2, 300, 4), x}, -1)
	}
	// Their Bytes would make up for each other, or go round.
	checkPromised(t, []impl.Tenant{live(1, -5, 1), live(2, 10, 1)}, -1)
	checkPromised(t, []impl.Tenant{live(1, 1030, 1), live(2, -30, 1)}, -1)
	checkPromised(t, slices.Repeat([]impl.Tenant{live(1, math.MaxInt64, 1)}, 2), -1)
	checkPromised(t, slices.Repeat([]impl.Tenant{live(1, 1<<62, 1)}, 4), -1)
}

// drawnTenant is a right one but for now and then.
func drawnTenant(d *drawn) impl.Tenant {
	if d.below(4) == 0 {
		return impl.Tenant{}
	}
	x := live(d.below(100000)+1, d.below(1025), d.below(16)+1)
	for slot := range x.Table {
		at, gen := d.below(1025), d.below(8)
		x.Table[slot] = []impl.Slot{{Gen: gen}, {Gen: 8}, {Used: true, Gen: gen, At: at}, {Used: true, Root: true, Gen: gen, At: at}}[d.below(4)]
	}
	switch d.below(60) {
	case 0:
		x.Live = false
	case 1:
		x.Tag += []int64{100000, -100000}[d.below(2)]
	case 2:
		x.Bytes += []int64{1025, -1025}[d.below(2)]
	case 3:
		x.Table[d.below(int64(len(x.Table)))].Gen += 9
	}
	return x
}

func TestDrawnTenants(t *testing.T) {
	var d drawn
	right := 0
	for range 20000 {
		list := make([]impl.Tenant, d.below(9))
		for i := range list {
			list[i] = drawnTenant(&d)
			if got := impl.TenantOk(list[i]); got != tenantIsRight(list[i]) {
				t.Errorf("%s: TenantOk: got %v", tenantShown(list[i]), got)
			}
		}
		want := promisedBytes(list)
		checkPromised(t, list, want)
		if want >= 0 {
			right++
		}
	}
	if right < 5000 || right > 19000 {
		t.Errorf("%d of 20000 lists are right", right)
	}
}

func withSpareTenants(list []impl.Tenant) sparedRows[impl.Tenant] {
	mark := impl.Tenant{Live: true, Tag: -5, Bytes: -5, Table: []impl.Slot{{Root: true}}}
	return withSpareRows(list, mark, sameTenant, func(x *impl.Tenant) kept {
		table := withSpareOf(x.Table, impl.Slot{Used: true, Root: true, Gen: -5, At: -5})
		x.Table = table.arg
		return table
	})
}

func TestTenantsStayAsTheyAre(t *testing.T) {
	wrong := impl.Tenant{Live: true, Tag: 7, Bytes: 1, Table: []impl.Slot{{}, {Gen: 9}}}
	for _, list := range [][]impl.Tenant{
		nil, {{}}, {live(7, 100, 3)}, {usedTenant(), {}, live(1, 1024, 16), {}}, slices.Repeat([]impl.Tenant{usedTenant()}, 9),
		{wrong}, {usedTenant(), wrong, usedTenant()}, {live(1, 1, 17), usedTenant()}, {usedTenant(), {Tag: 1}}, {{Table: mixedTable()}},
	} {
		spare := withSpareTenants(list)
		what := tenantsShown(list)
		for _, x := range spare.arg {
			impl.TenantOk(x)
			spare.checkSame(t, what+": TenantOk")
		}
		first := impl.PromisedTo(spare.arg)
		spare.checkSame(t, what+": PromisedTo")
		if again := impl.PromisedTo(spare.arg); again != first || first != promisedBytes(list) {
			t.Errorf("%s: PromisedTo: got %d, then %d", what, first, again)
		}
	}
}

func TestTenantAnswersAreNew(t *testing.T) {
	for _, c := range [][3]int64{{7, 100, 1}, {7, 100, 3}, {1, 0, 16}, {100000, 1024, 15}, {7, 100, 17}, {7, 100, 0}, {0, 100, 3}, {7, -1, 3}} {
		checkNewList(t, said("NewTenant", c[0], c[1], c[2]), nil, func() []impl.Slot {
			x, _ := impl.NewTenant(c[0], c[1], c[2])
			return x.Table
		}, otherSlot)
	}
}
