package tests

import (
	"bytes"
	"math"
	"strconv"
	"testing"

	"loop.example/g00750/impl"
)

// numbered is a floor of which no byte is 0 and neighbours differ.
func numbered(size int64) []byte {
	floor := make([]byte, size)
	for i := range floor {
		floor[i] = byte(i%251 + 1)
	}
	return floor
}

func checkBytes(t *testing.T, what string, got []byte, is bool, want []byte, wantIs bool) {
	t.Helper()
	if is != wantIs || !bytes.Equal(got, want) {
		t.Errorf("%s: got %v, %v; want %v, %v", what, got, is, want, wantIs)
	}
}

func said(name string, numbers ...int64) string {
	for _, n := range numbers {
		name += " " + strconv.FormatInt(n, 10)
	}
	return name
}

// outside are places and lengths of which not all bytes are there, in a floor of 6 bytes.
func outside() [][2]int64 {
	most, least := int64(math.MaxInt64), int64(math.MinInt64)
	return [][2]int64{
		{0, 7}, {1, 6}, {5, 2}, {6, 1}, {7, 0}, {7, -1},
		{-1, 0}, {-1, 1}, {-1, 7}, {-6, 6}, {0, -1}, {3, -1}, {6, -1}, {-1, -1},
		{1, most}, {6, most}, {most, 0}, {most, 1}, {most, 6}, {most, most},
		{3, most - 2}, {most - 2, 3}, {most - 2, 5}, {4, most - 3},
		{least, 0}, {least, 1}, {least, most}, {0, least}, {6, least}, {least, least}, {least, 6},
	}
}

func TestPartOf(t *testing.T) {
	floor := []byte{1, 2, 3, 4, 5, 6}
	for _, c := range []struct {
		at, n int64
		want  []byte
	}{
		{0, 6, []byte{1, 2, 3, 4, 5, 6}},
		{0, 1, []byte{1}},
		{5, 1, []byte{6}},
		{1, 5, []byte{2, 3, 4, 5, 6}},
		{2, 2, []byte{3, 4}},
		{0, 0, nil},
		{3, 0, nil},
		{6, 0, nil},
	} {
		got, is := impl.PartOf(floor, c.at, c.n)
		checkBytes(t, said("PartOf", c.at, c.n), got, is, c.want, true)
	}
	for _, c := range outside() {
		got, is := impl.PartOf(floor, c[0], c[1])
		checkBytes(t, said("PartOf", c[0], c[1]), got, is, nil, false)
	}
}

func TestLaid(t *testing.T) {
	floor := []byte{1, 2, 3, 4, 5, 6}
	for _, c := range []struct {
		at   int64
		data []byte
		want []byte
	}{
		{0, []byte{9, 8, 7, 6, 5, 4}, []byte{9, 8, 7, 6, 5, 4}},
		{0, []byte{9}, []byte{9, 2, 3, 4, 5, 6}},
		{5, []byte{9}, []byte{1, 2, 3, 4, 5, 9}},
		{4, []byte{9, 8}, []byte{1, 2, 3, 4, 9, 8}},
		{2, []byte{0, 255}, []byte{1, 2, 0, 255, 5, 6}},
		{0, nil, floor},
		{6, nil, floor},
		{6, []byte{}, floor},
	} {
		got, is := impl.Laid(floor, c.at, c.data)
		checkBytes(t, said("Laid", c.at, int64(len(c.data))), got, is, c.want, true)
	}
	for _, c := range outside() {
		if c[1] < 0 || c[1] > 2000 {
			continue
		}
		got, is := impl.Laid(floor, c[0], bytes.Repeat([]byte{9}, int(c[1])))
		checkBytes(t, said("Laid", c[0], c[1]), got, is, floor, false)
	}
}

func TestPushed(t *testing.T) {
	floor := []byte{1, 2, 3, 4, 5, 6}
	for _, c := range []struct {
		what        string
		from, to, n int64
		want        []byte
	}{
		{"overlapping by two", 1, 0, 3, []byte{2, 3, 4, 0, 5, 6}},
		{"overlapping by one", 2, 0, 3, []byte{3, 4, 5, 0, 0, 6}},
		{"overlapping to the end", 1, 0, 5, []byte{2, 3, 4, 5, 6, 0}},
		{"side by side", 3, 1, 2, []byte{1, 4, 5, 0, 0, 6}},
		{"side by side to the end", 3, 0, 3, []byte{4, 5, 6, 0, 0, 0}},
		{"apart", 4, 0, 2, []byte{5, 6, 3, 4, 0, 0}},
		{"apart by much", 5, 0, 1, []byte{6, 2, 3, 4, 5, 0}},
		{"from and to alike", 3, 3, 2, floor},
		{"all, from and to alike", 0, 0, 6, floor},
		{"nothing", 3, 1, 0, floor},
		{"nothing, from the end", 6, 0, 0, floor},
		{"nothing, at the end", 6, 6, 0, floor},
	} {
		got, is := impl.Pushed(floor, c.from, c.to, c.n)
		checkBytes(t, c.what, got, is, c.want, true)
	}
}

func TestPushedRefused(t *testing.T) {
	floor := []byte{1, 2, 3, 4, 5, 6}
	most, least := int64(math.MaxInt64), int64(math.MinInt64)
	for _, c := range [][3]int64{
		{2, 3, 1}, {0, 1, 0}, {5, 6, 1}, {6, 7, 0}, {3, most, 1},
		{2, -1, 1}, {2, -1, 0}, {0, -1, 1}, {3, least, 2},
	} {
		got, is := impl.Pushed(floor, c[0], c[1], c[2])
		checkBytes(t, said("Pushed", c[0], c[1], c[2]), got, is, floor, false)
	}
	for _, c := range outside() {
		for _, to := range []int64{0, 1, c[0], -1, most, least} {
			got, is := impl.Pushed(floor, c[0], to, c[1])
			checkBytes(t, said("Pushed", c[0], to, c[1]), got, is, floor, false)
		}
	}
}

func TestWiped(t *testing.T) {
	floor := []byte{1, 2, 3, 4, 5, 6}
	for _, c := range []struct {
		at, n int64
		want  []byte
	}{
		{0, 6, []byte{0, 0, 0, 0, 0, 0}},
		{0, 1, []byte{0, 2, 3, 4, 5, 6}},
		{5, 1, []byte{1, 2, 3, 4, 5, 0}},
		{2, 4, []byte{1, 2, 0, 0, 0, 0}},
		{1, 3, []byte{1, 0, 0, 0, 5, 6}},
		{0, 0, floor},
		{6, 0, floor},
	} {
		got, is := impl.Wiped(floor, c.at, c.n)
		checkBytes(t, said("Wiped", c.at, c.n), got, is, c.want, true)
	}
	for _, c := range outside() {
		got, is := impl.Wiped(floor, c[0], c[1])
		checkBytes(t, said("Wiped", c[0], c[1]), got, is, floor, false)
	}
}

func TestEmptyFloor(t *testing.T) {
	for _, floor := range [][]byte{nil, {}} {
		for _, c := range []struct {
			at, n int64
			is    bool
		}{{0, 0, true}, {0, 1, false}, {1, 0, false}, {-1, 0, false}, {0, -1, false}} {
			got, is := impl.PartOf(floor, c.at, c.n)
			checkBytes(t, said("PartOf", c.at, c.n), got, is, nil, c.is)
			got, is = impl.Wiped(floor, c.at, c.n)
			checkBytes(t, said("Wiped", c.at, c.n), got, is, nil, c.is)
			got, is = impl.Pushed(floor, c.at, c.at, c.n)
			checkBytes(t, said("Pushed", c.at, c.at, c.n), got, is, nil, c.is)
			got, is = impl.Laid(floor, c.at, make([]byte, max(c.n, 0)))
			checkBytes(t, said("Laid", c.at, c.n), got, is, nil, c.is || c.n == -1)
		}
	}
}

func TestLargestFloor(t *testing.T) {
	floor := numbered(impl.MaxFloor)
	got, is := impl.PartOf(floor, 0, 1024)
	checkBytes(t, "PartOf all", got, is, floor, true)
	got, is = impl.PartOf(floor, 1024, 0)
	checkBytes(t, "PartOf the end", got, is, nil, true)
	got, is = impl.PartOf(floor, 1, 1024)
	checkBytes(t, "PartOf one too many", got, is, nil, false)

	data := bytes.Repeat([]byte{7}, 1024)
	got, is = impl.Laid(floor, 0, data)
	checkBytes(t, "Laid over all", got, is, data, true)
	got, is = impl.Laid(floor, 0, append(data, 7))
	checkBytes(t, "Laid one too many", got, is, floor, false)

	got, is = impl.Pushed(floor, 1, 0, 1023)
	checkBytes(t, "Pushed all but one", got, is, append(bytes.Clone(floor[1:]), 0), true)
	got, is = impl.Pushed(floor, 1, 0, 1024)
	checkBytes(t, "Pushed one too many", got, is, floor, false)

	got, is = impl.Wiped(floor, 0, 1024)
	checkBytes(t, "Wiped all", got, is, make([]byte, 1024), true)
	got, is = impl.Wiped(floor, 0, 1025)
	checkBytes(t, "Wiped one too many", got, is, floor, false)
}

func TestTooLargeFloor(t *testing.T) {
	for _, size := range []int64{impl.MaxFloor + 1, 4 * impl.MaxFloor} {
		floor := numbered(size)
		for _, c := range [][2]int64{{0, 0}, {0, 1}, {5, 3}, {1023, 1}, {1024, 0}, {size, 0}, {0, size}, {0, 1024}} {
			got, is := impl.PartOf(floor, c[0], c[1])
			checkBytes(t, said("PartOf", c[0], c[1]), got, is, nil, false)
			got, is = impl.Laid(floor, c[0], make([]byte, c[1]))
			checkBytes(t, said("Laid", c[0], c[1]), got, is, floor, false)
			got, is = impl.Pushed(floor, c[0], 0, c[1])
			checkBytes(t, said("Pushed", c[0], 0, c[1]), got, is, floor, false)
			got, is = impl.Wiped(floor, c[0], c[1])
			checkBytes(t, said("Wiped", c[0], c[1]), got, is, floor, false)
		}
	}
}

// between tells it without any sum of two arguments that could go round.
func between(i, at, n int64) bool { return i >= at && i-at < n }

// pushedBytewise is the chapter's words for one byte at a time.
func pushedBytewise(floor []byte, from, to, n int64) []byte {
	want := make([]byte, len(floor))
	for i := range int64(len(floor)) {
		switch {
		case between(i, to, n):
			want[i] = floor[i-to+from]
		case !between(i, from, n):
			want[i] = floor[i]
		}
	}
	return want
}

func TestEveryPush(t *testing.T) {
	for size := range int64(9) {
		floor := numbered(size)
		for from := int64(-1); from <= size+1; from++ {
			for to := int64(-1); to <= size+1; to++ {
				for n := int64(-1); n <= size+1; n++ {
					right := from >= 0 && n >= 0 && from+n <= size && to >= 0 && to <= from
					want := floor
					if right {
						want = pushedBytewise(floor, from, to, n)
					}
					got, is := impl.Pushed(floor, from, to, n)
					checkBytes(t, said("Pushed", size, from, to, n), got, is, want, right)
				}
			}
		}
	}
}

func TestWhatIsLaidLiesThere(t *testing.T) {
	for size := range int64(9) {
		floor := numbered(size)
		for at := int64(-1); at <= size+1; at++ {
			for n := range size + 2 {
				data := bytes.Repeat([]byte{200, 0}, int(n))[:n]
				laid, is := impl.Laid(floor, at, data)
				wiped, wipedIs := impl.Wiped(floor, at, n)
				if right := at >= 0 && at+n <= size; !right {
					checkBytes(t, said("Laid", size, at, n), laid, is, floor, false)
					checkBytes(t, said("Wiped", size, at, n), wiped, wipedIs, floor, false)
					continue
				}
				checkAround(t, said("Laid", size, at, n), floor, laid, at, data)
				checkAround(t, said("Wiped", size, at, n), floor, wiped, at, make([]byte, n))
				if !is || !wipedIs {
					t.Errorf("%s: refused", said("Laid or Wiped", size, at, n))
				}
			}
		}
	}
}

// checkAround tells whether part lies at at, by PartOf, and nothing else is otherwise.
func checkAround(t *testing.T, what string, floor, got []byte, at int64, part []byte) {
	t.Helper()
	n := int64(len(part))
	lies, is := impl.PartOf(got, at, n)
	checkBytes(t, what+": what lies there", lies, is, part, true)
	if len(got) != len(floor) {
		t.Fatalf("%s: %d bytes, want %d", what, len(got), len(floor))
	}
	for i := range int64(len(floor)) {
		if !between(i, at, n) && got[i] != floor[i] {
			t.Errorf("%s: byte %d is otherwise", what, i)
		}
	}
}

func TestDataThatIsPartOfTheFloor(t *testing.T) {
	floor := withSpare([]byte{1, 2, 3, 4, 5, 6})
	got, is := impl.Laid(floor.arg, 1, floor.arg[0:4])
	checkBytes(t, "Laid over itself", got, is, []byte{1, 1, 2, 3, 4, 6}, true)
	got, is = impl.Laid(floor.arg, 0, floor.arg[2:])
	checkBytes(t, "Laid over itself", got, is, []byte{3, 4, 5, 6, 5, 6}, true)
	floor.checkSame(t, "Laid over itself")
}

func TestFloorAnswersAreNew(t *testing.T) {
	for _, size := range []int64{0, 6, impl.MaxFloor, impl.MaxFloor + 1} {
		floor := withSpare(numbered(size))
		one := []kept{floor}
		for _, at := range []int64{-1, 0, 1, 3, 5, size, size + 1} {
			for _, n := range []int64{-1, 0, 1, 3, 6, size - 1, size, size + 1} {
				checkNew(t, said("PartOf", size, at, n), one, func() []byte {
					got, _ := impl.PartOf(floor.arg, at, n)
					return got
				})
				checkNew(t, said("Wiped", size, at, n), one, func() []byte {
					got, _ := impl.Wiped(floor.arg, at, n)
					return got
				})
				for _, to := range []int64{-1, 0, 1, at} {
					checkNew(t, said("Pushed", size, at, to, n), one, func() []byte {
						got, _ := impl.Pushed(floor.arg, at, to, n)
						return got
					})
				}
				data := withSpare(bytes.Repeat([]byte{77}, int(max(n, 0))))
				checkNew(t, said("Laid", size, at, n), []kept{floor, data}, func() []byte {
					got, _ := impl.Laid(floor.arg, at, data.arg)
					return got
				})
			}
		}
	}
}
