package tests

import (
	"cmp"
	"go/ast"
	"go/parser"
	"go/token"
	"math"
	"os"
	"path/filepath"
	"reflect"
	"slices"
	"strconv"
	"strings"
	"sync"
	"testing"
	"unsafe"

	"loop.example/g00750/impl"
)

// namedFunction is one that the document lists.
type namedFunction struct {
	name string
	f    any
}

// everyFunction has those of all chapters.
func everyFunction() []namedFunction {
	return []namedFunction{
		{"PartOf", impl.PartOf}, {"Laid", impl.Laid}, {"Pushed", impl.Pushed}, {"Wiped", impl.Wiped},
		{"HeadOk", impl.HeadOk}, {"HeadBytes", impl.HeadBytes}, {"HeadAt", impl.HeadAt},
		{"WalkOf", impl.WalkOf}, {"BareIn", impl.BareIn},
		{"TicketOk", impl.TicketOk}, {"NumberOf", impl.NumberOf}, {"TicketOf", impl.TicketOf},
		{"TableOk", impl.TableOk}, {"FreeIn", impl.FreeIn}, {"SlotTaken", impl.SlotTaken}, {"SlotFreed", impl.SlotFreed}, {"LookedUp", impl.LookedUp},
		{"WebOk", impl.WebOk}, {"Reached", impl.Reached}, {"LostIn", impl.LostIn}, {"CostOf", impl.CostOf},
		{"TenantOk", impl.TenantOk}, {"NewTenant", impl.NewTenant}, {"PromisedTo", impl.PromisedTo},
		{"HeapOk", impl.HeapOk}, {"NewHeap", impl.NewHeap}, {"BlocksOf", impl.BlocksOf}, {"WebIn", impl.WebIn}, {"UsedBy", impl.UsedBy},
		{"Entered", impl.Entered}, {"Gone", impl.Gone},
		{"SlideBegun", impl.SlideBegun}, {"SlideStep", impl.SlideStep}, {"SlideDone", impl.SlideDone}, {"StepsLeft", impl.StepsLeft},
		{"Made", impl.Made},
		{"ReadAt", impl.ReadAt}, {"WrittenAt", impl.WrittenAt}, {"RefAt", impl.RefAt}, {"RefSet", impl.RefSet},
		{"Rooted", impl.Rooted}, {"Unrooted", impl.Unrooted},
		{"AuditOf", impl.AuditOf}, {"CleanIn", impl.CleanIn},
		{"OrderOk", impl.OrderOk}, {"Did", impl.Did}, {"Private", impl.Private},
		{"ModelOf", impl.ModelOf}, {"ModelDid", impl.ModelDid}, {"ModelOk", impl.ModelOk}, {"SameModel", impl.SameModel},
		{"ShowOrder", impl.ShowOrder}, {"ReadOrder", impl.ReadOrder}, {"Played", impl.Played}, {"HeardBy", impl.HeardBy},
		{"Bench", impl.Bench},
	}
}

// TestNoFunctionIsLeftOut reads which ones there are from the program itself; there are no exported methods, nor exported variables.
func TestNoFunctionIsLeftOut(t *testing.T) {
	var listed, there []string
	for _, x := range everyFunction() {
		listed = append(listed, x.name)
	}
	paths, err := filepath.Glob(filepath.Join("..", "impl", "l*.go"))
	if err != nil || len(paths) != 18 {
		t.Fatal(paths, err)
	}
	for _, path := range paths {
		text, err := os.ReadFile(path)
		if err != nil {
			t.Fatal(err)
		}
		file, err := parser.ParseFile(token.NewFileSet(), path, text, 0)
		if err != nil {
			t.Fatal(err)
		}
		for _, d := range file.Decls {
			if f, is := d.(*ast.FuncDecl); is && f.Name.IsExported() && f.Name.Name != "Error" && f.Name.Name != "Unwrap" {
				there = append(there, f.Name.Name)
			}
		}
	}
	slices.Sort(there)
	if slices.Sort(listed); !slices.Equal(listed, there) {
		t.Errorf("listed are %v, there are %v", listed, there)
	}
}

// spareRoom is how much there is behind each list.
const spareRoom = 3

// withRoom is a copy of a value in memory of its own, in which each list, at any depth, has room behind it that is marked; no list stays none.
func withRoom(v reflect.Value) reflect.Value {
	switch v.Kind() {
	case reflect.Slice:
		if v.IsNil() {
			return v
		}
		whole := reflect.MakeSlice(v.Type(), v.Len()+spareRoom, v.Len()+spareRoom)
		reflect.Copy(whole, v)
		for i := range whole.Len() {
			if i >= v.Len() {
				markField(whole.Index(i))
			} else if v.Type().Elem().Kind() == reflect.Struct {
				whole.Index(i).Set(withRoom(v.Index(i)))
			}
		}
		return whole.Slice(0, v.Len())
	case reflect.Struct:
		other := reflect.New(v.Type()).Elem()
		for i := range v.NumField() {
			other.Field(i).Set(withRoom(v.Field(i)))
		}
		return other
	case reflect.String:
		return reflect.ValueOf(strings.Clone(v.String()))
	}
	return v
}

// markField makes of a zero value one that is not.
func markField(v reflect.Value) {
	switch v.Kind() {
	case reflect.Int64:
		v.SetInt(-5)
	case reflect.Uint8:
		v.SetUint(0xEE)
	case reflect.Bool:
		v.SetBool(true)
	case reflect.String:
		v.SetString("mark")
	case reflect.Struct:
		for i := range v.NumField() {
			markField(v.Field(i))
		}
	case reflect.Slice:
		v.Set(reflect.MakeSlice(v.Type(), 1, 2))
		markField(v.Index(0))
	}
}

// asItIs is a copy of a value with all the room behind its lists, for holding it against what it is later.
func asItIs(v reflect.Value) reflect.Value {
	switch v.Kind() {
	case reflect.Slice:
		if v.IsNil() {
			return v
		}
		whole := v.Slice(0, v.Cap())
		other := reflect.MakeSlice(v.Type(), whole.Len(), whole.Len())
		reflect.Copy(other, whole)
		if v.Type().Elem().Kind() == reflect.Struct {
			for i := range whole.Len() {
				other.Index(i).Set(asItIs(whole.Index(i)))
			}
		}
		return other
	case reflect.Struct:
		other := reflect.New(v.Type()).Elem()
		for i := range v.NumField() {
			other.Field(i).Set(asItIs(v.Field(i)))
		}
		return other
	}
	return v
}

// span is memory, from one place to below another, of an argument or of one of two answers.
type span struct {
	from, to uintptr
	of       string
}

// listSpans are of all lists in a value, with all the room behind them.
func listSpans(v reflect.Value, of string, spans []span) []span {
	switch v.Kind() {
	case reflect.Slice:
		if from := v.Pointer(); v.Cap() > 0 {
			spans = append(spans, span{from, from + uintptr(v.Cap())*v.Type().Elem().Size(), of})
		}
		if v.Type().Elem().Kind() == reflect.Struct {
			for i := range v.Len() {
				spans = listSpans(v.Index(i), of, spans)
			}
		}
	case reflect.Struct:
		for i := range v.NumField() {
			spans = listSpans(v.Field(i), of, spans)
		}
	}
	return spans
}

// textSpans are of all texts in a value that have a byte.
func textSpans(v reflect.Value, of string, spans []span) []span {
	switch {
	case v.Kind() == reflect.String && v.Len() > 0:
		text := v.String()
		from := uintptr(unsafe.Pointer(unsafe.StringData(text)))
		return append(spans, span{from, from + uintptr(len(text)), of})
	case v.Kind() == reflect.Struct:
		for i := range v.NumField() {
			spans = textSpans(v.Field(i), of, spans)
		}
	case v.Kind() == reflect.Slice && v.Type().Elem().Kind() == reflect.Struct:
		for i := range v.Len() {
			spans = textSpans(v.Index(i), of, spans)
		}
	}
	return spans
}

// sharing tells of two that have memory together, and must not.
func sharing(spans []span, apart func(a, b span) bool) string {
	slices.SortFunc(spans, func(a, b span) int { return cmp.Compare(a.from, b.from) })
	for i, a := range spans {
		for _, b := range spans[i+1:] {
			if b.from >= a.to {
				break
			}
			if apart(a, b) {
				return a.of + " and " + b.of
			}
		}
	}
	return ""
}

// answersOf calls, and tells of a panic.
func answersOf(f reflect.Value, args []reflect.Value) (answers []reflect.Value, panicked any) {
	defer func() { panicked = recover() }()
	return f.Call(args), nil
}

func argsShown(args []reflect.Value) string {
	var list []string
	for _, a := range args {
		shown := argShown(a)
		list = append(list, shown[:min(len(shown), 300)])
	}
	return strings.Join(list, ", ")
}

func argShown(v reflect.Value) string {
	var list []string
	switch v.Kind() {
	case reflect.Int64:
		return strconv.FormatInt(v.Int(), 10)
	case reflect.Uint8:
		return strconv.FormatUint(v.Uint(), 10)
	case reflect.Bool:
		return strconv.FormatBool(v.Bool())
	case reflect.String:
		return strconv.Quote(v.String())
	case reflect.Struct:
		for i := range v.NumField() {
			list = append(list, argShown(v.Field(i)))
		}
		return "{" + strings.Join(list, " ") + "}"
	case reflect.Slice:
		for i := range min(v.Len(), 40) {
			list = append(list, argShown(v.Index(i)))
		}
	}
	return said("[", int64(v.Len())) + ": " + strings.Join(list, " ") + "]"
}

// checkCall calls twice with the same arguments: both answer alike, with memory of their own, and the arguments stay, with the room behind them.
func checkCall(t *testing.T, x namedFunction, args []reflect.Value) []reflect.Value {
	t.Helper()
	f := reflect.ValueOf(x.f)
	var were, given []reflect.Value
	for _, a := range args {
		a = withRoom(a)
		given, were = append(given, a), append(were, asItIs(a))
	}
	var both [2][]reflect.Value
	for i := range both {
		var panicked any
		if both[i], panicked = answersOf(f, given); panicked != nil {
			t.Errorf("%s of %s panics: %v", x.name, argsShown(args), panicked)
			return nil
		}
	}
	var lists, texts []span
	for i, a := range given {
		if !reflect.DeepEqual(asItIs(a).Interface(), were[i].Interface()) {
			t.Errorf("%s of %s: argument %d, or the room behind it, is not as it was", x.name, argsShown(args), i)
		}
		lists, texts = listSpans(a, said("argument", int64(i)), lists), textSpans(a, "argument", texts)
	}
	for i, answers := range both {
		for j, a := range answers {
			if !reflect.DeepEqual(a.Interface(), both[0][j].Interface()) {
				t.Errorf("%s of %s: answer %d differs when asked again", x.name, argsShown(args), j)
			}
			lists, texts = listSpans(a, said("answer, its part", int64(i), int64(j)), lists), textSpans(a, "answer", texts)
		}
	}
	if shared := sharing(lists, func(span, span) bool { return true }); shared != "" {
		t.Errorf("%s of %s: memory is shared by %s", x.name, argsShown(args), shared)
	}
	// Of texts, what is in two answers may be one constant.
	if shared := sharing(texts, func(a, b span) bool { return a.of != b.of }); shared != "" {
		t.Errorf("%s of %s: a text is shared by %s", x.name, argsShown(args), shared)
	}
	return both[0]
}

// changedFields does it for a value with one thing in it changed at a time, at any depth: numbers that are far off, flags, texts, and lists that are none, empty, or have one fewer, one more or far too many.
func changedFields(v reflect.Value, do func()) {
	was := reflect.New(v.Type()).Elem()
	was.Set(v)
	with := func(other any) {
		v.Set(reflect.ValueOf(other).Convert(v.Type()))
		do()
		v.Set(was)
	}
	switch v.Kind() {
	case reflect.Int64:
		for _, n := range []int64{math.MinInt64, math.MaxInt64, -1, was.Int() + 1, was.Int() - 1, 1 << 32, 0, 1025} {
			with(n)
		}
	case reflect.Uint8:
		with(uint8(was.Uint() + 1))
		with(uint8(was.Uint() ^ 0xFF))
	case reflect.Bool:
		with(!was.Bool())
	case reflect.String:
		for _, text := range []string{"", "A", "-", "\xFF", was.String() + "a", strings.Repeat("a", 201), strings.Repeat("\x00", 5000)} {
			with(text)
		}
	case reflect.Struct:
		for i := range v.NumField() {
			changedFields(v.Field(i), do)
		}
	case reflect.Slice:
		with(reflect.Zero(v.Type()).Interface())
		with(reflect.MakeSlice(v.Type(), 0, 0).Interface())
		for _, n := range []int{was.Len() - 1, was.Len() + 1, 17, 1025, 3000} {
			if n >= 0 {
				other := reflect.MakeSlice(v.Type(), n, n)
				reflect.Copy(other, was)
				with(other.Interface())
			}
		}
		own := reflect.MakeSlice(v.Type(), was.Len(), was.Len())
		reflect.Copy(own, was)
		v.Set(own)
		for i := range own.Len() {
			changedFields(own.Index(i), do)
		}
		v.Set(was)
	}
}

// pool is of one type: right values, and those with something changed.
type pool struct{ right, changed []reflect.Value }

func poolOf[E any](right ...E) pool {
	var p pool
	for _, one := range right {
		v := reflect.New(reflect.TypeFor[E]()).Elem()
		v.Set(withRoom(reflect.ValueOf(one)))
		p.right = append(p.right, reflect.ValueOf(one))
		changedFields(v, func() { p.changed = append(p.changed, withRoom(v)) })
	}
	return p
}

func (p pool) drawn(d *drawn) reflect.Value {
	if d.below(4) == 0 {
		return p.changed[d.below(int64(len(p.changed)))]
	}
	return p.right[d.below(int64(len(p.right)))]
}

// numbersAsked are such as something is for, and such as nothing is.
func numbersAsked() pool {
	p := pool{}
	for _, n := range []int64{0, 1, 2, 3, 0, 2, 4, 5, 6, 7, 10, 15, 16, 64, 100, 128, 129, 130, 256, 257, 384, 385, 386, 496, 1024, 1025, 1026} {
		p.right = append(p.right, reflect.ValueOf(n))
	}
	for _, n := range append(farNumbers(), 8, 17, 63, 65, 127, 199, 200, 201, 206, 207, 999, 1000, 1001, 1023, 99999, 100000, 100001, 12800127, 12800128, 99999999, 100000000, math.MaxInt32, math.MinInt32, math.MaxInt64, math.MinInt64, math.MinInt64+1, -1) {
		p.changed = append(p.changed, reflect.ValueOf(n))
	}
	return p
}

// textsOfAllSorts are lines, texts of lines, and such as are neither.
func textsOfAllSorts() []string {
	list := []string{"", "\n", "write 0 128 0 -", "enter 0 20 2\nmake 0 3 1\nread 0 128 0 3\naudit 0\nblocks\ntop\nused 0\nfacts\nfloor 64", strings.Repeat("top\n", 200), strings.Repeat("top\n", 201), strings.Repeat("a", 6000), strings.Repeat("a", 6001), strings.Repeat(" ", 1<<20)}
	for b := range 256 {
		one := string([]byte{byte(b)})
		list = append(list, one, "top\n"+one, "write 0 128 0 a"+one, "audit"+one+"0")
	}
	return append(list, append(benchLines(), linesOf()...)...)
}

// pools are by type, of all types that there are as arguments.
func pools() map[reflect.Type]pool {
	head, busy, sliding := impl.Head{Size: 8, Owner: 2, Slot: 5, Refs: 1}, busyHeap(), slidingHeap()
	floors := [][]byte{nil, {}, make([]byte, 64), numbered(256), make([]byte, 1024), busy.Floor[:40], impl.HeadBytes(head), []byte("abc"), {0}}
	web := []impl.Knot{rooted(2, -1), unrooted(3), unrooted(), unrooted(1), gone()}
	played, answers := impl.Played(newHeap(new(testing.T), 128), scriptFor(128)[:50])
	models := []impl.Model{impl.ModelOf(busy), impl.ModelOf(played), {}}
	orders := poolOf(append(rightOrders(), odWrite(0, 496, 0, "ab"), odRead(0, 496, 0, 2), odMake(0, 5, 1), odLink(0, 496, 1, 385), impl.Order{})...)
	for b := range 256 {
		orders.changed = append(orders.changed, reflect.ValueOf(odWrite(0, 496, 0, string([]byte{byte(b), 'a'}))))
	}
	all := map[reflect.Type]pool{
		reflect.TypeFor[[]byte]():        poolOf(floors...),
		reflect.TypeFor[impl.Head]():     poolOf(head, impl.Head{Size: 1000, Owner: -1, Slot: 15, Refs: 6}, impl.Head{}),
		reflect.TypeFor[impl.Ticket]():   poolOf(impl.Ticket{Tag: 1}, impl.Ticket{Tag: 100000, Gen: 7, Slot: 15}, impl.Ticket{}),
		reflect.TypeFor[[]impl.Slot]():   poolOf(mixedTable(), make([]impl.Slot, 16), nil, []impl.Slot{}),
		reflect.TypeFor[[]impl.Knot]():   poolOf(web, []impl.Knot{rooted()}, nil, []impl.Knot{}, chain(16, 1)),
		reflect.TypeFor[impl.Tenant]():   poolOf(usedTenant(), live(1, 30, 16), impl.Tenant{}),
		reflect.TypeFor[[]impl.Tenant](): poolOf(busy.Tenants, nil, []impl.Tenant{}, make([]impl.Tenant, 4)),
		reflect.TypeFor[impl.Heap]():     poolOf(busy, sliding, newHeap(new(testing.T), 64), impl.Heap{}),
		reflect.TypeFor[impl.Order]():    orders,
		reflect.TypeFor[[]impl.Order]():  poolOf(nil, []impl.Order{}, ordersIn(busy, 1)[:20], []impl.Order{{}, odAudit(2), odRead(2, 1025, 0, 3), odRead(2, 1025, 0, 3)}),
		reflect.TypeFor[[]impl.Answer](): poolOf(nil, []impl.Answer{}, answers[:30], answersIn(4)),
		reflect.TypeFor[impl.Model]():    poolOf(models...),
		reflect.TypeFor[int64]():         numbersAsked(),
	}
	texts := pool{}
	for _, text := range textsOfAllSorts() {
		texts.right = append(texts.right, reflect.ValueOf(text))
	}
	texts.changed = texts.right
	all[reflect.TypeFor[string]()] = texts
	return all
}

// TestEveryFunctionAnswers has each argument of each function be all that there is of its type, with others beside it that are drawn; most of these are right.
func TestEveryFunctionAnswers(t *testing.T) {
	all := pools()
	var d drawn
	for _, x := range everyFunction() {
		f := reflect.TypeOf(x.f)
		zero, others := 0, 0
		for i := range f.NumIn() {
			p, is := all[f.In(i)]
			if !is {
				t.Fatalf("%s: of type %v there is nothing", x.name, f.In(i))
			}
			for range 1 + 4/f.NumIn() {
				for _, v := range append(slices.Clone(p.right), p.changed...) {
					var args []reflect.Value
					for j := range f.NumIn() {
						args = append(args, all[f.In(j)].drawn(&d))
					}
					args[i] = v
					if nothingIn(checkCall(t, x, args)) {
						zero++
					} else {
						others++
					}
				}
			}
		}
		if others < 10 || zero+others < 20 {
			t.Errorf("%s: %d calls, and %d answer with something", x.name, zero+others, others)
		}
	}
}

// nothingIn tells whether all that is answered is zero, or an empty list.
func nothingIn(answers []reflect.Value) bool {
	return !slices.ContainsFunc(answers, func(a reflect.Value) bool {
		return !a.IsZero() && (a.Kind() != reflect.Slice || a.Len() > 0)
	})
}

// TestEveryFunctionAtEachEdge has each two of a few numbers that lie at the edges in each function that takes but numbers, or numbers beside something that is right.
func TestEveryFunctionAtEachEdge(t *testing.T) {
	edges := []int64{math.MinInt64, math.MinInt64 + 1, -1, 0, 1, 3, 4, 6, 16, 64, 200, 1024, 1025, 100000, 1 << 32, math.MaxInt64 - 1, math.MaxInt64}
	all := pools()
	for _, x := range everyFunction() {
		f := reflect.TypeOf(x.f)
		var args []reflect.Value
		var numbers []int
		for i := range f.NumIn() {
			if args = append(args, all[f.In(i)].right[0]); f.In(i).Kind() == reflect.Int64 {
				numbers = append(numbers, i)
			} else if f.In(i) == reflect.TypeFor[[]byte]() {
				args[i] = reflect.ValueOf(make([]byte, 1024))
			}
		}
		for _, i := range numbers {
			for _, j := range numbers {
				for _, n := range edges {
					for _, m := range edges {
						some := slices.Clone(args)
						some[i], some[j] = reflect.ValueOf(n), reflect.ValueOf(m)
						checkCall(t, x, some)
					}
				}
			}
		}
	}
}

// TestEveryFunctionAtListsWithoutEnd has lists and texts that are far too long, of nothing and of anything.
func TestEveryFunctionAtListsWithoutEnd(t *testing.T) {
	all := pools()
	for _, n := range []int{1 << 12, 1 << 16} {
		for _, x := range everyFunction() {
			f := reflect.TypeOf(x.f)
			for i := range f.NumIn() {
				var args []reflect.Value
				for j := range f.NumIn() {
					args = append(args, all[f.In(j)].right[0])
				}
				switch f.In(i).Kind() {
				case reflect.String:
					for _, part := range []string{"\n", " ", "a", "top\n", "\x00", "1"} {
						args[i] = reflect.ValueOf(strings.Repeat(part, n))
						checkCall(t, x, args)
					}
				case reflect.Slice:
					args[i] = reflect.MakeSlice(f.In(i), n, n)
					checkCall(t, x, args)
					markField(args[i].Index(n / 2))
					checkCall(t, x, args)
				}
			}
		}
	}
}

// onceTwice are a right Heap and a right Model in which lists are the same memory: Tables of two tenants, Things of two rooms, and the Refs and Data of two things.
func onceTwice(t *testing.T) (impl.Heap, impl.Model) {
	t.Helper()
	h, _ := impl.Played(newHeap(t, 200), []impl.Order{odEnter(0, 60, 4), odEnter(1, 40, 4), odEnter(2, 50, 2), odEnter(3, 40, 4), odMake(2, 3, 1), odMake(2, 3, 1)})
	m := impl.ModelOf(h)
	h.Tenants[1].Table, h.Tenants[3].Table = h.Tenants[0].Table, h.Tenants[0].Table
	m.Rooms[1].Things, m.Rooms[3].Things = m.Rooms[0].Things, m.Rooms[0].Things
	things := m.Rooms[2].Things
	things[1].Refs, things[1].Data = things[0].Refs, things[0].Data
	if !impl.HeapOk(h) || !impl.ModelOk(m) {
		t.Fatal("they are not right")
	}
	return h, m
}

// TestListsThatAreTheSameMemory has lists of one argument that are: none of an answer is, nor shares any with it, and the argument stays.
func TestListsThatAreTheSameMemory(t *testing.T) {
	all := pools()
	var d drawn
	h, m := onceTwice(t)
	for _, x := range everyFunction() {
		f := reflect.TypeOf(x.f)
		for range 40 {
			var args, were []reflect.Value
			var spans []span
			for i := range f.NumIn() {
				arg := all[f.In(i)].drawn(&d)
				switch f.In(i) {
				case reflect.TypeOf(h):
					arg = reflect.ValueOf(h)
				case reflect.TypeOf(m):
					arg = reflect.ValueOf(m)
				case reflect.TypeFor[impl.Order]():
					arg = reflect.ValueOf(drawnOrdinary(&d, h))
				}
				args, were, spans = append(args, arg), append(were, asItIs(arg)), listSpans(arg, "argument", spans)
			}
			answers, panicked := answersOf(reflect.ValueOf(x.f), args)
			for j, a := range answers {
				spans = listSpans(a, said("answer", int64(j)), spans)
			}
			shared := sharing(spans, func(a, b span) bool { return a.of != "argument" || b.of != "argument" })
			if panicked != nil || shared != "" {
				t.Errorf("%s of %s: panics: %v; memory is shared by %s", x.name, argsShown(args), panicked, shared)
			}
			for i, a := range args {
				if !reflect.DeepEqual(asItIs(a).Interface(), were[i].Interface()) {
					t.Errorf("%s of %s: argument %d is not as it was", x.name, argsShown(args), i)
				}
			}
		}
	}
}

// TestAPartOfTheFloorIsLaid has two arguments that are the same memory.
func TestAPartOfTheFloorIsLaid(t *testing.T) {
	floor := numbered(100)
	laid, is := impl.Laid(floor, 10, floor[5:30])
	checkBytes(t, "a part of it", laid, is, slices.Concat(numbered(100)[:10], numbered(100)[5:30], numbered(100)[35:]), true)
	checkBytes(t, "the floor", floor, true, numbered(100), true)
	h := busyHeap()
	got, code := impl.WrittenAt(h, 2, 1025, 0, h.Floor[:3])
	want, _ := writtenTold(busyHeap(), touch{2, 1025, 0, 3}, busyHeap().Floor[:3])
	checkAnswer(t, "a part of it", got, code, want, impl.CdOk)
	checkAnswer(t, "the heap", h, 0, busyHeap(), 0)
}

// TestEveryFunctionAtTheSameTime has many calls with the same arguments in memory: each answers as alone.
func TestEveryFunctionAtTheSameTime(t *testing.T) {
	all := pools()
	var d drawn
	type call struct {
		x    namedFunction
		args []reflect.Value
		want []reflect.Value
	}
	var calls []call
	for _, x := range everyFunction() {
		for range 12 {
			var args []reflect.Value
			f := reflect.TypeOf(x.f)
			for i := range f.NumIn() {
				args = append(args, all[f.In(i)].drawn(&d))
			}
			calls = append(calls, call{x, args, checkCall(t, x, args)})
		}
	}
	var workers sync.WaitGroup
	for worker := range 8 {
		workers.Go(func() {
			for i := range calls {
				c := calls[(i*7+worker*31)%len(calls)]
				answers, panicked := answersOf(reflect.ValueOf(c.x.f), c.args)
				if panicked != nil || len(answers) != len(c.want) {
					t.Errorf("%s of %s panics: %v", c.x.name, argsShown(c.args), panicked)
					return
				}
				for j := range answers {
					if !reflect.DeepEqual(answers[j].Interface(), c.want[j].Interface()) {
						t.Errorf("%s of %s: answer %d differs at the same time", c.x.name, argsShown(c.args), j)
					}
				}
			}
		})
	}
	workers.Wait()
}
