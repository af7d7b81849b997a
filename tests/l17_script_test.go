package tests

import (
	"regexp"
	"slices"
	"strconv"
	"strings"
	"sync"
	"testing"

	"loop.example/g00750/impl"
)

// shapeOf is what the chapter has for each Kind; what is in capitals stands for a field.
func shapeOf(kind int64) string {
	return []string{
		"", "enter WHO A B", "leave WHO", "make WHO A B", "read WHO A B C", "write WHO A B TEXT", "ref WHO A B", "link WHO A B C", "root WHO A", "drop WHO A", "audit WHO",
		"begin", "step", "slide",
	}[kind]
}

// shownTold and orderReadTold are written from the chapter's words.
func shownTold(o impl.Order) string {
	if !orderRight(o) {
		return ""
	}
	shown := strings.NewReplacer("WHO", strconv.Itoa(int(o.Who)), "A", strconv.Itoa(int(o.A)), "B", strconv.Itoa(int(o.B)), "C", strconv.Itoa(int(o.C)), "TEXT", "-")
	if o.Text != "" {
		shown = strings.NewReplacer("WHO", strconv.Itoa(int(o.Who)), "A", strconv.Itoa(int(o.A)), "B", strconv.Itoa(int(o.B)), "TEXT", o.Text)
	}
	return shown.Replace(shapeOf(o.Kind))
}

// orderPatterns are of the texts that are shown, one for each Kind.
var orderPatterns = sync.OnceValue(func() []*regexp.Regexp {
	number := "(?P<$0>0|[1-9][0-9]{0,7})"
	fields := strings.NewReplacer("WHO", "(?P<WHO>[0-3])", "A", strings.ReplaceAll(number, "$0", "A"), "B", strings.ReplaceAll(number, "$0", "B"), "C", strings.ReplaceAll(number, "$0", "C"),
		"TEXT", "(?P<TEXT>-|[a-z0-9]{1,200})")
	list := []*regexp.Regexp{nil}
	for kind := int64(1); kind <= 13; kind++ {
		list = append(list, regexp.MustCompile(`\A`+fields.Replace(shapeOf(kind))+`\z`))
	}
	return list
})

func orderReadTold(s string) (impl.Order, bool) {
	for kind := int64(1); kind <= 13; kind++ {
		name, _, _ := strings.Cut(shapeOf(kind), " ")
		if !strings.HasPrefix(s, name) {
			continue
		}
		found := orderPatterns()[kind].FindStringSubmatch(s)
		if found == nil {
			continue
		}
		o := impl.Order{Kind: kind}
		for i, field := range orderPatterns()[kind].SubexpNames() {
			n, _ := strconv.ParseInt(found[i], 10, 64)
			switch field {
			case "WHO":
				o.Who = n
			case "A":
				o.A = n
			case "B":
				o.B = n
			case "C":
				o.C = n
			case "TEXT":
				o.Text = strings.TrimPrefix(found[i], "-")
			}
		}
		return o, true
	}
	return impl.Order{}, false
}

// checkOrderRead takes what is wanted from whoever asks; the words have to tell the same. What is read is shown as just that text.
func checkOrderRead(t *testing.T, what, s string, want impl.Order, is bool) {
	t.Helper()
	got, read := impl.ReadOrder(s)
	told, toldIs := orderReadTold(s)
	if got != want || read != is || told != want || toldIs != is {
		t.Errorf("%s: %s: got %s, %v; want %s, %v; by the words %s, %v", what, shortened(s), orderShown(got), read, orderShown(want), is, orderShown(told), toldIs)
	}
	if shown := impl.ShowOrder(got); read && shown != s || !read && shown != "" {
		t.Errorf("%s: %s is read, and shown as %s", what, shortened(s), shortened(shown))
	}
}

func checkNoOrder(t *testing.T, what, s string) {
	t.Helper()
	checkOrderRead(t, what, s, impl.Order{}, false)
}

// checkOrderAsTold is for where whoever asks can't tell beforehand.
func checkOrderAsTold(t *testing.T, what, s string) bool {
	t.Helper()
	want, is := orderReadTold(s)
	checkOrderRead(t, what, s, want, is)
	return is
}

// checkShown takes the text from whoever asks; the words have to tell the same, and it is read as the Order.
func checkShown(t *testing.T, what string, o impl.Order, want string) {
	t.Helper()
	if got, told := impl.ShowOrder(o), shownTold(o); got != want || told != want {
		t.Errorf("%s: %s: got %s; want %s; by the words %s", what, orderShown(o), strconv.Quote(got), strconv.Quote(want), strconv.Quote(told))
	}
	if want != "" {
		checkOrderRead(t, what, want, o, true)
	}
	checkOrder(t, what, o, want != "")
}

// TestOrdersInWords has each Kind word for word.
func TestOrdersInWords(t *testing.T) {
	letters := strings.Repeat("q7", 100)
	for _, c := range []struct {
		order impl.Order
		text  string
	}{
		{odEnter(0, 0, 0), "enter 0 0 0"}, {odEnter(3, 1024, 16), "enter 3 1024 16"}, {odEnter(1, 5, mostArg), "enter 1 5 99999999"},
		{odLeave(0), "leave 0"}, {odLeave(1), "leave 1"}, {odLeave(2), "leave 2"}, {odLeave(3), "leave 3"},
		{odMake(0, 0, 0), "make 0 0 0"}, {odMake(2, 200, 6), "make 2 200 6"}, {odMake(3, 6, 200), "make 3 6 200"},
		{odRead(0, 0, 0, 0), "read 0 0 0 0"}, {odRead(3, 128, 1, 2), "read 3 128 1 2"}, {odRead(1, 3, 2, 1), "read 1 3 2 1"},
		{odWrite(0, 0, 0, ""), "write 0 0 0 -"}, {odWrite(1, 128, 7, "ab9"), "write 1 128 7 ab9"}, {odWrite(2, 5, 6, "0"), "write 2 5 6 0"}, {odWrite(3, 10, 100, "007"), "write 3 10 100 007"},
		{odWrite(3, 6, 5, "write"), "write 3 6 5 write"}, {odWrite(1, 1, 1, plainBytes), "write 1 1 1 abcdefghijklmnopqrstuvwxyz0123456789"}, {odWrite(2, mostArg, mostArg, letters), "write 2 99999999 99999999 " + letters},
		{odRef(0, 0, 0), "ref 0 0 0"}, {odRef(2, 129, 5), "ref 2 129 5"}, {odLink(0, 0, 0, 0), "link 0 0 0 0"}, {odLink(3, 4, 5, 6), "link 3 4 5 6"}, {odLink(1, 256, 0, 257), "link 1 256 0 257"},
		{odRoot(0, 0), "root 0 0"}, {odRoot(3, 12800127), "root 3 12800127"}, {odDrop(0, 0), "drop 0 0"}, {odDrop(2, 99999998), "drop 2 99999998"},
		{odAudit(0), "audit 0"}, {odAudit(3), "audit 3"}, {odBegin(), "begin"}, {odStep(), "step"}, {odSlide(), "slide"},
	} {
		checkShown(t, "in words", c.order, c.text)
	}
}

// toldTexts are an empty one, one letter, one digit, all of them, and as much as there may be.
func toldTexts() []string {
	return []string{"", "a", "z", "0", "9", plainBytes, strings.Repeat("a", 200), strings.Repeat("0", 200), strings.Repeat("x9y8", 50)}
}

// withEdges are of one Kind, with each of what it tells at its smallest and its largest, and about where one digit more is written.
func withEdges(kind int64) []impl.Order {
	list := []impl.Order{{Kind: kind}}
	each := func(field string, n int, set func(o *impl.Order, i int)) {
		if !strings.Contains(rowOf(kind), field) {
			return
		}
		var more []impl.Order
		for _, o := range list {
			for i := range n {
				set(&o, i)
				more = append(more, o)
			}
		}
		list = more
	}
	edges := []int64{0, 1, 9, 10, mostArg}
	each("w", 2, func(o *impl.Order, i int) { o.Who = int64(i) * 3 })
	each("a", 5, func(o *impl.Order, i int) { o.A = edges[i] })
	each("b", 5, func(o *impl.Order, i int) { o.B = edges[i] })
	each("c", 5, func(o *impl.Order, i int) { o.C = edges[i] })
	each("t", len(toldTexts()), func(o *impl.Order, i int) { o.Text = toldTexts()[i] })
	return list
}

// TestEachEdgeInWords has no two Orders of one text, too.
func TestEachEdgeInWords(t *testing.T) {
	all := map[string]impl.Order{}
	for kind := int64(1); kind <= 13; kind++ {
		list := withEdges(kind)
		if want := []int{0, 50, 2, 50, 250, 450, 50, 250, 10, 10, 2, 1, 1, 1}[kind]; len(list) != want {
			t.Errorf("%d of Kind %d, want %d", len(list), kind, want)
		}
		for _, o := range list {
			shown := impl.ShowOrder(o)
			if other, is := all[shown]; is || shown == "" {
				t.Errorf("%s and %s are shown as %s", orderShown(o), orderShown(other), shortened(shown))
			}
			all[shown] = o
			checkShown(t, "edge", o, shownTold(o))
		}
	}
}

// TestEachNumberInWords has as many digits as there may be, and each first and last of so many.
func TestEachNumberInWords(t *testing.T) {
	for ten := int64(1); ten <= mostArg+1; ten *= 10 {
		for _, n := range []int64{ten - 1, ten, ten + 1, 2 * ten, 5*ten + 7, 9 * ten, 10*ten - 1} {
			if n > mostArg {
				continue
			}
			word := strconv.FormatInt(n, 10)
			checkShown(t, "number", odRoot(1, n), "root 1 "+word)
			checkShown(t, "number", odRead(2, n, 3, 4), "read 2 "+word+" 3 4")
			checkShown(t, "number", odRead(2, 3, n, 4), "read 2 3 "+word+" 4")
			checkShown(t, "number", odLink(2, 3, 4, n), "link 2 3 4 "+word)
			checkShown(t, "number", odWrite(2, 3, n, word), "write 2 3 "+word+" "+word)
		}
	}
	for n := range int64(2000) {
		checkShown(t, "number", odDrop(n%4, n), "drop "+strconv.FormatInt(n%4, 10)+" "+strconv.FormatInt(n, 10))
	}
}

// TestEachTextInWords has each length, and each letter and digit alone, and ahead of, behind and between others.
func TestEachTextInWords(t *testing.T) {
	for n := range 202 {
		text := strings.Repeat(plainBytes, 6)[:n]
		want := "write 1 2 3 " + text
		switch {
		case n == 0:
			want = "write 1 2 3 -"
		case n > 200:
			want = ""
		}
		checkShown(t, "length", odWrite(1, 2, 3, text), want)
	}
	for _, letter := range plainBytes {
		one := string(letter)
		for _, text := range []string{one, one + "a", "a" + one, "0" + one + "z", one + one, strings.Repeat(one, 200)} {
			checkShown(t, "letter", odWrite(1, 2, 3, text), "write 1 2 3 "+text)
		}
	}
}

// TestScriptsInWords has all orders that other scripts are of, right ones and others.
func TestScriptsInWords(t *testing.T) {
	var d drawn
	kinds := map[int64]int{}
	var list []impl.Order
	for _, c := range orderScript() {
		list = append(list, c.order)
	}
	h := newHeap(t, 300)
	for range 1500 {
		o := []impl.Order{drawnOrdinary(&d, h), drawnWild(&d, h)}[d.below(2)]
		list = append(list, o)
		h, _ = impl.Did(h, o)
	}
	wrong := 0
	for _, o := range slices.Concat(list, scriptFor(64), scriptFor(1024), rightOrders(), wrongOrders()) {
		checkShown(t, "script", o, shownTold(o))
		if kinds[o.Kind]++; !orderRight(o) {
			wrong++
		}
	}
	checkOften(t, kinds, 30, 1, 2, 3, 4, 5, 6, 7, 8, 9, 10, 11, 12, 13)
	if wrong < 200 {
		t.Errorf("just %d are not right", wrong)
	}
}

// TestOrdersThatAreNotShown has each field of each Kind one too small and one too large, and as far from it as may be, and what its row does not tell.
func TestOrdersThatAreNotShown(t *testing.T) {
	for _, o := range wrongOrders() {
		checkShown(t, "wrong", o, "")
	}
	values := append(farNumbers(), -1, 4, 5, mostArg+1, mostArg+2, -mostArg, 1<<63-1, -1<<63)
	for _, right := range rightOrders() {
		row := rowOf(right.Kind)
		for i, field := range []string{"w", "a", "b", "c"} {
			for _, n := range values {
				o := right
				*[]*int64{&o.Who, &o.A, &o.B, &o.C}[i] = n
				if n != 0 && !strings.Contains(row, field) || n < 0 || n > mostArg || field == "w" && n > 3 {
					checkShown(t, "field "+field, o, "")
				}
			}
		}
		for _, n := range append(values, 0, 14, 15, 1<<32+right.Kind, -right.Kind) {
			if n < 1 || n > 13 {
				checkShown(t, "no Kind", changedBy(right, func(o *impl.Order) { o.Kind = n }), "")
			}
		}
		if row != "wabt" {
			for _, text := range []string{"a", "0", "-", strings.Repeat("a", 200)} {
				checkShown(t, "a Text that is not told", changedBy(right, func(o *impl.Order) { o.Text = text }), "")
			}
		}
	}
}

// TestTextsThatAreNotShown has each byte that is no letter and no digit, and more than MaxData; an empty one is shown as -, which is none itself.
func TestTextsThatAreNotShown(t *testing.T) {
	for b := range 256 {
		one := string([]byte{byte(b)})
		if strings.Contains(plainBytes, one) {
			continue
		}
		for _, text := range []string{one, one + "a", "a" + one, "a" + one + "b", strings.Repeat("a", 199) + one} {
			checkShown(t, "byte", odWrite(1, 2, 3, text), "")
			checkNoOrder(t, "byte", "write 1 2 3 "+strings.Repeat(text, 2))
			checkOrderAsTold(t, "byte", "write 1 2 3 "+text)
		}
	}
	for _, n := range []int{201, 202, 256, 1000, 1 << 16, 1 << 20} {
		checkShown(t, "more than MaxData", odWrite(1, 2, 3, strings.Repeat("a", n)), "")
		checkNoOrder(t, "more than MaxData", "write 1 2 3 "+strings.Repeat("a", n))
	}
	for _, text := range []string{"-", "--", "a-", "-a", "-0", "-1", " ", "", "a b", "a ", " a", "A", "é", "\n", "a\n"} {
		if text != "" {
			checkShown(t, "no Text", odWrite(1, 2, 3, text), "")
		}
		if text != "-" {
			checkNoOrder(t, "no Text", "write 1 2 3 "+text)
		}
	}
}

// linesOf are right texts of all Kinds, some of them with what is shown otherwise than it is.
func linesOf() []string {
	var list []string
	for _, o := range append(rightOrders(), odWrite(0, 0, 0, ""), odRead(3, mostArg, 0, 10), odLink(0, 9, 1, 0), odEnter(3, 1024, 16), odWrite(3, 10, 0, "0a"), odDrop(0, 0)) {
		list = append(list, impl.ShowOrder(o))
	}
	return list
}

// TestWordsTooFewAndTooMany has each word left out, and others put in at each place, ahead and behind too; the ones behind make a word too many, so none of that is an Order.
func TestWordsTooFewAndTooMany(t *testing.T) {
	for _, line := range linesOf() {
		words := strings.Split(line, " ")
		for i := range words {
			checkNoOrder(t, "a word too few", strings.Join(slices.Delete(slices.Clone(words), i, i+1), " "))
			if i > 0 {
				checkNoOrder(t, "some words too few", strings.Join(words[:i], " "))
			}
		}
		for i := range len(words) + 1 {
			for _, more := range []string{"0", "1", "3", "4", "a", "-", "", "audit", words[0], words[len(words)-1]} {
				checkNoOrder(t, "a word too many", strings.Join(slices.Insert(slices.Clone(words), i, more), " "))
				checkNoOrder(t, "words too many", strings.Join(slices.Insert(slices.Clone(words), i, more, more), " "))
			}
		}
		checkNoOrder(t, "twice", line+" "+line)
		checkNoOrder(t, "twice", line+line)
		checkNoOrder(t, "two lines", line+"\n"+line)
	}
	for kind := int64(1); kind <= 10; kind++ {
		name, _, _ := strings.Cut(shapeOf(kind), " ")
		for _, s := range []string{name, name + " ", name + " 0 0 0 0 0", name + " 0 0 0 0 0 0", name + " - - - -", name + strings.Repeat(" ", 3), name + strings.Repeat(" ", 4), name + strings.Repeat(" ", 5)} {
			checkNoOrder(t, "a Kind's word", s)
		}
	}
	for _, name := range []string{"begin", "step", "slide"} {
		for _, s := range []string{name + " ", name + " 0", name + " 1", name + " -", name + " " + name, name + " 0 0"} {
			checkNoOrder(t, "a Kind's word", s)
		}
	}
	for _, s := range []string{"", " ", "  ", "-", "0", "1", "\n", "\x00", "- - - -", "0 0 0 0", " 0 0 0 0", "write 0 1 2", "write 0 1 2 ", "audit", "drop 0", "enter 0 1"} {
		checkNoOrder(t, "no Kind's word", s)
	}
}

// TestWhatIsNotOneBlank has two blanks, and other bytes, in place of each blank, ahead and behind.
func TestWhatIsNotOneBlank(t *testing.T) {
	for _, line := range linesOf() {
		if !checkOrderAsTold(t, "right", line) {
			t.Error(line)
		}
		for _, other := range []string{
			" ", "  ", "\t", "\n", "\r", "\x00", "\v", "\f", "\r\n", " \n", "\n ", "\xC2\xA0", "\u3000", "\u2028", "\uFEFF", "_", ",", ":", "+", "-", "\x7F", "\xFF",
		} {
			checkNoOrder(t, "ahead", other+line)
			checkNoOrder(t, "behind", line+other)
			checkNoOrder(t, "ahead and behind", other+line+other)
			for i := range line {
				if line[i] == ' ' {
					checkNoOrder(t, "ahead of a blank", line[:i]+other+line[i:])
					checkNoOrder(t, "behind a blank", line[:i+1]+other+line[i+1:])
				}
				if line[i] == ' ' && other != " " {
					checkNoOrder(t, "in place of a blank", line[:i]+other+line[i+1:])
				}
			}
		}
		for i := range line {
			if line[i] == ' ' {
				checkNoOrder(t, "no blank", line[:i]+line[i+1:])
			}
		}
	}
}

// TestWordsOfNoKind has capital letters, letters more and less, and words of other things.
func TestWordsOfNoKind(t *testing.T) {
	for _, line := range linesOf() {
		name, rest, _ := strings.Cut(line, " ")
		if rest != "" {
			rest = " " + rest
		}
		for i := range name {
			checkNoOrder(t, "a capital letter", name[:i]+strings.ToUpper(name[i:i+1])+name[i+1:]+rest)
			checkNoOrder(t, "a letter less", name[:i]+name[i+1:]+rest)
			for _, letter := range plainBytes + "-_. \n" {
				checkNoOrder(t, "a letter more", name[:i]+string(letter)+name[i:]+rest)
				checkNoOrder(t, "a letter more", name+string(letter)+rest)
			}
		}
		for _, other := range []string{
			strings.ToUpper(name), strings.ToUpper(name[:1]) + name[1:], name + "s", "od" + name, "hop", "floor", "blocks", "top", "used", "facts", "error", "entered", "gone", "made", "written", "linked", "rooted",
			"unrooted", "unroot", "audits", "done", "-", "0", "1", "13", "", name + name, name + "\x00", "\x00" + name, "ｓｔｅｐ",
		} {
			checkNoOrder(t, "no Kind's word", other+rest)
			checkNoOrder(t, "no Kind's word", other)
		}
	}
}

// noNumbers are words that may stand for no field.
func noNumbers() []string {
	return []string{
		"", "-", "--", "a", "z", "0a", "a0", "1a", "a1", "1a1", "00", "01", "007", "000000000", "00000000", "-0", "+0", "-1", "+1", "-3", "+3", "1-", "1+", "- 1", "0x0", "0x1", "0b1", "0o1", "1_0", "1.0", "0.", ".0", "1e0",
		"1,0", "'1'", "1l", "100000000", "100000001", "123456789", "999999999", "1000000000", "9999999999", "0999999999", "2147483647", "2147483648", "4294967295", "4294967296", "4294967297", "4294967299",
		"9223372036854775807", "9223372036854775808", "18446744073709551615", "18446744073709551616", "18446744073709551617", "-9223372036854775808", "-9223372036854775809", "-18446744073709551615",
		"99999999999999999999999999999999", strings.Repeat("9", 400), "0" + strings.Repeat("0", 400) + "1", "\u0661", "\u00B2", "\uFF11", "NaN", "Inf", "nil", "true", "WHO", "A",
	}
}

// TestWordsThatAreNoNumbers has each of them in place of each number of each Kind.
func TestWordsThatAreNoNumbers(t *testing.T) {
	numbers := 0
	for _, right := range rightOrders() {
		words := strings.Split(impl.ShowOrder(right), " ")
		for i := 1; i < len(words); i++ {
			if i == 4 && right.Kind == impl.OdWrite {
				continue
			}
			numbers++
			with := func(word string) string {
				other := slices.Clone(words)
				other[i] = word
				return strings.Join(other, " ")
			}
			for _, word := range noNumbers() {
				checkNoOrder(t, "no number", with(word))
			}
			for _, word := range []string{"0", "1", "2", "3", "4", "5", "9", "10", "16", "99", "100", "1024", "10000000", "99999998", "99999999"} {
				if is := checkOrderAsTold(t, "a number", with(word)); is != (i > 1 || word < "4" && len(word) == 1) {
					t.Errorf("%s: %v", with(word), is)
				}
			}
		}
	}
	if numbers != 3+1+3+4+3+3+4+2+2+1 {
		t.Errorf("%d numbers", numbers)
	}
}

// TestOneByteAway has each byte of right texts left out, changed into each other one, and each one put in at each place; what is read of that is shown as just that.
func TestOneByteAway(t *testing.T) {
	read, not := 0, 0
	check := func(s string) {
		t.Helper()
		if checkOrderAsTold(t, "one byte away", s) {
			read++
		} else {
			not++
		}
	}
	for _, line := range append(linesOf(), "write 1 1 1 "+strings.Repeat("b", 199), "write 1 1 1 "+strings.Repeat("b", 200)) {
		for i := range len(line) + 1 {
			// Of a long Text not all places are asked: its ends are, and some between.
			if i > 30 && i < len(line)-2 && i%60 > 0 {
				continue
			}
			if i < len(line) {
				check(line[:i] + line[i+1:])
			}
			for b := range 256 {
				check(line[:i] + string([]byte{byte(b)}) + line[i:])
				if i < len(line) {
					check(line[:i] + string([]byte{byte(b)}) + line[i+1:])
				}
			}
		}
	}
	if read < 4000 || not < 100000 {
		t.Errorf("%d are read, %d are not", read, not)
	}
}

// TestEveryFewWords has each text of up to five of a few words.
func TestEveryFewWords(t *testing.T) {
	few := []string{"enter", "leave", "read", "write", "root", "step", "0", "3", "4", "01", "99999999", "ab", "-", ""}
	read, not := 0, 0
	var grow func(s string, depth int)
	grow = func(s string, depth int) {
		if checkOrderAsTold(t, "few words", s) {
			read++
		} else {
			not++
		}
		if depth > 0 {
			for _, word := range few {
				grow(s+" "+word, depth-1)
			}
		}
	}
	for _, word := range few {
		grow(word, 4)
	}
	if read < 150 || not < 500000 {
		t.Errorf("%d are read, %d are not", read, not)
	}
}

// TestLongTextsThatAreNoOrders has blanks, digits and letters without end.
func TestLongTextsThatAreNoOrders(t *testing.T) {
	for _, n := range []int{1000, 1 << 16, 1 << 21} {
		for _, long := range []string{strings.Repeat(" ", n), strings.Repeat("0", n), strings.Repeat("9", n), strings.Repeat("a", n), strings.Repeat("-", n), strings.Repeat(" 0", n), strings.Repeat("\x00", n), strings.Repeat("\n", n)} {
			checkNoOrder(t, "long", long)
			for _, line := range linesOf() {
				checkNoOrder(t, "long behind", line+" "+long)
				checkNoOrder(t, "long ahead", long+" "+line)
			}
			checkNoOrder(t, "long", "write 1 2 3 "+long)
			checkNoOrder(t, "long", "drop 1 "+long)
			checkNoOrder(t, "long", "audit "+long)
			checkNoOrder(t, "long", "step"+long)
		}
	}
}

// TestDrawnTextsThatAreNoOrders has right texts of which some bytes are changed, left out or put in, or that are cut and put together.
func TestDrawnTextsThatAreNoOrders(t *testing.T) {
	var d drawn
	bytes := "abdegiknoprstuw0123456789 - \n\tAZ+_.\x00\xFF"
	read, not := 0, 0
	lines := linesOf()
	for range 60000 {
		s := []byte(lines[d.below(int64(len(lines)))])
		for range 1 + d.below(4) {
			i := d.below(int64(len(s) + 1))
			switch b := bytes[d.below(int64(len(bytes)))]; {
			case d.below(4) == 0:
				other := lines[d.below(int64(len(lines)))]
				s = append(s[:i:i], other[d.below(int64(len(other))):]...)
			case d.below(2) == 0 && int(i) < len(s):
				s = slices.Delete(s, int(i), int(i)+1)
			case d.below(2) == 0 && int(i) < len(s):
				s[i] = b
			default:
				s = slices.Insert(s, int(i), b)
			}
		}
		if checkOrderAsTold(t, "drawn", string(s)) {
			read++
		} else {
			not++
		}
	}
	if read < 2000 || not < 20000 {
		t.Errorf("%d are read, %d are not", read, not)
	}
}
