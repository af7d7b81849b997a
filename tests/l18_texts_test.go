package tests

import (
	"runtime"
	"strconv"
	"strings"
	"sync"
	"testing"
	"time"

	"loop.example/g00750/impl"
)

// wildLine is an Order in words, be it right or not.
func wildLine(o impl.Order) string {
	if o.Kind < 1 || o.Kind > 13 {
		return said("enter", o.Kind, o.A, o.B)
	}
	text := o.Text
	if text == "" {
		text = "-"
	}
	return strings.NewReplacer("WHO", blanked(o.Who), "A", blanked(o.A), "B", blanked(o.B), "C", blanked(o.C), "TEXT", text).Replace(shapeOf(o.Kind))
}

// askingLine asks for something, or is none; a few of them begin with another floor.
func askingLine(d *drawn) string {
	switch d.below(30) {
	case 0:
		return said("floor", 64+d.below(961))
	case 1:
		return said("floor", d.below(64))
	case 2:
		return []string{"top 1", "blocks -", "hop", "used", "used 4", "facts yy", "step 0", " top", "top "}[d.below(9)]
	case 3:
		return ""
	}
	return []string{"blocks", "blocks", "top", "top", "facts", "used 0", "used 1", "used 2", "used 3"}[d.below(9)]
}

// drawnLines are orders of several tenants, most of them ordinary ones, with other lines between; as many as there may be.
func drawnLines(d *drawn, size int64) string {
	text := said("floor", size) + "\n"
	b, _ := benchedOn(size)
	for range 199 {
		line := askingLine(d)
		switch d.below(4) {
		case 0, 1:
			line = wildLine(drawnOrdinary(d, b.heap))
		case 2:
			line = wildLine(drawnWild(d, b.heap))
		}
		if len(text)+len(line) >= 6000 {
			break
		}
		b.lineTold(line)
		text += line + "\n"
	}
	return text
}

// TestDrawnLines has lines of all kinds on floors of several sizes, each answered as the functions of the chapters before answer.
func TestDrawnLines(t *testing.T) {
	var d drawn
	words, codes := map[string]int{}, map[string]int{}
	for _, size := range append(floorSizes(), 64, 256, 1024, 1024) {
		text := drawnLines(&d, size)
		answers := checkBenchAsTold(t, said("drawn", size), text)
		for line := range strings.SplitSeq(strings.TrimSuffix(text, "\n"), "\n") {
			if line == "" {
				continue
			}
			word, _, _ := strings.Cut(line, " ")
			code, _, _ := strings.Cut(answers[0], " ")
			if _, is := orderReadTold(line); is {
				codes[code]++
			}
			if code != "error" {
				words[word]++
			}
			answers = answers[1:]
		}
	}
	for _, word := range strings.Fields("floor blocks top used facts enter leave make read write ref link root drop audit begin step slide") {
		if words[word] < 30 {
			t.Errorf("just %d lines of %s are answered", words[word], word)
		}
	}
	for code := range int64(11) {
		if codes[blanked(code)] < 2 {
			t.Errorf("just %d of code %d: %v", codes[blanked(code)], code, codes)
		}
	}
}

// TestScriptsInLines has four tenants do all that there is in turn, on floors from the smallest to the largest, with all asked between.
func TestScriptsInLines(t *testing.T) {
	for _, size := range floorSizes() {
		list := scriptFor(size)
		for at := 0; at < len(list); at += 30 {
			text := said("floor", size) + "\n"
			for i, o := range list[:min(at+30, len(list))] {
				text += shownTold(o) + "\n"
				if i >= at {
					text += []string{"blocks\n", "top\n", "facts\n", "used 0\nused 3\n"}[i%4]
				}
			}
			// Of the largest floors the last of it is too long.
			for len(text) > 6000 || strings.Count(text, "\n") > 200 {
				text = text[:strings.LastIndexByte(text[:len(text)-1], '\n')+1]
			}
			checkBenchAsTold(t, said("script", size, int64(at)), text)
		}
	}
}

// TestEachLineIsAnsweredByItself has what is answered of a text that is cut behind a line stay as it is, whatever comes behind.
func TestEachLineIsAnsweredByItself(t *testing.T) {
	var d drawn
	lines, answers := rowsIn(eachCode)
	checkCuts(t, "each code", lines, answers)
	for _, size := range []int64{64, 500} {
		lines := strings.Split(strings.TrimSuffix(drawnLines(&d, size), "\n"), "\n")[:80]
		lines = strings.FieldsFunc(strings.Join(lines, "\n"), func(r rune) bool { return r == '\n' })
		checkCuts(t, said("drawn", size), lines, strings.Split(strings.TrimSuffix(benchTold(ended(lines)), "\n"), "\n"))
	}
}

func checkCuts(t *testing.T, what string, lines, answers []string) {
	t.Helper()
	for i := range len(lines) + 1 {
		what := said(what+", cut behind", int64(i))
		checkBench(t, what, ended(lines[:i]), ended(answers[:i]))
		checkBench(t, what, strings.Join(lines[:i], "\n"), ended(answers[:i]))
	}
}

// TestTextsOfFewLines has the empty one, just empty lines, and lines with and without a byte 10 behind the last one, and with empty ones ahead, between and behind.
func TestTextsOfFewLines(t *testing.T) {
	for text, want := range map[string]string{
		"": "", "\n": "", "\n\n": "", "\n\n\n\n\n": "", "top": "0 0 0 0\n", "top\n": "0 0 0 0\n", "\ntop": "0 0 0 0\n", "\n\n\ntop\n\n\n": "0 0 0 0\n", "top\n\n": "0 0 0 0\n", "facts": "yy\n", "blocks\n": "-\n", "hop": "error\n",
		"blocks\ntop": "-\n0 0 0 0\n", "blocks\ntop\n": "-\n0 0 0 0\n", "blocks\n\ntop\n": "-\n0 0 0 0\n", "\nblocks\n\n\n\ntop\n\n": "-\n0 0 0 0\n", "\n \n": "error\n", " ": "error\n", " \n ": "error\nerror\n", "\r\n": "error\n", "\n\r": "error\n",
		"top\r\nfacts": "error\nyy\n", "top\x00\n": "error\n", "top\vfacts": "error\n", "top\u2028facts": "error\n", "top\u0085": "error\n", "\\n": "error\n", "top\\nfacts": "error\n",
		"enter 0 9 1\nused 0": "0\n0\n", "enter 0 9 1\n\n\nused 0\n\n": "0\n0\n", "floor 64\n\nenter 0 65 1": "-\n4\n", "floor 64": "-\n", "floor 63": "error\n", "leave 0": "2\n", "slide": "0\n",
	} {
		checkBench(t, strconv.Quote(text), text, want)
	}
}

// TestHowManyLines has as many as there may be, and one more, where all of them are empty, where some are, and where none is, with a byte 10 behind the last one and without.
func TestHowManyLines(t *testing.T) {
	if impl.MaxLines != 200 || impl.MaxBench != 6000 {
		t.Errorf("MaxLines is %d, MaxBench is %d", impl.MaxLines, impl.MaxBench)
	}
	top := "0 0 0 0\n"
	for _, c := range []struct{ text, want string }{
		{strings.Repeat("\n", 199), ""}, {strings.Repeat("\n", 200), ""}, {strings.Repeat("\n", 201), ""}, {strings.Repeat("\n", 6000), ""}, {strings.Repeat("\n", 6001), ""},
		{strings.Repeat("top\n", 199), strings.Repeat(top, 199)}, {strings.Repeat("top\n", 199) + "top", strings.Repeat(top, 200)}, {strings.Repeat("top\n", 200), strings.Repeat(top, 200)},
		{strings.Repeat("top\n", 200) + "\n", ""}, {strings.Repeat("top\n", 200) + "top", ""}, {strings.Repeat("top\n", 200) + " ", ""}, {strings.Repeat("top\n", 201), ""}, {strings.Repeat("hop\n", 201), ""}, {strings.Repeat("top\n", 1500), ""},
		{strings.Repeat("\n", 199) + "top", top}, {strings.Repeat("\n", 199) + "top\n", top}, {strings.Repeat("\n", 200) + "top", ""}, {strings.Repeat("\n", 200) + "top\n", ""}, {strings.Repeat("\n", 200) + " ", ""},
		{"top" + strings.Repeat("\n", 200), top}, {"top" + strings.Repeat("\n", 199), top}, {"top" + strings.Repeat("\n", 201), ""}, {"\ntop" + strings.Repeat("\n", 200), ""}, {"\ntop" + strings.Repeat("\n", 199), top},
		{strings.Repeat("top\n\n", 100), strings.Repeat(top, 100)}, {strings.Repeat("top\n\n", 99) + "top\ntop", strings.Repeat(top, 101)}, {strings.Repeat("top\n\n", 100) + "\n", ""}, {strings.Repeat("top\n\n", 100) + "top", ""},
		{strings.Repeat("\ntop\n", 100), strings.Repeat(top, 100)}, {strings.Repeat("\ntop\n", 100) + "\n", ""}, {strings.Repeat("x\n", 200), strings.Repeat("error\n", 200)}, {strings.Repeat("x\n", 200) + "\n", ""},
	} {
		checkBench(t, said("lines", int64(strings.Count(c.text, "\n")), int64(len(c.text))), c.text, c.want)
	}
	for n := int64(190); n <= 210; n++ {
		for _, line := range []string{"", "top", "facts", "step", "x", "floor 64"} {
			for _, last := range []string{"", "\n", "top", "top\n"} {
				checkBenchAsTold(t, said("lines", n), strings.Repeat(line+"\n", int(n))+last)
			}
		}
	}
}

// longLines are n bytes of lines that are right but the last one, which is as long as it must be.
func longLines(n int) string {
	text := "floor 1024\nenter 0 206 1\nmake 0 200 0\n"
	line := "write 0 128 0 " + strings.Repeat("x7", 60) + "\nread 0 128 0 3\n"
	text += strings.Repeat(line, (n-len(text))/len(line))
	return text + strings.Repeat("y", n-len(text))
}

// TestHowManyBytes has as many as there may be, and one more, of a few lines and of many.
func TestHowManyBytes(t *testing.T) {
	for _, n := range []int{5990, 5998, 5999, 6000} {
		if answers := checkBenchAsTold(t, said("bytes", int64(n)), longLines(n)); len(answers) < 80 || answers[3] != "0" || answers[4] != "0 x7x" || answers[len(answers)-1] != "error" {
			t.Errorf("%d bytes: %v", n, answers)
		}
		checkBench(t, "one line", strings.Repeat("a", n), "error\n")
		checkBench(t, "two lines", "facts\n"+strings.Repeat("a", n-6), "yy\nerror\n")
		checkBench(t, "a byte 10 behind", "top\n"+strings.Repeat("\x00", n-5)+"\n", "0 0 0 0\nerror\n")
		checkBench(t, "of two bytes each", "top\n"+strings.Repeat("é", (n-4)/2), "0 0 0 0\nerror\n")
	}
	for _, n := range []int{6001, 6002, 6010, 6144, 8192, 12000, 65536, 65537, 1 << 20} {
		for _, text := range []string{longLines(n), strings.Repeat("a", n), "facts\n" + strings.Repeat("a", n-6), strings.Repeat("\n", n), "top\n" + strings.Repeat("\x00", n-5) + "\n", strings.Repeat(" ", n), strings.Repeat("top\n", n/4+1), "top\n" + strings.Repeat("é", n/2)} {
			checkBench(t, said("too many bytes", int64(n)), text, "")
		}
	}
	right := strings.Repeat("top\n", 200)
	for _, line := range []string{"write 0 128 0 " + strings.Repeat("a", 200), "used 3"} {
		text := strings.Repeat(line+"\n", 6000/(len(line)+1))
		checkBenchAsTold(t, "as many as there may be", text+strings.Repeat("z", 6000-len(text)))
		checkBench(t, "one more", text+strings.Repeat("z", 6001-len(text)), "")
	}
	checkBench(t, "both too many", strings.Repeat(right, 8), "")
}

// textsAsked are of all sorts: written down, drawn, of errors, too long, and empty.
func textsAsked() []string {
	var d drawn
	code, _ := rowsIn(eachCode)
	state, _ := rowsIn(stateLines + askedLines + saidLines)
	return []string{
		"", "\n", "top", ended(code), ended(state), drawnLines(&d, 64), drawnLines(&d, 256), drawnLines(&d, 1024), drawnLines(&d, 100), strings.Repeat("hop\n", 200), strings.Repeat("\n", 200), strings.Repeat("\n", 201),
		strings.Repeat("a", 6001), longLines(6000), longLines(6001), "floor 64\nfacts", "floor 63\nfacts", "\x00", "facts\n\n\nblocks",
	}
}

// TestOneTextTwice has the same answers each time, whatever was asked between.
func TestOneTextTwice(t *testing.T) {
	for range 3 {
		for _, text := range textsAsked() {
			want := benchTold(text)
			checkBench(t, "twice", text, want)
			checkBench(t, "twice", text, want)
		}
	}
}

// TestManyBenchesAtTheSameTime has each answer as alone.
func TestManyBenchesAtTheSameTime(t *testing.T) {
	texts := textsAsked()
	var wants []string
	for _, text := range texts {
		wants = append(wants, benchTold(text))
	}
	var all sync.WaitGroup
	for worker := range 16 {
		all.Go(func() {
			for i := range 2 * len(texts) {
				i = (i*(1+worker%3) + worker) % len(texts)
				if got := impl.Bench(texts[i]); got != wants[i] {
					t.Errorf("at the same time: %s", otherLine(texts[i], got, wants[i]))
				}
			}
		})
	}
	all.Wait()
}

// inTheProgram counts the goroutines that were begun by the program, and are not at their end.
func inTheProgram() int {
	stacks := make([]byte, 1<<20)
	stacks = stacks[:runtime.Stack(stacks, true)]
	return strings.Count(string(stacks), "created by loop.example/g00750/impl.")
}

// TestNoGoroutineIsLeft asks behind each call, also where it answers the empty text; the last bit of one's end may take a moment.
func TestNoGoroutineIsLeft(t *testing.T) {
	for _, text := range textsAsked() {
		for range 3 {
			impl.Bench(text)
			for wait := 0; inTheProgram() > 0; wait++ {
				if wait == 1000 {
					t.Fatalf("%s: %d goroutines are left", shortened(text), inTheProgram())
				}
				time.Sleep(time.Millisecond)
			}
		}
	}
}
