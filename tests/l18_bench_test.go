package tests

import (
	"regexp"
	"slices"
	"strconv"
	"strings"
	"testing"

	"loop.example/g00750/impl"
)

// benched is what the chapter's words have a bench be: what its lines ask for is answered by the functions of the chapters before.
type benched struct {
	heap  impl.Heap
	model impl.Model
}

func benchedOn(size int64) (benched, bool) {
	h, is := impl.NewHeap(size)
	return benched{h, impl.ModelOf(h)}, is
}

// benchTold, lineTold and didLineTold are written from the chapter's words.
func benchTold(text string) string {
	lines := strings.SplitAfter(text, "\n")
	if lines[len(lines)-1] == "" {
		lines = lines[:len(lines)-1]
	}
	if len(text) > 6000 || len(lines) > 200 {
		return ""
	}
	b, _ := benchedOn(256)
	var answers strings.Builder
	for _, line := range lines {
		if line = strings.TrimSuffix(line, "\n"); line != "" {
			answers.WriteString(b.lineTold(line) + "\n")
		}
	}
	return answers.String()
}

var benchPattern = regexp.MustCompile(`\A(?:(blocks|top|facts)|(floor|used) (0|[1-9][0-9]{0,8}))\z`)

func (b *benched) lineTold(line string) string {
	if o, is := orderReadTold(line); is {
		return b.didLineTold(o)
	}
	found := benchPattern.FindStringSubmatch(line)
	if found == nil {
		return "error"
	}
	n, _ := strconv.ParseInt(found[3], 10, 64)
	switch found[1] + found[2] {
	case "blocks":
		return blocksTold(b.heap)
	case "top":
		return blanked(b.heap.Top, b.heap.Low, b.heap.High, impl.StepsLeft(b.heap))
	case "facts":
		return strings.NewReplacer("true", "y", "false", "n").Replace(strconv.FormatBool(impl.CleanIn(b.heap)) + strconv.FormatBool(impl.SameModel(impl.ModelOf(b.heap), b.model)))
	case "used":
		if used := impl.UsedBy(b.heap, n); used >= 0 {
			return blanked(used)
		}
		return "error"
	}
	begun, is := benchedOn(n)
	if !is {
		return "error"
	}
	*b = begun
	return "-"
}

func (b *benched) didLineTold(o impl.Order) string {
	audit, _ := impl.AuditOf(b.heap, o.Who)
	var a impl.Answer
	b.heap, a = impl.Did(b.heap, o)
	b.model, _ = impl.ModelDid(b.model, o)
	switch {
	case a.Code != impl.CdOk:
	case o.Kind == impl.OdMake || o.Kind == impl.OdRef:
		return blanked(0, a.Number)
	case o.Kind == impl.OdRead && len(a.Data) == 0:
		return "0 -"
	case o.Kind == impl.OdRead:
		return "0 " + regexp.MustCompile(`(?s)[^a-z0-9]`).ReplaceAllString(string(a.Data), ".")
	case o.Kind == impl.OdAudit:
		return blanked(append([]int64{0}, audit...)...)
	}
	return blanked(a.Code)
}

func blanked(numbers ...int64) string { return strings.TrimPrefix(said("", numbers...), " ") }

func blocksTold(h impl.Heap) string {
	shown := ""
	for _, p := range impl.BlocksOf(h) {
		part := strings.ReplaceAll(blanked(p.At, p.Head.Size, p.Head.Owner, p.Head.Slot), " ", ":")
		shown += " " + strings.Replace(part, ":-1:", ":-:", 1)
	}
	if shown == "" {
		return "-"
	}
	return shown[1:]
}

// checkBench takes the answers from whoever asks; the words have to tell the same.
func checkBench(t *testing.T, what, text, want string) {
	t.Helper()
	got, told := impl.Bench(text), benchTold(text)
	if got != want {
		t.Errorf("%s: %s", what, otherLine(text, got, want))
	}
	if told != want {
		t.Errorf("%s: by the words: %s", what, otherLine(text, told, want))
	}
}

// checkBenchAsTold is for where whoever asks can't tell beforehand; it answers with what was answered, line by line.
func checkBenchAsTold(t *testing.T, what, text string) []string {
	t.Helper()
	want := benchTold(text)
	checkBench(t, what, text, want)
	return strings.Split(strings.TrimSuffix(want, "\n"), "\n")
}

// otherLine tells of the first line that is answered otherwise than it is wanted.
func otherLine(text, got, want string) string {
	lines := slices.DeleteFunc(strings.Split(text, "\n"), func(line string) bool { return line == "" })
	gots, wants := strings.SplitAfter(got, "\n"), strings.SplitAfter(want, "\n")
	for i := range max(len(gots), len(wants)) {
		var of [3]string
		for j, list := range [][]string{lines, gots, wants} {
			if i < len(list) {
				of[j] = list[i]
			}
		}
		if of[1] != of[2] {
			return said("line", int64(i)) + ", " + shortened(of[0]) + ": got " + strconv.Quote(of[1]) + ", want " + strconv.Quote(of[2])
		}
	}
	return "all lines are alike"
}

// rowsIn are lines, and the answers to them, from rows of "line > answer".
func rowsIn(rows string) (lines, answers []string) {
	for row := range strings.SplitSeq(strings.Trim(rows, "\n"), "\n") {
		line, answer, _ := strings.Cut(strings.TrimLeft(row, "\t"), " > ")
		lines, answers = append(lines, line), append(answers, answer)
	}
	return lines, answers
}

func ended(lines []string) string {
	if len(lines) == 0 {
		return ""
	}
	return strings.Join(lines, "\n") + "\n"
}

// checkRows has rows of "line > answer".
func checkRows(t *testing.T, what, rows string) {
	t.Helper()
	lines, answers := rowsIn(rows)
	checkBench(t, what, ended(lines), ended(answers))
}

// eachCode has, of each Kind, each Code that it may be answered by in a bench; what is not right of itself is no order, and so an error.
const eachCode = `
	enter 0 100 3 > 0
	enter 0 1 1 > 3
	enter 1 1025 1 > 1
	enter 1 10 0 > 1
	enter 1 10 17 > 1
	enter 0 1025 1 > 1
	enter 1 157 1 > 4
	enter 1 156 1 > 0
	enter 2 0 16 > 0
	leave 3 > 2
	leave 2 > 0
	leave 2 > 2
	make 2 1 1 > 2
	make 0 201 0 > 1
	make 0 0 7 > 1
	make 2 201 7 > 1
	make 0 95 0 > 5
	make 0 4 2 > 0 128
	make 0 3 1 > 0 129
	make 0 0 0 > 0 130
	make 0 0 0 > 6
	make 0 200 6 > 5
	make 1 150 0 > 0 256
	make 1 0 0 > 5
	read 2 128 0 0 > 2
	read 0 131 0 0 > 7
	read 0 144 0 0 > 7
	read 1 128 0 0 > 7
	read 0 128 0 5 > 8
	read 0 128 5 0 > 8
	read 0 128 4 0 > 0 -
	read 0 128 0 4 > 0 ....
	write 2 128 0 a > 2
	write 1 128 0 a > 7
	write 0 0 0 - > 7
	write 0 128 3 ab > 8
	write 0 128 4 - > 0
	write 0 128 2 ab > 0
	read 0 128 1 3 > 0 .ab
	ref 2 128 0 > 2
	ref 1 128 0 > 7
	ref 0 128 2 > 8
	ref 0 130 0 > 8
	ref 0 128 1 > 0 0
	link 2 128 0 0 > 2
	link 0 99999999 0 0 > 7
	link 0 128 2 129 > 8
	link 0 128 1 256 > 7
	link 0 128 1 129 > 0
	ref 0 128 1 > 0 129
	root 2 129 > 2
	root 1 129 > 7
	root 0 129 > 0
	drop 2 129 > 2
	drop 1 129 > 7
	drop 0 129 > 0
	drop 0 130 > 0
	drop 0 130 > 7
	ref 0 128 1 > 0 129
	audit 2 > 2
	audit 0 > 0 22 2 1 100
	audit 1 > 0 156 1 0 156
	step > 9
	begin > 0
	begin > 10
	step > 0
	slide > 0
	step > 9
	slide > 0
	facts > yy`

func TestEachCodeOfEachLine(t *testing.T) {
	checkRows(t, "each code", eachCode)
	seen := map[[2]string]bool{}
	lines, answers := rowsIn(eachCode)
	for i, line := range lines {
		word, _, _ := strings.Cut(line, " ")
		code, _, _ := strings.Cut(answers[i], " ")
		seen[[2]string{word, code}] = true
	}
	for word, codes := range map[string]string{
		"enter": "0 1 3 4", "leave": "0 2", "make": "0 1 2 5 6", "read": "0 2 7 8", "write": "0 2 7 8", "ref": "0 2 7 8", "link": "0 2 7 8", "root": "0 2 7", "drop": "0 2 7", "audit": "0 2", "begin": "0 10", "step": "0 9", "slide": "0",
	} {
		for code := range int64(11) {
			if is := slices.Contains(strings.Fields(codes), blanked(code)); seen[[2]string{word, blanked(code)}] != is {
				t.Errorf("%s, code %d: %v", word, code, !is)
			}
		}
	}
}

// TestWhatIsReadInLines has data of no byte, of bytes that were never written, of letters and digits, and of both.
func TestWhatIsReadInLines(t *testing.T) {
	checkRows(t, "read", `
		enter 3 250 2 > 0
		make 3 200 6 > 0 128
		read 3 128 0 0 > 0 -
		read 3 128 200 0 > 0 -
		read 3 128 0 1 > 0 .
		read 3 128 0 12 > 0 ............
		write 3 128 0 abc > 0
		read 3 128 0 3 > 0 abc
		read 3 128 2 3 > 0 c..
		write 3 128 5 0189 > 0
		read 3 128 0 12 > 0 abc..0189...
		read 3 128 5 4 > 0 0189
		read 3 128 5 1 > 0 0
		write 3 128 5 - > 0
		read 3 128 4 3 > 0 .01
		write 3 128 195 az09q > 0
		read 3 128 194 6 > 0 .az09q
		read 3 128 0 201 > 8
		make 3 0 0 > 0 129
		read 3 129 0 0 > 0 -`)
	all, text := strings.Repeat(plainBytes, 6)[:200], "enter 1 206 1\nmake 1 200 0\nread 1 128 0 200\n"
	checkBench(t, "all bytes", text+"write 1 128 0 "+all+"\nread 1 128 0 200\nread 1 128 199 1", "0\n0 128\n0 "+strings.Repeat(".", 200)+"\n0\n0 "+all+"\n0 "+all[199:]+"\n")
}

// TestAuditsInLines has each of the four numbers of one, of two and of more digits.
func TestAuditsInLines(t *testing.T) {
	checkRows(t, "audit", `
		audit 0 > 2
		enter 0 0 1 > 0
		audit 0 > 0 0 0 1 0
		enter 1 9 9 > 0
		audit 1 > 0 0 0 9 9
		make 1 0 0 > 0 256
		audit 1 > 0 6 1 8 9
		make 1 0 3 > 5
		audit 1 > 0 6 1 8 9
		enter 2 99 16 > 0
		audit 2 > 0 0 0 16 99
		make 2 1 2 > 0 384
		audit 2 > 0 9 1 15 99
		make 2 3 1 > 0 385
		audit 2 > 0 19 2 14 99
		drop 2 384 > 0
		audit 2 > 0 10 1 15 99
		enter 3 100 10 > 0
		audit 3 > 0 0 0 10 100
		make 3 94 0 > 0 512
		audit 3 > 0 100 1 9 100
		leave 3 > 0
		audit 3 > 2`)
	rows := "floor 1024 > -\nenter 3 1024 16 > 0"
	for i := range 16 {
		rows += "\nmake 3 58 0 > 0 " + strconv.Itoa(128+i) + "\naudit 3 > 0 " + blanked(int64(i+1)*64, int64(i+1), int64(15-i), 1024)
	}
	// A slot is worn out when it was freed eight times: neither used nor left.
	for gen := range 8 {
		number := strconv.Itoa(128 + gen*16)
		rows += "\ndrop 3 " + number + " > 0\naudit 3 > 0 960 15 " + strconv.Itoa(1-(gen+1)/8) + " 1024"
		if gen < 7 {
			rows += "\nmake 3 58 0 > 0 " + strconv.Itoa(144+gen*16)
		}
	}
	checkRows(t, "audit", rows+"\nmake 3 0 0 > 6\nblocks > "+blocksAfter(16, 1024)+"\nfacts > yy")
}

// blocksAfter are those of the things that were not dropped, and of the first one, again and again: each time it is made there is no room till all is slid, and it comes to the end.
func blocksAfter(n, size int64) string {
	shown := ""
	for i := int64(1); i < n; i++ {
		shown += strings.ReplaceAll(blanked((i-1)*64, 64, 3, i), " ", ":") + " "
	}
	return shown + strings.ReplaceAll(blanked(size-64, 64, 3, 0), " ", ":")
}

// TestBlocksAndTopInLines has them of a new heap, at each step of a slide, and behind it: what stands, what does not, and what is nobody's.
func TestBlocksAndTopInLines(t *testing.T) {
	checkRows(t, "blocks", `
		blocks > -
		top > 0 0 0 0
		enter 3 60 4 > 0
		blocks > -
		make 3 4 0 > 0 128
		blocks > 0:10:3:0
		top > 10 0 0 0
		enter 0 100 2 > 0
		make 0 0 6 > 0 256
		make 3 5 0 > 0 129
		make 0 88 0 > 5
		make 0 82 0 > 0 257
		make 3 10 2 > 0 130
		blocks > 0:10:3:0 10:12:0:0 22:11:3:1 33:88:0:1 121:18:3:2
		top > 139 0 0 0
		drop 3 129 > 0
		blocks > 0:10:3:0 10:12:0:0 22:11:3:1 33:88:0:1 121:18:3:2
		leave 0 > 0
		blocks > 0:10:3:0 10:12:-:0 22:11:3:1 33:88:-:0 121:18:3:2
		top > 139 0 0 0
		step > 9
		begin > 0
		blocks > 0:10:3:0 10:12:-:0 22:11:3:1 33:88:-:0 121:18:3:2
		top > 139 0 0 6
		step > 0
		top > 139 10 10 5
		step > 0
		top > 139 10 22 4
		blocks > 0:10:3:0 22:11:3:1 33:88:-:0 121:18:3:2
		begin > 10
		step > 0
		blocks > 0:10:3:0 33:88:-:0 121:18:3:2
		top > 139 10 33 3
		make 3 1 0 > 0 145
		blocks > 0:10:3:0 33:88:-:0 121:18:3:2 139:7:3:1
		top > 146 10 33 4
		facts > yy
		step > 0
		drop 3 128 > 0
		blocks > 0:10:3:0 121:18:3:2 139:7:3:1
		step > 0
		blocks > 0:10:3:0 10:18:3:2 139:7:3:1
		top > 146 28 139 2
		facts > yy
		step > 0
		top > 146 35 146 1
		blocks > 0:10:3:0 10:18:3:2 28:7:3:1
		step > 0
		top > 35 0 0 0
		step > 9
		blocks > 0:10:3:0 10:18:3:2 28:7:3:1
		slide > 0
		blocks > 0:18:3:2 18:7:3:1
		top > 25 0 0 0
		leave 3 > 0
		blocks > 0:18:-:0 18:7:-:0
		top > 25 0 0 0
		begin > 0
		top > 25 0 0 3
		slide > 0
		blocks > -
		top > 0 0 0 0
		begin > 0
		top > 0 0 0 1
		blocks > -
		step > 0
		top > 0 0 0 0
		facts > yy`)
}

// TestUsedInLines has it of those that have nothing, that have something, that have gone and that never came, and of what is no tenant.
func TestUsedInLines(t *testing.T) {
	checkRows(t, "used", `
		used 0 > error
		used 3 > error
		enter 3 30 2 > 0
		used 3 > 0
		used 0 > error
		make 3 3 0 > 0 128
		used 3 > 9
		make 3 4 1 > 0 129
		used 3 > 20
		begin > 0
		step > 0
		used 3 > 20
		drop 3 128 > 0
		used 3 > 11
		make 3 14 0 > 5
		used 3 > 11
		make 3 13 0 > 0 144
		used 3 > 30
		enter 0 226 1 > 0
		used 0 > 0
		make 0 200 6 > 0 256
		used 0 > 212
		used 1 > error
		used 2 > error
		used 4 > error
		used 5 > error
		used -1 > error
		used 00 > error
		used 01 > error
		used 03 > error
		used +3 > error
		used 3.0 > error
		used - > error
		used > error
		used a > error
		used who > error
		used WHO > error
		used 0 0 > error
		used 3 3 > error
		used 0 3 > error
		used 999999999 > error
		used 1000000000 > error
		used 4294967296 > error
		used 4294967299 > error
		used 18446744073709551619 > error
		used 99999999999999999999999999999999 > error
		leave 3 > 0
		used 3 > error
		leave 3 > 2
		used 0 > 212
		enter 3 0 1 > 0
		used 3 > 0
		floor 64 > -
		used 3 > error
		used 0 > error
		facts > yy`)
	checkBench(t, "used", "enter 0 9 1\nused\nused \nused  0\nused 0 \n used 0\nused\t0\nused 0\t\nused0\nused 0", "0\nerror\nerror\nerror\nerror\nerror\nerror\nerror\nerror\n0\n")
}

// TestFloorsInLines has the edges, and what is no SIZE; a floor that is answered by error leaves all as it was.
func TestFloorsInLines(t *testing.T) {
	before := "enter 1 50 3\nmake 1 7 2\nmake 1 2 0\nwrite 1 128 0 abc\ndrop 1 129\nbegin\nstep\n"
	asked := "blocks\ntop\nfacts\nused 1\nread 1 128 0 7\naudit 1\n"
	was := "0:15:1:0 15:8:1:1\n23 15 15 2\nyy\n15\n0 abc....\n0 15 1 2 50\n"
	for _, line := range []string{
		"floor 63", "floor 1025", "floor 0", "floor 1", "floor 62", "floor 1026", "floor 064", "floor 00064", "floor +64", "floor -64", "floor 64.", "floor 64.0", "floor 6 4", "floor abc", "floor -", "floor SIZE", "floor 0x40",
		"floor 1_000", "floor 1e2", "floor 64a", "floor a64", "floor ６４", "floor 1000000000", "floor 6400000000", "floor 4294967360", "floor 999999999", "floor 99999999", "floor 100000000", "floor 18446744073709551680",
		"floor 9223372036854775807", "floor 9223372036854775808", "floor 99999999999999999999999999999999", "floor", "floor ", "floor  64", "floor 64 ", " floor 64", "floor\t64", "floor64", "floor 64 64", "floor 64 0", "floor 64 -", "Floor 64",
		"FLOOR 64", "floors 64", "flor 64", "floor 64\r", "floor 64\x00", "floor \"64\"", "floor 64,", "floor=64",
	} {
		checkBench(t, line, before+line+"\n"+asked, "0\n0 128\n0 129\n0\n0\n0\n0\nerror\n"+was)
	}
	for _, size := range []int64{64, 65, 99, 100, 101, 256, 999, 1000, 1023, 1024} {
		line := said("floor", size)
		anew := "-\n-\n0 0 0 0\nyy\nerror\n2\n2\n0\n7\n7\n0 128\n0 ..\n4\n9\nyy\n"
		text := before + line + "\n" + asked + "enter 1 50 2\nread 1 128 0 1\nread 1 129 0 0\nmake 1 2 0\nread 1 128 0 2\n" + said("enter 2", size-49, 1) + "\nstep\nfacts\n"
		checkBench(t, line, text, "0\n0 128\n0 129\n0\n0\n0\n0\n"+anew)
		checkBench(t, line+" first", line+"\n"+said("enter 0", size+1, 1)+"\n"+said("enter 0", size, 1)+"\ntop\nfacts", "-\n"+map[bool]string{false: "4", true: "1"}[size == 1024]+"\n0\n0 0 0 0\nyy\n")
	}
	for size := range int64(64) {
		checkBench(t, "too small", said("floor", size)+"\nenter 0 257 1\nenter 0 256 1\nfacts", "error\n4\n0\nyy\n")
	}
}

// TestTheBenchBeginsWith256 has just as much to promise, and one more, whether there are lines ahead or not.
func TestTheBenchBeginsWith256(t *testing.T) {
	for _, ahead := range []string{"", "\n", "\n\n\n"} {
		checkBench(t, "256", ahead+"enter 0 257 1\nenter 0 256 1\nenter 1 1 1", "4\n0\n4\n")
		checkBench(t, "256", ahead+"enter 0 200 2\nenter 1 56 1\nenter 2 1 1\nmake 0 194 0\nmake 1 50 0\ntop", "0\n0\n4\n0 128\n0 256\n256 0 0 0\n")
		checkBench(t, "256", ahead+"floor 63\nenter 0 256 1\nenter 1 1 1\nused 0", "error\n0\n4\n0\n")
		checkBench(t, "256", ahead+"floor 1024\nenter 0 1024 1\nenter 1 1 1\nused 0", "-\n0\n4\n0\n")
	}
}

// TestFactsInLines has them on a new heap, behind each order of a script, refused or not, behind errors, in the midst of a slide, and behind a floor.
func TestFactsInLines(t *testing.T) {
	checkRows(t, "facts", `
		facts > yy
		facts > yy
		facts y > error
		facts > yy
		make 0 1 1 > 2
		facts > yy
		floor 100 > -
		facts > yy
		floor 10 > error
		facts > yy`)
	lines, answers := rowsIn(eachCode)
	for _, between := range []string{"facts", "top 0\nfacts", "make 4 1 1\nfacts", "facts\nfacts"} {
		for at := 0; at < len(lines); at += 30 {
			text, want := "", ""
			for i, line := range lines[:min(at+30, len(lines))] {
				text, want = text+line+"\n", want+answers[i]+"\n"
				if i >= at {
					text += between + "\n"
					want += strings.NewReplacer("facts", "yy", "top 0", "error", "make 4 1 1", "error").Replace(between) + "\n"
				}
			}
			checkBench(t, "facts behind each", text, want)
		}
	}
	slide := "enter 0 100 3\nenter 2 100 2\nmake 0 5 1\nmake 2 9 1\nmake 0 3 0\nwrite 0 129 0 abc\nlink 0 128 0 129\ndrop 0 129\nleave 2\nbegin\n"
	for _, o := range []string{"step", "step\nmake 0 9 0", "step\ndrop 0 128", "step\nenter 2 50 1\nmake 2 4 0\nleave 2", "step\nwrite 0 129 1 x", "slide\nbegin\nstep", "step\nleave 0", "step\nlink 0 128 0 0", "begin\nstep\nbegin"} {
		answers := checkBenchAsTold(t, "facts in a slide", slide+strings.Repeat(o+"\nfacts\nblocks\ntop\n", 8))
		if n := len(slices.DeleteFunc(answers, func(a string) bool { return a != "yy" })); n != 8 {
			t.Errorf("%s: yy is answered %d times", strconv.Quote(o), n)
		}
	}
}

// TestAFloorBeginsAnew has tickets, tenants, slides and what the model made of it gone, again and again.
func TestAFloorBeginsAnew(t *testing.T) {
	part, want := "enter 2 60 2\nmake 2 5 1\nwrite 2 128 0 hello\nread 2 128 0 5\nbegin\nstep\ntop\nfacts\n", "0\n0 128\n0\n0 hello\n0\n0\n12 12 12 1\nyy\n"
	gone, wantGone := "blocks\ntop\nused 2\nread 2 128 0 5\nstep\naudit 2\nleave 2\nfacts\n", "-\n0 0 0 0\nerror\n2\n9\n2\n2\nyy\n"
	text, answers := part, want
	for _, size := range []int64{64, 1024, 256, 64, 65, 1023, 60, 100} {
		text += said("floor", size) + "\n"
		if size == 60 {
			text, answers = text+"top\nenter 2 1 1\n", answers+"error\n12 12 12 1\n3\n"
			continue
		}
		text, answers = text+gone+part, answers+"-\n"+wantGone+want
	}
	checkBench(t, "anew", text, answers)
}
