package tests

import (
	"slices"
	"strconv"
	"strings"
	"testing"
)

// stateLines make a bench in the midst of a slide, with three tenants, some things, a gap, and what does not stand any more.
const stateLines = `
	enter 0 100 4 > 0
	enter 3 60 3 > 0
	enter 1 40 2 > 0
	make 0 9 2 > 0 128
	make 3 20 0 > 0 256
	make 0 3 1 > 0 129
	make 0 0 0 > 0 130
	make 3 4 3 > 0 257
	link 0 128 1 129 > 0
	drop 0 129 > 0
	write 0 128 2 text77 > 0
	drop 3 256 > 0
	drop 0 130 > 0
	make 1 1 0 > 0 384
	leave 1 > 0
	begin > 0
	step > 0
	step > 0`

// askedLines tell of all that a line could change.
const askedLines = `
	blocks > 0:17:0:0 43:10:0:1 53:6:0:2 59:13:3:1 72:7:-:0
	top > 79 17 43 5
	facts > yy`

// saidLines tell of what stands in things, too.
const saidLines = `
	used 0 > 27
	used 1 > error
	used 2 > error
	used 3 > 13
	audit 0 > 0 27 2 2 100
	audit 3 > 0 13 1 2 60
	read 0 128 0 9 > 0 ..text77.
	ref 0 128 0 > 0 0
	ref 0 128 1 > 0 129
	read 3 257 0 4 > 0 ....`

// checkErrors has each line answered by error, and nothing changed by it: all is asked behind each, and, now and then, what stands in things.
func checkErrors(t *testing.T, what string, lines []string) {
	t.Helper()
	first, firstAnswers := rowsIn(stateLines)
	asked, askedAnswers := rowsIn(askedLines)
	told, toldAnswers := rowsIn(saidLines)
	text, answers := slices.Clone(first), slices.Clone(firstAnswers)
	check := func() {
		checkBench(t, what, ended(append(text, told...)), ended(append(answers, toldAnswers...)))
		text, answers = slices.Clone(first), slices.Clone(firstAnswers)
	}
	for _, line := range lines {
		next := append(append(slices.Clone(text), line), append(asked, told...)...)
		if len(next) > 200 || len(ended(next)) > 6000 {
			check()
		}
		text, answers = append(append(text, line), asked...), append(append(answers, "error"), askedAnswers...)
	}
	check()
}

// TestTheLinesAheadOfErrors keeps the state from being one that nothing could change.
func TestTheLinesAheadOfErrors(t *testing.T) {
	checkRows(t, "state", stateLines+askedLines+saidLines+askedLines)
	for _, line := range benchLines() {
		if checkBenchAsTold(t, "right", ended([]string{line}))[0] == "error" && line != "used 2" {
			t.Errorf("%s: error", line)
		}
	}
}

// benchLines are one of each kind, right ones.
func benchLines() []string {
	list := []string{"floor 64", "floor 1024", "blocks", "top", "used 2", "facts"}
	for _, o := range rightOrders() {
		list = append(list, shownTold(o))
	}
	return append(list, "write 0 128 0 -", "enter 2 0 1", "read 0 128 0 9")
}

// TestWordsOfNoLine has each word of the table with a letter more, a letter less, another one, a capital letter, and words of other things.
func TestWordsOfNoLine(t *testing.T) {
	var list []string
	for _, line := range benchLines() {
		word, rest, _ := strings.Cut(line, " ")
		if rest != "" {
			rest = " " + rest
		}
		for i := range word {
			list = append(list, word[:i]+strings.ToUpper(word[i:i+1])+word[i+1:]+rest, word[:i]+"x"+word[i+1:]+rest)
			if left := word[:i] + word[i+1:] + rest; left != "" {
				list = append(list, left)
			}
			for _, letter := range []string{"a", "s", "e", "z", "0", "-", "_", ".", word[i : i+1]} {
				list = append(list, word[:i]+letter+word[i:]+rest)
			}
		}
		list = append(list, word+"s"+rest, word+"ed"+rest, word+word+rest, word+"0"+rest, strings.ToUpper(word)+rest, strings.ToUpper(word[:1])+word[1:]+rest, "-"+word+rest, word+"-"+rest, word+":"+rest, "/"+word+rest)
	}
	for _, word := range []string{
		"hop", "error", "new", "heap", "size", "tenant", "slot", "used-", "uses", "fact", "block", "low", "high", "steps", "stepsleft", "clean", "same", "model", "bench", "order", "did", "played", "heard", "done", "slid", "gone", "entered",
		"made", "written", "linked", "rooted", "unrooted", "unroot", "exit", "quit", "help", "y", "n", "yy", "0", "1", "13", "-", "--", "#", "//", ".", ":", "ok", "nil", "none", "true", "ｔｏｐ", "töp", "\xFF", "\xC3", "\u00A0",
	} {
		list = append(list, word, word+" 0", word+" 64", word+" 0 0 0")
	}
	checkErrors(t, "no word", list)
}

// TestLinesOfTooFewAndTooManyWords has each word left out, and one put in at each place, ahead and behind too.
func TestLinesOfTooFewAndTooManyWords(t *testing.T) {
	list := []string{"blocks 1", "top 0", "facts y", "used", "used 0 0", "floor", "floor 64 64", "begin 0", "audit", "enter 0 10", "enter 0 10 2 2", "blocks blocks", "top top", "facts facts", "facts yy", "step 1", "slide 0", "blocks -", "top 0 0 0 0"}
	for _, line := range benchLines() {
		words := strings.Split(line, " ")
		for i := range words {
			if left := strings.Join(slices.Delete(slices.Clone(words), i, i+1), " "); left != "" {
				list = append(list, left)
			}
			if i > 0 {
				list = append(list, strings.Join(words[:i], " "))
			}
		}
		for i := range len(words) + 1 {
			for _, more := range []string{"0", "1", "64", "a", "-", "top", words[0], words[len(words)-1]} {
				list = append(list, strings.Join(slices.Insert(slices.Clone(words), i, more), " "))
			}
		}
		list = append(list, line+" "+line, line+line, line+" top", line+";top", line+", top", line+" > 0", line+" #")
	}
	checkErrors(t, "words", list)
}

// TestBytesThatAreNoBlanks has other bytes ahead of, behind and in place of blanks, a blank ahead and behind, and two between.
func TestBytesThatAreNoBlanks(t *testing.T) {
	list := []string{" ", "  ", "   ", strings.Repeat(" ", 1000), "\t", "\r", "\x00", "\v", "\f", "\x7F", " \t ", "\xFF", "\u00A0", "\u3000", "\uFEFF", "\u2028", "\u0085"}
	for _, line := range benchLines() {
		for _, other := range []string{" ", "\t", "\r", "\x00", "\v", "\f", "\xA0", "\u00A0", "\u3000", "\uFEFF", "\u2028", "\x85", "\xFF", "_", ",", ":"} {
			list = append(list, other+line, line+other, other+line+other)
			for i := range line {
				if line[i] == ' ' && other == " " {
					list = append(list, line[:i]+other+line[i:])
				}
				if line[i] == ' ' && other != " " {
					list = append(list, line[:i]+other+line[i+1:], line[:i]+other+line[i:], line[:i+1]+other+line[i+1:])
				}
			}
		}
		list = append(list, line+"\r", line+" \r", "\r"+line, "\x00"+line)
		if strings.Contains(line, " ") {
			list = append(list, strings.ReplaceAll(line, " ", ""))
		}
	}
	checkErrors(t, "no blanks", list)
}

// benchNumbers are lines with %s where a number must be.
func benchNumbers() []string {
	return []string{
		"floor %s", "used %s", "enter %s 0 1", "enter 2 %s 1", "enter 2 0 %s", "leave %s", "make %s 0 0", "make 0 %s 0", "make 0 0 %s", "read %s 128 0 0", "read 0 %s 0 0", "read 0 128 %s 0", "read 0 128 0 %s", "write %s 128 0 a", "write 0 %s 0 a",
		"write 0 128 %s a", "ref %s 128 0", "ref 0 %s 0", "ref 0 128 %s", "link %s 128 0 0", "link 0 %s 0 0", "link 0 128 %s 0", "link 0 128 0 %s", "root %s 128", "root 0 %s", "drop %s 128", "drop 0 %s", "audit %s",
	}
}

// TestWordsThatAreNoNumbersInLines has - where a number must be, noughts ahead, signs, letters, ten digits and more, and none.
func TestWordsThatAreNoNumbersInLines(t *testing.T) {
	var list []string
	for _, line := range benchNumbers() {
		for _, word := range append(noNumbers(), "000", "0128", "+128", "-128", "128-", "128a", "9999999999", "0000000001", "-9") {
			if len(word) < 50 {
				list = append(list, strings.Replace(line, "%s", word, 1))
			}
		}
	}
	checkErrors(t, "no number", list)
}

// TestNumbersOutOfRangeInLines has Who of 4, and A, B or C of 100000000; of what is one less, the Code tells.
func TestNumbersOutOfRangeInLines(t *testing.T) {
	checkRows(t, "the largest", `
		enter 0 99999999 1 > 1
		enter 0 1 99999999 > 1
		enter 0 90 2 > 0
		make 0 99999999 0 > 1
		make 0 0 99999999 > 1
		make 0 3 1 > 0 128
		read 0 99999999 0 0 > 7
		read 0 128 99999999 0 > 8
		read 0 128 0 99999999 > 8
		write 0 99999999 0 a > 7
		write 0 128 99999999 a > 8
		ref 0 99999999 0 > 7
		ref 0 128 99999999 > 8
		link 0 99999999 0 0 > 7
		link 0 128 99999999 0 > 8
		link 0 128 0 99999999 > 7
		root 0 99999999 > 7
		drop 0 99999999 > 7
		audit 3 > 2
		leave 3 > 2
		used 999999999 > error
		floor 999999999 > error
		used 0 > 10
		facts > yy`)
	checkErrors(t, "one more", []string{
		"enter 4 0 1", "enter 2 100000000 1", "enter 2 0 100000000", "leave 4", "make 4 0 0", "make 0 100000000 0", "make 0 0 100000000", "read 4 128 0 0", "read 0 100000000 0 0", "read 0 128 100000000 0", "read 0 128 0 100000000",
		"write 4 128 0 a", "write 0 100000000 0 a", "write 0 128 100000000 a", "ref 4 128 0", "ref 0 100000000 0", "ref 0 128 100000000", "link 4 128 0 0", "link 0 100000000 0 0", "link 0 128 100000000 0", "link 0 128 0 100000000",
		"root 4 128", "root 0 100000000", "drop 4 128", "drop 0 100000000", "audit 4", "used 4", "used 100000000", "floor 1025", "floor 100000000",
	})
}

// TestTextsInLines has an empty one, one of a capital letter, and one of MaxData bytes, which is right, and of one more.
func TestTextsInLines(t *testing.T) {
	most := strings.Repeat("ab12", 50)
	checkBench(t, "as much as there may be", "enter 0 206 1\nmake 0 200 0\nwrite 0 128 0 "+most+"\nread 0 128 0 200\nwrite 0 128 0 "+most+"a\nread 0 128 0 200\nfacts", "0\n0 128\n0\n0 "+most+"\nerror\n0 "+most+"\nyy\n")
	list := []string{"write 0 128 0 ", "write 0 128 0", "write 0 128 0  ", "write 0 128 0  a", "write 0 128 0 a b", "write 0 128 0 --", "write 0 128 0 -a", "write 0 128 0 a-", "write 0 128 0 - -", "write 0 128 0 ä", "write 0 128 0 " + most + "x", "write 0 128 0 " + most + most}
	for b := range 256 {
		if one := string([]byte{byte(b)}); b != 10 && b != '-' && !strings.Contains(plainBytes, one) {
			list = append(list, "write 0 128 0 "+one, "write 0 128 0 a"+one, "write 0 128 0 "+one+"a", "write 0 128 0 a"+one+"b")
		}
	}
	checkErrors(t, "no Text", list)
}

// TestOneByteAwayInLines has each byte of right lines left out, changed into others, and others put in at each place.
func TestOneByteAwayInLines(t *testing.T) {
	var list []string
	for _, line := range benchLines() {
		for i := range len(line) + 1 {
			if i < len(line) {
				list = append(list, line[:i]+line[i+1:])
			}
			for _, b := range []string{" ", "-", "0", "1", "4", "a", "e", "Z", "\n", "\t"} {
				list = append(list, line[:i]+b+line[i:])
				if i < len(line) {
					list = append(list, line[:i]+b+line[i+1:])
				}
			}
		}
	}
	state, _ := rowsIn(stateLines)
	errors, others := 0, 0
	for at := 0; at < len(list); at += 40 {
		text := ended(state)
		for _, line := range list[at:min(at+40, len(list))] {
			text += line + "\nblocks\ntop\n"
		}
		for _, answer := range checkBenchAsTold(t, "one byte away", text) {
			if answer == "error" {
				errors++
			} else {
				others++
			}
		}
	}
	if errors < 3000 || others < 6000 {
		t.Errorf("%d errors, %d others", errors, others)
	}
}

// TestEveryFewWordsInLines has each line of up to three of a few words.
func TestEveryFewWordsInLines(t *testing.T) {
	few := []string{"floor", "blocks", "top", "used", "facts", "audit", "drop", "begin", "step", "leave", "64", "0", "3", "4", "128", "01", "-", ""}
	var list []string
	var grow func(line string, depth int)
	grow = func(line string, depth int) {
		if list = append(list, line); depth > 0 {
			for _, word := range few {
				grow(line+" "+word, depth-1)
			}
		}
	}
	for _, word := range few {
		grow(word, 2)
	}
	state, _ := rowsIn(stateLines)
	seen := map[string]int{}
	for at := 0; at < len(list); at += 80 {
		text := ended(state)
		for _, line := range list[at:min(at+80, len(list))] {
			text += line + "\ntop\n"
		}
		for _, answer := range checkBenchAsTold(t, "few words", text) {
			seen[answer]++
		}
	}
	if len(list) != 18+18*18+18*18*18 || seen["error"] < 5500 || seen["-"] < 1 {
		t.Errorf("%d lines, %d errors, %d floors", len(list), seen["error"], seen["-"])
	}
}

// TestErrorsAlone has each text of one line that is none answered by error alone.
func TestErrorsAlone(t *testing.T) {
	for b := range 256 {
		if b == 10 {
			continue
		}
		one := string([]byte{byte(b)})
		for _, text := range []string{one, one + "\n", "\n" + one, one + one, "top" + one, one + "top"} {
			checkBench(t, "byte "+strconv.Itoa(b), text, "error\n")
		}
	}
	for _, n := range []int{300, 5999, 6000} {
		for _, one := range []string{" ", "0", "a", "-", "\x00", "\xFF", "\r", "\t"} {
			checkBench(t, "long", strings.Repeat(one, n), "error\n")
			checkBench(t, "long", "top "+strings.Repeat(one, n-4), "error\n")
			checkBench(t, "long", "write 0 128 0 "+strings.Repeat(one, n-14), "error\n")
		}
	}
}
