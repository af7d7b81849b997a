package tests

import (
	"slices"
	"testing"
)

// kept is an argument that tells whether it is still as it was when it was made.
type kept interface {
	checkSame(t *testing.T, what string)
}

// spared is an argument with room behind it, and all of what it had when it was made.
type spared[E comparable] struct {
	arg   []E
	whole []E
	was   []E
}

func withSpareOf[E comparable](list []E, mark E) spared[E] {
	whole := append(slices.Clone(list), slices.Repeat([]E{mark}, 32)...)
	return spared[E]{arg: whole[:len(list)], whole: whole, was: slices.Clone(whole)}
}

func withSpare(part []byte) spared[byte] { return withSpareOf(part, 0xEE) }

func (s spared[E]) checkSame(t *testing.T, what string) {
	t.Helper()
	if !slices.Equal(s.whole, s.was) {
		t.Errorf("%s: the argument or its spare room is %v, was %v", what, s.whole, s.was)
	}
}

// sparedRows is spared for elements that have lists of their own: each of these has room behind it, and is kept, too.
type sparedRows[E any] struct {
	arg   []E
	whole []E
	was   []E
	same  func(a, b E) bool
	lists []kept
}

// withSpareRows has spareIn put room behind the lists of an element, and say what is to be kept of them.
func withSpareRows[E any](list []E, mark E, same func(a, b E) bool, spareIn func(*E) kept) sparedRows[E] {
	whole := append(slices.Clone(list), slices.Repeat([]E{mark}, 20)...)
	rows := sparedRows[E]{arg: whole[:len(list)], whole: whole, same: same}
	for i := range whole {
		rows.lists = append(rows.lists, spareIn(&whole[i]))
	}
	rows.was = slices.Clone(whole)
	return rows
}

func (s sparedRows[E]) checkSame(t *testing.T, what string) {
	t.Helper()
	if !slices.EqualFunc(s.whole, s.was, s.same) {
		t.Errorf("%s: the argument or its spare room is %v, was %v", what, s.whole, s.was)
	}
	for _, list := range s.lists {
		list.checkSame(t, what)
	}
}

// scribble writes over an answer and all the room behind it: whatever shares memory with it shows that.
func scribble[E any](answer []E, other func(E) E) {
	all := answer[:cap(answer)]
	for i := range all {
		all[i] = other(all[i])
	}
}

func otherByte(b byte) byte { return b ^ 0xA5 }

// checkNew tells whether a call leaves its arguments alone and answers with memory of its own each time.
func checkNew(t *testing.T, what string, args []kept, call func() []byte) {
	t.Helper()
	checkNewList(t, what, args, call, otherByte)
}

// checkNewList does it for a list of anything; other makes of one element another that is not like it.
func checkNewList[E comparable](t *testing.T, what string, args []kept, call func() []E, other func(E) E) {
	t.Helper()
	first := call()
	answered := slices.Clone(first)
	second := call()
	for _, a := range args {
		a.checkSame(t, what)
	}
	scribble(first, other)
	for _, a := range args {
		a.checkSame(t, what+", when the answer is written to")
	}
	if !slices.Equal(second, answered) {
		t.Errorf("%s: two answers share memory, or differ: %v, was %v", what, second, answered)
	}
}
