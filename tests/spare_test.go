package tests

import (
	"bytes"
	"slices"
	"testing"
)

const spareMark = 0xEE

// spared is an argument with room behind it, and all of what it had when it was made.
type spared struct {
	arg   []byte
	whole []byte
	was   []byte
}

func withSpare(part []byte) spared {
	whole := append(bytes.Clone(part), bytes.Repeat([]byte{spareMark}, 32)...)
	return spared{arg: whole[:len(part)], whole: whole, was: bytes.Clone(whole)}
}

func (s spared) checkSame(t *testing.T, what string) {
	t.Helper()
	if !bytes.Equal(s.whole, s.was) {
		t.Errorf("%s: the argument or its spare room is %v, was %v", what, s.whole, s.was)
	}
}

// scribble writes over an answer and all the room behind it: whatever shares memory with it shows that.
func scribble[E any](answer []E, other func(E) E) {
	all := answer[:cap(answer)]
	for i := range all {
		all[i] = other(all[i])
	}
}

func otherByte(b byte) byte { return b ^ 0xA5 }

// checkNew tells whether a call leaves its arguments alone and answers with memory of its own each time.
func checkNew(t *testing.T, what string, args []spared, call func() []byte) {
	t.Helper()
	checkNewList(t, what, args, call, otherByte)
}

// checkNewList does it for a list of anything; other makes of one element another that is not like it.
func checkNewList[E comparable](t *testing.T, what string, args []spared, call func() []E, other func(E) E) {
	t.Helper()
	first := call()
	kept := slices.Clone(first)
	second := call()
	for _, a := range args {
		a.checkSame(t, what)
	}
	scribble(first, other)
	for _, a := range args {
		a.checkSame(t, what+", when the answer is written to")
	}
	if !slices.Equal(second, kept) {
		t.Errorf("%s: two answers share memory, or differ: %v, was %v", what, second, kept)
	}
}
