package write_test

import (
	"slices"
	"strings"
	"testing"
	"unsafe"

	"narcissus/api"
	"narcissus/code"
	"narcissus/write"
)

func TestWriter(t *testing.T) {
	var w write.Writer
	if len(w.Program) != 0 {
		t.Error(w.Program)
	}
	w.Set(1, "11000")
	w.Move(2, 3)
	w.Cons(4, 5, 6)
	w.Head(7, 8)
	w.Tail(9, 10)
	w.Jump(11, -3)
	w.Add()
	w.Add(api.Instr{Op: api.OpMove, A: 12, B: 13}, api.Instr{Op: api.OpSet, A: 14, Tree: "0"})
	want := "set 1 11000; move 2 3; cons 4 5 6; head 7 8; tail 9 10; jump 11 -3; move 12 13; set 14 0"
	if s, e := code.Text(w.Program); e != api.OK || s != want {
		t.Errorf("%s, %d; not %s", s, e, want)
	}
}

// What is written shares no memory with what is given.
func TestNewMemory(t *testing.T) {
	var w write.Writer
	d := strings.Clone("1011000")
	l := api.Program{{Op: api.OpSet, Tree: d}, {Op: api.OpSet, A: 1, Tree: "0"}}
	kept := slices.Clone(l)
	w.Add(l...)
	w.Set(2, d)
	for _, in := range w.Program {
		if in.Tree != "0" && unsafe.StringData(in.Tree) == unsafe.StringData(d) {
			t.Errorf("the tree of register %d is not new", in.A)
		}
	}
	clear(w.Program)
	if !slices.Equal(l, kept) {
		t.Error("the instructions that were given are changed")
	}
}
