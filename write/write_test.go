package write_test

import (
	"slices"
	"strings"
	"testing"
	"unsafe"

	"narcissus/api"
	"narcissus/code"
	"narcissus/sample"
	"narcissus/spec"
	"narcissus/write"
)

func TestWriter(t *testing.T) {
	var w write.Writer
	if len(w.Program) != 0 {
		t.Error(w.Program)
	}
	w.Set(1, "11000")
	w.Move(2, 3)
	w.Cons(4, 5, 6)
	w.Head(7, 8)
	w.Tail(9, 10)
	w.Jump(11, -3)
	w.Add()
	w.Add(api.Instr{Op: api.OpMove, A: 12, B: 13}, api.Instr{Op: api.OpSet, A: 14, Tree: "0"})
	want := "set 1 11000; move 2 3; cons 4 5 6; head 7 8; tail 9 10; jump 11 -3; move 12 13; set 14 0"
	if s, e := code.Text(w.Program); e != api.OK || s != want {
		t.Errorf("%s, %d; not %s", s, e, want)
	}
}

// What is written shares no memory with what is given.
func TestNewMemory(t *testing.T) {
	var w write.Writer
	d := strings.Clone("1011000")
	l := api.Program{{Op: api.OpSet, Tree: d}, {Op: api.OpSet, A: 1, Tree: "0"}}
	kept := slices.Clone(l)
	w.Add(l...)
	w.Set(2, d)
	for _, in := range w.Program {
		if in.Tree != "0" && unsafe.StringData(in.Tree) == unsafe.StringData(d) {
			t.Errorf("the tree of register %d is not new", in.A)
		}
	}
	clear(w.Program)
	if !slices.Equal(l, kept) {
		t.Error("the instructions that were given are changed")
	}
}

func TestClear(t *testing.T) {
	for _, c := range []struct {
		first, last int
		want        string
	}{
		{1, 3, "set 1 0; set 2 0; set 3 0"}, {30, 31, "set 30 0; set 31 0"}, {0, 0, "set 0 0"}, {1, 0, ""}, {3, 1, ""},
	} {
		if s, e := code.Text(write.Clear(c.first, c.last)); e != api.OK || s != c.want {
			t.Errorf("from %d to %d: %s, %d", c.first, c.last, s, e)
		}
	}
}

func TestJoin(t *testing.T) {
	jump, back := write.Jump(1, 3), write.Jump(2, -3) // valid only in the whole
	for _, c := range []struct {
		pieces []api.Program
		want   string
	}{
		{nil, ""}, {[]api.Program{nil, {}, nil}, ""},
		{[]api.Program{{write.Set(3, "100")}}, "set 3 100"},
		{[]api.Program{{jump}, {write.Move(4, 5), write.Set(0, "11000")}, nil, {back}}, "jump 1 3; move 4 5; set 0 11000; jump 2 -3"},
	} {
		if p, e := write.Join(c.pieces...); e != api.OK || sample.Show(p) != "["+c.want+"]" {
			t.Errorf("%s: %s, %d", c.want, sample.Show(p), e)
		}
	}
}

func TestJoinErrSize(t *testing.T) {
	half := slices.Repeat(api.Program{write.Move(0, 0)}, api.MaxCode/2)
	large := api.Program{write.Set(0, sample.Number(sample.MostPairs/2))}
	for _, c := range []struct {
		pieces []api.Program
		want   api.Errno
	}{
		{[]api.Program{half, half}, api.OK}, {[]api.Program{half, half, half[:1]}, api.ErrSize}, {[]api.Program{half[:1], half, half}, api.ErrSize},
		{[]api.Program{large, large}, api.OK}, {[]api.Program{large, large, large[:0]}, api.OK}, {[]api.Program{large, large, write.Clear(1, 3)}, api.ErrSize},
	} {
		if p, e := write.Join(c.pieces...); e != c.want || e != api.OK && len(p) != 0 {
			t.Errorf("%d instructions, %d; not %d", len(p), e, c.want)
		}
	}
}

// What is joined shares no memory with the pieces, of which none is changed.
func TestJoinNewMemory(t *testing.T) {
	d := strings.Clone("1011000")
	room := api.Program{write.Set(0, d), write.Move(1, 1), write.Move(2, 2)}
	kept := slices.Clone(room)
	for _, pieces := range [][]api.Program{{room}, {room[:1], {write.Head(0, 0)}}, {room[:1], room[:1]}} {
		p, e := write.Join(pieces...)
		if e != api.OK || unsafe.StringData(p[0].Tree) == unsafe.StringData(d) {
			t.Error("a tree is not new", e)
		}
		clear(p)
		if !slices.Equal(room, kept) {
			t.Fatal("the pieces are changed")
		}
	}
}

// The trees are those of the codes that Spec's programs have.
func TestSupply(t *testing.T) {
	for _, d := range sample.Trees(4) {
		p, e := spec.Spec(nil, d)
		first := sample.Pair("0", sample.Pair(write.SupplyRegister, d))
		if c := "1" + first + "1" + write.SupplySecond + "1" + write.SupplyThird + "0"; e != api.OK || sample.Code(p) != c {
			t.Errorf("%s: %s, %d; not %s", d, sample.Code(p), e, c)
		}
	}
}
