// Package write writes programs, one instruction after the other, and joins their pieces.
package write

import (
	"strings"

	"narcissus/api"
)

// Set returns the instruction by which register a becomes a tree.
func Set(a int, d string) api.Instr { return api.Instr{Op: api.OpSet, A: a, Tree: d} }

// Move returns the instruction by which register a becomes register b.
func Move(a, b int) api.Instr { return api.Instr{Op: api.OpMove, A: a, B: b} }

// Cons returns the instruction by which register a becomes the pair of registers b and c.
func Cons(a, b, c int) api.Instr { return api.Instr{Op: api.OpCons, A: a, B: b, C: c} }

// Head returns the instruction by which register a becomes the head of register b.
func Head(a, b int) api.Instr { return api.Instr{Op: api.OpHead, A: a, B: b} }

// Tail returns the instruction by which register a becomes the tail of register b.
func Tail(a, b int) api.Instr { return api.Instr{Op: api.OpTail, A: a, B: b} }

// Jump returns the instruction that continues as many places on as b says, if register a is not nil.
func Jump(a, b int) api.Instr { return api.Instr{Op: api.OpJump, A: a, B: b} }

// Writer writes a program. Its zero value has written none of it.
type Writer struct {
	Program api.Program
}

// Add writes instructions that are given. It shares no memory with them.
func (w *Writer) Add(l ...api.Instr) {
	for _, in := range l {
		in.Tree = strings.Clone(in.Tree)
		w.Program = append(w.Program, in)
	}
}

// Set writes the instruction Set, and so do the others write those with their names.
func (w *Writer) Set(a int, d string) { w.Add(Set(a, d)) }

func (w *Writer) Move(a, b int) { w.Add(Move(a, b)) }

func (w *Writer) Cons(a, b, c int) { w.Add(Cons(a, b, c)) }

func (w *Writer) Head(a, b int) { w.Add(Head(a, b)) }

func (w *Writer) Tail(a, b int) { w.Add(Tail(a, b)) }

func (w *Writer) Jump(a, b int) { w.Add(Jump(a, b)) }
