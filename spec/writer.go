package spec

import (
	"strings"

	"narcissus/api"
)

// writer writes a program, one instruction after the other.
type writer struct {
	program api.Program
}

// add writes instructions that are given. It shares no memory with them.
func (w *writer) add(l ...api.Instr) {
	for _, in := range l {
		in.Tree = strings.Clone(in.Tree)
		w.program = append(w.program, in)
	}
}

// set writes that register a becomes a tree.
func (w *writer) set(a int, d string) { w.add(api.Instr{Op: api.OpSet, A: a, Tree: d}) }

// cons writes that register a becomes the pair of registers b and c.
func (w *writer) cons(a, b, c int) { w.add(api.Instr{Op: api.OpCons, A: a, B: b, C: c}) }

// head writes that register a becomes the head of register b.
func (w *writer) head(a, b int) { w.add(api.Instr{Op: api.OpHead, A: a, B: b}) }

// tail writes that register a becomes the tail of register b.
func (w *writer) tail(a, b int) { w.add(api.Instr{Op: api.OpTail, A: a, B: b}) }
