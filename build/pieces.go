package build

import (
	"slices"
	"strings"

	"narcissus/api"
	"narcissus/code"
	"narcissus/write"
)

const (
	nilTree = "0"   // what registers contain before a run
	notNil  = "100" // what a register contains with which a jump is always made
)

// cleaning returns the cleaning of a program that uses as many registers.
func cleaning(regs int) api.Program {
	var p api.Program
	for r := 1; r < regs; r++ {
		p = append(p, write.Set(r, nilTree))
	}
	return p
}

// again prepares a program that uses as many registers for a run on what register n contains.
func again(n, regs int) api.Program {
	return slices.Concat(api.Program{write.Move(0, n)}, cleaning(regs))
}

// skip leaves out the next instructions, as many as over says, by means of register n.
func skip(n, over int) api.Program {
	return api.Program{write.Set(n, notNil), write.Jump(n, 1+over)}
}

// join returns the program of some pieces, if it keeps to the limits. It shares no memory with them.
func join(pieces ...api.Program) (api.Program, api.Errno) {
	p := slices.Concat(pieces...)
	// The pieces are parts of valid programs, and the jumps between them lead to places of the whole: only limits are left.
	if !code.Valid(p) {
		return nil, api.ErrSize
	}
	for i := range p {
		p[i].Tree = strings.Clone(p[i].Tree)
	}
	return p, api.OK
}
