package build

import (
	"slices"

	"narcissus/api"
	"narcissus/write"
)

const notNil = "100" // what a register contains with which a jump is always made

// cleaning returns the cleaning of a program that uses as many registers.
func cleaning(regs int) api.Program { return write.Clear(1, regs-1) }

// again prepares a program that uses as many registers for a run on what register n contains.
func again(n, regs int) api.Program {
	return slices.Concat(api.Program{write.Move(0, n)}, cleaning(regs))
}

// skip leaves out the next instructions, as many as over says, by means of register n.
func skip(n, over int) api.Program {
	return api.Program{write.Set(n, notNil), write.Jump(n, 1+over)}
}
