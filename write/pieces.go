package write

import (
	"slices"
	"strings"

	"narcissus/api"
	"narcissus/code"
)

const nilTree = "0" // what registers contain before a run

// Clear returns the instructions by which the registers from first to last become nil, in order.
func Clear(first, last int) api.Program {
	var p api.Program
	for r := first; r <= last; r++ {
		p = append(p, Set(r, nilTree))
	}
	return p
}

// Join returns the program of some pieces, or ErrSize if it is not valid.
// So the pieces are such that nothing but a limit can make it so. It shares no memory with them.
func Join(pieces ...api.Program) (api.Program, api.Errno) {
	p := slices.Concat(pieces...)
	if !code.Valid(p) {
		return nil, api.ErrSize
	}
	for i := range p {
		p[i].Tree = strings.Clone(p[i].Tree)
	}
	return p, api.OK
}
