package code

import (
	"slices"
	"strconv"
	"strings"

	"narcissus/api"
	"narcissus/tree"
)

const (
	separator = "; "  // between the strings of instructions
	blank     = " "   // between the words of an instruction
	nilTree   = "0"   // in the code of a jump: forward
	back      = "100" // in the code of a jump: back
)

// field is how a field of an instruction is written and read: in strings, and in codes.
type field struct {
	text   func(in *api.Instr) string
	parse  func(in *api.Instr, s string) bool
	code   func(in *api.Instr) string
	decode func(in *api.Instr, s string) bool
}

// operation is how the instructions with one Op are written.
type operation struct {
	name   string
	fields []field
}

// notation is how all instructions are written, by their Op.
type notation [api.Ops]operation

// operations returns the table of the operations.
func operations() *notation {
	a := register(func(in *api.Instr) *int { return &in.A })
	b := register(func(in *api.Instr) *int { return &in.B })
	c := register(func(in *api.Instr) *int { return &in.C })
	return &notation{
		api.OpSet:  {"set", []field{a, constant()}},
		api.OpMove: {"move", []field{a, b}},
		api.OpCons: {"cons", []field{a, b, c}},
		api.OpHead: {"head", []field{a, b}},
		api.OpTail: {"tail", []field{a, b}},
		api.OpJump: {"jump", []field{a, distance()}},
	}
}

// register is the field at which at points, a register.
func register(at func(in *api.Instr) *int) field {
	return field{
		text:   func(in *api.Instr) string { return strconv.Itoa(*at(in)) },
		parse:  func(in *api.Instr, s string) bool { return read(s, parseNumber, at(in)) },
		code:   func(in *api.Instr) string { return codeNumber(*at(in)) },
		decode: func(in *api.Instr, s string) bool { return read(s, decodeNumber, at(in)) },
	}
}

// distance is the field B of a jump.
func distance() field {
	return field{
		text:   func(in *api.Instr) string { return strconv.Itoa(in.B) },
		parse:  func(in *api.Instr, s string) bool { return read(s, parseNumber, &in.B) },
		code:   func(in *api.Instr) string { return codeDistance(in.B) },
		decode: func(in *api.Instr, s string) bool { return read(s, decodeDistance, &in.B) },
	}
}

// constant is the field Tree.
func constant() field {
	take := func(in *api.Instr, s string) bool { return read(s, copyTree, &in.Tree) }
	return field{
		text:   func(in *api.Instr) string { return in.Tree },
		parse:  take,
		code:   func(in *api.Instr) string { return in.Tree },
		decode: take,
	}
}

// read puts what by reads from s to the place at, and reports whether it can be read.
func read[T any](s string, by func(string) (T, bool), at *T) bool {
	value, ok := by(s)
	if ok {
		*at = value
	}
	return ok
}

// parseNumber reads a number in decimal.
func parseNumber(s string) (int, bool) {
	n, err := strconv.Atoi(s)
	// Atoi takes a plus, a minus before 0, and zeros in front, too; strings of programs do not contain them.
	return n, err == nil && strconv.Itoa(n) == s
}

// decodeNumber reads a number that is written as a tree.
func decodeNumber(s string) (int, bool) {
	n, e := tree.Value(s)
	return n, e == api.OK
}

// copyTree reads a tree. It is copied, so that a program does not keep in memory what it was read from.
func copyTree(s string) (string, bool) {
	return strings.Clone(s), tree.Valid(s)
}

// codeNumber returns a number of a valid instruction as a tree.
func codeNumber(n int) string {
	s, _ := tree.Number(n) // no error: in a valid program these numbers are small
	return s
}

// codeDistance returns the tree of the distance of a jump in a valid program.
func codeDistance(n int) string {
	sign := nilTree
	if n < 0 {
		sign, n = back, -n
	}
	s, _ := tree.Cons(sign, codeNumber(n))
	return s
}

// decodeDistance reads the tree of the distance of a jump.
func decodeDistance(s string) (int, bool) {
	l, ok := unnest(s, 2)
	if !ok {
		return 0, false
	}
	n, ok := decodeNumber(l[1])
	switch l[0] {
	case nilTree:
		return n, ok
	case back:
		return -n, ok && n > 0
	}
	return 0, false
}

// nest returns the pair of the first tree and the pair of the second one and so on, up to the last one.
func nest(l []string) (string, api.Errno) {
	last := len(l) - 1
	s := l[last]
	for _, head := range slices.Backward(l[:last]) {
		pair, e := tree.Cons(head, s)
		if e != api.OK {
			return "", e
		}
		s = pair
	}
	return s, api.OK
}

// unnest returns the trees, count of them, of which nest makes the valid tree s, if there are any.
func unnest(s string, count int) ([]string, bool) {
	var l []string
	for range count - 1 {
		// The parts of nil are nil, too; but nest makes no such tree.
		if s == nilTree {
			return nil, false
		}
		head, _ := tree.Head(s)
		tail, _ := tree.Tail(s)
		l = append(l, head)
		s = tail
	}
	return append(l, s), true
}

// text returns the string of an instruction.
func (t *notation) text(in api.Instr) string {
	words := []string{t[in.Op].name}
	for _, f := range t[in.Op].fields {
		words = append(words, f.text(&in))
	}
	return strings.Join(words, blank)
}

// parse reads the string of an instruction.
func (t *notation) parse(s string) (api.Instr, bool) {
	name, rest, _ := strings.Cut(s, blank)
	op := slices.IndexFunc(t[:], func(o operation) bool { return o.name == name })
	if op < 0 {
		return api.Instr{}, false
	}
	fields := t[op].fields
	words := strings.SplitN(rest, blank, len(fields)+1)
	if len(words) != len(fields) {
		return api.Instr{}, false
	}
	in := api.Instr{Op: op}
	for i, f := range fields {
		if !f.parse(&in, words[i]) {
			return api.Instr{}, false
		}
	}
	return in, true
}

// code returns the code of an instruction.
func (t *notation) code(in api.Instr) (string, api.Errno) {
	trees := []string{codeNumber(in.Op)}
	for _, f := range t[in.Op].fields {
		trees = append(trees, f.code(&in))
	}
	return nest(trees)
}

// decode reads the code of an instruction.
func (t *notation) decode(s string) (api.Instr, bool) {
	l, ok := unnest(s, 2)
	if !ok {
		return api.Instr{}, false
	}
	op, ok := decodeNumber(l[0])
	if !ok || op >= api.Ops {
		return api.Instr{}, false
	}
	fields := t[op].fields
	trees, ok := unnest(l[1], len(fields))
	if !ok {
		return api.Instr{}, false
	}
	in := api.Instr{Op: op}
	for i, f := range fields {
		if !f.decode(&in, trees[i]) {
			return api.Instr{}, false
		}
	}
	return in, true
}
