package sample

import (
	"slices"
	"strings"

	"narcissus/api"
	"narcissus/code"
	"narcissus/write"
)

// Program returns the program with a string.
func Program(s string) api.Program {
	p, e := code.Parse(s)
	if e != api.OK {
		panic("no program: " + Short(s))
	}
	return p
}

// Code returns the code of a program.
func Code(p api.Program) string {
	s, e := code.Code(p)
	if e != api.OK {
		panic("no code: " + Show(p))
	}
	return s
}

// Regs returns the number of registers of a program.
func Regs(p api.Program) int {
	n, e := code.Regs(p)
	if e != api.OK {
		panic("no registers: " + Show(p))
	}
	return n
}

// Size returns how many characters the code of a valid program has, which may be too many for a tree.
func Size(p api.Program) int {
	number := func(n int) int { return 2*n + 1 }
	n := 1
	for _, in := range p {
		n += 3 + number(in.Op) + number(in.A)
		switch in.Op {
		case api.OpSet:
			n += len(in.Tree)
		case api.OpMove, api.OpHead, api.OpTail:
			n += number(in.B)
		case api.OpCons:
			n += 1 + number(in.B) + number(in.C)
		case api.OpJump:
			n += 1 + number(min(max(-in.B, 0), 1)) + number(max(in.B, -in.B))
		}
	}
	return n
}

// Show returns the strings of programs, or their beginnings if they are long.
func Show(l ...api.Program) string {
	var shown []string
	for _, p := range l {
		s, _ := code.Text(p)
		shown = append(shown, "["+Short(s)+"]")
	}
	return strings.Join(shown, " ")
}

// programs returns the programs with strings.
func programs(l ...string) []api.Program {
	var all []api.Program
	for _, s := range l {
		all = append(all, Program(s))
	}
	return all
}

// Ending returns programs that end on every tree: some leave trees in registers, or need registers to be nil, or jump to their end, forwards and backwards.
func Ending() []api.Program {
	return programs(
		"", "head 0 0", "tail 0 0", "set 0 10100", "cons 0 0 0", "cons 0 1 0", "cons 0 31 1", "move 0 1", "move 31 0; set 0 0; move 0 31",
		"head 1 0; tail 0 0; cons 0 0 1", "jump 1 2; head 0 0", "jump 0 2; set 0 100", "tail 0 0; jump 0 -1", "head 0 0; jump 0 -1; cons 0 1 2",
		"set 5 100; tail 2 0; jump 2 2; move 0 5; jump 5 1", "head 1 0; tail 0 0; jump 1 2; jump 2 5; tail 1 1; tail 0 0; set 2 100; jump 1 -3",
		"set 1 100; jump 1 3; cons 0 0 0; jump 1 3; cons 0 1 0; jump 1 -3; tail 2 0", "tail 0 0; cons 1 0 1; jump 0 -2; move 0 1",
	)
}

// Endless returns programs that do not end on a tree that is not nil.
func Endless() []api.Program {
	return programs(
		"jump 0 0", "set 1 100; jump 1 0", "set 3 100; jump 3 -1", "set 31 100; jump 31 1; jump 0 1; jump 31 -2", "move 1 0; head 0 0; jump 1 -1",
		"jump 0 2; jump 0 1; jump 0 -1", "set 0 10100; tail 0 0; jump 0 -1; jump 0 0; set 0 100; jump 0 -5",
	)
}

// Growing returns programs that come to a step that is too large on every tree.
func Growing() []api.Program {
	return programs("cons 0 0 0; jump 0 -1", "cons 1 0 1; cons 1 1 1; jump 1 -2")
}

// AtRandom returns a short program; pick returns a number less than its argument, at random.
func AtRandom(pick func(int) int) api.Program {
	l := Trees(5)
	p := make(api.Program, pick(12))
	registers := []int{0, 0, 0, 1, 2, 3, 4, 5, 6, 7, pick(api.MaxRegs)}
	register := func() int { return registers[pick(len(registers))] }
	for i := range p {
		a, b, c := register(), register(), register()
		choices := [api.Ops]api.Instr{
			write.Set(a, l[pick(len(l))]), write.Move(a, b), write.Cons(a, b, c),
			write.Head(a, b), write.Tail(a, b), write.Jump(a, pick(len(p)+1)-i),
		}
		p[i] = choices[pick(len(choices))]
	}
	return p
}

// Invalid returns programs that are not valid.
func Invalid() []api.Program {
	none := write.Move(0, 0)
	return slices.Concat([]api.Program{
		slices.Repeat(api.Program{none}, api.MaxCode+1),
		{{Op: -1}}, {{Op: api.Ops}}, {{Op: Greatest}}, {{Op: -Greatest - 1}}, {none, {Op: api.Ops}},
		{{Op: api.OpSet, Tree: "0", B: 1}}, {{Op: api.OpSet, Tree: "0", C: 1}}, {{Op: api.OpSet, Tree: "0", B: -1}},
		{{Op: api.OpMove, C: 1}}, {{Op: api.OpHead, C: 1}}, {{Op: api.OpTail, C: -1}}, {{Op: api.OpJump, C: 1}},
		{{Op: api.OpMove, Tree: "0"}}, {{Op: api.OpCons, Tree: "0"}}, {{Op: api.OpHead, Tree: "0"}}, {{Op: api.OpTail, Tree: "0"}}, {{Op: api.OpJump, Tree: "0"}},
		{{Op: api.OpCons, Tree: "1"}},
		{write.Jump(0, 2)}, {none, write.Jump(0, 2)}, {write.Jump(0, 3), none}, {write.Jump(0, Greatest)}, {none, write.Jump(0, Greatest)},
		{write.Jump(0, -1)}, {write.Jump(0, -2)}, {write.Jump(0, -3)}, {none, write.Jump(0, -2)}, {none, write.Jump(0, -4)},
		{write.Jump(0, -Greatest-1)}, {none, write.Jump(0, -Greatest-1)},
	}, withWrongTrees(), withWrongRegisters())
}

// withWrongTrees returns programs with strings that are no trees, and with trees that are too large together.
func withWrongTrees() []api.Program {
	half := (MostPairs - 1) / 2
	l := []api.Program{
		make(api.Program, 1),
		{write.Set(0, Number(MostPairs)), write.Set(0, "100")},
		{write.Set(0, Number(half)), write.Set(0, Number(half)), write.Set(0, "0"), write.Set(0, "0"), write.Set(0, "0")},
	}
	for _, s := range NotTrees() {
		l = append(l, api.Program{write.Set(0, s)})
	}
	return l
}

// withWrongRegisters returns programs with numbers that are no registers, in each place where a register stands.
func withWrongRegisters() []api.Program {
	none := write.Move(0, 0)
	var l []api.Program
	for _, r := range []int{-1, api.MaxRegs, 1000, Greatest, -Greatest - 1} {
		for _, in := range []api.Instr{
			write.Set(r, "0"), write.Move(r, 0), write.Move(0, r), write.Head(r, 0), write.Head(0, r), write.Tail(r, 0), write.Tail(0, r),
			write.Cons(r, 0, 0), write.Cons(0, r, 0), write.Cons(0, 0, r), write.Jump(r, 0),
		} {
			l = append(l, api.Program{in}, api.Program{none, in, none})
		}
	}
	return l
}
