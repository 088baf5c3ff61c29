package univ

import (
	"strconv"

	"narcissus/api"
)

// The registers of the universal program. Those that it uses most have the smallest numbers, so that it takes fewer steps to run itself.
const (
	regs   = iota // the list of the registers of the program that is run
	args          // the fields of the instruction but its number A
	item          // an element of a list
	value         // what register A becomes
	target        // the number A
	rest          // the list of the instructions from the place on
	before        // the list of the registers before register A, the last one first
	done          // the list of the instructions before the place, the last one first
	op            // the number of the operation
	second        // the second part of a pair
	yes           // always a tree that is not nil
)

// notNil is the tree of a register with which a jump is always made.
const notNil = "100"

// writeStart takes the code and the input apart.
func writeStart(u *plan) {
	u.Head(rest, 0)
	u.Tail(0, 0)
	// The list ends with nil, whose head and tail are nil: so the other registers are nil, too.
	u.Cons(regs, 0, done)
	u.Set(yes, notNil)
	u.jumpTo("next", yes)
}

// writeOperations finds what register A becomes, unless the instruction is a jump.
func writeOperations(u *plan) {
	u.place("step")
	u.Head(item, rest)
	u.Head(op, item)
	u.Tail(args, item)
	u.Head(target, args)
	u.Tail(args, args)
	for n, operation := range operations(u) {
		other := "not " + strconv.Itoa(n)
		u.jumpTo(other, op)
		operation()
		u.jumpTo("store", yes)
		u.place(other)
		u.Tail(op, op)
	}
}

// operations returns what writes the operations that have smaller numbers than jumps.
func operations(u *plan) [api.OpJump]func() {
	return [...]func(){
		api.OpSet:  func() { u.Move(value, args) },
		api.OpMove: func() { writeRead(u, value, args) },
		api.OpCons: func() {
			u.Head(second, args)
			writeRead(u, value, second)
			u.Tail(args, args)
			writeRead(u, second, args)
			u.Cons(value, value, second)
		},
		api.OpHead: func() {
			writeRead(u, value, args)
			u.Head(value, value)
		},
		api.OpTail: func() {
			writeRead(u, value, args)
			u.Tail(value, value)
		},
	}
}

// writeRead makes register a the register of the program that is run with the number in register index, which becomes nil.
func writeRead(u *plan, a, index int) {
	u.Move(a, regs)
	u.repeat(index, func() {
		u.Tail(a, a)
		u.Tail(index, index)
	})
	u.Head(a, a)
}

// writeJump continues at another place, or at the next one if the jump is not made.
func writeJump(u *plan) {
	writeRead(u, value, target)
	u.jumpTo("made", value)
	u.jumpTo("on", yes)
	u.place("made")
	u.Head(value, args)
	u.Tail(args, args)
	u.jumpTo("back", value)
	u.repeat(args, func() {
		u.Tail(args, args)
		writeShift(u, done, rest)
	})
	u.jumpTo("next", yes)
	u.place("back")
	u.repeat(args, func() {
		u.Tail(args, args)
		writeShift(u, rest, done)
	})
	u.jumpTo("next", yes)
}

// writeShift moves the first element of a list to the front of another one.
func writeShift(u *plan, to, from int) {
	u.Head(item, from)
	u.Cons(to, item, to)
	u.Tail(from, from)
}

// writeStore puts the value into its register: those before it are set aside, and put back afterwards.
func writeStore(u *plan) {
	u.place("store")
	u.repeat(target, func() {
		u.Tail(target, target)
		writeShift(u, before, regs)
	})
	u.Tail(regs, regs)
	u.Cons(regs, value, regs)
	u.repeat(before, func() { writeShift(u, regs, before) })
}

// writeNext goes on to the next instruction, or returns register 0 if there is none.
func writeNext(u *plan) {
	u.place("on")
	writeShift(u, done, rest)
	u.place("next")
	u.jumpTo("step", rest)
	u.Head(0, regs)
}
