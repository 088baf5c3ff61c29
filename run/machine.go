package run

import "narcissus/api"

// machine runs a valid program; it is always in one of the states of the run.
type machine struct {
	program   api.Program
	constants []*node // the trees of the program, by their places
	at        int
	regs      [api.MaxRegs]*node
}

// newMachine returns a machine at the first state of a program on nil.
func newMachine(p api.Program) *machine {
	m := &machine{program: p, constants: make([]*node, len(p))}
	for i, in := range p {
		if in.Op == api.OpSet {
			m.constants[i] = share(in.Tree)
		}
	}
	return m
}

// ended reports whether the run has ended.
func (m *machine) ended() bool { return m.at == len(m.program) }

// states takes the machine from state to state, up to the end of the run, or up to a step that is too large.
// In each state it yields the number of steps up to there.
func (m *machine) states(yield func(steps int) bool) {
	for steps := 0; yield(steps) && !m.ended() && m.step(); steps++ {
	}
}

// step takes a step, and reports whether it could; if not, because the step is too large, nothing has changed.
// The run must not have ended.
func (m *machine) step() bool {
	in := &m.program[m.at]
	distance := 1
	switch in.Op {
	case api.OpSet:
		m.regs[in.A] = m.constants[m.at]
	case api.OpMove:
		m.regs[in.A] = m.regs[in.B]
	case api.OpCons:
		pair, ok := cons(m.regs[in.B], m.regs[in.C])
		if !ok {
			return false
		}
		m.regs[in.A] = pair
	case api.OpHead:
		m.regs[in.A] = head(m.regs[in.B])
	case api.OpTail:
		m.regs[in.A] = tail(m.regs[in.B])
	case api.OpJump:
		if m.regs[in.A] != nil {
			distance = in.B
		}
	}
	m.at += distance
	return true
}
