package univ

import (
	"strconv"

	"narcissus/api"
	"narcissus/write"
)

// plan is a program that is written, with names for its places.
// Jumps may lead to places that are not written yet, so they get their lengths at the end.
type plan struct {
	write.Writer
	places map[string]int
	leaps  []leap
}

// leap is a jump to a place with a name.
type leap struct {
	at int
	to string
}

// place gives the place that is written next a name.
func (p *plan) place(name string) { p.places[name] = len(p.Program) }

// jumpTo writes that the program continues at the place with a name, if register a is not nil.
func (p *plan) jumpTo(name string, a int) {
	p.leaps = append(p.leaps, leap{len(p.Program), name})
	p.Jump(a, 0)
}

// repeat writes that what body writes is done again and again, as long as register a is not nil.
func (p *plan) repeat(a int, body func()) {
	here := strconv.Itoa(len(p.Program))
	again, test := "again "+here, "test "+here
	p.jumpTo(test, yes)
	p.place(again)
	body()
	p.place(test)
	p.jumpTo(again, a)
}

// finish returns the program, whose jumps lead to their places now.
func (p *plan) finish() api.Program {
	for _, l := range p.leaps {
		p.Program[l.at].B = p.places[l.to] - l.at
	}
	return p.Program
}
