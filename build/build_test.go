package build_test

import (
	"math/rand"
	"slices"
	"strings"
	"testing"
	"unsafe"

	"narcissus/api"
	"narcissus/build"
	"narcissus/code"
	"narcissus/run"
	"narcissus/sample"
	"narcissus/write"
)

const mostRegs = 28 // registers of a program that is composed

// The chapter's programs, written down once more, with the names of places, to hold the package against them.

type layout struct {
	p      api.Program
	places map[string]int
	jumps  map[int]string
}

func newLayout() *layout { return &layout{places: map[string]int{}, jumps: map[int]string{}} }

func (l *layout) add(p ...api.Instr) { l.p = append(l.p, p...) }

func (l *layout) clean(p api.Program) {
	for r := 1; r <= sample.Regs(p)-1; r++ {
		l.add(write.Set(r, "0"))
	}
}

func (l *layout) place(name string) { l.places[name] = len(l.p) }

func (l *layout) jump(a int, name string) {
	l.jumps[len(l.p)] = name
	l.add(write.Jump(a, 0))
}

func (l *layout) done() api.Program {
	l.place("end")
	for at, name := range l.jumps {
		l.p[at].B = l.places[name] - at
	}
	return l.p
}

func most(l []api.Program) int {
	n := 0
	for _, p := range l {
		n = max(n, sample.Regs(p))
	}
	return n
}

func thenOf(a []api.Program) api.Program {
	l := newLayout()
	for i, p := range a {
		if i > 0 {
			l.clean(p)
		}
		l.add(p...)
	}
	return l.done()
}

func pairOf(a []api.Program) api.Program {
	l, p, q, n := newLayout(), a[0], a[1], most(a)
	l.add(write.Move(n, 0))
	l.add(p...)
	l.add(write.Move(n+1, 0))
	l.add(write.Move(0, n))
	l.clean(q)
	l.add(q...)
	l.add(write.Cons(0, n+1, 0))
	return l.done()
}

func ifOf(a []api.Program) api.Program {
	l, c, p, q, n := newLayout(), a[0], a[1], a[2], most(a)
	l.add(write.Move(n, 0))
	l.add(c...)
	l.jump(0, "1")
	l.add(write.Move(0, n))
	l.clean(q)
	l.add(q...)
	l.add(write.Set(n, "100"))
	l.jump(n, "end")
	l.place("1")
	l.add(write.Move(0, n))
	l.clean(p)
	l.add(p...)
	return l.done()
}

func whileOf(a []api.Program) api.Program {
	l, c, p, n := newLayout(), a[0], a[1], most(a)
	l.place("1")
	l.add(write.Move(n, 0))
	l.clean(c)
	l.add(c...)
	l.jump(0, "2")
	l.add(write.Move(0, n))
	l.add(write.Set(n, "100"))
	l.jump(n, "end")
	l.place("2")
	l.add(write.Move(0, n))
	l.clean(p)
	l.add(p...)
	l.add(write.Set(n, "100"))
	l.jump(n, "1")
	return l.done()
}

// unknown is the error of an outcome with trees so large that it takes long to follow them.
const unknown api.Errno = -1

// outcome is what a run comes to. With ErrFuel it has not ended after the steps, with ErrSize it comes within them to one that is too large.
type outcome struct {
	y     string
	steps int
	e     api.Errno
}

// part is a program, and what it does on an input.
type part struct {
	p    api.Program
	does func(x string) outcome
}

// given is a program as a part that is run, up to a bound.
func given(p api.Program) part {
	return part{p, func(x string) outcome {
		const bound = 200
		y, n, e := run.Run(p, x, bound)
		if e != api.OK {
			n = bound
		}
		if len(y) > 2000 {
			return outcome{e: unknown}
		}
		return outcome{y, n, e}
	}}
}

// cleaned is what a part does behind its cleaning and some more instructions.
func (a part) cleaned(x string, more int) outcome {
	o := a.does(x)
	o.steps += more + sample.Regs(a.p) - 1
	return o
}

// The chapter's promises about what composed programs return, and after how many steps (P4.1).

func thenDoes(l []part) func(string) outcome {
	return func(x string) outcome {
		o := outcome{y: x}
		for i, a := range l {
			next := a.does(o.y)
			if i > 0 {
				next = a.cleaned(o.y, 0)
			}
			next.steps += o.steps
			o = next
			if o.e != api.OK {
				break
			}
		}
		return o
	}
}

func pairDoes(l []part) func(string) outcome {
	return func(x string) outcome {
		a := l[0].does(x)
		a.steps++
		if a.e != api.OK {
			return a
		}
		b := l[1].cleaned(x, 2)
		b.steps += a.steps
		if b.e != api.OK {
			return b
		}
		return outcome{"1" + a.y + b.y, b.steps + 1, api.OK}
	}
}

func ifDoes(l []part) func(string) outcome {
	return func(x string) outcome {
		c := l[0].does(x)
		c.steps++
		if c.e != api.OK {
			return c
		}
		o := l[1].cleaned(x, 2) // the jump with register 0, and move 0 n
		if c.y == "0" {
			o = l[2].cleaned(x, 2)
			if o.e == api.OK {
				o.steps += 2
			}
		}
		o.steps += c.steps
		return o
	}
}

func whileDoes(l []part) func(string) outcome {
	return func(x string) outcome {
		steps := 0
		for range 25 {
			c := l[0].cleaned(x, 1)
			c.steps += steps
			if c.e != api.OK {
				return c
			}
			if c.y == "0" {
				return outcome{x, c.steps + 4, api.OK}
			}
			o := l[1].cleaned(x, 2)
			o.steps += c.steps
			if o.e != api.OK {
				return o
			}
			steps = o.steps + 2
			x = o.y
			if steps > 20000 {
				break
			}
		}
		return outcome{"", steps, api.ErrFuel}
	}
}

// composition is one of the functions, with a number of programs.
type composition struct {
	name   string
	count  int
	build  func(l []api.Program) (api.Program, api.Errno)
	layout func(l []api.Program) api.Program
	does   func(l []part) func(string) outcome
}

func then(l []api.Program) (api.Program, api.Errno)  { return build.Then(l...) }
func pair(l []api.Program) (api.Program, api.Errno)  { return build.Pair(l[0], l[1]) }
func cond(l []api.Program) (api.Program, api.Errno)  { return build.If(l[0], l[1], l[2]) }
func while(l []api.Program) (api.Program, api.Errno) { return build.While(l[0], l[1]) }

func compositions() []composition {
	return []composition{
		{"Then", 1, then, thenOf, thenDoes}, {"Then", 2, then, thenOf, thenDoes}, {"Then", 3, then, thenOf, thenDoes},
		{"Pair", 2, pair, pairOf, pairDoes}, {"If", 3, cond, ifOf, ifDoes}, {"While", 2, while, whileOf, whileDoes},
	}
}

// some are programs that leave trees in registers, that need registers to be nil, that jump to their end and out of loops, that never end, and that make too large trees.
func some() []api.Program {
	var l []api.Program
	for _, s := range []string{
		"", "tail 0 0", "head 0 0", "set 0 0", "set 0 10100", "cons 0 0 0",
		"cons 0 1 0", "cons 0 5 3", "jump 1 0; jump 2 0; tail 0 0; jump 3 0",
		"set 1 100; cons 0 0 1; set 2 11000", "set 5 100; tail 0 0; move 3 5", "tail 1 0; head 2 0; cons 0 1 2; move 3 1; set 4 100",
		"jump 0 3; set 0 100; tail 0 0", "jump 0 1", "jump 1 3; jump 0 2; set 0 100", "tail 0 0; jump 0 -1", "move 1 0; tail 1 1; jump 1 -1; head 0 0",
		"jump 0 0", "set 1 100; jump 1 0", "cons 0 0 0; jump 0 -1",
	} {
		l = append(l, sample.Program(s))
	}
	return l
}

func inputs() []string {
	return []string{"0", "100", "10100", "11000", "1011000", "1100100", "1110010010100", sample.Number(7)}
}

// choices calls f with all lists of so many elements of l.
func choices[T any](l []T, count int, f func([]T)) {
	if count == 0 {
		f(nil)
		return
	}
	choices(l, count-1, func(begin []T) {
		for _, x := range l {
			f(append(slices.Clone(begin), x))
		}
	})
}

// check holds the runs of a program against an outcome.
func check(t *testing.T, what string, p api.Program, x string, o outcome) {
	t.Helper()
	if o.e == unknown {
		return
	}
	if o.e != api.OK {
		if y, _, e := run.Run(p, x, o.steps); e != o.e {
			t.Fatalf("%s on %s with %d: %s, %d, not %d", what, sample.Short(x), o.steps, sample.Short(y), e, o.e)
		}
		return
	}
	if y, n, e := run.Run(p, x, o.steps); y != o.y || n != o.steps || e != api.OK {
		t.Fatalf("%s on %s: %s, %d, %d; not %s, %d", what, sample.Short(x), sample.Short(y), n, e, sample.Short(o.y), o.steps)
	}
	if o.steps > 0 {
		if y, _, e := run.Run(p, x, o.steps-1); e != api.ErrFuel {
			t.Fatalf("%s on %s with %d: %s, %d", what, sample.Short(x), o.steps-1, sample.Short(y), e)
		}
	}
}

// The programs are those that the chapter writes.
func TestLayouts(t *testing.T) {
	l := append(some(), sample.Program("move 27 0; tail 0 27"), sample.Program("jump 9 1; head 0 0"))
	for _, c := range compositions() {
		choices(l, c.count, func(a []api.Program) {
			p, e := c.build(a)
			if want := c.layout(a); e != api.OK || !slices.Equal(p, want) || !code.Valid(p) {
				t.Fatalf("%s of %s: %s, %d; not %s", c.name, sample.Show(a...), sample.Show(p), e, sample.Show(want))
			}
		})
	}
}

// P4.1: composed programs return what they should, after as many steps, or nothing.
func TestComposed(t *testing.T) {
	for _, c := range compositions() {
		choices(some(), c.count, func(a []api.Program) {
			p, e := c.build(a)
			if e != api.OK {
				t.Fatalf("%s of %s: %d", c.name, sample.Show(a...), e)
			}
			var parts []part
			for _, q := range a {
				parts = append(parts, given(q))
			}
			does := c.does(parts)
			for _, x := range inputs()[:6] {
				check(t, c.name+" of "+sample.Show(a...), p, x, does(x))
			}
		})
	}
}

// P4.1: the same of programs that are composed of composed programs.
func TestComposedOfComposed(t *testing.T) {
	r := rand.New(rand.NewSource(1))
	l, c := some(), compositions()
	var random func(depth int) part
	random = func(depth int) part {
		if depth == 0 || r.Intn(6) == 0 {
			return given(l[r.Intn(len(l)-3)]) // without those that never end
		}
		c := c[r.Intn(len(c))]
		var programs []api.Program
		var parts []part
		for range c.count {
			a := random(depth - 1)
			programs, parts = append(programs, a.p), append(parts, a)
		}
		p, e := c.build(programs)
		if e != api.OK || !slices.Equal(p, c.layout(programs)) {
			t.Fatalf("%s of %s: %s, %d", c.name, sample.Show(programs...), sample.Show(p), e)
		}
		return part{p, c.does(parts)}
	}
	ends := 0
	for range 4000 {
		a := random(1 + r.Intn(4))
		for _, x := range inputs() {
			o := a.does(x)
			check(t, sample.Show(a.p), a.p, x, o)
			if o.e == api.OK {
				ends++
			}
		}
	}
	if ends < 10000 {
		t.Error("too few of the runs end:", ends)
	}
}

// The pair counts as a step of its own, and may be too large.
func TestPairTooLarge(t *testing.T) {
	p, e := build.Pair(nil, nil)
	if e != api.OK {
		t.Fatal(e)
	}
	x := sample.Number(sample.MostPairs / 2)
	check(t, "Pair", p, x, outcome{"1" + x + x, 4, api.OK})
	x = sample.Number(sample.MostPairs/2 + 1)
	check(t, "Pair", p, x, outcome{"", 3, api.ErrFuel})
	check(t, "Pair", p, x, outcome{"", 4, api.ErrSize})
}

func TestConst(t *testing.T) {
	for _, d := range append(inputs(), sample.Number(sample.MostPairs)) {
		p, e := build.Const(d)
		if e != api.OK || !slices.Equal(p, api.Program{write.Set(0, d)}) {
			t.Fatalf("Const(%s): %s, %d", sample.Short(d), sample.Show(p), e)
		}
		for _, x := range append(inputs(), sample.Number(sample.MostPairs)) {
			check(t, "Const "+sample.Short(d), p, x, outcome{d, 1, api.OK})
		}
	}
	for _, d := range []string{"", "1", "00", "2", "10", "100 ", " 0", "0\n", "\xff", "0100", sample.Number(sample.MostPairs + 1)} {
		if p, e := build.Const(d); e != api.ErrForm || len(p) != 0 {
			t.Errorf("Const(%q): %s, %d", sample.Short(d), sample.Show(p), e)
		}
	}
}

func TestExamples(t *testing.T) {
	tail, none := sample.Program("tail 0 0"), api.Program{}
	p, e := build.Then(tail, tail)
	if y, _, f := run.Run(p, "10100", 9); e != api.OK || f != api.OK || y != "0" {
		t.Error(e, f, y)
	}
	p, e = build.Pair(none, none)
	if s, _ := code.Text(p); e != api.OK || s != "move 1 0; move 2 0; move 0 1; cons 0 2 0" {
		t.Error(e, s)
	}
	if y, _, f := run.Run(p, "0", 9); f != api.OK || y != "100" {
		t.Error(f, y)
	}
	p, e = build.While(none, tail)
	if e != api.OK || sample.Show(p) != "[move 1 0; jump 0 4; move 0 1; set 1 100; jump 1 5; move 0 1; tail 0 0; set 1 100; jump 1 -8]" {
		t.Error(e, sample.Show(p))
	}
	for _, x := range append(inputs(), sample.Number(100000)) {
		if y, _, f := run.Run(p, x, api.MaxFuel); f != api.OK || y != "0" {
			t.Error(sample.Short(x), f, sample.Short(y))
		}
	}
	p, e = build.If(none, tail, none)
	if e != api.OK || sample.Show(p) != "[move 1 0; jump 0 4; move 0 1; set 1 100; jump 1 3; move 0 1; tail 0 0]" {
		t.Error(e, sample.Show(p))
	}
}

func TestThenOfAnyNumber(t *testing.T) {
	for _, l := range [][]api.Program{nil, {}, {nil}, {{}}, {nil, {}, nil}, make([]api.Program, 100000)} {
		if p, e := build.Then(l...); e != api.OK || len(p) != 0 {
			t.Errorf("Then of %d empty programs: %s, %d", len(l), sample.Show(p), e)
		}
	}
	tail := sample.Program("tail 0 0")
	for _, n := range []int{1, 2, 3, 10, 1000, api.MaxCode} {
		p, e := build.Then(slices.Repeat([]api.Program{tail, nil}, n)...)
		if e != api.OK || !slices.Equal(p, slices.Repeat(tail, n)) {
			t.Errorf("Then of %d: %d instructions, %d", n, len(p), e)
		}
		check(t, "Then", p, sample.Number(n+3), outcome{sample.Number(3), n, api.OK})
	}
}

// agree checks that programs return the same, or all of them nothing.
func agree(t *testing.T, what string, l ...api.Program) {
	t.Helper()
	for _, x := range inputs()[:5] {
		want, _, e := run.Run(l[0], x, 500)
		for _, p := range l[1:] {
			if y, _, f := run.Run(p, x, 1000); f != e || y != want {
				t.Fatalf("%s on %s: %s returns %s, %d; %s returns %s, %d", what, x, sample.Show(l[0]), sample.Short(want), e, sample.Show(p), sample.Short(y), f)
			}
		}
	}
}

// must returns a program that was built without an error.
func must(t *testing.T) func(api.Program, api.Errno) api.Program {
	return func(p api.Program, e api.Errno) api.Program {
		t.Helper()
		if e != api.OK {
			t.Fatal(e)
		}
		return p
	}
}

// P4.2: the laws.
func TestLaws(t *testing.T) {
	must := must(t)
	head, constant := sample.Program("head 0 0"), must(build.Const("1100100"))
	choices(some(), 3, func(a []api.Program) {
		left := must(build.Then(must(build.Then(a[0], a[1])), a[2]))
		right := must(build.Then(a[0], must(build.Then(a[1], a[2]))))
		agree(t, "associative", must(build.Then(a...)), left, right)
	})
	for _, p := range some() {
		agree(t, "neutral", p, must(build.Then(p)), must(build.Then(nil, p)), must(build.Then(p, nil)), must(build.Then(nil, p, nil)))
		behind := must(build.Then(p, constant))
		for _, x := range inputs() {
			want, _, e := run.Run(p, x, 1000)
			if e == api.OK {
				want = "1100100"
			}
			if y, _, f := run.Run(behind, x, 1010); y != want || f != e {
				t.Errorf("Const behind %s on %s: %s, %d", sample.Show(p), x, y, f)
			}
		}
		for _, q := range some()[:17] { // those that always return something
			agree(t, "head of the pair", p, must(build.Then(must(build.Pair(p, q)), head)))
		}
	}
}

// tooMany returns programs that use too many registers.
func tooMany() []api.Program {
	var l []api.Program
	for r := mostRegs; r < api.MaxRegs; r++ {
		l = append(l, api.Program{write.Set(r, "0")}, api.Program{write.Move(r, 0)}, api.Program{write.Move(0, r)}, api.Program{write.Cons(0, 0, r)},
			api.Program{{Op: api.OpHead, B: r}}, api.Program{{Op: api.OpTail, B: r}}, api.Program{write.Jump(r, 1)}, api.Program{write.Move(1, 2), write.Move(3, r), write.Move(4, 5)})
	}
	return l
}

// refused reports a composition that does not return the error.
func refused(t *testing.T, c composition, a []api.Program, want api.Errno) {
	t.Helper()
	if p, e := c.build(a); e != want || len(p) != 0 {
		t.Errorf("%s of %s: %s, %d; not %d", c.name, sample.Show(a...), sample.Show(p), e, want)
	}
}

// anyNumber is Then of any number of programs.
var anyNumber = composition{name: "Then", build: then}

// refusedAnywhere reports the compositions of a program with others, at each place, that do not return the error.
func refusedAnywhere(t *testing.T, c composition, bad api.Program, others []api.Program, want api.Errno) {
	t.Helper()
	for _, other := range others {
		for i := range c.count {
			a := slices.Repeat([]api.Program{other}, c.count)
			a[i] = bad
			refused(t, c, a, want)
		}
	}
}

func TestErrForm(t *testing.T) {
	others := []api.Program{nil, {write.Move(3, 0)}, {write.Move(31, 0)}, {write.Move(-1, 0)}, slices.Repeat(api.Program{write.Move(0, 0)}, api.MaxCode)}
	for _, c := range compositions() {
		for _, bad := range sample.Invalid() {
			refusedAnywhere(t, c, bad, others, api.ErrForm)
		}
	}
	refused(t, anyNumber, append(slices.Repeat([]api.Program{{write.Move(31, 0)}}, 5000), api.Program{{Op: api.Ops}}), api.ErrForm)
}

func TestErrRegs(t *testing.T) {
	others := []api.Program{nil, {write.Move(3, 0)}, {write.Move(31, 0)}, slices.Repeat(api.Program{write.Move(0, 0)}, api.MaxCode)}
	for _, c := range compositions() {
		for _, bad := range tooMany() {
			refusedAnywhere(t, c, bad, others, api.ErrRegs)
		}
		for i := range c.count {
			a := make([]api.Program, c.count)
			a[i] = api.Program{write.Cons(0, mostRegs-1, 0), write.Jump(1, -1)}
			if p, e := c.build(a); e != api.OK || !slices.Equal(p, c.layout(a)) {
				t.Errorf("%s of %s: %s, %d", c.name, sample.Show(a...), sample.Show(p), e)
			}
		}
	}
	refused(t, anyNumber, append(slices.Repeat([]api.Program{{write.Move(1, 0)}}, 5000), api.Program{write.Move(28, 0)}), api.ErrRegs)
}

// The result has at most MaxCode instructions.
func TestErrSizeOfInstructions(t *testing.T) {
	for _, c := range compositions() {
		for i := range c.count {
			for _, r := range []int{0, 1, 7, mostRegs - 1} {
				a := slices.Repeat([]api.Program{{write.Move(r, 0)}}, c.count)
				a[i] = nil
				free := api.MaxCode - len(c.layout(a))
				// A cleaning is in the layout already: the program that fills it uses one register.
				a[i] = slices.Repeat(api.Program{write.Move(0, 0)}, free)
				if p, e := c.build(a); e != api.OK || len(p) != api.MaxCode || !slices.Equal(p, c.layout(a)) {
					t.Errorf("%s with %d instructions: %d, %d", c.name, free, len(p), e)
				}
				if free == api.MaxCode {
					continue // one more is not valid
				}
				a[i] = append(a[i], write.Jump(0, 1))
				refused(t, c, a, api.ErrSize)
			}
		}
	}
	for n, want := range map[int]api.Errno{143: api.OK, 144: api.ErrSize, 100000: api.ErrSize} {
		p, e := build.Then(slices.Repeat([]api.Program{{write.Move(27, 0)}}, n)...)
		if e != want || e == api.OK && len(p) != n+27*(n-1) || e != api.OK && len(p) != 0 {
			t.Errorf("Then of %d: %d instructions, %d", n, len(p), e)
		}
	}
	long := slices.Repeat(api.Program{write.Move(0, 0)}, api.MaxCode)
	for _, n := range []int{2, 5000} {
		refused(t, anyNumber, slices.Repeat([]api.Program{long}, n), api.ErrSize)
	}
}

// treesOf returns how many characters the trees of a program have.
func treesOf(p api.Program) int {
	n := 0
	for _, in := range p {
		n += len(in.Tree)
	}
	return n
}

// filled returns a program whose trees have so many characters, not less than two.
func filled(size int) api.Program {
	if size%2 == 1 {
		return api.Program{write.Set(0, sample.Number(size/2))}
	}
	return api.Program{write.Set(0, sample.Number(size/2-1)), write.Set(0, "0")}
}

// The trees of the result, those of the cleanings among them, have at most MaxTree characters.
func TestErrSizeOfTrees(t *testing.T) {
	for _, c := range compositions() {
		for i := range c.count {
			for _, others := range []api.Program{nil, {write.Move(1, 0)}, {write.Move(2, 0)}, {write.Set(12, "11000")}, filled(1000001)} {
				a := slices.Repeat([]api.Program{others}, c.count)
				a[i] = nil
				free := api.MaxTree - treesOf(c.layout(a))
				if free < 2 {
					continue
				}
				a[i] = filled(free)
				if p, e := c.build(a); e != api.OK || treesOf(p) != api.MaxTree || !slices.Equal(p, c.layout(a)) {
					t.Errorf("%s with trees of %d: %d, %d", c.name, free, treesOf(p), e)
				}
				if free == api.MaxTree {
					continue // one more is not valid
				}
				a[i] = filled(free + 1)
				refused(t, c, a, api.ErrSize)
			}
		}
	}
}

// R5: arguments are not changed, and results are new memory.
func TestNewMemory(t *testing.T) {
	for _, c := range compositions() {
		room := make(api.Program, 0, 100)
		room = append(room, write.Set(0, strings.Clone("11000")), write.Set(3, strings.Clone("1011000")), write.Jump(3, 1))
		beyond := room[:100]
		for i := len(room); i < 100; i++ {
			beyond[i] = write.Move(1, 1)
		}
		kept, a := slices.Clone(beyond), slices.Repeat([]api.Program{room}, c.count)
		p, e := c.build(a)
		want := c.layout(a)
		if e != api.OK || !slices.Equal(p, want) {
			t.Fatal(c.name, e)
		}
		for _, in := range p {
			if d := unsafe.StringData(in.Tree); in.Tree != "" && (d == unsafe.StringData(room[0].Tree) || d == unsafe.StringData(room[1].Tree)) {
				t.Errorf("%s: the tree %s is not new", c.name, in.Tree)
			}
		}
		for i := range p {
			p[i] = api.Instr{}
		}
		if !slices.Equal(beyond, kept) {
			t.Errorf("%s changes its arguments", c.name)
		}
		if p, e := c.build(a); e != api.OK || !slices.Equal(p, want) {
			t.Errorf("%s returns something else the second time: %s, %d", c.name, sample.Show(p), e)
		}
		for _, q := range a {
			if len(q) != len(room) || &q[0] != &room[0] {
				t.Errorf("%s changes the list", c.name)
			}
		}
	}
	d := strings.Clone("11000")
	if p, e := build.Const(d); e != api.OK || unsafe.StringData(p[0].Tree) == unsafe.StringData(d) {
		t.Error("the tree of Const is not new", e)
	}
}
