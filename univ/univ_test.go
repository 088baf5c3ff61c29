package univ_test

import (
	"math/rand"
	"slices"
	"strings"
	"testing"
	"unsafe"

	"narcissus/api"
	"narcissus/build"
	"narcissus/code"
	"narcissus/run"
	"narcissus/sample"
	"narcissus/univ"
	"narcissus/write"
)

const tenth = (api.MaxTree/10 - 1) / 2 // pairs of the longest tree of a tenth of the characters

// most is how many steps Universal may need for k steps of a program of n instructions.
func most(n, k int) int { return min(100*(n+40)*(k+1), api.MaxFuel) }

// same checks that Universal, u, returns what p returns on x, in time, or that it has not ended if p has not ended after fuel steps.
// Nothing is promised if a step of p is too large.
func same(t *testing.T, u, p api.Program, x string, fuel int) {
	t.Helper()
	want, k, f := run.Run(p, x, fuel)
	in := sample.Pair(sample.Code(p), x)
	if f == api.ErrSize {
		return
	}
	if f == api.ErrFuel {
		if y, n, e := run.Run(u, in, fuel); e != api.ErrFuel {
			t.Fatalf("%s on %s: %s, %d, %d; not ErrFuel", sample.Show(p), sample.Short(x), sample.Short(y), n, e)
		}
		return
	}
	if y, n, e := run.Run(u, in, most(len(p), k)); e != api.OK || f != api.OK || y != want {
		t.Fatalf("%s on %s: %s, %d, %d; not %s, %d, %d", sample.Show(p), sample.Short(x), sample.Short(y), n, e, sample.Short(want), k, f)
	}
}

// P6.1 for some programs and all small trees.
func TestSame(t *testing.T) {
	u := univ.Universal()
	for _, p := range sample.Ending() {
		for _, x := range sample.Trees(5) {
			same(t, u, p, x, 1000)
		}
		same(t, u, p, sample.Number(900), 10000)
		same(t, u, p, sample.Comb(900), 10000)
	}
}

// P6.1: no end where the program does not end.
func TestEndless(t *testing.T) {
	u := univ.Universal()
	for _, p := range sample.Endless() {
		for _, x := range []string{"100", "10100", "11000"} {
			in := sample.Pair(sample.Code(p), x)
			if y, n, e := run.Run(u, in, 300000); e != api.ErrFuel {
				t.Errorf("%s on %s: %s, %d, %d", sample.Show(p), x, sample.Short(y), n, e)
			}
		}
	}
}

// P6.1 for all programs of two instructions of a few kinds.
func TestSameOfAllShortPrograms(t *testing.T) {
	var instrs []api.Instr
	for _, a := range []int{0, 1, 31} {
		instrs = append(instrs, write.Set(a, "100"), write.Jump(a, 0), write.Jump(a, 1), write.Jump(a, 2), write.Jump(a, -1))
		for _, b := range []int{0, 1, 31} {
			instrs = append(instrs, write.Move(a, b), write.Head(a, b), write.Tail(a, b), write.Cons(a, b, 0), write.Cons(a, b, 31))
		}
	}
	u := univ.Universal()
	for _, first := range instrs {
		for _, second := range instrs {
			p := api.Program{first, second}
			if !code.Valid(p) {
				continue
			}
			same(t, u, p, "11100101000", 30)
			same(t, u, p, "0", 30)
		}
	}
}

// P6.1 for all programs with small codes, on whose pairs Universal runs as they are.
func TestSameOfSmallCodes(t *testing.T) {
	u := univ.Universal()
	n := 0
	for _, c := range sample.Trees(11) {
		p, e := code.Decode(c)
		if e != api.OK {
			continue
		}
		n++
		for _, x := range []string{"0", "11000"} {
			same(t, u, p, x, 60)
		}
	}
	if n < 300 {
		t.Fatalf("only %d codes", n)
	}
}

// filling puts different trees into all registers but register 0, and returning returns the list of all registers, with register 0 as its end.
func filling() api.Program {
	var p api.Program
	for r := 1; r < api.MaxRegs; r++ {
		p = append(p, write.Set(r, sample.Pair(sample.Number(r), sample.Comb(r))))
	}
	return p
}

func returning() api.Program {
	var p api.Program
	for r := 1; r < api.MaxRegs; r++ {
		p = append(p, write.Cons(0, r, 0))
	}
	return p
}

// P6.1: each operation changes the right register, and no other one, whether registers were used before or not.
func TestRegisters(t *testing.T) {
	u := univ.Universal()
	check := func(in api.Instr) {
		t.Helper()
		same(t, u, slices.Concat(filling(), api.Program{in}, returning()), "1101100100100", 100)
		same(t, u, slices.Concat(api.Program{in}, returning()), "1101100100100", 100)
	}
	numbers := []int{0, 1, 2, 3, 15, 16, 29, 30, 31}
	for _, a := range numbers {
		check(write.Set(a, "0"))
		check(write.Set(a, "1101000"))
		check(write.Jump(a, 1))
		check(write.Jump(a, 2))
		check(write.Jump(a, 3))
		for _, b := range numbers {
			check(write.Move(a, b))
			check(write.Head(a, b))
			check(write.Tail(a, b))
			for _, c := range numbers {
				check(write.Cons(a, b, c))
			}
		}
	}
}

// P6.1: jumps of all lengths from and to all places of a program.
func TestJumps(t *testing.T) {
	u := univ.Universal()
	const size = 9
	for at := range size {
		for to := range size + 1 {
			for _, a := range []int{0, 1, 30, 31} {
				var p api.Program
				for i := range size {
					p = append(p, write.Set(i+2, sample.Number(i+1)))
				}
				p[at] = write.Jump(a, to-at)
				p = append(p, returning()...)
				same(t, u, p, "0", 100)
				same(t, u, p, "100", 100)
				// A register becomes nil by and by, if the jump leads back.
				p[max(at-1, 0)] = write.Tail(a, a)
				p[at] = write.Jump(a, to-at)
				same(t, u, append(api.Program{write.Set(a, "10100")}, p...), "0", 100)
			}
		}
	}
}

// P6.1: the longest jumps, in the longest program.
func TestLongestJumps(t *testing.T) {
	u := univ.Universal()
	last := api.MaxCode - 1
	p := slices.Repeat(api.Program{write.Cons(0, 0, 0)}, api.MaxCode)
	p[0] = write.Jump(0, api.MaxCode)
	same(t, u, p, "100", 10)
	p[0] = write.Jump(0, last)
	p[last] = write.Tail(0, 0)
	same(t, u, p, "10100", 10)
	p[last] = write.Jump(0, -last)
	p[0] = write.Set(1, "10100")
	for i := 1; i < last; i++ {
		p[i] = write.Tail(0, 0)
	}
	p[1] = write.Tail(1, 1)
	p[2] = write.Jump(1, last-2)
	same(t, u, p, sample.Number(7000), 20000)
	p[1] = write.Tail(1, 0)
	p[2] = write.Jump(1, 2)
	p[3] = write.Jump(31, 0)
	same(t, u, p, sample.Number(100), 200)
	same(t, u, slices.Repeat(api.Program{write.Cons(31, 31, 0)}, 999), "0", 1000)
}

// P6.1: programs at random, which also use the greatest registers.
func TestSameAtRandom(t *testing.T) {
	u := univ.Universal()
	r := rand.New(rand.NewSource(1))
	l := sample.Trees(6)
	ended := 0
	for range 3000 {
		p := make(api.Program, r.Intn(30))
		some := []int{0, 0, 1, r.Intn(api.MaxRegs), r.Intn(api.MaxRegs)}
		register := func() int { return some[r.Intn(len(some))] }
		for i := range p {
			a, b, c := register(), register(), register()
			p[i] = []api.Instr{write.Set(a, l[r.Intn(len(l))]), write.Move(a, b), write.Cons(a, b, c), write.Head(a, b), write.Tail(a, b), write.Jump(a, r.Intn(len(p)+1)-i)}[r.Intn(api.Ops)]
		}
		x := l[r.Intn(len(l))]
		if _, _, e := run.Run(p, x, 400); e == api.ErrSize {
			continue
		} else if e == api.OK {
			ended++
		}
		same(t, u, p, x, 400)
	}
	if ended < 1000 {
		t.Errorf("only %d runs ended", ended)
	}
}

// The steps of chapter 6 are counted for programs without loops, too, whose instructions take longest.
func TestSteps(t *testing.T) {
	u := univ.Universal()
	for _, in := range []api.Instr{write.Cons(31, 31, 31), write.Move(31, 31), write.Head(31, 31), write.Tail(31, 31), write.Set(31, "0"), write.Jump(31, 0), write.Jump(31, 1)} {
		for _, n := range []int{0, 1, 2, 10, 17, 60} {
			same(t, u, slices.Repeat(api.Program{in}, n), "100", 100)
		}
	}
	for _, n := range []int{1, 2, 60} {
		same(t, u, append(api.Program{write.Set(31, "100")}, slices.Repeat(api.Program{write.Jump(31, 1)}, n)...), "100", 100)
	}
	// A loop all of whose steps are jumps over the whole program.
	for _, n := range []int{2, 100, 1000} {
		p := slices.Repeat(api.Program{write.Jump(0, 0)}, n)
		p[0], p[1], p[n-1] = write.Tail(0, 0), write.Jump(0, n-2), write.Jump(0, 1-n)
		if n == 2 {
			p[1] = write.Jump(0, -1)
		}
		same(t, u, p, sample.Number(20), 100)
	}
}

// together is how many characters the registers of a state have.
func together(s api.State) int {
	n := 0
	for _, r := range s.Regs {
		n += len(r)
	}
	return n
}

// fits checks Universal where the pair of the code and the input, and the registers in all states, have at most a tenth of what a tree may have.
// It returns how many characters these are at most.
func fits(t *testing.T, p api.Program, x string) (ofPair, ofRegisters int) {
	t.Helper()
	ofPair = len(sample.Pair(sample.Code(p), x))
	s, e := run.First(p, x)
	for e == api.OK {
		ofRegisters = max(ofRegisters, together(s))
		s, e = run.Step(p, s)
	}
	if ofPair > api.MaxTree/10 || ofRegisters > api.MaxTree/10 || e != api.ErrState {
		t.Fatalf("%s on %s: %d, %d, %d", sample.Show(p), sample.Short(x), ofPair, ofRegisters, e)
	}
	same(t, univ.Universal(), p, x, 1000)
	return ofPair, ofRegisters
}

// P6.1: no step is too large if the pair and the registers have a tenth of what a tree may have.
func TestLargeInputs(t *testing.T) {
	for _, s := range []string{
		"", "tail 0 0", "jump 0 1; head 0 0; jump 0 1; jump 31 0", "set 7 10100; cons 0 7 0; jump 0 1; cons 0 0 31; head 0 0",
	} {
		p := sample.Program(s)
		// The other registers have a character each.
		n := min(tenth-1-(len(sample.Code(p))-1)/2, (api.MaxTree/10-32)/2)
		for _, x := range []string{sample.Number(n), sample.Comb(n), sample.Pair(sample.Comb(n/2), sample.Number(n-1-n/2))} {
			if ofPair, ofRegisters := fits(t, p, x); ofPair < api.MaxTree/10-1 && ofRegisters < api.MaxTree/10 {
				t.Errorf("%s on %s: only %d, %d", sample.Show(p), sample.Short(x), ofPair, ofRegisters)
			}
		}
	}
}

// P6.1: the same where the registers share their parts.
func TestLargeRegisters(t *testing.T) {
	var copies api.Program
	for r := 1; r < api.MaxRegs; r++ {
		copies = append(copies, write.Move(r, 0))
	}
	for _, c := range []struct {
		p     api.Program
		pairs int
		want  int
	}{
		{sample.Program("move 31 0; tail 0 0; jump 31 1; head 0 31"), 49992, 200000},
		{sample.Program("move 1 0; cons 0 0 1; set 1 0; tail 0 0"), 33323, 199972},
		{sample.Program("move 31 0; set 0 0; cons 30 31 31; set 31 0; head 0 30"), 33323, 199972},
		{copies, 3124, 199968},
		{slices.Concat(copies, api.Program{write.Cons(31, 31, 31), write.Tail(30, 31), write.Head(0, 31)}), 3029, 199948},
	} {
		for _, x := range []string{sample.Number(c.pairs), sample.Comb(c.pairs)} {
			if _, n := fits(t, c.p, x); n != c.want {
				t.Errorf("%s on %s: %d", sample.Show(c.p), sample.Short(x), n)
			}
		}
	}
}

// P6.1: the same where the code of the program is large.
func TestLargeCodes(t *testing.T) {
	fits(t, sample.Program("set 0 "+sample.Number(tenth-30)+"; tail 0 0; jump 0 1"), "0")
	fits(t, sample.Program("jump 0 1; set 31 "+sample.Comb(tenth-150)+"; tail 0 0; jump 0 -2; head 31 31; cons 0 0 0"), "1010100")
	p := slices.Repeat(api.Program{write.Tail(0, 0)}, api.MaxCode)
	p[900], p[3000] = write.Jump(0, api.MaxCode-900), write.Cons(31, 31, 31)
	fits(t, p, sample.Number(2000))
	fits(t, p, sample.Number(300))
	fits(t, slices.Repeat(api.Program{write.Move(28, 9)}, 1000), "1110000")
}

// P6.1 for trees that are larger, as long as the registers of Universal are no more than those of the program and its code.
func TestLargestTrees(t *testing.T) {
	u := univ.Universal()
	for _, s := range []string{"", "tail 0 0", "head 31 0; tail 0 0; jump 0 -1; move 0 31"} {
		p := sample.Program(s)
		n := sample.MostPairs - 1 - (len(sample.Code(p))-1)/2
		same(t, u, p, sample.Number(n-100), api.MaxFuel/100)
	}
}

// P6.2: Universal runs itself, running a program.
func TestItself(t *testing.T) {
	u := univ.Universal()
	for _, p := range sample.Ending() {
		for _, x := range sample.Trees(3) {
			in := sample.Pair(sample.Code(p), x)
			same(t, u, u, in, 100000)
			if y, _, e := run.Run(p, x, 1000); e != api.OK || y != returned(t, u, sample.Pair(sample.Code(u), in)) {
				t.Errorf("%s on %s by Universal by Universal: not %s, %d", sample.Show(p), x, y, e)
			}
		}
	}
	for _, p := range sample.Endless() {
		if _, _, e := run.Run(u, sample.Pair(sample.Code(u), sample.Pair(sample.Code(p), "11000")), 300000); e != api.ErrFuel {
			t.Errorf("%s by Universal by Universal: %d", sample.Show(p), e)
		}
	}
	same(t, u, u, "0", 1000)
	same(t, u, u, sample.Pair(sample.Code(u), "0"), 100000)
}

// returned is what u returns on x.
func returned(t *testing.T, u api.Program, x string) string {
	t.Helper()
	y, _, e := run.Run(u, x, api.MaxFuel)
	if e != api.OK {
		t.Fatalf("%s: %d", sample.Short(x), e)
	}
	return y
}

// P6.2, and a tower of three.
func TestTowerOfUniversals(t *testing.T) {
	u := univ.Universal()
	for s, x := range map[string]string{"": "1101000", "tail 0 0": "10100", "cons 0 0 0": "100"} {
		p := sample.Program(s)
		want, _, _ := run.Run(p, x, 10)
		for n := range 3 {
			l := append(slices.Repeat([]api.Program{u}, n), p)
			if y := returned(t, u, tower(t, l, x)); y != want {
				t.Errorf("%s under %d more on %s: %s", sample.Show(p), n, x, y)
			}
		}
	}
}

func TestUniversalIsValid(t *testing.T) {
	u := univ.Universal()
	if n, e := code.Regs(u); e != api.OK || n > api.MaxRegs-4 || len(u) == 0 || len(u) > 400 || len(sample.Code(u)) > 100000 {
		t.Fatal(sample.Show(u), n, e)
	}
	for i := range u {
		u[i] = api.Instr{}
	}
	if v := univ.Universal(); !code.Valid(v) || slices.Equal(u, v) {
		t.Error("results of Universal share their memory")
	}
}

// The functions of chapter 4 take Universal, and what is before it leaves nothing in its registers.
func TestComposed(t *testing.T) {
	p := sample.Program("tail 0 0; cons 0 1 0")
	before := append(filling()[:27], write.Set(1, sample.Code(p)), write.Cons(0, 1, 0))
	q, e := build.Then(before, univ.Universal(), univ.Universal())
	if e != api.OK {
		t.Fatal(e)
	}
	// What the first one returns is the pair of the code of the empty program and the result.
	if y := returned(t, q, "10100"); y != "100" {
		t.Error(y)
	}
	if q, e = build.While(univ.Universal(), sample.Program("tail 0 0")); e != api.OK || returned(t, q, "1010100") != "100" {
		t.Error(e)
	}
}

// tower is Tower of valid arguments.
func tower(t *testing.T, l []api.Program, x string) string {
	t.Helper()
	want := x
	for _, p := range slices.Backward(l) {
		want = sample.Pair(sample.Code(p), want)
	}
	s, e := univ.Tower(l, x)
	if e != api.OK || s != want {
		t.Fatalf("Tower of %d programs: %s, %d; not %s", len(l), sample.Short(s), e, sample.Short(want))
	}
	return s
}

func TestTower(t *testing.T) {
	l := append(sample.Ending(), sample.Endless()...)
	for _, x := range append(sample.Trees(4), sample.Number(sample.MostPairs), sample.Comb(sample.MostPairs)) {
		tower(t, nil, x)
		tower(t, []api.Program{}, x)
	}
	for _, x := range sample.Trees(3) {
		for _, p := range l {
			tower(t, []api.Program{p}, x)
			tower(t, []api.Program{p, nil, p, l[3], univ.Universal()}, x)
		}
		tower(t, l, x)
	}
	r := rand.New(rand.NewSource(2))
	for range 300 {
		r.Shuffle(len(l), func(i, j int) { l[i], l[j] = l[j], l[i] })
		tower(t, l[:r.Intn(len(l)+1)], sample.Number(r.Intn(50)))
	}
}

// The document's examples.
func TestExamples(t *testing.T) {
	u := univ.Universal()
	if y := returned(t, u, sample.Pair("111010101001000", "10100")); y != "100" {
		t.Error(y)
	}
	for _, x := range append(sample.Trees(6), sample.Number(sample.MostPairs-1000)) {
		if y := returned(t, u, sample.Pair("0", x)); y != x {
			t.Errorf("%s: %s", sample.Short(x), sample.Short(y))
		}
	}
	// A tree that is nil has nil as its head and its tail.
	if y := returned(t, u, "0"); y != "0" {
		t.Error(y)
	}
}

func TestTowerErrSize(t *testing.T) {
	full := api.Program{write.Set(0, sample.Number(sample.MostPairs-3))} // its code has 1999999 characters, and that of the next one would have 2 more
	over := api.Program{write.Set(0, sample.Number(sample.MostPairs-2))}
	if n := len(sample.Code(full)); n != api.MaxTree-1 {
		t.Fatal(n)
	}
	for _, c := range []struct {
		l    []api.Program
		x    string
		want api.Errno
	}{
		{nil, sample.Number(sample.MostPairs), api.OK},
		{[]api.Program{nil}, sample.Number(sample.MostPairs - 1), api.OK},
		{[]api.Program{nil}, sample.Number(sample.MostPairs), api.ErrSize},
		{[]api.Program{nil, nil}, sample.Number(sample.MostPairs - 1), api.ErrSize},
		{[]api.Program{{write.Tail(0, 0)}}, sample.Number(sample.MostPairs - 8), api.OK},
		{[]api.Program{{write.Tail(0, 0)}}, sample.Number(sample.MostPairs - 7), api.ErrSize},
		{[]api.Program{full}, "0", api.ErrSize},
		{[]api.Program{over}, "0", api.ErrSize},
		{[]api.Program{nil, over}, "0", api.ErrSize},
		{[]api.Program{over, nil}, "0", api.ErrSize},
		{[]api.Program{{write.Set(0, sample.Number(sample.MostPairs-4))}}, "0", api.OK},
		{[]api.Program{{write.Set(0, sample.Number(sample.MostPairs-4))}}, "100", api.ErrSize},
		{[]api.Program{{write.Set(0, sample.Number(sample.MostPairs-5))}}, "100", api.OK},
		{[]api.Program{{write.Set(0, sample.Number(sample.MostPairs-5))}, nil}, "0", api.OK},
		{[]api.Program{nil, {write.Set(0, sample.Number(sample.MostPairs-5))}}, "0", api.OK},
		{[]api.Program{{write.Set(0, sample.Number(sample.MostPairs-5))}, nil, nil}, "0", api.ErrSize},
		{[]api.Program{nil, {write.Set(0, sample.Number(sample.MostPairs-5))}}, "100", api.ErrSize},
		{make([]api.Program, sample.MostPairs), "0", api.OK},
		{make([]api.Program, sample.MostPairs+1), "0", api.ErrSize},
		{slices.Repeat([]api.Program{{write.Set(0, sample.Number(9999))}}, 1000), "0", api.ErrSize},
	} {
		s, e := univ.Tower(c.l, c.x)
		if e != c.want || e != api.OK && s != "" {
			t.Errorf("%d programs, %s: %d characters, %d; not %d", len(c.l), sample.Short(c.x), len(s), e, c.want)
		}
		if e == api.OK && len(c.l) < 5 {
			tower(t, c.l, c.x)
		}
	}
	if s, _ := univ.Tower(make([]api.Program, sample.MostPairs), "0"); s != sample.Number(sample.MostPairs) {
		t.Error("the tower of the most programs is wrong")
	}
}

// ErrForm in each place, and before ErrSize.
func TestTowerErrForm(t *testing.T) {
	large := api.Program{write.Set(0, sample.Number(sample.MostPairs))} // with it the result would be too large
	check := func(l []api.Program, x string) {
		t.Helper()
		if s, e := univ.Tower(l, x); e != api.ErrForm || s != "" {
			t.Errorf("%d programs, %q: %q, %d", len(l), sample.Short(x), sample.Short(s), e)
		}
	}
	for _, p := range sample.Invalid() {
		for _, x := range []string{"0", "100", "", "1"} {
			check([]api.Program{p}, x)
			check([]api.Program{p, nil, nil}, x)
			check([]api.Program{nil, p, nil}, x)
			check([]api.Program{nil, nil, p}, x)
		}
		check([]api.Program{nil, large, p}, "0")
		check([]api.Program{p}, sample.Number(sample.MostPairs))
	}
	for _, x := range []string{"", "1", "00", "2", "10", "100 ", " 0", "0\n", "\xff", "0100", "1100", sample.Number(sample.MostPairs + 1)} {
		check(nil, x)
		check([]api.Program{nil}, x)
		check([]api.Program{{write.Tail(0, 0)}, nil}, x)
		check([]api.Program{large, large}, x)
	}
}

// R5: arguments are not changed, and results are new memory.
func TestNewMemory(t *testing.T) {
	x := strings.Clone("1100100")
	l := []api.Program{{write.Set(1, strings.Clone("11000")), write.Jump(1, 1)}, nil}
	kept := []api.Program{slices.Clone(l[0]), nil}
	for n := range 3 {
		if s := tower(t, l[:n], x); unsafe.StringData(s) == unsafe.StringData(x) {
			t.Errorf("the tower of %d programs is not new", n)
		}
	}
	if !slices.EqualFunc(l, kept, slices.Equal[api.Program]) || x != "1100100" {
		t.Error("Tower changes its arguments")
	}
}
