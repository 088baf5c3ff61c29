package know_test

import (
	"math/rand"
	"slices"
	"strconv"
	"strings"
	"testing"
	"unsafe"

	"narcissus/api"
	"narcissus/code"
	"narcissus/know"
	"narcissus/run"
	"narcissus/sample"
	"narcissus/spec"
	"narcissus/univ"
	"narcissus/write"
)

const (
	overhead = 19                     // instructions of Know of the empty program, and its steps
	longest  = api.MaxCode - overhead // instructions of the longest program that Know takes
)

// The chapter's programs, written down once more, to hold the package against them.

func knowOf(q api.Program) api.Program {
	r := sample.Program("head 2 0; tail 3 0; set 4 100; cons 4 4 2; cons 4 1 4; set 5 1011000; cons 5 5 2; set 6 1101001011000; cons 5 6 5; cons 5 4 5; cons 0 5 3; set 2 0; set 3 0; set 4 0; set 5 0; set 6 0")
	r = append(r, q...)
	return append(api.Program{write.Set(1, sample.Code(r)), write.Cons(0, 1, 0), write.Set(1, "0")}, r...)
}

func fixOf(t api.Program) api.Program {
	w := sample.Regs(t)
	q := append(sample.Program("tail "+strconv.Itoa(w)+" 0; head 0 0"), t...)
	for i := 1; i < w; i++ {
		q = append(q, write.Set(i, "0"))
	}
	q = append(q, write.Cons(0, 0, w), write.Set(w, "0"))
	return knowOf(append(q, univ.Universal()...))
}

// knows is Know of a program for which it returns one.
func knows(t *testing.T, q api.Program) api.Program {
	t.Helper()
	p, e := know.Know(q)
	if e != api.OK || !slices.Equal(p, knowOf(q)) || !code.Valid(p) {
		t.Fatalf("Know(%s): %s, %d", sample.Show(q), sample.Show(p), e)
	}
	return p
}

// fixed is Fix of a program for which it returns one.
func fixed(t *testing.T, q api.Program) api.Program {
	t.Helper()
	p, e := know.Fix(q)
	if e != api.OK || !slices.Equal(p, fixOf(q)) || !code.Valid(p) {
		t.Fatalf("Fix(%s): %s, %d", sample.Show(q), sample.Show(p), e)
	}
	return p
}

// some returns programs that end, that do not, that come to a step that is too large, and that use the code of themselves.
func some() []api.Program {
	return slices.Concat(sample.Ending(), sample.Endless(), sample.Growing(), []api.Program{
		sample.Program("head 1 0; tail 2 0; cons 0 2 1"), sample.Program("head 0 0; head 0 0; tail 0 0"), sample.Program("tail 0 0; tail 0 0; head 0 0"),
		sample.Program("head 1 0; tail 0 0; jump 1 1; tail 1 1; cons 0 0 0; jump 1 -2"), sample.Program("head 0 0; tail 0 0; jump 0 -1; cons 0 31 0"),
		slices.Repeat(api.Program{write.Move(31, 0)}, 1000),
	})
}

// same checks that Know(q) returns on x what q returns on the pair of the code of Know(q) and x, in as many steps as are promised.
func same(t *testing.T, q api.Program, x string, fuel int) {
	t.Helper()
	p := knows(t, q)
	want, k, f := run.Run(q, sample.Pair(sample.Code(p), x), fuel)
	if f == api.OK {
		k += overhead
	}
	if y, n, e := run.Run(p, x, fuel+overhead); y != want || n != k || e != f {
		t.Fatalf("Know(%s) on %s: %s, %d, %d; not %s, %d, %d", sample.Show(q), sample.Short(x), sample.Short(y), n, e, sample.Short(want), k, f)
	}
	if f != api.OK {
		return
	}
	if y, _, e := run.Run(p, x, k-1); e != api.ErrFuel || y != "" {
		t.Fatalf("Know(%s) on %s ends after less than %d steps: %s, %d", sample.Show(q), sample.Short(x), k, sample.Short(y), e)
	}
}

// P7.1: what the program returns, or nothing, after 19 steps more.
func TestKnown(t *testing.T) {
	for _, q := range some() {
		for _, x := range append(sample.Trees(4), sample.Number(3000), sample.Comb(3000)) {
			same(t, q, x, 9000)
		}
	}
}

// P7.1 for programs at random.
func TestKnownAtRandom(t *testing.T) {
	r := rand.New(rand.NewSource(1))
	l := sample.Trees(4)
	for range 1000 {
		q := sample.AtRandom(r.Intn)
		for range 3 {
			same(t, q, l[r.Intn(len(l))], 2000)
		}
	}
}

// P7.1: after 19 steps the state is the first one of the program on the pair, so all registers but the first one are nil.
func TestStates(t *testing.T) {
	for _, q := range some() {
		p := knows(t, q)
		for _, x := range []string{"0", "11000", "1100100"} {
			in := sample.Pair(sample.Code(p), x)
			for k := range 12 {
				want, n, e := run.After(q, in, k)
				s, m, f := run.After(p, x, k+overhead)
				if e != f || e == api.OK && (m != n+overhead || s.At != want.At+overhead || !slices.Equal(s.Regs, want.Regs)) {
					t.Fatalf("Know(%s) on %s after %d steps: %v, %d, %d; not %v, %d, %d", sample.Show(q), x, k, s, m, f, want, n, e)
				}
			}
		}
	}
}

// P7.1: nothing but the trees of the runs counts as too large.
func TestLargestInputs(t *testing.T) {
	for _, s := range []string{"", "tail 0 0", "head 0 0; tail 0 0"} {
		q := sample.Program(s)
		n := sample.MostPairs - 1 - (len(sample.Code(knows(t, q)))-1)/2
		same(t, q, sample.Number(n), 9)
		same(t, q, sample.Comb(n), 9)
		if y, _, e := run.Run(knows(t, q), sample.Number(n+1), 99); e != api.ErrSize || y != "" {
			t.Errorf("Know(%s): %s, %d", s, sample.Short(y), e)
		}
	}
}

// P7.3, and what is returned is a program again, that returns itself.
func TestSelf(t *testing.T) {
	p := know.Self()
	if !slices.Equal(p, knowOf(sample.Program("head 0 0"))) || !code.Valid(p) {
		t.Fatal(sample.Show(p))
	}
	for _, x := range append(sample.Trees(6), sample.Number(900000), sample.Comb(900000)) {
		y, n, e := run.Run(p, x, overhead+1)
		q, f := code.Decode(y)
		if e != api.OK || y != sample.Code(p) || n != overhead+1 || f != api.OK || !slices.Equal(q, p) {
			t.Fatalf("on %s: %s, %d, %d, %d", sample.Short(x), sample.Short(y), n, e, f)
		}
		if y, _, e := run.Run(p, x, overhead); e != api.ErrFuel || y != "" {
			t.Fatalf("on %s: %s, %d", sample.Short(x), sample.Short(y), e)
		}
	}
}

// P7.4: different results for different programs.
func TestDifferent(t *testing.T) {
	l := some()
	r := rand.New(rand.NewSource(2))
	for range 1000 {
		l = append(l, sample.AtRandom(r.Intn))
	}
	for _, c := range sample.Trees(10) {
		if p, e := code.Decode(c); e == api.OK {
			l = append(l, p)
		}
	}
	from := map[string]string{}
	for _, q := range l {
		c, s := sample.Code(knows(t, q)), sample.Code(q)
		if other, ok := from[c]; ok && other != s {
			t.Fatalf("Know(%s) is also that of the program with the code %s", sample.Show(q), sample.Short(other))
		}
		from[c] = s
	}
	if len(from) < 1000 {
		t.Errorf("only %d programs", len(from))
	}
}

// transforms checks that Fix(q) agrees on x with the program whose code q returns on the code of Fix(q), and the number of steps.
// It returns this program, or false if q returns nothing or no code.
func transforms(t *testing.T, q api.Program, x string, fuel int) (api.Program, bool) {
	t.Helper()
	p := fixed(t, q)
	c, k, e := run.Run(q, sample.Code(p), fuel)
	if e != api.OK {
		// Up to the steps of q, Fix(q) needs those of Know and 2 more.
		if y, _, f := run.Run(p, x, fuel+overhead+2); f != e {
			t.Fatalf("Fix(%s) on %s: %s, %d; not %d", sample.Show(q), sample.Short(x), sample.Short(y), f, e)
		}
		return nil, false
	}
	found, e := code.Decode(c)
	if e != api.OK {
		return nil, false
	}
	agrees(t, p, found, x, k+sample.Regs(q)+22, fuel)
	return found, true
}

// agrees checks that p, which has so many steps more than Universal, agrees on x with the program that is found.
func agrees(t *testing.T, p, found api.Program, x string, more, fuel int) {
	t.Helper()
	want, j, f := run.Run(found, x, fuel)
	if f == api.ErrSize {
		return // nothing is promised
	}
	if f == api.ErrFuel {
		if y, n, e := run.Run(p, x, fuel); e != api.ErrFuel {
			t.Fatalf("the program for %s on %s: %s, %d, %d; not ErrFuel", sample.Show(found), sample.Short(x), sample.Short(y), n, e)
		}
		return
	}
	y, n, e := run.Run(p, x, min(more+100*(len(found)+40)*(j+1), api.MaxFuel))
	if e != api.OK || y != want {
		t.Fatalf("the program for %s on %s: %s, %d, %d; not %s", sample.Show(found), sample.Short(x), sample.Short(y), n, e, sample.Short(want))
	}
	if _, u, _ := run.Run(univ.Universal(), sample.Pair(sample.Code(found), x), api.MaxFuel); n != more+u {
		t.Fatalf("the program for %s on %s: %d steps; not %d and %d", sample.Show(found), sample.Short(x), n, more, u)
	}
}

// P7.2 for transformations that return the same code always, some of them with other trees in their registers.
func TestFixOfConstants(t *testing.T) {
	for _, p := range some() {
		for _, x := range []string{"0", "10100", "110100100"} {
			for _, before := range []string{"", "move 1 0; head 2 0; tail 3 0; ", "move 29 0; cons 30 29 0; tail 0 0; ", "tail 0 0; jump 0 -1; set 9 10100; tail 9 9; jump 9 -1; "} {
				q := sample.Program(before + "set 0 " + sample.Code(p))
				if found, ok := transforms(t, q, x, 5000); !ok || !slices.Equal(found, p) {
					t.Fatalf("Fix(%s): %s", sample.Show(q), sample.Show(found))
				}
			}
		}
	}
}

// returning transforms a tree to the code of a program that returns it, and pairing to that of a program that returns the pair of it and the input.
func returning() api.Program { return sample.Program("cons 0 1 0; cons 0 1 0; cons 0 0 1") }

func pairing() api.Program {
	return sample.Program("set 2 100; cons 0 2 0; cons 0 1 0; set 2 " + sample.Code(sample.Program("cons 0 1 0")) + "; cons 0 0 2")
}

// P7.2 for transformations of which the program that is found knows the code of the one that agrees with it.
func TestFixOfTransformations(t *testing.T) {
	first, second := fixed(t, returning()), fixed(t, pairing())
	for _, x := range sample.Trees(4) {
		if found, ok := transforms(t, returning(), x, 1000); !ok || !slices.Equal(found, api.Program{write.Set(0, sample.Code(first))}) {
			t.Fatalf("on %s: %s", x, sample.Show(found))
		}
		if found, ok := transforms(t, pairing(), x, 1000); !ok || !slices.Equal(found, api.Program{write.Set(1, sample.Code(second)), write.Cons(0, 1, 0)}) {
			t.Fatalf("on %s: %s", x, sample.Show(found))
		}
		if y := returned(t, first, x); y != sample.Code(first) {
			t.Fatalf("on %s: %s", x, sample.Short(y))
		}
		if y := returned(t, second, x); y != sample.Pair(sample.Code(second), x) {
			t.Fatalf("on %s: %s", x, sample.Short(y))
		}
	}
}

// P7.2, P4: with the transformation that supplies a program with a code, Fix does what Know does.
func TestFixOfMeta(t *testing.T) {
	for _, q := range sample.Ending() {
		supplying, e := spec.Spec(spec.Meta(), sample.Code(q))
		if e != api.OK {
			t.Fatal(e)
		}
		p := fixed(t, supplying)
		for _, x := range sample.Trees(2) {
			found, ok := transforms(t, supplying, x, 2000)
			if s, e := spec.Spec(q, sample.Code(p)); !ok || e != api.OK || !slices.Equal(found, s) {
				t.Fatalf("%s: %s", sample.Show(q), sample.Show(found))
			}
			want, _, e := run.Run(q, sample.Pair(sample.Code(p), x), 2000)
			if y := returned(t, p, x); e != api.OK || y != want {
				t.Fatalf("%s on %s: %s, %d; not %s", sample.Show(q), x, sample.Short(y), e, sample.Short(want))
			}
		}
	}
}

// P7.2: a program agrees with itself, so what the identity is transformed to may be anything: Universal runs it, it Universal, and so on.
func TestFixOfIdentity(t *testing.T) {
	p := fixed(t, nil)
	if y, n, e := run.Run(p, "100", 500000); e != api.ErrFuel {
		t.Error(sample.Short(y), n, e)
	}
}

// P7.2: nothing where the transformation returns nothing, or comes to a step that is too large.
func TestFixOfNothing(t *testing.T) {
	for _, q := range slices.Concat(sample.Endless(), sample.Growing()) {
		if sample.Regs(q) == api.MaxRegs {
			continue
		}
		for _, x := range []string{"0", "100", "11000"} {
			if found, ok := transforms(t, q, x, 100000); ok {
				t.Errorf("Fix(%s): %s", sample.Show(q), sample.Show(found))
			}
		}
	}
}

// P7.2 for transformations at random, many of which return the code itself, or nil, the code of the empty program.
func TestFixAtRandom(t *testing.T) {
	r := rand.New(rand.NewSource(3))
	l := sample.Trees(4)
	codes := 0
	for range 600 {
		q := sample.AtRandom(r.Intn)
		if r.Intn(2) == 0 {
			q = append(append(q, write.Set(1, "0")), returning()...)
		}
		if sample.Regs(q) == api.MaxRegs {
			continue
		}
		if _, ok := transforms(t, q, l[r.Intn(len(l))], 3000); ok {
			codes++
		}
	}
	if codes < 100 {
		t.Errorf("only %d codes", codes)
	}
}

// Fix for each number of registers that it takes.
func TestFixOfRegisters(t *testing.T) {
	for w := 1; w < api.MaxRegs; w++ {
		for _, q := range []api.Program{{write.Set(w-1, "10100"), write.Set(0, "0")}, {write.Move(w-1, 0), write.Move(0, w-1), write.Set(0, sample.Code(sample.Program("tail 0 0")))}} {
			if _, ok := transforms(t, q, "1010100", 100); !ok {
				t.Errorf("Fix(%s)", sample.Show(q))
			}
		}
	}
}

// The chapter's examples.
func TestExamples(t *testing.T) {
	first, second := knows(t, nil), knows(t, sample.Program("tail 0 0"))
	for _, x := range append(sample.Trees(6), sample.Number(900000)) {
		if y, n, e := run.Run(first, x, 99); e != api.OK || y != sample.Pair(sample.Code(first), x) || n != 19 {
			t.Error(sample.Short(x), sample.Short(y), n, e)
		}
		if y, n, e := run.Run(second, x, 99); e != api.OK || y != x || n != 20 {
			t.Error(sample.Short(x), sample.Short(y), n, e)
		}
	}
	if p := fixed(t, api.Program{write.Set(0, "111010101001000")}); returned(t, p, "10100") != "100" {
		t.Error("no tail")
	}
}

// returned is what p returns on x.
func returned(t *testing.T, p api.Program, x string) string {
	t.Helper()
	y, _, e := run.Run(p, x, api.MaxFuel)
	if e != api.OK {
		t.Fatalf("%s: %d", sample.Short(x), e)
	}
	return y
}

// refuses checks that a program is refused.
func refuses(t *testing.T, what string, f func(api.Program) (api.Program, api.Errno), q api.Program, want api.Errno) {
	t.Helper()
	if p, e := f(q); e != want || len(p) != 0 {
		t.Errorf("%s(%s) of %d instructions: %s, %d; not %d", what, sample.Show(q), len(q), sample.Show(p), e, want)
	}
}

func TestErrForm(t *testing.T) {
	for _, q := range sample.Invalid() {
		refuses(t, "Know", know.Know, q, api.ErrForm)
		refuses(t, "Fix", know.Fix, q, api.ErrForm)
		// ErrRegs would be due, too. What follows may give a jump a place to lead to.
		if q = append(slices.Clone(q), write.Move(31, 31)); !code.Valid(q) {
			refuses(t, "Fix", know.Fix, q, api.ErrForm)
		}
	}
}

// Fix needs a register that the program does not use; Know needs none.
func TestErrRegs(t *testing.T) {
	large := write.Set(0, sample.Number(sample.MostPairs)) // it would be ErrSize, too
	for _, in := range []api.Instr{write.Set(31, "0"), write.Move(31, 0), write.Move(0, 31), write.Cons(31, 0, 0), write.Cons(0, 31, 0), write.Cons(0, 0, 31), write.Head(31, 0), write.Tail(0, 31), write.Jump(31, 1)} {
		refuses(t, "Fix", know.Fix, api.Program{in}, api.ErrRegs)
		refuses(t, "Fix", know.Fix, api.Program{in, large}, api.ErrRegs)
		refuses(t, "Fix", know.Fix, slices.Repeat(api.Program{write.Move(0, 0), in}, api.MaxCode/2), api.ErrRegs)
		knows(t, api.Program{in})
	}
	for _, in := range []api.Instr{write.Set(30, "0"), write.Move(30, 0), write.Cons(0, 30, 0), write.Cons(0, 0, 30), write.Tail(0, 30), write.Jump(0, 1)} {
		fixed(t, api.Program{in})
	}
}

// Each instruction counts, those that are written around the program among them.
func TestErrSizeOfInstructions(t *testing.T) {
	knows(t, slices.Repeat(api.Program{write.Head(0, 0)}, longest))
	for _, n := range []int{longest + 1, longest + 2, longest + 3, longest + 4, api.MaxCode} {
		refuses(t, "Know", know.Know, slices.Repeat(api.Program{write.Head(0, 0)}, n), api.ErrSize)
	}
	for _, r := range []int{0, 1, 30} {
		most := longest - 2 - r - 2 - len(univ.Universal())
		fixed(t, slices.Repeat(api.Program{write.Head(r, 0)}, most))
		for _, n := range []int{most + 1, most + 19, most + 100, longest, api.MaxCode} {
			refuses(t, "Fix", know.Fix, slices.Repeat(api.Program{write.Head(r, 0)}, n), api.ErrSize)
		}
	}
}

// Of all the trees and programs on the way, the code of what is returned is the largest.
func TestErrSizeOfCode(t *testing.T) {
	for _, c := range []struct {
		what  string
		f     func(api.Program) (api.Program, api.Errno)
		empty int
	}{
		{"Know", know.Know, sample.Size(knowOf(sample.Program("set 0 0")))},
		{"Fix", know.Fix, sample.Size(fixOf(sample.Program("set 0 0")))},
	} {
		// Each pair of a tree of the program is in the code of the result twice.
		n := (api.MaxTree - c.empty) / 4
		for _, most := range []string{sample.Number(n), sample.Comb(n)} {
			p, e := c.f(api.Program{write.Set(0, most)})
			if e != api.OK || len(sample.Code(p)) != c.empty+4*n || c.empty+4*n <= api.MaxTree-4 {
				t.Errorf("%s: %d instructions, %d", c.what, len(p), e)
			}
		}
		for _, more := range []int{n + 1, n + 2, n + 10, 2*n - 1000, 2*n - 100, 2 * n, sample.MostPairs - 100, sample.MostPairs - 20, sample.MostPairs} {
			refuses(t, c.what, c.f, api.Program{write.Set(0, sample.Number(more))}, api.ErrSize)
			refuses(t, c.what, c.f, api.Program{write.Set(0, sample.Number(more/2)), write.Set(0, sample.Number(more-more/2))}, api.ErrSize)
		}
	}
}

// The codes of long jumps are large, though the program has no trees.
func TestErrSizeOfJumps(t *testing.T) {
	far := func(jumps int) api.Program {
		p := slices.Repeat(api.Program{write.Move(0, 0)}, 3800)
		for i := range jumps {
			p[i] = write.Jump(3, 3500)
		}
		return p
	}
	most := 0
	for sample.Size(knowOf(far(most+1))) <= api.MaxTree {
		most++
	}
	if most < 10 || most > 200 {
		t.Fatal(most)
	}
	knows(t, far(most))
	for _, n := range []int{most + 1, most + 2, 200, 270, 299} {
		refuses(t, "Know", know.Know, far(n), api.ErrSize)
		refuses(t, "Fix", know.Fix, far(n), api.ErrSize)
	}
}

// R5: arguments are not changed, and results are new memory.
func TestNewMemory(t *testing.T) {
	room := make(api.Program, 0, 400)
	room = append(room, write.Set(0, strings.Clone("11000")), write.Jump(0, 1), write.Set(3, strings.Clone("1011000")))
	beyond := room[:400]
	for i := len(room); i < len(beyond); i++ {
		beyond[i] = write.Move(1, 1)
	}
	kept := slices.Clone(beyond)
	old := []*byte{unsafe.StringData(room[0].Tree), unsafe.StringData(room[2].Tree)}
	for what, f := range map[string]func() api.Program{
		"Know": func() api.Program { return knows(t, room) },
		"Fix":  func() api.Program { return fixed(t, room) },
		"Self": know.Self,
	} {
		p := f()
		for _, in := range p {
			if in.Tree != "" && slices.Contains(old, unsafe.StringData(in.Tree)) {
				t.Errorf("%s: the tree %s is not new", what, in.Tree)
			}
		}
		again := slices.Clone(p)
		clear(p)
		if !slices.Equal(beyond, kept) || !slices.Equal(f(), again) {
			t.Errorf("%s shares memory with its argument, or its results do", what)
		}
	}
}

// R4: nil and empty are the same.
func TestEmpty(t *testing.T) {
	if !slices.Equal(knows(t, api.Program{}), knows(t, nil)) || !slices.Equal(fixed(t, api.Program{}), fixed(t, nil)) {
		t.Error("an empty slice is not as nil")
	}
	if len(knows(t, nil)) != overhead {
		t.Error(len(knows(t, nil)))
	}
}
