package spec_test

import (
	"math/rand"
	"slices"
	"strings"
	"testing"
	"unsafe"

	"narcissus/api"
	"narcissus/build"
	"narcissus/code"
	"narcissus/run"
	"narcissus/sample"
	"narcissus/spec"
	"narcissus/write"
)

// specOf is the program that the chapter writes.
func specOf(p api.Program, d string) api.Program {
	return append(api.Program{write.Set(1, d), write.Cons(0, 1, 0), write.Set(1, "0")}, p...)
}

// must is Spec of valid arguments.
func must(t *testing.T, p api.Program, d string) api.Program {
	t.Helper()
	q, e := spec.Spec(p, d)
	if e != api.OK || !slices.Equal(q, specOf(p, d)) || !code.Valid(q) {
		t.Fatalf("Spec(%s, %s): %s, %d", sample.Show(p), sample.Short(d), sample.Show(q), e)
	}
	return q
}

// some returns programs that end, that do not, that come to a step that is too large, and that are long.
func some() []api.Program {
	long := slices.Repeat(api.Program{write.Cons(0, 0, 1)}, api.MaxCode-3)
	return slices.Concat(sample.Ending(), sample.Endless(), sample.Growing(), []api.Program{long})
}

func TestSpecIsAsWritten(t *testing.T) {
	for _, p := range some() {
		for _, d := range append(sample.Trees(4), sample.Number(5000)) {
			must(t, p, d)
		}
	}
}

// supplies reports where Spec(p, d) does not do on x what p does on the pair of d and x.
func supplies(t *testing.T, p api.Program, d, x string, fuel int) {
	t.Helper()
	want, steps, f := run.Run(p, sample.Pair(d, x), fuel)
	if f == api.OK {
		steps += 3
	}
	q := must(t, p, d)
	if y, n, e := run.Run(q, x, fuel+3); y != want || n != steps || e != f {
		t.Fatalf("%s with %s on %s: %s, %d, %d; not %s, %d, %d", sample.Show(p), sample.Short(d), sample.Short(x), sample.Short(y), n, e, sample.Short(want), steps, f)
	}
	if f != api.OK {
		return
	}
	if y, _, e := run.Run(q, x, steps-1); e != api.ErrFuel || y != "" {
		t.Fatalf("%s with %s on %s ends after less than %d steps: %s, %d", sample.Show(p), sample.Short(d), sample.Short(x), steps, sample.Short(y), e)
	}
}

// P5.1: the same result after 3 steps more, or none.
func TestSupplied(t *testing.T) {
	for _, p := range some() {
		for _, d := range sample.Trees(3) {
			for _, x := range sample.Trees(3) {
				supplies(t, p, d, x, 5000)
			}
		}
		supplies(t, p, sample.Number(1000), sample.Number(2000), 9000)
		supplies(t, p, sample.Number(sample.MostPairs/2), sample.Number(sample.MostPairs/2-1), 100)
	}
}

// P5.1 for all programs of two instructions of a few kinds.
func TestSuppliedOfAllShortPrograms(t *testing.T) {
	var instrs []api.Instr
	for a := range 3 {
		instrs = append(instrs, write.Set(a, "100"), write.Jump(a, 0), write.Jump(a, 1), write.Jump(a, 2), write.Jump(a, -1))
		for b := range 3 {
			instrs = append(instrs, write.Move(a, b), write.Head(a, b), write.Tail(a, b), write.Cons(a, b, 0), write.Cons(a, b, 2))
		}
	}
	for _, first := range instrs {
		for _, second := range instrs {
			p := api.Program{first, second}
			if !code.Valid(p) {
				continue
			}
			supplies(t, p, "11000", "100", 30)
			supplies(t, p, "0", "0", 30)
		}
	}
}

// P5.1: after 3 steps the state is the first one of the program on the pair, and each further one is the next one.
func TestStates(t *testing.T) {
	for _, p := range some() {
		q := must(t, p, "1100100")
		for k := range 12 {
			want, n, e := run.After(p, sample.Pair("1100100", "11000"), k)
			s, m, f := run.After(q, "11000", k+3)
			if e != f || e == api.OK && (m != n+3 || s.At != want.At+3 || !slices.Equal(s.Regs, want.Regs)) {
				t.Fatalf("%s after %d steps: %v, %d, %d; not %v, %d, %d", sample.Show(p), k, s, m, f, want, n, e)
			}
		}
	}
}

// metaOf checks what Meta returns on the pair of c and d.
func metaOf(t *testing.T, c, d, want string) {
	t.Helper()
	y, n, e := run.Run(spec.Meta(), sample.Pair(c, d), 100)
	if e != api.OK || y != want || n > 100 {
		t.Fatalf("Meta on the pair of %s and %s: %s, %d, %d; not %s", sample.Short(c), sample.Short(d), sample.Short(y), n, e, sample.Short(want))
	}
}

// supplyingCodes is the list of the codes of the instructions that supply d, before the elements of the list c.
func supplyingCodes(d, c string) string {
	return sample.Pair(sample.Pair("0", sample.Pair("100", d)), sample.Pair("1101001011000", sample.Pair("1011000", c)))
}

// P5.2: the code of Spec.
func TestMeta(t *testing.T) {
	for _, p := range some() {
		for _, d := range append(sample.Trees(4), sample.Number(3000)) {
			if len(p) > 100 && len(d) > 5 {
				continue
			}
			metaOf(t, sample.Code(p), d, sample.Code(must(t, p, d)))
		}
	}
}

// P5.2 for programs at random, d being the code of a program, too.
func TestMetaAtRandom(t *testing.T) {
	r := rand.New(rand.NewSource(1))
	l := sample.Trees(6)
	random := func() api.Program {
		p := make(api.Program, r.Intn(20))
		for i := range p {
			a, b, c := r.Intn(api.MaxRegs), r.Intn(api.MaxRegs), r.Intn(api.MaxRegs)
			p[i] = []api.Instr{write.Set(a, l[r.Intn(len(l))]), write.Move(a, b), write.Cons(a, b, c), write.Head(a, b), write.Tail(a, b), write.Jump(a, r.Intn(len(p)+1)-i)}[r.Intn(api.Ops)]
		}
		return p
	}
	for range 500 {
		p, d := random(), sample.Code(random())
		metaOf(t, sample.Code(p), d, sample.Code(must(t, p, d)))
	}
}

// P5.2: the corresponding list for every other tree in the place of a code.
func TestMetaOfEveryTree(t *testing.T) {
	for _, c := range sample.Trees(7) {
		for _, d := range sample.Trees(2) {
			metaOf(t, c, d, supplyingCodes(d, c))
		}
	}
}

// P5.2: no step is too large for pairs of at most a tenth of what a tree may have.
func TestMetaOfLargeTrees(t *testing.T) {
	const pairs = (api.MaxTree/10 - 1) / 2 // the pair has one more than its parts
	for _, n := range []int{0, 1, 17, pairs / 2, pairs - 2, pairs - 1} {
		for _, l := range [][2]string{{sample.Number(n), sample.Number(pairs - 1 - n)}, {strings.Repeat("1", n) + strings.Repeat("0", n+1), sample.Number(pairs - 1 - n)}} {
			if len(sample.Pair(l[0], l[1])) < api.MaxTree/10-1 {
				t.Fatal("the pair is small")
			}
			metaOf(t, l[0], l[1], supplyingCodes(l[1], l[0]))
		}
	}
	long := slices.Repeat(api.Program{write.Move(0, 0)}, api.MaxCode-3)
	metaOf(t, sample.Code(long), "0", sample.Code(must(t, long, "0")))
}

// P3: a program finds the program; Meta may be supplied with a part of its input itself.
func TestMetaOfMeta(t *testing.T) {
	meta := spec.Meta()
	for _, p := range sample.Ending() {
		found := must(t, meta, sample.Code(p))
		for _, d := range sample.Trees(3) {
			want := sample.Code(must(t, p, d))
			if y, _, e := run.Run(found, d, 103); e != api.OK || y != want {
				t.Fatalf("%s with %s: %s, %d", sample.Show(p), d, sample.Short(y), e)
			}
		}
		metaOf(t, sample.Code(meta), sample.Code(p), sample.Code(found))
	}
}

func TestMetaIsValid(t *testing.T) {
	p := spec.Meta()
	if n, e := code.Regs(p); e != api.OK || n > api.MaxRegs-4 || len(p) == 0 || len(p) > 100 {
		t.Fatal(sample.Show(p), n, e)
	}
	for i := range p {
		p[i] = api.Instr{}
	}
	if q := spec.Meta(); !code.Valid(q) || slices.Equal(p, q) {
		t.Error("results of Meta share their memory")
	}
}

// What follows Meta in a composed program runs on the code.
func TestMetaComposed(t *testing.T) {
	second := sample.Program("tail 0 0; head 0 0")
	p, e := build.Then(sample.Program("head 3 0; move 1 0; move 2 0"), spec.Meta(), second)
	if e != api.OK {
		t.Fatal(e)
	}
	if y, _, e := run.Run(p, sample.Pair("100", "100"), 100); e != api.OK || y != "1101001011000" {
		t.Error(y, e)
	}
}

func TestExamples(t *testing.T) {
	constant := must(t, sample.Program("head 0 0"), "100")
	for _, x := range append(sample.Trees(5), sample.Number(sample.MostPairs-2)) {
		if y, n, e := run.Run(constant, x, 9); e != api.OK || y != "100" || n != 4 {
			t.Error(sample.Short(x), y, n, e)
		}
	}
	for _, d := range sample.Trees(4) {
		for _, x := range sample.Trees(4) {
			if y, n, e := run.Run(must(t, nil, d), x, 9); e != api.OK || y != sample.Pair(d, x) || n != 3 {
				t.Error(d, x, y, n, e)
			}
		}
	}
}

// The pair of the tree and the input counts as a step of its own, and may be too large.
func TestPairTooLarge(t *testing.T) {
	p := must(t, sample.Program("head 0 0"), "100")
	x := sample.Number(sample.MostPairs - 2)
	if y, n, e := run.Run(p, x, 9); e != api.OK || y != "100" || n != 4 {
		t.Error(y, n, e)
	}
	x = sample.Number(sample.MostPairs - 1)
	if y, _, e := run.Run(p, x, 1); e != api.ErrFuel || y != "" {
		t.Error(y, e)
	}
	if y, _, e := run.Run(p, x, 2); e != api.ErrSize || y != "" {
		t.Error(y, e)
	}
}

func TestErrForm(t *testing.T) {
	full := slices.Repeat(api.Program{write.Move(0, 0)}, api.MaxCode) // with a tree it would be ErrSize
	check := func(p api.Program, d string) {
		t.Helper()
		if q, e := spec.Spec(p, d); e != api.ErrForm || len(q) != 0 {
			t.Errorf("Spec(%s, %q): %s, %d", sample.Show(p), sample.Short(d), sample.Show(q), e)
		}
	}
	for _, p := range sample.Invalid() {
		for _, d := range []string{"0", "100", sample.Number(sample.MostPairs), "", "1"} {
			check(p, d)
		}
	}
	for _, d := range sample.NotTrees() {
		for _, p := range []api.Program{nil, {write.Move(31, 0)}, full} {
			check(p, d)
		}
	}
}

// The result has at most MaxCode instructions.
func TestErrSizeOfInstructions(t *testing.T) {
	for n, want := range map[int]api.Errno{api.MaxCode - 3: api.OK, api.MaxCode - 2: api.ErrSize, api.MaxCode - 1: api.ErrSize, api.MaxCode: api.ErrSize} {
		p := slices.Repeat(api.Program{write.Jump(31, 1)}, n)
		q, e := spec.Spec(p, "100")
		if e != want || e == api.OK && !slices.Equal(q, specOf(p, "100")) || e != api.OK && len(q) != 0 {
			t.Errorf("%d instructions: %d, %d", n, len(q), e)
		}
	}
}

// The trees of the result, that which makes register 1 nil again among them, have at most MaxTree characters.
func TestErrSizeOfTrees(t *testing.T) {
	for _, c := range []struct {
		p    api.Program
		d    string
		want api.Errno
	}{
		{nil, sample.Number(sample.MostPairs), api.OK}, // 2000000 characters
		{api.Program{write.Move(0, 0)}, sample.Number(sample.MostPairs), api.OK},
		{api.Program{write.Set(0, "0")}, sample.Number(sample.MostPairs), api.ErrSize},
		{api.Program{write.Set(0, "0")}, sample.Number(sample.MostPairs - 1), api.OK},
		{api.Program{write.Set(0, "0"), write.Set(3, "0")}, sample.Number(sample.MostPairs - 1), api.OK},
		{api.Program{write.Set(0, "100")}, sample.Number(sample.MostPairs - 1), api.ErrSize},
		{api.Program{write.Set(0, "0"), write.Set(1, "0"), write.Set(2, "0")}, sample.Number(sample.MostPairs - 1), api.ErrSize},
		{api.Program{write.Set(0, sample.Number(499999)), write.Set(0, "0")}, sample.Number(499998), api.OK},
		{api.Program{write.Set(0, sample.Number(499999))}, sample.Number(499999), api.OK},
		{api.Program{write.Set(0, sample.Number(499999))}, sample.Number(500000), api.ErrSize},
		{api.Program{write.Set(0, sample.Number(sample.MostPairs))}, "0", api.ErrSize},
		{api.Program{write.Set(0, sample.Number(sample.MostPairs-1))}, "0", api.OK},
		{api.Program{write.Set(0, sample.Number(sample.MostPairs-1)), write.Set(0, "0")}, "0", api.OK},
		{api.Program{write.Set(0, sample.Number(sample.MostPairs-1))}, "100", api.ErrSize},
	} {
		q, e := spec.Spec(c.p, c.d)
		if e != c.want || e == api.OK && !slices.Equal(q, specOf(c.p, c.d)) || e != api.OK && len(q) != 0 {
			t.Errorf("%s with a tree of %d characters: %d instructions, %d; not %d", sample.Show(c.p), len(c.d), len(q), e, c.want)
		}
	}
}

// R5: arguments are not changed, and results are new memory.
func TestNewMemory(t *testing.T) {
	room := make(api.Program, 0, 100)
	room = append(room, write.Set(0, strings.Clone("11000")), write.Set(3, strings.Clone("1011000")), write.Jump(3, 1))
	beyond := room[:100]
	for i := len(room); i < 100; i++ {
		beyond[i] = write.Move(1, 1)
	}
	kept, d := slices.Clone(beyond), strings.Clone("1100100")
	p := must(t, room, d)
	old := []*byte{unsafe.StringData(d), unsafe.StringData(room[0].Tree), unsafe.StringData(room[1].Tree)}
	for _, in := range p {
		if in.Tree != "" && slices.Contains(old, unsafe.StringData(in.Tree)) {
			t.Errorf("the tree %s is not new", in.Tree)
		}
	}
	for i := range p {
		p[i] = api.Instr{}
	}
	if !slices.Equal(beyond, kept) {
		t.Error("Spec changes its arguments")
	}
	must(t, room, d)
}
