package spec_test

import (
	"math/rand"
	"slices"
	"strings"
	"testing"
	"unsafe"

	"narcissus/api"
	"narcissus/build"
	"narcissus/code"
	"narcissus/run"
	"narcissus/spec"
)

const (
	mostPairs = 999999 // pairs of the longest valid tree
	greatest  = int(^uint(0) >> 1)
)

func set(a int, s string) api.Instr { return api.Instr{Op: api.OpSet, A: a, Tree: s} }
func move(a, b int) api.Instr       { return api.Instr{Op: api.OpMove, A: a, B: b} }
func cons(a, b, c int) api.Instr    { return api.Instr{Op: api.OpCons, A: a, B: b, C: c} }
func head(a, b int) api.Instr       { return api.Instr{Op: api.OpHead, A: a, B: b} }
func tail(a, b int) api.Instr       { return api.Instr{Op: api.OpTail, A: a, B: b} }
func jump(a, b int) api.Instr       { return api.Instr{Op: api.OpJump, A: a, B: b} }

// number is the number n as a tree.
func number(n int) string { return strings.Repeat("10", n) + "0" }

func pair(a, b string) string { return "1" + a + b }

func short(s string) string {
	if len(s) > 300 {
		return s[:300] + ".."
	}
	return s
}

func show(p api.Program) string {
	s, _ := code.Text(p)
	return "[" + short(s) + "]"
}

func program(t *testing.T, s string) api.Program {
	t.Helper()
	p, e := code.Parse(s)
	if e != api.OK {
		t.Fatalf("%q: %d", s, e)
	}
	return p
}

func codeOf(t *testing.T, p api.Program) string {
	t.Helper()
	s, e := code.Code(p)
	if e != api.OK {
		t.Fatalf("code of %s: %d", show(p), e)
	}
	return s
}

// specOf is the program that the chapter writes.
func specOf(p api.Program, d string) api.Program {
	return append(api.Program{set(1, d), cons(0, 1, 0), set(1, "0")}, p...)
}

// must is Spec of valid arguments.
func must(t *testing.T, p api.Program, d string) api.Program {
	t.Helper()
	q, e := spec.Spec(p, d)
	if e != api.OK || !slices.Equal(q, specOf(p, d)) || !code.Valid(q) {
		t.Fatalf("Spec(%s, %s): %s, %d", show(p), short(d), show(q), e)
	}
	return q
}

// some are programs that leave trees in registers, that need registers to be nil, that jump to their end and back to their beginning, that never end, and that make too large trees.
func some(t *testing.T) []api.Program {
	var l []api.Program
	for _, s := range []string{
		"", "head 0 0", "tail 0 0", "set 0 10100", "cons 0 0 0", "cons 0 1 0", "cons 0 31 1", "move 0 1", "move 31 0; set 0 0; move 0 31",
		"head 1 0; tail 0 0; cons 0 0 1", "jump 1 2; head 0 0", "jump 0 2; set 0 100", "tail 0 0; jump 0 -1", "head 0 0; jump 0 -1; cons 0 1 2", "set 5 100; tail 2 0; jump 2 2; move 0 5; jump 5 1",
		"head 1 0; tail 0 0; jump 1 2; jump 2 5; tail 1 1; tail 0 0; set 2 100; jump 1 -3",
		"jump 0 0", "set 1 100; jump 1 0", "set 3 100; jump 3 -1", "cons 0 0 0; jump 0 -1",
	} {
		l = append(l, program(t, s))
	}
	return append(l, slices.Repeat(api.Program{cons(0, 0, 1)}, api.MaxCode-3))
}

// trees returns all trees with the numbers of pairs from 0 to most, the smaller ones first.
func trees(most int) []string {
	byPairs := [][]string{{"0"}}
	for k := 1; k <= most; k++ {
		var l []string
		for i := range k {
			for _, h := range byPairs[i] {
				for _, r := range byPairs[k-1-i] {
					l = append(l, pair(h, r))
				}
			}
		}
		byPairs = append(byPairs, l)
	}
	return slices.Concat(byPairs...)
}

func TestSpecIsAsWritten(t *testing.T) {
	for _, p := range some(t) {
		for _, d := range append(trees(4), number(5000)) {
			must(t, p, d)
		}
	}
}

// supplies reports where Spec(p, d) does not do on x what p does on the pair of d and x.
func supplies(t *testing.T, p api.Program, d, x string, fuel int) {
	t.Helper()
	want, steps, f := run.Run(p, pair(d, x), fuel)
	if f == api.OK {
		steps += 3
	}
	q := must(t, p, d)
	if y, n, e := run.Run(q, x, fuel+3); y != want || n != steps || e != f {
		t.Fatalf("%s with %s on %s: %s, %d, %d; not %s, %d, %d", show(p), short(d), short(x), short(y), n, e, short(want), steps, f)
	}
	if f != api.OK {
		return
	}
	if y, _, e := run.Run(q, x, steps-1); e != api.ErrFuel || y != "" {
		t.Fatalf("%s with %s on %s ends after less than %d steps: %s, %d", show(p), short(d), short(x), steps, short(y), e)
	}
}

// P5.1: the same result after 3 steps more, or none.
func TestSupplied(t *testing.T) {
	for _, p := range some(t) {
		for _, d := range trees(3) {
			for _, x := range trees(3) {
				supplies(t, p, d, x, 5000)
			}
		}
		supplies(t, p, number(1000), number(2000), 9000)
		supplies(t, p, number(mostPairs/2), number(mostPairs/2-1), 100)
	}
}

// P5.1 for all programs of two instructions of a few kinds.
func TestSuppliedOfAllShortPrograms(t *testing.T) {
	var instrs []api.Instr
	for a := range 3 {
		instrs = append(instrs, set(a, "100"), jump(a, 0), jump(a, 1), jump(a, 2), jump(a, -1))
		for b := range 3 {
			instrs = append(instrs, move(a, b), head(a, b), tail(a, b), cons(a, b, 0), cons(a, b, 2))
		}
	}
	for _, first := range instrs {
		for _, second := range instrs {
			p := api.Program{first, second}
			if !code.Valid(p) {
				continue
			}
			supplies(t, p, "11000", "100", 30)
			supplies(t, p, "0", "0", 30)
		}
	}
}

// P5.1: after 3 steps the state is the first one of the program on the pair, and each further one is the next one.
func TestStates(t *testing.T) {
	for _, p := range some(t) {
		q := must(t, p, "1100100")
		for k := range 12 {
			want, n, e := run.After(p, pair("1100100", "11000"), k)
			s, m, f := run.After(q, "11000", k+3)
			if e != f || e == api.OK && (m != n+3 || s.At != want.At+3 || !slices.Equal(s.Regs, want.Regs)) {
				t.Fatalf("%s after %d steps: %v, %d, %d; not %v, %d, %d", show(p), k, s, m, f, want, n, e)
			}
		}
	}
}

// metaOf checks what Meta returns on the pair of c and d.
func metaOf(t *testing.T, c, d, want string) {
	t.Helper()
	y, n, e := run.Run(spec.Meta(), pair(c, d), 100)
	if e != api.OK || y != want || n > 100 {
		t.Fatalf("Meta on the pair of %s and %s: %s, %d, %d; not %s", short(c), short(d), short(y), n, e, short(want))
	}
}

// supplyingCodes is the list of the codes of the instructions that supply d, before the elements of the list c.
func supplyingCodes(d, c string) string {
	return pair(pair("0", pair("100", d)), pair("1101001011000", pair("1011000", c)))
}

// P5.2: the code of Spec.
func TestMeta(t *testing.T) {
	for _, p := range some(t) {
		for _, d := range append(trees(4), number(3000)) {
			if len(p) > 100 && len(d) > 5 {
				continue
			}
			metaOf(t, codeOf(t, p), d, codeOf(t, must(t, p, d)))
		}
	}
}

// P5.2 for programs at random, d being the code of a program, too.
func TestMetaAtRandom(t *testing.T) {
	r := rand.New(rand.NewSource(1))
	l := trees(6)
	random := func() api.Program {
		p := make(api.Program, r.Intn(20))
		for i := range p {
			a, b, c := r.Intn(api.MaxRegs), r.Intn(api.MaxRegs), r.Intn(api.MaxRegs)
			p[i] = []api.Instr{set(a, l[r.Intn(len(l))]), move(a, b), cons(a, b, c), head(a, b), tail(a, b), jump(a, r.Intn(len(p)+1)-i)}[r.Intn(api.Ops)]
		}
		return p
	}
	for range 500 {
		p, d := random(), codeOf(t, random())
		metaOf(t, codeOf(t, p), d, codeOf(t, must(t, p, d)))
	}
}

// P5.2: the corresponding list for every other tree in the place of a code.
func TestMetaOfEveryTree(t *testing.T) {
	for _, c := range trees(7) {
		for _, d := range trees(2) {
			metaOf(t, c, d, supplyingCodes(d, c))
		}
	}
}

// P5.2: no step is too large for pairs of at most a tenth of what a tree may have.
func TestMetaOfLargeTrees(t *testing.T) {
	const pairs = (api.MaxTree/10 - 1) / 2 // the pair has one more than its parts
	for _, n := range []int{0, 1, 17, pairs / 2, pairs - 2, pairs - 1} {
		for _, l := range [][2]string{{number(n), number(pairs - 1 - n)}, {strings.Repeat("1", n) + strings.Repeat("0", n+1), number(pairs - 1 - n)}} {
			if len(pair(l[0], l[1])) < api.MaxTree/10-1 {
				t.Fatal("the pair is small")
			}
			metaOf(t, l[0], l[1], supplyingCodes(l[1], l[0]))
		}
	}
	long := slices.Repeat(api.Program{move(0, 0)}, api.MaxCode-3)
	metaOf(t, codeOf(t, long), "0", codeOf(t, must(t, long, "0")))
}

// P3: a program finds the program; Meta may be supplied with a part of its input itself.
func TestMetaOfMeta(t *testing.T) {
	meta := spec.Meta()
	for _, p := range some(t)[:16] {
		found := must(t, meta, codeOf(t, p))
		for _, d := range trees(3) {
			want := codeOf(t, must(t, p, d))
			if y, _, e := run.Run(found, d, 103); e != api.OK || y != want {
				t.Fatalf("%s with %s: %s, %d", show(p), d, short(y), e)
			}
		}
		metaOf(t, codeOf(t, meta), codeOf(t, p), codeOf(t, found))
	}
}

func TestMetaIsValid(t *testing.T) {
	p := spec.Meta()
	if n, e := code.Regs(p); e != api.OK || n > api.MaxRegs-4 || len(p) == 0 || len(p) > 100 {
		t.Fatal(show(p), n, e)
	}
	for i := range p {
		p[i] = api.Instr{}
	}
	if q := spec.Meta(); !code.Valid(q) || slices.Equal(p, q) {
		t.Error("results of Meta share their memory")
	}
}

// What follows Meta in a composed program runs on the code.
func TestMetaComposed(t *testing.T) {
	second := program(t, "tail 0 0; head 0 0")
	p, e := build.Then(program(t, "head 3 0; move 1 0; move 2 0"), spec.Meta(), second)
	if e != api.OK {
		t.Fatal(e)
	}
	if y, _, e := run.Run(p, pair("100", "100"), 100); e != api.OK || y != "1101001011000" {
		t.Error(y, e)
	}
}

func TestExamples(t *testing.T) {
	constant := must(t, program(t, "head 0 0"), "100")
	for _, x := range append(trees(5), number(mostPairs-2)) {
		if y, n, e := run.Run(constant, x, 9); e != api.OK || y != "100" || n != 4 {
			t.Error(short(x), y, n, e)
		}
	}
	for _, d := range trees(4) {
		for _, x := range trees(4) {
			if y, n, e := run.Run(must(t, nil, d), x, 9); e != api.OK || y != pair(d, x) || n != 3 {
				t.Error(d, x, y, n, e)
			}
		}
	}
}

// The pair of the tree and the input counts as a step of its own, and may be too large.
func TestPairTooLarge(t *testing.T) {
	p := must(t, program(t, "head 0 0"), "100")
	x := number(mostPairs - 2)
	if y, n, e := run.Run(p, x, 9); e != api.OK || y != "100" || n != 4 {
		t.Error(y, n, e)
	}
	x = number(mostPairs - 1)
	if y, _, e := run.Run(p, x, 1); e != api.ErrFuel || y != "" {
		t.Error(y, e)
	}
	if y, _, e := run.Run(p, x, 2); e != api.ErrSize || y != "" {
		t.Error(y, e)
	}
}

// invalid returns programs that are not valid.
func invalid() []api.Program {
	return []api.Program{
		slices.Repeat(api.Program{move(0, 0)}, api.MaxCode+1), {{Op: -1}}, {{Op: api.Ops}}, {{Op: greatest}}, make(api.Program, 1),
		// The first five lead to places of the result.
		{jump(0, -1)}, {jump(0, -2)}, {jump(0, -3)}, {move(0, 0), jump(0, -2)}, {move(0, 0), jump(0, -4)},
		{jump(0, 2)}, {jump(0, greatest)}, {jump(0, -greatest-1)}, {move(0, 0), jump(0, 2)}, {jump(0, 3), move(0, 0)},
		{move(0, 32)}, {move(-1, 0)}, {cons(0, 0, 32)}, {set(32, "0")}, {set(0, "")}, {set(0, "00")}, {set(0, "1")},
		{set(0, number(mostPairs)), set(0, "100")}, {{Op: api.OpMove, C: 1}}, {{Op: api.OpJump, Tree: "0"}}, {{Op: api.OpMove, A: greatest}},
	}
}

func notTrees() []string {
	return []string{"", "1", "00", "2", "10", "100 ", " 0", "0\n", "\xff", "0100", "1100", number(mostPairs + 1)}
}

func TestErrForm(t *testing.T) {
	full := slices.Repeat(api.Program{move(0, 0)}, api.MaxCode) // with a tree it would be ErrSize
	check := func(p api.Program, d string) {
		t.Helper()
		if q, e := spec.Spec(p, d); e != api.ErrForm || len(q) != 0 {
			t.Errorf("Spec(%s, %q): %s, %d", show(p), short(d), show(q), e)
		}
	}
	for _, p := range invalid() {
		for _, d := range []string{"0", "100", number(mostPairs), "", "1"} {
			check(p, d)
		}
	}
	for _, d := range notTrees() {
		for _, p := range []api.Program{nil, {move(31, 0)}, full} {
			check(p, d)
		}
	}
}

// The result has at most MaxCode instructions.
func TestErrSizeOfInstructions(t *testing.T) {
	for n, want := range map[int]api.Errno{api.MaxCode - 3: api.OK, api.MaxCode - 2: api.ErrSize, api.MaxCode - 1: api.ErrSize, api.MaxCode: api.ErrSize} {
		p := slices.Repeat(api.Program{jump(31, 1)}, n)
		q, e := spec.Spec(p, "100")
		if e != want || e == api.OK && !slices.Equal(q, specOf(p, "100")) || e != api.OK && len(q) != 0 {
			t.Errorf("%d instructions: %d, %d", n, len(q), e)
		}
	}
}

// The trees of the result, that which makes register 1 nil again among them, have at most MaxTree characters.
func TestErrSizeOfTrees(t *testing.T) {
	for _, c := range []struct {
		p    api.Program
		d    string
		want api.Errno
	}{
		{nil, number(mostPairs), api.OK}, // 2000000 characters
		{api.Program{move(0, 0)}, number(mostPairs), api.OK},
		{api.Program{set(0, "0")}, number(mostPairs), api.ErrSize},
		{api.Program{set(0, "0")}, number(mostPairs - 1), api.OK},
		{api.Program{set(0, "0"), set(3, "0")}, number(mostPairs - 1), api.OK},
		{api.Program{set(0, "100")}, number(mostPairs - 1), api.ErrSize},
		{api.Program{set(0, "0"), set(1, "0"), set(2, "0")}, number(mostPairs - 1), api.ErrSize},
		{api.Program{set(0, number(499999)), set(0, "0")}, number(499998), api.OK},
		{api.Program{set(0, number(499999))}, number(499999), api.OK},
		{api.Program{set(0, number(499999))}, number(500000), api.ErrSize},
		{api.Program{set(0, number(mostPairs))}, "0", api.ErrSize},
		{api.Program{set(0, number(mostPairs-1))}, "0", api.OK},
		{api.Program{set(0, number(mostPairs-1)), set(0, "0")}, "0", api.OK},
		{api.Program{set(0, number(mostPairs-1))}, "100", api.ErrSize},
	} {
		q, e := spec.Spec(c.p, c.d)
		if e != c.want || e == api.OK && !slices.Equal(q, specOf(c.p, c.d)) || e != api.OK && len(q) != 0 {
			t.Errorf("%s with a tree of %d characters: %d instructions, %d; not %d", show(c.p), len(c.d), len(q), e, c.want)
		}
	}
}

// R5: arguments are not changed, and results are new memory.
func TestNewMemory(t *testing.T) {
	room := make(api.Program, 0, 100)
	room = append(room, set(0, strings.Clone("11000")), set(3, strings.Clone("1011000")), jump(3, 1))
	beyond := room[:100]
	for i := len(room); i < 100; i++ {
		beyond[i] = move(1, 1)
	}
	kept, d := slices.Clone(beyond), strings.Clone("1100100")
	p := must(t, room, d)
	old := []*byte{unsafe.StringData(d), unsafe.StringData(room[0].Tree), unsafe.StringData(room[1].Tree)}
	for _, in := range p {
		if in.Tree != "" && slices.Contains(old, unsafe.StringData(in.Tree)) {
			t.Errorf("the tree %s is not new", in.Tree)
		}
	}
	for i := range p {
		p[i] = api.Instr{}
	}
	if !slices.Equal(beyond, kept) {
		t.Error("Spec changes its arguments")
	}
	must(t, room, d)
}
