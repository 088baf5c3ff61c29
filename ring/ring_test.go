package ring_test

import (
	"math/rand"
	"slices"
	"strings"
	"testing"
	"unsafe"

	"narcissus/api"
	"narcissus/code"
	"narcissus/know"
	"narcissus/ring"
	"narcissus/run"
	"narcissus/sample"
	"narcissus/univ"
	"narcissus/write"
)

const (
	around  = 33                   // instructions of a program that Together makes of the empty one
	longest = api.MaxCode - around // instructions of the longest program that Together takes
	bearing = 22                   // instructions of Bearer of the empty program, and its steps
)

// overhead is how many steps a program that Together makes of one of n needs more than that one.
func overhead(n int) int { return 24 + 11*n }

// The chapter's programs, written down once more, to hold the package against them.

func togetherOf(l []api.Program) []api.Program {
	first := "head 2 0; tail 3 0; set 0 0; move 4 2; set 7 100; jump 7 4; head 6 4; cons 5 6 5; tail 4 4; jump 4 -3; cons 8 7 2; cons 8 1 8; set 9 1011000; set 10 1101001011000; jump 7 7; head 6 5; cons 6 9 6; cons 6 10 6; cons 6 8 6; cons 0 6 0; tail 5 5; jump 5 -6; cons 0 0 3; set 2 0; set 3 0; set 6 0; set 7 0; set 8 0; set 9 0; set 10 0"
	var r, made []api.Program
	for _, p := range l {
		r = append(r, append(sample.Program(first), p...))
	}
	y := codes(r)
	for _, p := range r {
		made = append(made, append(api.Program{write.Set(1, y), write.Cons(0, 1, 0), write.Set(1, "0")}, p...))
	}
	return made
}

func ringOf(n int) []api.Program {
	var l []api.Program
	for i := range n {
		l = append(l, sample.Program("head 0 0; "+strings.Repeat("tail 0 0; ", (i+1)%n)+"head 0 0"))
	}
	return togetherOf(l)
}

func bearerOf(p api.Program) api.Program {
	w := sample.Regs(p)
	q := append(api.Program{write.Head(w, 0), write.Tail(0, 0)}, p...)
	q, _ = know.Know(append(q, write.Cons(0, w, 0)))
	return q
}

// codes is the list of the codes of programs.
func codes(l []api.Program) string {
	s := ""
	for _, p := range l {
		s += "1" + sample.Code(p)
	}
	return s + "0"
}

// size is how many characters the list of the codes of programs has, which may be too many for a tree.
func size(l []api.Program) int {
	n := 1
	for _, p := range l {
		n += 1 + sample.Size(p)
	}
	return n
}

// equal reports whether two lists of programs are the same.
func equal(a, b []api.Program) bool {
	return slices.EqualFunc(a, b, slices.Equal[api.Program])
}

// allValid reports whether all programs are valid.
func allValid(l []api.Program) bool {
	for _, p := range l {
		if !code.Valid(p) {
			return false
		}
	}
	return true
}

// together is Together of programs for which it returns some.
func together(t *testing.T, l []api.Program) []api.Program {
	t.Helper()
	made, e := ring.Together(l)
	if e != api.OK || !equal(made, togetherOf(l)) || !allValid(made) {
		t.Fatalf("Together(%s): %s, %d", sample.Show(l...), sample.Show(made...), e)
	}
	return made
}

// bearer is Bearer of a program for which it returns one.
func bearer(t *testing.T, p api.Program) api.Program {
	t.Helper()
	b, e := ring.Bearer(p)
	if e != api.OK || !slices.Equal(b, bearerOf(p)) || !code.Valid(b) {
		t.Fatalf("Bearer(%s): %s, %d", sample.Show(p), sample.Show(b), e)
	}
	return b
}

// some returns programs that end, that do not, that come to a step that is too large, and that use the codes that they are given.
func some() []api.Program {
	return slices.Concat(sample.Ending(), sample.Endless(), sample.Growing(), []api.Program{
		sample.Program("head 1 0; tail 2 0; cons 0 2 1"), sample.Program("head 0 0; head 0 0; tail 0 0"), sample.Program("tail 0 0; tail 0 0; head 0 0"),
		sample.Program("head 0 0; tail 0 0; jump 0 -1; cons 0 31 0"), sample.Program("head 1 0; tail 0 0; tail 1 1; cons 0 0 0; jump 1 -2"),
		slices.Repeat(api.Program{write.Move(31, 0)}, 1000),
	})
}

// atRandom returns as many programs at random.
func atRandom(r *rand.Rand, n int) []api.Program {
	l := make([]api.Program, n)
	for i := range l {
		l[i] = sample.AtRandom(r.Intn)
	}
	return l
}

// does checks that p returns on x what q returns on in, in so many steps more, and nothing if that returns nothing.
func does(t *testing.T, p api.Program, x string, q api.Program, in string, more, fuel int) {
	t.Helper()
	want, k, f := run.Run(q, in, fuel)
	if f == api.OK {
		k += more
	}
	if y, n, e := run.Run(p, x, fuel+more); y != want || n != k || e != f {
		t.Fatalf("[%s], made of %s, on %s: %s, %d, %d; not %s, %d, %d", sample.Show(p), sample.Show(q), sample.Short(x), sample.Short(y), n, e, sample.Short(want), k, f)
	}
	if f != api.OK {
		return
	}
	if y, _, e := run.Run(p, x, k-1); e != api.ErrFuel || y != "" {
		t.Fatalf("%s on %s ends after less than %d steps: %s, %d", sample.Show(p), sample.Short(x), k, sample.Short(y), e)
	}
}

// known checks that each program of Together does on x what is promised.
func known(t *testing.T, l []api.Program, x string, fuel int) {
	t.Helper()
	made := together(t, l)
	in := sample.Pair(codes(made), x)
	for i, p := range made {
		does(t, p, x, l[i], in, overhead(len(l)), fuel)
	}
}

// P8.1: what the programs return, or nothing, after 24 + 11 n steps more.
func TestKnown(t *testing.T) {
	l := some()
	for i, p := range l {
		next, other := l[(i+1)%len(l)], l[(i+7)%len(l)]
		for _, x := range append(sample.Trees(3), sample.Number(3000), sample.Comb(3000)) {
			known(t, []api.Program{p}, x, 4000)
			known(t, []api.Program{p, next}, x, 4000)
			known(t, []api.Program{other, p, nil, p}, x, 4000)
		}
	}
}

// P8.1 up to the greatest number of programs.
func TestKnownOfMany(t *testing.T) {
	l := slices.Concat(sample.Ending(), sample.Endless(), sample.Ending())
	for _, n := range []int{5, 9, 10, 11, 20, api.MaxRing} {
		known(t, l[:n], "1100100", 500)
		known(t, make([]api.Program, n), "1011000", 500)
	}
}

// P8.1 for programs at random.
func TestKnownAtRandom(t *testing.T) {
	r := rand.New(rand.NewSource(1))
	l := sample.Trees(4)
	for range 200 {
		made := atRandom(r, 1+r.Intn(6))
		for range 2 {
			known(t, made, l[r.Intn(len(l))], 1000)
		}
	}
}

// P8.1: after 24 + 11 n steps the state is the first one of the program on the pair, so all registers but the first one are nil.
func TestStates(t *testing.T) {
	all := slices.Concat(sample.Growing(), sample.Ending(), sample.Endless(), sample.Ending())
	for _, l := range [][]api.Program{all[:1], all[:2], all[:3], all[8:16], all[20:28], all[:12]} {
		made := together(t, l)
		n := len(l)
		for i, p := range made {
			q, x := l[i], "11000"
			in := sample.Pair(codes(made), x)
			for k := range 9 {
				want, m, e := run.After(q, in, k)
				s, o, f := run.After(p, x, k+overhead(n))
				if e != f || e == api.OK && (o != m+overhead(n) || s.At != want.At+around || !slices.Equal(s.Regs, want.Regs)) {
					t.Fatalf("program %d of %d after %d steps: %d, %d, %d; not %d, %d, %d", i, n, k, s.At, o, f, want.At, m, e)
				}
			}
		}
	}
}

// P8.1: nothing but the trees of the runs counts as too large.
func TestLargestInputs(t *testing.T) {
	for _, l := range [][]api.Program{{nil}, {sample.Program("tail 0 0"), nil, sample.Program("head 0 0")}} {
		made := together(t, l)
		n := sample.MostPairs - 1 - size(made)/2
		for _, x := range []string{sample.Number(n), sample.Comb(n)} {
			for i, p := range made {
				does(t, p, x, l[i], sample.Pair(codes(made), x), overhead(len(l)), 9)
			}
		}
		for _, p := range made {
			if y, _, e := run.Run(p, sample.Number(n+1), 999); e != api.ErrSize || y != "" {
				t.Errorf("%s: %s, %d", sample.Show(l...), sample.Short(y), e)
			}
		}
	}
}

// deciding returns a program that returns a tree if the number in its input is 0, and otherwise runs the program whose code has an index in the list on the number less 1.
func deciding(index int, at0 string) api.Program {
	otherwise := sample.Program("tail 3 2; head 1 0; " + strings.Repeat("tail 1 1; ", index) + "head 1 1; cons 0 1 3; set 1 0; set 2 0; set 3 0")
	otherwise = append(otherwise, univ.Universal()...)
	at := api.Program{write.Tail(2, 0), write.Jump(2, 4), write.Set(0, at0), write.Set(1, "100"), write.Jump(1, len(otherwise)+1)}
	return append(at, otherwise...)
}

// P8.1, P5: the program for even numbers runs the one for odd numbers, whose code it knows, and the other way around.
func TestRunningEachOther(t *testing.T) {
	made := together(t, []api.Program{deciding(1, "100"), deciding(0, "0")})
	for _, c := range []struct {
		index, number int
		want          string
	}{{0, 0, "100"}, {0, 1, "0"}, {1, 0, "0"}, {1, 1, "100"}, {0, 2, "100"}, {1, 2, "0"}} {
		if y, k, e := run.Run(made[c.index], sample.Number(c.number), api.MaxFuel); e != api.OK || y != c.want {
			t.Errorf("program %d on %d: %s, %d, %d", c.index, c.number, sample.Short(y), k, e)
		}
	}
}

// P8.2, and where the codes lead, from each program once around.
func TestRing(t *testing.T) {
	for n := 1; n <= api.MaxRing; n++ {
		l, e := ring.Ring(n)
		if e != api.OK || len(l) != n || !equal(l, ringOf(n)) {
			t.Fatalf("Ring(%d): %s, %d", n, sample.Show(l...), e)
		}
		for i, p := range l {
			next := (i + 1) % n
			for _, x := range []string{"11000", sample.Number(10 * i)} {
				steps := overhead(n) + 2 + next
				if y, k, e := run.Run(p, x, steps); e != api.OK || y != sample.Code(l[next]) || k != steps {
					t.Fatalf("program %d of %d on %s: %s, %d, %d", i, n, sample.Short(x), sample.Short(y), k, e)
				}
			}
		}
		p := l[0]
		for i := range n {
			if !slices.Equal(p, l[i]) {
				t.Fatalf("program %d of %d: %s", i, n, sample.Show(p))
			}
			y, _, _ := run.Run(p, "100", 1000)
			p, _ = code.Decode(y)
		}
		if !slices.Equal(p, l[0]) {
			t.Fatalf("around %d programs: %s", n, sample.Show(p))
		}
	}
}

func TestRingErrArg(t *testing.T) {
	for _, n := range []int{0, -1, -2, -api.MaxRing, -sample.Greatest - 1, api.MaxRing + 1, 2 * api.MaxRing, 1 << 32, 1<<32 + 1, sample.Greatest} {
		if l, e := ring.Ring(n); e != api.ErrArg || len(l) != 0 {
			t.Errorf("Ring(%d): %d programs, %d", n, len(l), e)
		}
	}
}

// bears checks that Bearer(p) returns on x the pair of its code and what p returns, after 22 steps more, and nothing if that returns nothing.
func bears(t *testing.T, p api.Program, x string, fuel int) {
	t.Helper()
	b := bearer(t, p)
	want, k, f := run.Run(p, x, fuel)
	y, n, e := run.Run(b, x, fuel+bearing)
	if f == api.OK && (y != sample.Pair(sample.Code(b), want) || n != k+bearing) || e != f || f != api.OK && y != "" {
		t.Fatalf("Bearer(%s) on %s: %s, %d, %d; not %s, %d, %d", sample.Show(p), sample.Short(x), sample.Short(y), n, e, sample.Short(want), k, f)
	}
}

// P8.3 for programs that use each number of registers that Bearer takes, among them some that leave trees in all of them.
func TestBearer(t *testing.T) {
	l := slices.Concat(sample.Ending(), sample.Endless(), sample.Growing())
	for w := 1; w < api.MaxRegs; w++ {
		l = append(l, api.Program{write.Move(w-1, 0)}, api.Program{write.Set(w-1, "10100"), write.Cons(0, w-1, 0), write.Move(w-1, 0)})
	}
	for _, p := range l {
		if sample.Regs(p) == api.MaxRegs {
			continue
		}
		for _, x := range append(sample.Trees(4), sample.Number(3000), sample.Comb(3000)) {
			bears(t, p, x, 8000)
		}
	}
}

// P8.3 for programs at random.
func TestBearerAtRandom(t *testing.T) {
	r := rand.New(rand.NewSource(2))
	l := sample.Trees(4)
	for range 1000 {
		p := sample.AtRandom(r.Intn)
		if sample.Regs(p) == api.MaxRegs {
			continue
		}
		for range 3 {
			bears(t, p, l[r.Intn(len(l))], 1000)
		}
	}
}

// P8.4: different results for different lists of programs.
func TestDifferent(t *testing.T) {
	r := rand.New(rand.NewSource(3))
	var lists [][]api.Program
	for _, p := range some() {
		lists = append(lists, []api.Program{p}, []api.Program{p, nil}, []api.Program{nil, p}, []api.Program{p, p}, []api.Program{p, p, nil}, []api.Program{p, nil, p})
	}
	for range 500 {
		l := atRandom(r, 1+r.Intn(3))
		lists = append(lists, l, append([]api.Program{l[len(l)-1]}, l[:len(l)-1]...))
	}
	from := map[string]string{}
	for _, l := range lists {
		made, given := codes(together(t, l)), codes(l)
		if other, ok := from[made]; ok && other != given {
			t.Fatalf("Together(%s) is also that of the programs with the codes %s", sample.Show(l...), sample.Short(other))
		}
		from[made] = given
	}
	if len(from) < 500 {
		t.Errorf("only %d lists", len(from))
	}
}

// The chapter's examples.
func TestExamples(t *testing.T) {
	one, e := ring.Ring(1)
	if e != api.OK || len(one) != 1 {
		t.Fatal(len(one), e)
	}
	empty := together(t, []api.Program{nil, nil})
	for _, x := range append(sample.Trees(5), sample.Number(300000)) {
		if y, _, e := run.Run(one[0], x, 99); e != api.OK || y != sample.Code(one[0]) {
			t.Error(sample.Short(x), sample.Short(y), e)
		}
		for i, p := range empty {
			if y, _, e := run.Run(p, x, 99); e != api.OK || y != sample.Pair("1"+sample.Code(empty[0])+"1"+sample.Code(empty[1])+"0", x) {
				t.Error(i, sample.Short(x), sample.Short(y), e)
			}
		}
	}
}

// refuses checks that Together refuses a list of programs.
func refuses(t *testing.T, l []api.Program, want api.Errno) {
	t.Helper()
	if made, e := ring.Together(l); e != want || len(made) != 0 {
		t.Errorf("Together(%s) of %d programs: %d programs, %d; not %d", sample.Show(l...), len(l), len(made), e, want)
	}
}

// refusesBearer checks that Bearer refuses a program.
func refusesBearer(t *testing.T, p api.Program, want api.Errno) {
	t.Helper()
	if b, e := ring.Bearer(p); e != want || len(b) != 0 {
		t.Errorf("Bearer(%s) of %d instructions: %s, %d; not %d", sample.Show(p), len(p), sample.Show(b), e, want)
	}
}

// One program that is not valid counts more than their number and sizes.
func TestErrForm(t *testing.T) {
	large := api.Program{write.Set(0, sample.Number(sample.MostPairs))}
	many := make([]api.Program, api.MaxRing)
	for _, p := range sample.Invalid() {
		for _, l := range [][]api.Program{{p}, {p, nil}, {nil, p}, {large, p}, {p, large, large}, {nil, p, nil}, append(many[:len(many):len(many)], p), append([]api.Program{p}, many...)} {
			refuses(t, l, api.ErrForm)
		}
		refusesBearer(t, p, api.ErrForm)
		// ErrRegs would be due, too. What follows may give a jump a place to lead to.
		if q := append(slices.Clone(p), write.Move(31, 31)); !code.Valid(q) {
			refusesBearer(t, q, api.ErrForm)
		}
	}
}

// The number of programs counts more than their sizes.
func TestErrArg(t *testing.T) {
	refuses(t, nil, api.ErrArg)
	refuses(t, []api.Program{}, api.ErrArg)
	together(t, make([]api.Program, api.MaxRing))
	for _, n := range []int{api.MaxRing + 1, api.MaxRing + 2, 2 * api.MaxRing, 1000} {
		for _, p := range []api.Program{nil, sample.Program("head 0 0"), slices.Repeat(api.Program{write.Move(0, 0)}, api.MaxCode), {write.Set(0, sample.Number(30000))}} {
			refuses(t, slices.Repeat([]api.Program{p}, n), api.ErrArg)
		}
	}
}

// Bearer needs a register that the program does not use; Together needs none.
func TestErrRegs(t *testing.T) {
	large := write.Set(0, sample.Number(sample.MostPairs)) // it would be ErrSize, too
	for _, in := range []api.Instr{write.Set(31, "0"), write.Move(31, 0), write.Move(0, 31), write.Cons(31, 0, 0), write.Cons(0, 31, 0), write.Cons(0, 0, 31), write.Head(31, 0), write.Tail(0, 31), write.Jump(31, 1)} {
		refusesBearer(t, api.Program{in}, api.ErrRegs)
		refusesBearer(t, api.Program{in, large}, api.ErrRegs)
		refusesBearer(t, slices.Repeat(api.Program{write.Move(0, 0), in}, api.MaxCode/2), api.ErrRegs)
		known(t, []api.Program{{in}, {in}}, "1100100", 9)
	}
	for _, in := range []api.Instr{write.Set(30, "0"), write.Move(30, 0), write.Cons(0, 30, 0), write.Cons(0, 0, 30), write.Tail(0, 30), write.Jump(0, 1)} {
		bearer(t, api.Program{in})
	}
}

// Each instruction counts, those that are written around a program among them.
func TestErrSizeOfInstructions(t *testing.T) {
	of := func(n int) api.Program { return slices.Repeat(api.Program{write.Head(0, 0)}, n) }
	together(t, []api.Program{of(longest)})
	together(t, []api.Program{nil, of(longest), of(longest)})
	for _, n := range []int{longest + 1, longest + 2, longest + 3, longest + 4, api.MaxCode - 1, api.MaxCode} {
		refuses(t, []api.Program{of(n)}, api.ErrSize)
		refuses(t, []api.Program{nil, of(n)}, api.ErrSize)
		refuses(t, []api.Program{of(n), nil, of(longest)}, api.ErrSize)
	}
	bearer(t, of(api.MaxCode-bearing))
	for _, n := range []int{1, 2, 3, 4, 19, bearing} {
		refusesBearer(t, of(api.MaxCode-bearing+n), api.ErrSize)
	}
}

// Of all the trees and programs on the way, the list of the codes of what is returned is the largest.
func TestErrSizeOfTrees(t *testing.T) {
	for _, n := range []int{1, 2, 5, api.MaxRing} {
		for at := range n {
			l := make([]api.Program, n)
			l[at] = sample.Program("set 0 0")
			empty := size(togetherOf(l))
			// Each pair of a tree of a program is in that program and in the list that all of them are supplied with.
			each := 2 * (n + 1)
			pairs := (api.MaxTree - empty) / each
			for _, most := range []string{sample.Number(pairs), sample.Comb(pairs)} {
				l[at] = api.Program{write.Set(0, most)}
				if s := codes(together(t, l)); len(s) != empty+each*pairs || len(s) <= api.MaxTree-each {
					t.Errorf("program %d of %d: %d", at, n, len(s))
				}
			}
			for _, more := range []int{pairs + 1, pairs + 2, pairs + 100, 2*pairs - 100, 2 * pairs, sample.MostPairs / 2, sample.MostPairs - 20, sample.MostPairs} {
				l[at] = api.Program{write.Set(0, sample.Number(more))}
				refuses(t, l, api.ErrSize)
			}
			if n == api.MaxRing {
				break // the others are as the first one
			}
		}
	}
}

// No program is too large alone.
func TestErrSizeOfAll(t *testing.T) {
	for _, n := range []int{2, 5, api.MaxRing} {
		of := func(pairs int) []api.Program {
			return slices.Repeat([]api.Program{{write.Set(0, sample.Number(pairs))}}, n)
		}
		empty := size(togetherOf(of(0)))
		pairs := (api.MaxTree - empty) / (2 * n * (n + 1))
		together(t, of(pairs))
		for _, more := range []int{pairs + 1, 2 * pairs, api.MaxTree / 2 / n / 2, api.MaxTree/2/n - 1, api.MaxTree / 2 / n, sample.MostPairs - 1000} {
			refuses(t, of(more), api.ErrSize)
		}
	}
}

// Bearer writes no more trees into the program than Know does.
func TestBearerErrSize(t *testing.T) {
	empty := sample.Size(bearerOf(sample.Program("set 0 0")))
	n := (api.MaxTree - empty) / 4
	for _, most := range []string{sample.Number(n), sample.Comb(n)} {
		if b := bearer(t, api.Program{write.Set(0, most)}); len(sample.Code(b)) != empty+4*n {
			t.Error(len(sample.Code(b)))
		}
	}
	for _, more := range []int{n + 1, n + 2, 2 * n, sample.MostPairs - 20, sample.MostPairs} {
		refusesBearer(t, api.Program{write.Set(0, sample.Number(more))}, api.ErrSize)
	}
}

// The codes of long jumps are large, though the programs have no trees.
func TestErrSizeOfJumps(t *testing.T) {
	far := func(jumps int) api.Program {
		p := slices.Repeat(api.Program{write.Move(0, 0)}, 3800)
		for i := range jumps {
			p[i] = write.Jump(3, 3500)
		}
		return p
	}
	jump := sample.Size(far(1)) - sample.Size(far(0))
	for _, n := range []int{1, 2, 3} {
		of := func(jumps int) []api.Program { return append(make([]api.Program, n-1), far(jumps)) }
		most := (api.MaxTree - size(togetherOf(of(0)))) / jump / (n + 1)
		if most < 10 || most > 200 {
			t.Fatal(most)
		}
		together(t, of(most))
		for _, more := range []int{most + 1, most + 2, 200, 270, 285, 299} {
			refuses(t, of(more), api.ErrSize)
		}
	}
	for _, more := range []int{200, 270, 285, 299} {
		refusesBearer(t, far(more), api.ErrSize)
	}
}

// R5: arguments are not changed, results are new memory, and the programs of one result share none.
func TestNewMemory(t *testing.T) {
	room := make(api.Program, 0, 400)
	room = append(room, write.Set(0, strings.Clone("11000")), write.Jump(0, 1), write.Set(3, strings.Clone("1011000")))
	beyond := room[:400]
	for i := len(room); i < len(beyond); i++ {
		beyond[i] = write.Move(1, 1)
	}
	list := make([]api.Program, 0, 9)
	list = append(list, room, nil, room[:2], room[:0])
	all := append(list, room)[:9]
	kept, keptAll := slices.Clone(beyond), slices.Clone(all)
	old := []*byte{unsafe.StringData(room[0].Tree), unsafe.StringData(room[2].Tree)}
	for what, f := range map[string]func() []api.Program{
		"Together": func() []api.Program { return together(t, list) },
		"Bearer":   func() []api.Program { return []api.Program{bearer(t, room)} },
		"Ring":     func() []api.Program { l, _ := ring.Ring(4); return l },
	} {
		made, again := f(), f()
		for i, p := range made {
			for _, in := range p {
				if in.Tree != "" && slices.Contains(old, unsafe.StringData(in.Tree)) {
					t.Errorf("%s: the tree %s is not new", what, in.Tree)
				}
			}
			p = p[:cap(p)]
			clear(p)
			if !equal(made[i+1:], again[i+1:]) {
				t.Errorf("%s: program %d shares memory with a later one", what, i)
			}
		}
		if !slices.Equal(beyond, kept) || !equal(all, keptAll) || !equal(f(), again) {
			t.Errorf("%s shares memory with its argument, or its results do", what)
		}
	}
}

// R4: nil and empty are the same.
func TestEmpty(t *testing.T) {
	if !equal(together(t, []api.Program{{}, nil}), together(t, []api.Program{nil, {}})) || !slices.Equal(bearer(t, api.Program{}), bearer(t, nil)) {
		t.Error("an empty slice is not as nil")
	}
	if p := together(t, []api.Program{nil})[0]; len(p) != around {
		t.Error(len(p))
	}
	if b := bearer(t, nil); len(b) != bearing {
		t.Error(len(b))
	}
}
