package run_test

import (
	"math/rand"
	"slices"
	"strings"
	"testing"
	"unsafe"

	"narcissus/api"
	"narcissus/code"
	"narcissus/run"
)

const (
	mostPairs = 999999 // pairs of the longest valid tree
	greatest  = int(^uint(0) >> 1)
)

func set(a int, s string) api.Instr { return api.Instr{Op: api.OpSet, A: a, Tree: s} }
func move(a, b int) api.Instr       { return api.Instr{Op: api.OpMove, A: a, B: b} }
func cons(a, b, c int) api.Instr    { return api.Instr{Op: api.OpCons, A: a, B: b, C: c} }
func head(a, b int) api.Instr       { return api.Instr{Op: api.OpHead, A: a, B: b} }
func tail(a, b int) api.Instr       { return api.Instr{Op: api.OpTail, A: a, B: b} }
func jump(a, b int) api.Instr       { return api.Instr{Op: api.OpJump, A: a, B: b} }

// number is the number n as a tree, nested in the tails.
func number(n int) string { return strings.Repeat("10", n) + "0" }

// comb is a tree with n pairs that is nested in the heads.
func comb(n int) string { return strings.Repeat("1", n) + strings.Repeat("0", n+1) }

// full is the tree in which every path has the length depth.
func full(depth int) string {
	s := "0"
	for range depth {
		s = "1" + s + s
	}
	return s
}

// large returns trees of nearly MaxTree characters, of different shapes.
func large() []string {
	return []string{number(mostPairs), comb(mostPairs), strings.Repeat("110", mostPairs/2) + strings.Repeat("0", mostPairs/2+1), full(19), "1" + full(18) + number(700000)}
}

// registers returns MaxRegs registers with the given trees in the first ones.
func registers(l ...string) []string {
	for len(l) < api.MaxRegs {
		l = append(l, "0")
	}
	return l
}

func state(at int, l ...string) api.State { return api.State{At: at, Regs: registers(l...)} }

func equal(s, t api.State) bool { return s.At == t.At && slices.Equal(s.Regs, t.Regs) }

func zero(s api.State) bool { return s.At == 0 && len(s.Regs) == 0 }

func short(s string) string {
	if len(s) > 60 {
		return s[:60] + ".."
	}
	return s
}

func show(p api.Program) string {
	s, _ := code.Text(p)
	return short(s)
}

func program(t *testing.T, s string) api.Program {
	t.Helper()
	p, e := code.Parse(s)
	if e != api.OK {
		t.Fatalf("%q: %d", s, e)
	}
	return p
}

// The chapter's steps, written down once more, with trees as strings, to hold the package against them.

// parts returns the head and the tail of a tree.
func parts(s string) (string, string) {
	if s == "0" {
		return "0", "0"
	}
	open, end := 1, 1
	for ; open > 0; end++ {
		open += 2*int(s[end]-'0') - 1
	}
	return s[1:end], s[end:]
}

// after returns the state after a step, or false if the step is too large.
func after(p api.Program, s api.State) (api.State, bool) {
	in := p[s.At]
	next := api.State{At: s.At + 1, Regs: slices.Clone(s.Regs)}
	a, x := &next.Regs[in.A], s.Regs[in.A]
	switch in.Op {
	case api.OpSet:
		*a = in.Tree
	case api.OpMove:
		*a = s.Regs[in.B]
	case api.OpCons:
		*a = "1" + s.Regs[in.B] + s.Regs[in.C]
	case api.OpHead:
		*a, _ = parts(s.Regs[in.B])
	case api.OpTail:
		_, *a = parts(s.Regs[in.B])
	case api.OpJump:
		if x != "0" {
			next.At = s.At + in.B
		}
	}
	return next, len(*a) <= api.MaxTree
}

// most is the number of steps up to which the runs below are compared; it is small enough for no tree to be too large.
const most = 16

// states returns the states of a run, at most one more than steps are compared.
func states(p api.Program, x string) []api.State {
	l := []api.State{state(0, x)}
	for len(l) <= most && l[len(l)-1].At < len(p) {
		s, _ := after(p, l[len(l)-1])
		l = append(l, s)
	}
	return l
}

// compare compares all functions with the states of a run (P3.1, P3.2).
func compare(t *testing.T, p api.Program, x string) {
	t.Helper()
	l := states(p, x)
	last := len(l) - 1
	ended := l[last].At == len(p)
	s, e := run.First(p, x)
	if e != api.OK || !equal(s, l[0]) {
		t.Fatalf("First of %q on %s: %v, %d", show(p), x, s, e)
	}
	for k := range most + 1 {
		s, n, e := run.After(p, x, k)
		if want := min(k, last); e != api.OK || n != want || !equal(s, l[want]) {
			t.Fatalf("After %d steps of %q on %s: %v, %d, %d; not %v", k, show(p), x, s, n, e, l[want])
		}
		y, n, e := run.Run(p, x, k)
		if ended && last <= k {
			if e != api.OK || n != last || y != l[last].Regs[0] {
				t.Fatalf("Run of %q on %s with %d: %s, %d, %d; not %v", show(p), x, k, y, n, e, l[last])
			}
		} else if e != api.ErrFuel || n != 0 || y != "" {
			t.Fatalf("Run of %q on %s with %d: %s, %d, %d", show(p), x, k, y, n, e)
		}
	}
	for i, s := range l {
		u, e := run.Step(p, s)
		if s.At == len(p) {
			if e != api.ErrState || !zero(u) {
				t.Fatalf("Step of %q at the end: %v, %d", show(p), u, e)
			}
		} else if i < last && (e != api.OK || !equal(u, l[i+1])) {
			t.Fatalf("Step of %q from %v: %v, %d; not %v", show(p), s, u, e, l[i+1])
		}
	}
}

// P3.1, P3.2: all programs with up to two instructions and few registers.
func TestRunsOfShortPrograms(t *testing.T) {
	var l []api.Instr
	for a := range 2 {
		for b := range 2 {
			l = append(l, move(a, b), head(a, b), tail(a, b), cons(a, b, 0), cons(a, b, 1))
		}
		for b := -1; b <= 2; b++ {
			l = append(l, jump(a, b))
		}
		l = append(l, set(a, "0"), set(a, "1100100"))
	}
	for _, x := range []string{"0", "100", "1101000", "110010100"} {
		compare(t, nil, x)
		for _, in := range l {
			for _, other := range l {
				for _, p := range []api.Program{{in}, {in, other}} {
					if code.Valid(p) {
						compare(t, p, x)
					}
				}
			}
		}
	}
}

// anything returns an instruction for the place at of a program with n instructions, with registers below regs.
func anything(r *rand.Rand, at, n, regs int) api.Instr {
	a, b := r.Intn(regs), r.Intn(regs)
	switch r.Intn(8) {
	case 0:
		return set(a, []string{"0", "100", "1110010100100"}[r.Intn(3)])
	case 1:
		return move(a, b)
	case 2, 3:
		return cons(a, b, r.Intn(regs))
	case 4:
		return head(a, b)
	case 5:
		return tail(a, b)
	}
	return jump(a, r.Intn(n+1)-at)
}

// P3.1, P3.2: programs of all lengths, the same ones each time.
func TestRunsOfManyPrograms(t *testing.T) {
	r := rand.New(rand.NewSource(3))
	ended := 0
	for range 3000 {
		p := make(api.Program, 1+r.Intn(12))
		regs := []int{2, 3, 4, 32}[r.Intn(4)]
		for i := range p {
			p[i] = anything(r, i, len(p), regs)
		}
		x := []string{"0", "100", "11010010100", "11100110100100110100100"}[r.Intn(4)]
		compare(t, p, x)
		if l := states(p, x); l[len(l)-1].At == len(p) {
			ended++
		}
	}
	if ended < 500 || ended > 2500 {
		t.Error("not of all sorts:", ended)
	}
}

// P3.3: from any state, a step does what the instruction says with the registers that it names, and changes at most one.
func TestStepsFromAnyState(t *testing.T) {
	r := rand.New(rand.NewSource(33))
	for range 20000 {
		p := make(api.Program, 1+r.Intn(5))
		for i := range p {
			p[i] = anything(r, i, len(p), api.MaxRegs)
		}
		s := state(r.Intn(len(p)))
		for i := range s.Regs {
			s.Regs[i] = "1" + number(i) + number(r.Intn(3))
			if r.Intn(4) == 0 {
				s.Regs[i] = "0"
			}
		}
		want, _ := after(p, s)
		u, e := run.Step(p, s)
		if e != api.OK || !equal(u, want) {
			t.Fatalf("Step of %q from %v: %v, %d; not %v", show(p), s, u, e, want)
		}
		changed := 0
		for i := range s.Regs {
			if s.Regs[i] == u.Regs[i] {
				continue
			}
			changed++
			if in := p[s.At]; i != in.A && i != in.B && i != in.C {
				t.Fatalf("Step of %q changes register %d", show(p), i)
			}
		}
		if changed > 1 {
			t.Fatalf("Step of %q changes %d registers", show(p), changed)
		}
	}
}

// Each operation once, by hand.
func TestOperations(t *testing.T) {
	from := []string{"1100100", "110100100", "0"}
	for _, c := range []struct {
		in   api.Instr
		at   int
		regs []string
	}{
		{set(1, "10100"), 3, []string{"1100100", "10100", "0"}},
		{set(0, "0"), 3, []string{"0", "110100100", "0"}},
		{move(2, 1), 3, []string{"1100100", "110100100", "110100100"}},
		{move(1, 2), 3, []string{"1100100", "0", "0"}},
		{move(1, 1), 3, from},
		{cons(2, 0, 1), 3, []string{"1100100", "110100100", "11100100110100100"}},
		{cons(2, 1, 0), 3, []string{"1100100", "110100100", "11101001001100100"}},
		{cons(1, 1, 1), 3, []string{"1100100", "1110100100110100100", "0"}},
		{cons(2, 2, 2), 3, []string{"1100100", "110100100", "100"}},
		{head(2, 1), 3, []string{"1100100", "110100100", "10100"}},
		{head(1, 1), 3, []string{"1100100", "10100", "0"}},
		{head(1, 2), 3, []string{"1100100", "0", "0"}},
		{tail(0, 1), 3, []string{"100", "110100100", "0"}},
		{tail(1, 1), 3, []string{"1100100", "100", "0"}},
		{tail(0, 2), 3, []string{"0", "110100100", "0"}},
		{jump(0, 1), 3, from}, {jump(0, 2), 4, from}, {jump(0, 0), 2, from}, {jump(1, -2), 0, from}, {jump(2, -1), 3, from}, {jump(2, 2), 3, from}, {jump(31, 0), 3, from},
	} {
		p := api.Program{move(0, 0), move(0, 0), c.in, move(0, 0)}
		s, e := run.Step(p, state(2, slices.Clone(from)...))
		if e != api.OK || !equal(s, state(c.at, slices.Clone(c.regs)...)) {
			t.Errorf("Step of %s: %v, %d", show(p), s, e)
		}
	}
}

func TestExamples(t *testing.T) {
	if y, n, e := run.Run(program(t, "tail 0 0"), "10100", 1); y != "100" || n != 1 || e != api.OK {
		t.Error(y, n, e)
	}
	for _, x := range append(large(), "0", "10100") {
		for _, fuel := range []int{0, 1, api.MaxFuel} {
			if y, n, e := run.Run(nil, x, fuel); y != x || n != 0 || e != api.OK {
				t.Error(short(y), n, e)
			}
		}
	}
	for _, fuel := range []int{0, 1, 2, 3, 1000, api.MaxFuel} {
		if y, n, e := run.Run(program(t, "set 1 100; jump 1 0"), "0", fuel); y != "" || n != 0 || e != api.ErrFuel {
			t.Error(fuel, y, n, e)
		}
	}
	if y, n, e := run.Run(program(t, "cons 0 0 0; jump 0 -1"), "0", api.MaxFuel); y != "" || n != 0 || e != api.ErrSize {
		t.Error(y, n, e)
	}
}

// P3.2: with more fuel it returns the same; here for runs of known lengths, up to MaxFuel.
func TestLongRuns(t *testing.T) {
	count := program(t, "jump 0 2; jump 31 0; tail 0 0; jump 0 -1") // jump, and two steps for each pair
	for _, c := range []struct {
		p     api.Program
		x     string
		steps int
	}{
		{slices.Repeat(api.Program{tail(0, 0)}, api.MaxCode), number(api.MaxCode), api.MaxCode},
		{program(t, "tail 0 0; jump 0 -1"), number(1000), 2000},
		{program(t, "tail 0 0; jump 0 -1"), number(mostPairs), 2 * mostPairs},
		{count, number(mostPairs), 2*mostPairs + 1},
		{program(t, "head 0 0; jump 0 -1"), comb(mostPairs), 2 * mostPairs},
		{program(t, "move 1 0; "+strings.Repeat("move 0 1; tail 0 0; jump 0 -1; ", 5)+"move 2 2; move 2 2; move 2 2; move 2 2"), number(mostPairs), api.MaxFuel},
	} {
		for _, more := range []int{0, 1, 1000, api.MaxFuel - c.steps} {
			if c.steps+more > api.MaxFuel {
				continue
			}
			if y, n, e := run.Run(c.p, c.x, c.steps+more); y != "0" || n != c.steps || e != api.OK {
				t.Errorf("Run of %q with %d: %s, %d, %d", show(c.p), c.steps+more, short(y), n, e)
			}
		}
		if y, n, e := run.Run(c.p, c.x, c.steps-1); y != "" || n != 0 || e != api.ErrFuel {
			t.Errorf("Run of %q with %d: %s, %d, %d", show(c.p), c.steps-1, short(y), n, e)
		}
	}
}

// P3.4: pairs are too large from MaxTree characters on, whatever their parts are.
func TestSizes(t *testing.T) {
	half := number(499999) // of 999999 characters
	for _, c := range []struct {
		a, b string
		want api.Errno
	}{
		{"0", number(mostPairs - 1), api.OK}, {number(mostPairs - 1), "0", api.OK}, {comb(mostPairs - 1), "0", api.OK},
		{half, half, api.OK}, {half, comb(499999), api.OK}, {full(18), number(737854), api.OK},
		{"0", number(mostPairs), api.ErrSize}, {number(mostPairs), "0", api.ErrSize}, {comb(mostPairs), "0", api.ErrSize},
		{half, number(500000), api.ErrSize}, {comb(500000), half, api.ErrSize}, {full(18), number(737856), api.ErrSize},
		{full(19), full(19), api.ErrSize}, {number(mostPairs), comb(mostPairs), api.ErrSize},
	} {
		p := api.Program{cons(2, 0, 1)}
		s, e := run.Step(p, state(0, c.a, c.b))
		if e != c.want || e == api.OK && !equal(s, state(1, c.a, c.b, "1"+c.a+c.b)) || e != api.OK && !zero(s) {
			t.Errorf("Step with %s and %s: %d, %d", short(c.a), short(c.b), s.At, e)
		}
		p = program(t, "head 1 0; tail 2 0; cons 0 1 2; cons 0 1 2")
		if y, n, e := run.Run(p, "1"+c.a+c.b, 9); c.want == api.OK && (y != "1"+c.a+c.b || n != 4 || e != api.OK) {
			t.Errorf("Run with %s and %s: %s, %d, %d", short(c.a), short(c.b), short(y), n, e)
		}
		p = api.Program{set(1, c.a), cons(0, 1, 0), set(1, "0")}
		if y, n, e := run.Run(p, c.b, 9); e != c.want || e == api.OK && (y != "1"+c.a+c.b || n != 3) || e != api.OK && (y != "" || n != 0) {
			t.Errorf("Run of a pair with %s and %s: %s, %d, %d", short(c.a), short(c.b), short(y), n, e)
		}
	}
}

// The other operations take the largest trees.
func TestLargeTrees(t *testing.T) {
	p := program(t, "move 1 0; head 2 1; tail 3 1; cons 0 2 3; move 31 0")
	for _, x := range large() {
		a, b := parts(x)
		regs := registers(x, x, a, b)
		regs[31] = x
		if s, n, e := run.After(p, x, 100); e != api.OK || n != 5 || s.At != 5 || !slices.Equal(s.Regs, regs) {
			t.Errorf("After on %s: %d, %d", short(x), n, e)
		}
		if y, n, e := run.Run(api.Program{set(0, x)}, "0", 1); e != api.OK || n != 1 || y != x {
			t.Errorf("Run of set 0 %s: %s, %d, %d", short(x), short(y), n, e)
		}
		if s, e := run.First(p, x); e != api.OK || !equal(s, state(0, x)) {
			t.Errorf("First on %s: %d", short(x), e)
		}
		s := state(0, x, "100")
		for i, want := range []api.State{state(1, x, x), state(2, x, x, a), state(3, x, x, a, b), state(4, x, x, a, b)} {
			u, e := run.Step(p, s)
			if e != api.OK || !equal(u, want) {
				t.Errorf("Step %d on %s: %d, %d", i, short(x), u.At, e)
			}
			s = u
		}
	}
}

// P3.1: k steps, one by one, up to trees that are too large.
func TestDoublingByStep(t *testing.T) {
	p := program(t, "cons 0 0 0; jump 0 -1")
	s, e := run.First(p, "0")
	for k := 0; ; k++ {
		u, n, f := run.After(p, "0", k)
		if k == 39 {
			if e != api.ErrSize || f != api.ErrSize || !zero(s) || !zero(u) || n != 0 {
				t.Error(s.At, e, u.At, n, f)
			}
			break
		}
		if want := full((k + 1) / 2); e != api.OK || f != api.OK || n != k || !equal(s, state(k%2, want)) || !equal(u, s) {
			t.Fatal(k, s.At, e, u.At, n, f)
		}
		s, e = run.Step(p, s)
	}
}

// P3.4: the number of steps after which a tree is too large depends on its size alone; the step counts.
func TestDoubling(t *testing.T) {
	p := program(t, "cons 0 0 0; jump 0 -1")
	for j := range 20 {
		for _, x := range []string{full(j), number(1<<j - 1), comb(1<<j - 1)} { // of 2^(j+1) - 1 characters
			steps := 2*(20-j) - 1
			if y, n, e := run.Run(p, x, steps-1); y != "" || n != 0 || e != api.ErrFuel {
				t.Error(j, steps-1, short(y), n, e)
			}
			if s, n, e := run.After(p, x, steps-1); n != steps-1 || e != api.OK || s.At != 0 || len(s.Regs[0]) != 1<<20-1 {
				t.Error(j, steps-1, s.At, n, e)
			}
			for _, more := range []int{0, 1, 1000, api.MaxFuel - steps} {
				if y, n, e := run.Run(p, x, steps+more); y != "" || n != 0 || e != api.ErrSize {
					t.Error(j, steps+more, short(y), n, e)
				}
				if s, n, e := run.After(p, x, steps+more); !zero(s) || n != 0 || e != api.ErrSize {
					t.Error(j, steps+more, s.At, n, e)
				}
			}
		}
	}
}

// P3.4: a tree that grows pair by pair is too large after as many steps as its size says.
func TestGrowing(t *testing.T) {
	for _, c := range []struct{ s, last string }{{"cons 0 1 0; jump 0 -1", number(mostPairs)}, {"cons 0 0 1; jump 0 -1", comb(mostPairs)}} {
		p := program(t, c.s)
		const steps = 2 * mostPairs
		if s, n, e := run.After(p, "0", steps); e != api.OK || n != steps || !equal(s, state(0, c.last)) {
			t.Errorf("%s: %d, %d, %d", c.s, s.At, n, e)
		}
		if y, n, e := run.Run(p, "0", steps); y != "" || n != 0 || e != api.ErrFuel {
			t.Errorf("%s: %s, %d, %d", c.s, short(y), n, e)
		}
		if y, n, e := run.Run(p, "0", steps+1); y != "" || n != 0 || e != api.ErrSize {
			t.Errorf("%s: %s, %d, %d", c.s, short(y), n, e)
		}
	}
}

// P3.4: large trees are made in as little time as small ones, or this does not come to an end.
func TestManyLargeTrees(t *testing.T) {
	p := slices.Concat(api.Program{set(0, "0")}, slices.Repeat(api.Program{cons(0, 0, 0)}, 19), api.Program{move(1, 0), head(2, 1), tail(3, 1), cons(4, 2, 3), jump(0, -24)})
	if y, n, e := run.Run(p, "0", api.MaxFuel); y != "" || n != 0 || e != api.ErrFuel {
		t.Error(short(y), n, e)
	}
	x := full(19)
	a, _ := parts(x)
	if s, n, e := run.After(p, "0", api.MaxFuel-1); e != api.OK || n != api.MaxFuel-1 || !equal(s, state(24, x, x, a, a, x)) {
		t.Error(s.At, n, e)
	}
	// All registers are large, and share nearly all of it; register 31 is nil until it is made itself.
	p = api.Program{set(0, full(18))}
	for i := range api.MaxRegs - 1 {
		p = append(p, cons(i+1, 0, i%2*31))
	}
	s, n, e := run.After(p, "0", api.MaxFuel)
	if e != api.OK || n != api.MaxRegs || s.At != len(p) {
		t.Fatal(s.At, n, e)
	}
	for i, y := range s.Regs[1:] {
		if y != "1"+full(18)+[]string{full(18), "0"}[i%2] {
			t.Errorf("register %d: %s", i+1, short(y))
		}
	}
}

// A jump may lead to any place, and to the end.
func TestJumps(t *testing.T) {
	for _, c := range []struct {
		s     string
		steps int
		y     string
	}{
		{"jump 0 1", 1, "100"}, {"jump 1 0", 1, "100"}, {"jump 0 3; set 0 0; set 0 0", 1, "100"},
		{"jump 0 2; jump 0 2; jump 0 -1", 3, "100"}, {"jump 1 2; set 0 0; move 1 1", 3, "0"},
		{"jump 31 1; jump 0 2; jump 0 0; set 31 0", 3, "100"}, {"tail 0 0; jump 0 -1", 2, "0"},
	} {
		if y, n, e := run.Run(program(t, c.s), "100", 9); y != c.y || n != c.steps || e != api.OK {
			t.Errorf("%s: %s, %d, %d", c.s, y, n, e)
		}
	}
	for _, s := range []string{"jump 0 0", "move 0 0; jump 0 0", "jump 0 1; jump 0 -1", "cons 1 0 0; jump 1 -1; set 0 0"} {
		if y, n, e := run.Run(program(t, s), "100", api.MaxFuel); y != "" || n != 0 || e != api.ErrFuel {
			t.Errorf("%s: %s, %d, %d", s, y, n, e)
		}
	}
}

// call calls all functions, and reports those errors that are not the wanted ones, and results beside them.
func call(t *testing.T, what string, p api.Program, x string, s api.State, k int, first, step, runs api.Errno) {
	t.Helper()
	if u, e := run.First(p, x); e != first || e != api.OK && !zero(u) {
		t.Errorf("First of %s: %v, %d", what, u.At, e)
	}
	if u, e := run.Step(p, s); e != step || e != api.OK && !zero(u) {
		t.Errorf("Step of %s: %v, %d", what, u.At, e)
	}
	if y, n, e := run.Run(p, x, k); e != runs || e != api.OK && (y != "" || n != 0) {
		t.Errorf("Run of %s: %s, %d, %d", what, short(y), n, e)
	}
	if u, n, e := run.After(p, x, k); e != runs || e != api.OK && (!zero(u) || n != 0) {
		t.Errorf("After of %s: %v, %d, %d", what, u.At, n, e)
	}
}

func TestErrForm(t *testing.T) {
	good := program(t, "tail 0 0")
	for i, p := range []api.Program{
		slices.Repeat(good, api.MaxCode+1), {{Op: -1}}, {{Op: api.Ops}}, {{Op: greatest}}, {jump(0, 2)}, {jump(0, -1)}, {move(0, 32)}, {move(-1, 0)}, {cons(0, 0, 32)},
		{set(0, "")}, {set(0, "00")}, {set(32, "0")}, {set(0, number(mostPairs)), set(0, "100")}, {{Op: api.OpMove, C: 1}}, {{Op: api.OpTail, Tree: "0"}},
		{jump(0, greatest)}, {jump(0, -greatest-1)}, {head(0, -greatest-1)}, {tail(0, 0), {Op: api.OpSet}},
	} {
		for _, k := range []int{0, 9, -1, api.MaxFuel + 1} {
			call(t, "program "+number(i), p, "100", state(0), k, api.ErrForm, api.ErrForm, api.ErrForm)
			call(t, "program and input "+number(i), p, "1", state(-1), k, api.ErrForm, api.ErrForm, api.ErrForm)
		}
		call(t, "ended program "+number(i), p, "100", state(len(p)), 9, api.ErrForm, api.ErrForm, api.ErrForm)
	}
	for _, x := range []string{"", "1", "00", "2", "10", "100 ", "0\n", "\xff", number(mostPairs + 1), comb(mostPairs + 1)} {
		for _, k := range []int{0, 9, -1, api.MaxFuel + 1} {
			call(t, "input "+short(x), good, x, state(0), k, api.ErrForm, api.OK, api.ErrForm)
			call(t, "input of the empty program "+short(x), nil, x, state(0), k, api.ErrForm, api.ErrState, api.ErrForm)
		}
		for r := range api.MaxRegs {
			s := state(0)
			s.Regs[r] = x
			call(t, "state with "+short(x), good, "0", s, 1, api.OK, api.ErrForm, api.OK)
			s.At = 1
			call(t, "last state with "+short(x), good, "0", s, 1, api.OK, api.ErrForm, api.OK)
		}
	}
	for _, s := range []api.State{
		{}, {At: 1}, {Regs: []string{}}, {Regs: registers()[1:]}, {Regs: registers()[:1]}, {Regs: append(registers(), "0")}, {At: 1, Regs: append(registers(), "0")}, {At: 1, Regs: registers()[2:]},
		{Regs: make([]string, api.MaxRegs)}, state(-1), state(2), state(32), state(greatest), state(-greatest - 1),
	} {
		call(t, "state", good, "0", s, 1, api.OK, api.ErrForm, api.OK)
	}
	call(t, "place 1 of the empty program", nil, "0", state(1), 0, api.OK, api.ErrForm, api.OK)
}

func TestErrArg(t *testing.T) {
	for _, p := range []api.Program{nil, program(t, "tail 0 0"), program(t, "jump 0 0"), program(t, "cons 0 0 0")} {
		for _, k := range []int{-1, -2, -greatest - 1, api.MaxFuel + 1, 2 * api.MaxFuel, greatest} {
			for _, x := range []string{"100", number(mostPairs)} {
				if y, n, e := run.Run(p, x, k); y != "" || n != 0 || e != api.ErrArg {
					t.Errorf("Run of %q with %d: %s, %d, %d", show(p), k, short(y), n, e)
				}
				if s, n, e := run.After(p, x, k); !zero(s) || n != 0 || e != api.ErrArg {
					t.Errorf("After %d steps of %q: %v, %d, %d", k, show(p), s.At, n, e)
				}
			}
		}
	}
}

func TestEnds(t *testing.T) {
	p := program(t, "tail 0 0; move 1 0")
	for _, regs := range [][]string{{"0"}, {"100", "1100100"}, {number(mostPairs)}} {
		if s, e := run.Step(p, state(2, regs...)); e != api.ErrState || !zero(s) {
			t.Error(s.At, e)
		}
		if s, e := run.Step(nil, state(0, regs...)); e != api.ErrState || !zero(s) {
			t.Error(s.At, e)
		}
	}
	for _, k := range []int{2, 3, 1000, api.MaxFuel} {
		if s, n, e := run.After(p, "10100", k); e != api.OK || n != 2 || !equal(s, state(2, "100", "100")) {
			t.Error(k, s, n, e)
		}
	}
}

// R5: arguments are not changed, and results are new memory.
func TestNewMemory(t *testing.T) {
	p := api.Program{set(1, strings.Clone("1110000")), move(2, 1), tail(3, 0), jump(0, 1)}
	x := strings.Clone("11010100100")
	kept := slices.Clone(p)
	var results []string
	s, _ := run.First(p, x)
	results = append(results, s.Regs[0])
	for k := range len(p) + 1 {
		u, _, _ := run.After(p, x, k)
		results = append(results, u.Regs...)
	}
	for _, q := range []api.Program{nil, p, {set(0, p[0].Tree)}} {
		y, _, _ := run.Run(q, x, 9)
		results = append(results, y)
	}
	for _, y := range results {
		if d := unsafe.StringData(y); len(y) > 1 && (d == unsafe.StringData(x) || d == unsafe.StringData(p[0].Tree)) {
			t.Errorf("%s is not new", y)
		}
	}
	for at := range p {
		s := state(at, x, "10100", "100")
		before := state(at, x, "10100", "100")
		u, e := run.Step(p, s)
		want, _ := after(p, before)
		if e != api.OK || !equal(u, want) {
			t.Fatal(u, e)
		}
		for i, y := range u.Regs {
			if d := unsafe.StringData(y); len(y) > 1 && (slices.ContainsFunc(s.Regs, func(z string) bool { return d == unsafe.StringData(z) }) || d == unsafe.StringData(p[0].Tree)) {
				t.Errorf("register %d after %d is not new", i, at)
			}
			u.Regs[i] = "changed"
		}
		if !equal(s, before) {
			t.Errorf("the state %v was changed to %v", before, s)
		}
	}
	if !slices.Equal(p, kept) {
		t.Errorf("the program was changed to %v", p)
	}
}
