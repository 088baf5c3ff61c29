package run_test

import (
	"math/rand"
	"slices"
	"strings"
	"testing"
	"unsafe"

	"narcissus/api"
	"narcissus/code"
	"narcissus/run"
	"narcissus/sample"
	"narcissus/write"
)

// large returns trees of nearly MaxTree characters, of different shapes.
func large() []string {
	return []string{sample.Number(sample.MostPairs), sample.Comb(sample.MostPairs), strings.Repeat("110", sample.MostPairs/2) + strings.Repeat("0", sample.MostPairs/2+1), sample.Full(19), "1" + sample.Full(18) + sample.Number(700000)}
}

// registers returns MaxRegs registers with the given trees in the first ones.
func registers(l ...string) []string {
	for len(l) < api.MaxRegs {
		l = append(l, "0")
	}
	return l
}

func state(at int, l ...string) api.State { return api.State{At: at, Regs: registers(l...)} }

func equal(s, t api.State) bool { return s.At == t.At && slices.Equal(s.Regs, t.Regs) }

func zero(s api.State) bool { return s.At == 0 && len(s.Regs) == 0 }

// The chapter's steps, written down once more, with trees as strings, to hold the package against them.

// parts returns the head and the tail of a tree.
func parts(s string) (string, string) {
	if s == "0" {
		return "0", "0"
	}
	open, end := 1, 1
	for ; open > 0; end++ {
		open += 2*int(s[end]-'0') - 1
	}
	return s[1:end], s[end:]
}

// after returns the state after a step, or false if the step is too large.
func after(p api.Program, s api.State) (api.State, bool) {
	in := p[s.At]
	next := api.State{At: s.At + 1, Regs: slices.Clone(s.Regs)}
	a, x := &next.Regs[in.A], s.Regs[in.A]
	switch in.Op {
	case api.OpSet:
		*a = in.Tree
	case api.OpMove:
		*a = s.Regs[in.B]
	case api.OpCons:
		*a = "1" + s.Regs[in.B] + s.Regs[in.C]
	case api.OpHead:
		*a, _ = parts(s.Regs[in.B])
	case api.OpTail:
		_, *a = parts(s.Regs[in.B])
	case api.OpJump:
		if x != "0" {
			next.At = s.At + in.B
		}
	}
	return next, len(*a) <= api.MaxTree
}

// most is the number of steps up to which the runs below are compared; it is small enough for no tree to be too large.
const most = 16

// states returns the states of a run, at most one more than steps are compared.
func states(p api.Program, x string) []api.State {
	l := []api.State{state(0, x)}
	for len(l) <= most && l[len(l)-1].At < len(p) {
		s, _ := after(p, l[len(l)-1])
		l = append(l, s)
	}
	return l
}

// compare compares all functions with the states of a run (P3.1, P3.2).
func compare(t *testing.T, p api.Program, x string) {
	t.Helper()
	l := states(p, x)
	last := len(l) - 1
	ended := l[last].At == len(p)
	s, e := run.First(p, x)
	if e != api.OK || !equal(s, l[0]) {
		t.Fatalf("First of %q on %s: %v, %d", sample.Show(p), x, s, e)
	}
	for k := range most + 1 {
		s, n, e := run.After(p, x, k)
		if want := min(k, last); e != api.OK || n != want || !equal(s, l[want]) {
			t.Fatalf("After %d steps of %q on %s: %v, %d, %d; not %v", k, sample.Show(p), x, s, n, e, l[want])
		}
		y, n, e := run.Run(p, x, k)
		if ended && last <= k {
			if e != api.OK || n != last || y != l[last].Regs[0] {
				t.Fatalf("Run of %q on %s with %d: %s, %d, %d; not %v", sample.Show(p), x, k, y, n, e, l[last])
			}
		} else if e != api.ErrFuel || n != 0 || y != "" {
			t.Fatalf("Run of %q on %s with %d: %s, %d, %d", sample.Show(p), x, k, y, n, e)
		}
	}
	for i, s := range l {
		u, e := run.Step(p, s)
		if s.At == len(p) {
			if e != api.ErrState || !zero(u) {
				t.Fatalf("Step of %q at the end: %v, %d", sample.Show(p), u, e)
			}
		} else if i < last && (e != api.OK || !equal(u, l[i+1])) {
			t.Fatalf("Step of %q from %v: %v, %d; not %v", sample.Show(p), s, u, e, l[i+1])
		}
	}
}

// P3.1, P3.2: all programs with up to two instructions and few registers.
func TestRunsOfShortPrograms(t *testing.T) {
	var l []api.Instr
	for a := range 2 {
		for b := range 2 {
			l = append(l, write.Move(a, b), write.Head(a, b), write.Tail(a, b), write.Cons(a, b, 0), write.Cons(a, b, 1))
		}
		for b := -1; b <= 2; b++ {
			l = append(l, write.Jump(a, b))
		}
		l = append(l, write.Set(a, "0"), write.Set(a, "1100100"))
	}
	for _, x := range []string{"0", "100", "1101000", "110010100"} {
		compare(t, nil, x)
		for _, in := range l {
			for _, other := range l {
				for _, p := range []api.Program{{in}, {in, other}} {
					if code.Valid(p) {
						compare(t, p, x)
					}
				}
			}
		}
	}
}

// anything returns an instruction for the place at of a program with n instructions, with registers below regs.
func anything(r *rand.Rand, at, n, regs int) api.Instr {
	a, b := r.Intn(regs), r.Intn(regs)
	switch r.Intn(8) {
	case 0:
		return write.Set(a, []string{"0", "100", "1110010100100"}[r.Intn(3)])
	case 1:
		return write.Move(a, b)
	case 2, 3:
		return write.Cons(a, b, r.Intn(regs))
	case 4:
		return write.Head(a, b)
	case 5:
		return write.Tail(a, b)
	}
	return write.Jump(a, r.Intn(n+1)-at)
}

// P3.1, P3.2: programs of all lengths, the same ones each time.
func TestRunsOfManyPrograms(t *testing.T) {
	r := rand.New(rand.NewSource(3))
	ended := 0
	for range 3000 {
		p := make(api.Program, 1+r.Intn(12))
		regs := []int{2, 3, 4, 32}[r.Intn(4)]
		for i := range p {
			p[i] = anything(r, i, len(p), regs)
		}
		x := []string{"0", "100", "11010010100", "11100110100100110100100"}[r.Intn(4)]
		compare(t, p, x)
		if l := states(p, x); l[len(l)-1].At == len(p) {
			ended++
		}
	}
	if ended < 500 || ended > 2500 {
		t.Error("not of all sorts:", ended)
	}
}

// P3.3: from any state, a step does what the instruction says with the registers that it names, and changes at most one.
func TestStepsFromAnyState(t *testing.T) {
	r := rand.New(rand.NewSource(33))
	for range 20000 {
		p := make(api.Program, 1+r.Intn(5))
		for i := range p {
			p[i] = anything(r, i, len(p), api.MaxRegs)
		}
		s := state(r.Intn(len(p)))
		for i := range s.Regs {
			s.Regs[i] = "1" + sample.Number(i) + sample.Number(r.Intn(3))
			if r.Intn(4) == 0 {
				s.Regs[i] = "0"
			}
		}
		want, _ := after(p, s)
		u, e := run.Step(p, s)
		if e != api.OK || !equal(u, want) {
			t.Fatalf("Step of %q from %v: %v, %d; not %v", sample.Show(p), s, u, e, want)
		}
		changed := 0
		for i := range s.Regs {
			if s.Regs[i] == u.Regs[i] {
				continue
			}
			changed++
			if in := p[s.At]; i != in.A && i != in.B && i != in.C {
				t.Fatalf("Step of %q changes register %d", sample.Show(p), i)
			}
		}
		if changed > 1 {
			t.Fatalf("Step of %q changes %d registers", sample.Show(p), changed)
		}
	}
}

// Each operation once, by hand.
func TestOperations(t *testing.T) {
	from := []string{"1100100", "110100100", "0"}
	for _, c := range []struct {
		in   api.Instr
		at   int
		regs []string
	}{
		{write.Set(1, "10100"), 3, []string{"1100100", "10100", "0"}},
		{write.Set(0, "0"), 3, []string{"0", "110100100", "0"}},
		{write.Move(2, 1), 3, []string{"1100100", "110100100", "110100100"}},
		{write.Move(1, 2), 3, []string{"1100100", "0", "0"}},
		{write.Move(1, 1), 3, from},
		{write.Cons(2, 0, 1), 3, []string{"1100100", "110100100", "11100100110100100"}},
		{write.Cons(2, 1, 0), 3, []string{"1100100", "110100100", "11101001001100100"}},
		{write.Cons(1, 1, 1), 3, []string{"1100100", "1110100100110100100", "0"}},
		{write.Cons(2, 2, 2), 3, []string{"1100100", "110100100", "100"}},
		{write.Head(2, 1), 3, []string{"1100100", "110100100", "10100"}},
		{write.Head(1, 1), 3, []string{"1100100", "10100", "0"}},
		{write.Head(1, 2), 3, []string{"1100100", "0", "0"}},
		{write.Tail(0, 1), 3, []string{"100", "110100100", "0"}},
		{write.Tail(1, 1), 3, []string{"1100100", "100", "0"}},
		{write.Tail(0, 2), 3, []string{"0", "110100100", "0"}},
		{write.Jump(0, 1), 3, from}, {write.Jump(0, 2), 4, from}, {write.Jump(0, 0), 2, from}, {write.Jump(1, -2), 0, from}, {write.Jump(2, -1), 3, from}, {write.Jump(2, 2), 3, from}, {write.Jump(31, 0), 3, from},
	} {
		p := api.Program{write.Move(0, 0), write.Move(0, 0), c.in, write.Move(0, 0)}
		s, e := run.Step(p, state(2, slices.Clone(from)...))
		if e != api.OK || !equal(s, state(c.at, slices.Clone(c.regs)...)) {
			t.Errorf("Step of %s: %v, %d", sample.Show(p), s, e)
		}
	}
}

func TestExamples(t *testing.T) {
	if y, n, e := run.Run(sample.Program("tail 0 0"), "10100", 1); y != "100" || n != 1 || e != api.OK {
		t.Error(y, n, e)
	}
	for _, x := range append(large(), "0", "10100") {
		for _, fuel := range []int{0, 1, api.MaxFuel} {
			if y, n, e := run.Run(nil, x, fuel); y != x || n != 0 || e != api.OK {
				t.Error(sample.Short(y), n, e)
			}
		}
	}
	for _, fuel := range []int{0, 1, 2, 3, 1000, api.MaxFuel} {
		if y, n, e := run.Run(sample.Program("set 1 100; jump 1 0"), "0", fuel); y != "" || n != 0 || e != api.ErrFuel {
			t.Error(fuel, y, n, e)
		}
	}
	if y, n, e := run.Run(sample.Program("cons 0 0 0; jump 0 -1"), "0", api.MaxFuel); y != "" || n != 0 || e != api.ErrSize {
		t.Error(y, n, e)
	}
}

// P3.2: with more fuel it returns the same; here for runs of known lengths, up to MaxFuel.
func TestLongRuns(t *testing.T) {
	count := sample.Program("jump 0 2; jump 31 0; tail 0 0; jump 0 -1") // jump, and two steps for each pair
	for _, c := range []struct {
		p     api.Program
		x     string
		steps int
	}{
		{slices.Repeat(api.Program{write.Tail(0, 0)}, api.MaxCode), sample.Number(api.MaxCode), api.MaxCode},
		{sample.Program("tail 0 0; jump 0 -1"), sample.Number(1000), 2000},
		{sample.Program("tail 0 0; jump 0 -1"), sample.Number(sample.MostPairs), 2 * sample.MostPairs},
		{count, sample.Number(sample.MostPairs), 2*sample.MostPairs + 1},
		{sample.Program("head 0 0; jump 0 -1"), sample.Comb(sample.MostPairs), 2 * sample.MostPairs},
		{sample.Program("move 1 0; " + strings.Repeat("move 0 1; tail 0 0; jump 0 -1; ", 5) + "move 2 2; move 2 2; move 2 2; move 2 2"), sample.Number(sample.MostPairs), api.MaxFuel},
	} {
		for _, more := range []int{0, 1, 1000, api.MaxFuel - c.steps} {
			if c.steps+more > api.MaxFuel {
				continue
			}
			if y, n, e := run.Run(c.p, c.x, c.steps+more); y != "0" || n != c.steps || e != api.OK {
				t.Errorf("Run of %q with %d: %s, %d, %d", sample.Show(c.p), c.steps+more, sample.Short(y), n, e)
			}
		}
		if y, n, e := run.Run(c.p, c.x, c.steps-1); y != "" || n != 0 || e != api.ErrFuel {
			t.Errorf("Run of %q with %d: %s, %d, %d", sample.Show(c.p), c.steps-1, sample.Short(y), n, e)
		}
	}
}

// P3.4: pairs are too large from MaxTree characters on, whatever their parts are.
func TestSizes(t *testing.T) {
	half := sample.Number(499999) // of 999999 characters
	for _, c := range []struct {
		a, b string
		want api.Errno
	}{
		{"0", sample.Number(sample.MostPairs - 1), api.OK}, {sample.Number(sample.MostPairs - 1), "0", api.OK}, {sample.Comb(sample.MostPairs - 1), "0", api.OK},
		{half, half, api.OK}, {half, sample.Comb(499999), api.OK}, {sample.Full(18), sample.Number(737854), api.OK},
		{"0", sample.Number(sample.MostPairs), api.ErrSize}, {sample.Number(sample.MostPairs), "0", api.ErrSize}, {sample.Comb(sample.MostPairs), "0", api.ErrSize},
		{half, sample.Number(500000), api.ErrSize}, {sample.Comb(500000), half, api.ErrSize}, {sample.Full(18), sample.Number(737856), api.ErrSize},
		{sample.Full(19), sample.Full(19), api.ErrSize}, {sample.Number(sample.MostPairs), sample.Comb(sample.MostPairs), api.ErrSize},
	} {
		p := api.Program{write.Cons(2, 0, 1)}
		s, e := run.Step(p, state(0, c.a, c.b))
		if e != c.want || e == api.OK && !equal(s, state(1, c.a, c.b, "1"+c.a+c.b)) || e != api.OK && !zero(s) {
			t.Errorf("Step with %s and %s: %d, %d", sample.Short(c.a), sample.Short(c.b), s.At, e)
		}
		p = sample.Program("head 1 0; tail 2 0; cons 0 1 2; cons 0 1 2")
		if y, n, e := run.Run(p, "1"+c.a+c.b, 9); c.want == api.OK && (y != "1"+c.a+c.b || n != 4 || e != api.OK) {
			t.Errorf("Run with %s and %s: %s, %d, %d", sample.Short(c.a), sample.Short(c.b), sample.Short(y), n, e)
		}
		p = api.Program{write.Set(1, c.a), write.Cons(0, 1, 0), write.Set(1, "0")}
		if y, n, e := run.Run(p, c.b, 9); e != c.want || e == api.OK && (y != "1"+c.a+c.b || n != 3) || e != api.OK && (y != "" || n != 0) {
			t.Errorf("Run of a pair with %s and %s: %s, %d, %d", sample.Short(c.a), sample.Short(c.b), sample.Short(y), n, e)
		}
	}
}

// The other operations take the largest trees.
func TestLargeTrees(t *testing.T) {
	p := sample.Program("move 1 0; head 2 1; tail 3 1; cons 0 2 3; move 31 0")
	for _, x := range large() {
		a, b := parts(x)
		regs := registers(x, x, a, b)
		regs[31] = x
		if s, n, e := run.After(p, x, 100); e != api.OK || n != 5 || s.At != 5 || !slices.Equal(s.Regs, regs) {
			t.Errorf("After on %s: %d, %d", sample.Short(x), n, e)
		}
		if y, n, e := run.Run(api.Program{write.Set(0, x)}, "0", 1); e != api.OK || n != 1 || y != x {
			t.Errorf("Run of set 0 %s: %s, %d, %d", sample.Short(x), sample.Short(y), n, e)
		}
		if s, e := run.First(p, x); e != api.OK || !equal(s, state(0, x)) {
			t.Errorf("First on %s: %d", sample.Short(x), e)
		}
		s := state(0, x, "100")
		for i, want := range []api.State{state(1, x, x), state(2, x, x, a), state(3, x, x, a, b), state(4, x, x, a, b)} {
			u, e := run.Step(p, s)
			if e != api.OK || !equal(u, want) {
				t.Errorf("Step %d on %s: %d, %d", i, sample.Short(x), u.At, e)
			}
			s = u
		}
	}
}

// P3.1: k steps, one by one, up to trees that are too large.
func TestDoublingByStep(t *testing.T) {
	p := sample.Program("cons 0 0 0; jump 0 -1")
	s, e := run.First(p, "0")
	for k := 0; ; k++ {
		u, n, f := run.After(p, "0", k)
		if k == 39 {
			if e != api.ErrSize || f != api.ErrSize || !zero(s) || !zero(u) || n != 0 {
				t.Error(s.At, e, u.At, n, f)
			}
			break
		}
		if want := sample.Full((k + 1) / 2); e != api.OK || f != api.OK || n != k || !equal(s, state(k%2, want)) || !equal(u, s) {
			t.Fatal(k, s.At, e, u.At, n, f)
		}
		s, e = run.Step(p, s)
	}
}

// P3.4: the number of steps after which a tree is too large depends on its size alone; the step counts.
func TestDoubling(t *testing.T) {
	p := sample.Program("cons 0 0 0; jump 0 -1")
	for j := range 20 {
		for _, x := range []string{sample.Full(j), sample.Number(1<<j - 1), sample.Comb(1<<j - 1)} { // of 2^(j+1) - 1 characters
			steps := 2*(20-j) - 1
			if y, n, e := run.Run(p, x, steps-1); y != "" || n != 0 || e != api.ErrFuel {
				t.Error(j, steps-1, sample.Short(y), n, e)
			}
			if s, n, e := run.After(p, x, steps-1); n != steps-1 || e != api.OK || s.At != 0 || len(s.Regs[0]) != 1<<20-1 {
				t.Error(j, steps-1, s.At, n, e)
			}
			for _, more := range []int{0, 1, 1000, api.MaxFuel - steps} {
				if y, n, e := run.Run(p, x, steps+more); y != "" || n != 0 || e != api.ErrSize {
					t.Error(j, steps+more, sample.Short(y), n, e)
				}
				if s, n, e := run.After(p, x, steps+more); !zero(s) || n != 0 || e != api.ErrSize {
					t.Error(j, steps+more, s.At, n, e)
				}
			}
		}
	}
}

// P3.4: a tree that grows pair by pair is too large after as many steps as its size says.
func TestGrowing(t *testing.T) {
	for _, c := range []struct{ s, last string }{{"cons 0 1 0; jump 0 -1", sample.Number(sample.MostPairs)}, {"cons 0 0 1; jump 0 -1", sample.Comb(sample.MostPairs)}} {
		p := sample.Program(c.s)
		const steps = 2 * sample.MostPairs
		if s, n, e := run.After(p, "0", steps); e != api.OK || n != steps || !equal(s, state(0, c.last)) {
			t.Errorf("%s: %d, %d, %d", c.s, s.At, n, e)
		}
		if y, n, e := run.Run(p, "0", steps); y != "" || n != 0 || e != api.ErrFuel {
			t.Errorf("%s: %s, %d, %d", c.s, sample.Short(y), n, e)
		}
		if y, n, e := run.Run(p, "0", steps+1); y != "" || n != 0 || e != api.ErrSize {
			t.Errorf("%s: %s, %d, %d", c.s, sample.Short(y), n, e)
		}
	}
}

// P3.4: large trees are made in as little time as small ones, or this does not come to an end.
func TestManyLargeTrees(t *testing.T) {
	p := slices.Concat(api.Program{write.Set(0, "0")}, slices.Repeat(api.Program{write.Cons(0, 0, 0)}, 19), api.Program{write.Move(1, 0), write.Head(2, 1), write.Tail(3, 1), write.Cons(4, 2, 3), write.Jump(0, -24)})
	if y, n, e := run.Run(p, "0", api.MaxFuel); y != "" || n != 0 || e != api.ErrFuel {
		t.Error(sample.Short(y), n, e)
	}
	x := sample.Full(19)
	a, _ := parts(x)
	if s, n, e := run.After(p, "0", api.MaxFuel-1); e != api.OK || n != api.MaxFuel-1 || !equal(s, state(24, x, x, a, a, x)) {
		t.Error(s.At, n, e)
	}
	// All registers are large, and share nearly all of it; register 31 is nil until it is made itself.
	p = api.Program{write.Set(0, sample.Full(18))}
	for i := range api.MaxRegs - 1 {
		p = append(p, write.Cons(i+1, 0, i%2*31))
	}
	s, n, e := run.After(p, "0", api.MaxFuel)
	if e != api.OK || n != api.MaxRegs || s.At != len(p) {
		t.Fatal(s.At, n, e)
	}
	for i, y := range s.Regs[1:] {
		if y != "1"+sample.Full(18)+[]string{sample.Full(18), "0"}[i%2] {
			t.Errorf("register %d: %s", i+1, sample.Short(y))
		}
	}
}

// A jump may lead to any place, and to the end.
func TestJumps(t *testing.T) {
	for _, c := range []struct {
		s     string
		steps int
		y     string
	}{
		{"jump 0 1", 1, "100"}, {"jump 1 0", 1, "100"}, {"jump 0 3; set 0 0; set 0 0", 1, "100"},
		{"jump 0 2; jump 0 2; jump 0 -1", 3, "100"}, {"jump 1 2; set 0 0; move 1 1", 3, "0"},
		{"jump 31 1; jump 0 2; jump 0 0; set 31 0", 3, "100"}, {"tail 0 0; jump 0 -1", 2, "0"},
	} {
		if y, n, e := run.Run(sample.Program(c.s), "100", 9); y != c.y || n != c.steps || e != api.OK {
			t.Errorf("%s: %s, %d, %d", c.s, y, n, e)
		}
	}
	for _, s := range []string{"jump 0 0", "move 0 0; jump 0 0", "jump 0 1; jump 0 -1", "cons 1 0 0; jump 1 -1; set 0 0"} {
		if y, n, e := run.Run(sample.Program(s), "100", api.MaxFuel); y != "" || n != 0 || e != api.ErrFuel {
			t.Errorf("%s: %s, %d, %d", s, y, n, e)
		}
	}
}

// call calls all functions, and reports those errors that are not the wanted ones, and results beside them.
func call(t *testing.T, what string, p api.Program, x string, s api.State, k int, first, step, runs api.Errno) {
	t.Helper()
	if u, e := run.First(p, x); e != first || e != api.OK && !zero(u) {
		t.Errorf("First of %s: %v, %d", what, u.At, e)
	}
	if u, e := run.Step(p, s); e != step || e != api.OK && !zero(u) {
		t.Errorf("Step of %s: %v, %d", what, u.At, e)
	}
	if y, n, e := run.Run(p, x, k); e != runs || e != api.OK && (y != "" || n != 0) {
		t.Errorf("Run of %s: %s, %d, %d", what, sample.Short(y), n, e)
	}
	if u, n, e := run.After(p, x, k); e != runs || e != api.OK && (!zero(u) || n != 0) {
		t.Errorf("After of %s: %v, %d, %d", what, u.At, n, e)
	}
}

func TestErrForm(t *testing.T) {
	good := sample.Program("tail 0 0")
	for i, p := range []api.Program{
		slices.Repeat(good, api.MaxCode+1), {{Op: -1}}, {{Op: api.Ops}}, {{Op: sample.Greatest}}, {write.Jump(0, 2)}, {write.Jump(0, -1)}, {write.Move(0, 32)}, {write.Move(-1, 0)}, {write.Cons(0, 0, 32)},
		{write.Set(0, "")}, {write.Set(0, "00")}, {write.Set(32, "0")}, {write.Set(0, sample.Number(sample.MostPairs)), write.Set(0, "100")}, {{Op: api.OpMove, C: 1}}, {{Op: api.OpTail, Tree: "0"}},
		{write.Jump(0, sample.Greatest)}, {write.Jump(0, -sample.Greatest-1)}, {write.Head(0, -sample.Greatest-1)}, {write.Tail(0, 0), {Op: api.OpSet}},
	} {
		for _, k := range []int{0, 9, -1, api.MaxFuel + 1} {
			call(t, "program "+sample.Number(i), p, "100", state(0), k, api.ErrForm, api.ErrForm, api.ErrForm)
			call(t, "program and input "+sample.Number(i), p, "1", state(-1), k, api.ErrForm, api.ErrForm, api.ErrForm)
		}
		call(t, "ended program "+sample.Number(i), p, "100", state(len(p)), 9, api.ErrForm, api.ErrForm, api.ErrForm)
	}
	for _, x := range []string{"", "1", "00", "2", "10", "100 ", "0\n", "\xff", sample.Number(sample.MostPairs + 1), sample.Comb(sample.MostPairs + 1)} {
		for _, k := range []int{0, 9, -1, api.MaxFuel + 1} {
			call(t, "input "+sample.Short(x), good, x, state(0), k, api.ErrForm, api.OK, api.ErrForm)
			call(t, "input of the empty program "+sample.Short(x), nil, x, state(0), k, api.ErrForm, api.ErrState, api.ErrForm)
		}
		for r := range api.MaxRegs {
			s := state(0)
			s.Regs[r] = x
			call(t, "state with "+sample.Short(x), good, "0", s, 1, api.OK, api.ErrForm, api.OK)
			s.At = 1
			call(t, "last state with "+sample.Short(x), good, "0", s, 1, api.OK, api.ErrForm, api.OK)
		}
	}
	for _, s := range []api.State{
		{}, {At: 1}, {Regs: []string{}}, {Regs: registers()[1:]}, {Regs: registers()[:1]}, {Regs: append(registers(), "0")}, {At: 1, Regs: append(registers(), "0")}, {At: 1, Regs: registers()[2:]},
		{Regs: make([]string, api.MaxRegs)}, state(-1), state(2), state(32), state(sample.Greatest), state(-sample.Greatest - 1),
	} {
		call(t, "state", good, "0", s, 1, api.OK, api.ErrForm, api.OK)
	}
	call(t, "place 1 of the empty program", nil, "0", state(1), 0, api.OK, api.ErrForm, api.OK)
}

func TestErrArg(t *testing.T) {
	for _, p := range []api.Program{nil, sample.Program("tail 0 0"), sample.Program("jump 0 0"), sample.Program("cons 0 0 0")} {
		for _, k := range []int{-1, -2, -sample.Greatest - 1, api.MaxFuel + 1, 2 * api.MaxFuel, sample.Greatest} {
			for _, x := range []string{"100", sample.Number(sample.MostPairs)} {
				if y, n, e := run.Run(p, x, k); y != "" || n != 0 || e != api.ErrArg {
					t.Errorf("Run of %q with %d: %s, %d, %d", sample.Show(p), k, sample.Short(y), n, e)
				}
				if s, n, e := run.After(p, x, k); !zero(s) || n != 0 || e != api.ErrArg {
					t.Errorf("After %d steps of %q: %v, %d, %d", k, sample.Show(p), s.At, n, e)
				}
			}
		}
	}
}

func TestEnds(t *testing.T) {
	p := sample.Program("tail 0 0; move 1 0")
	for _, regs := range [][]string{{"0"}, {"100", "1100100"}, {sample.Number(sample.MostPairs)}} {
		if s, e := run.Step(p, state(2, regs...)); e != api.ErrState || !zero(s) {
			t.Error(s.At, e)
		}
		if s, e := run.Step(nil, state(0, regs...)); e != api.ErrState || !zero(s) {
			t.Error(s.At, e)
		}
	}
	for _, k := range []int{2, 3, 1000, api.MaxFuel} {
		if s, n, e := run.After(p, "10100", k); e != api.OK || n != 2 || !equal(s, state(2, "100", "100")) {
			t.Error(k, s, n, e)
		}
	}
}

// R5: arguments are not changed, and results are new memory.
func TestNewMemory(t *testing.T) {
	p := api.Program{write.Set(1, strings.Clone("1110000")), write.Move(2, 1), write.Tail(3, 0), write.Jump(0, 1)}
	x := strings.Clone("11010100100")
	kept := slices.Clone(p)
	var results []string
	s, _ := run.First(p, x)
	results = append(results, s.Regs[0])
	for k := range len(p) + 1 {
		u, _, _ := run.After(p, x, k)
		results = append(results, u.Regs...)
	}
	for _, q := range []api.Program{nil, p, {write.Set(0, p[0].Tree)}} {
		y, _, _ := run.Run(q, x, 9)
		results = append(results, y)
	}
	for _, y := range results {
		if d := unsafe.StringData(y); len(y) > 1 && (d == unsafe.StringData(x) || d == unsafe.StringData(p[0].Tree)) {
			t.Errorf("%s is not new", y)
		}
	}
	for at := range p {
		s := state(at, x, "10100", "100")
		before := state(at, x, "10100", "100")
		u, e := run.Step(p, s)
		want, _ := after(p, before)
		if e != api.OK || !equal(u, want) {
			t.Fatal(u, e)
		}
		for i, y := range u.Regs {
			if d := unsafe.StringData(y); len(y) > 1 && (slices.ContainsFunc(s.Regs, func(z string) bool { return d == unsafe.StringData(z) }) || d == unsafe.StringData(p[0].Tree)) {
				t.Errorf("register %d after %d is not new", i, at)
			}
			u.Regs[i] = "changed"
		}
		if !equal(s, before) {
			t.Errorf("the state %v was changed to %v", before, s)
		}
	}
	if !slices.Equal(p, kept) {
		t.Errorf("the program was changed to %v", p)
	}
}
