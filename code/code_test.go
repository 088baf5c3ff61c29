package code_test

import (
	"maps"
	"slices"
	"strconv"
	"strings"
	"testing"
	"unsafe"

	"narcissus/api"
	"narcissus/code"
	"narcissus/sample"
	"narcissus/tree"
	"narcissus/write"
)

// The document's notations, written down once more, to hold the package against them.

func list(l []string) string {
	s := "0"
	for _, x := range slices.Backward(l) {
		s = sample.Pair(x, s)
	}
	return s
}

func codeOf(p api.Program) string {
	var l []string
	for _, in := range p {
		l = append(l, codeOfInstr(in))
	}
	return list(l)
}

func codeOfInstr(in api.Instr) string {
	a, op := sample.Number(in.A), sample.Number(in.Op)
	switch in.Op {
	case api.OpSet:
		return sample.Pair(op, sample.Pair(a, in.Tree))
	case api.OpCons:
		return sample.Pair(op, sample.Pair(a, sample.Pair(sample.Number(in.B), sample.Number(in.C))))
	case api.OpJump:
		if in.B < 0 {
			return sample.Pair(op, sample.Pair(a, sample.Pair("100", sample.Number(-in.B))))
		}
		return sample.Pair(op, sample.Pair(a, sample.Pair("0", sample.Number(in.B))))
	}
	return sample.Pair(op, sample.Pair(a, sample.Number(in.B)))
}

func textOf(p api.Program) string {
	var l []string
	for _, in := range p {
		l = append(l, textOfInstr(in))
	}
	return strings.Join(l, "; ")
}

func textOfInstr(in api.Instr) string {
	name := []string{"set", "move", "cons", "head", "tail", "jump"}[in.Op]
	s := name + " " + strconv.Itoa(in.A) + " "
	switch in.Op {
	case api.OpSet:
		return s + in.Tree
	case api.OpCons:
		return s + strconv.Itoa(in.B) + " " + strconv.Itoa(in.C)
	}
	return s + strconv.Itoa(in.B)
}

// some are instructions of all kinds, from the least numbers to the sample.Greatest ones.
func some() []api.Instr {
	return []api.Instr{
		write.Set(0, "0"), write.Set(31, "100"), write.Set(7, "1100100"), write.Set(1, "11000"),
		write.Move(0, 0), write.Move(31, 0), write.Move(0, 31), write.Move(3, 12),
		write.Cons(0, 0, 0), write.Cons(31, 30, 29), write.Cons(1, 2, 31), write.Cons(5, 31, 0),
		write.Head(0, 0), write.Head(31, 31), write.Head(2, 9), write.Tail(0, 0), write.Tail(31, 30), write.Tail(9, 2),
		write.Jump(0, 0), write.Jump(31, 1), write.Jump(4, -1), write.Jump(0, 2), write.Jump(1, -2),
	}
}

// long is a program whose code and string are long, with jumps over all of it.
func long() api.Program {
	var p api.Program
	for i := range 600 {
		p = append(p, some()[i%18])
	}
	p[0], p[1], p[598], p[599] = write.Jump(0, 600), write.Jump(31, 599), write.Jump(31, -598), write.Jump(1, -599)
	return p
}

// programs returns valid programs.
func programs() []api.Program {
	l := []api.Program{nil, {}, long(), slices.Repeat(api.Program{write.Move(1, 0)}, api.MaxCode)}
	for _, a := range some() {
		l = append(l, api.Program{write.Move(0, 1), write.Move(0, 1), a, write.Move(0, 1)})
		if a.Op == api.OpJump && (a.B < 0 || a.B > 1) {
			continue
		}
		l = append(l, api.Program{a})
		for _, b := range some() {
			if b.Op != api.OpJump || -1 <= b.B && b.B <= 1 {
				l = append(l, api.Program{a, b})
			}
		}
	}
	return l
}

func TestValid(t *testing.T) {
	for _, p := range programs() {
		if !code.Valid(p) {
			t.Errorf("not valid: %s", sample.Short(textOf(p)))
		}
	}
	for i, p := range sample.Invalid() {
		if code.Valid(p) {
			t.Errorf("valid: program %d of %d instructions", i, len(p))
		}
	}
}

func TestValidAtTheLimitOfTrees(t *testing.T) {
	half := sample.Number(499999) // of 999999 characters
	for _, c := range []struct {
		p    api.Program
		want bool
	}{
		{api.Program{write.Set(0, sample.Number(999999))}, true},
		{api.Program{write.Set(0, sample.Number(999999)), write.Set(0, "0")}, true},
		{api.Program{write.Set(0, half), write.Move(0, 0), write.Set(1, half)}, true},
		{api.Program{write.Set(0, half), write.Set(1, half), write.Set(2, "0"), write.Set(3, "0")}, true},
		{api.Program{write.Set(0, half), write.Set(1, half), write.Set(2, "0"), write.Set(3, "100")}, false},
		{api.Program{write.Set(0, sample.Number(999999)), write.Set(0, "0"), write.Set(0, "0")}, false},
		{api.Program{write.Set(0, sample.Number(999999)), write.Set(0, sample.Number(999999))}, false},
	} {
		if code.Valid(c.p) != c.want {
			t.Errorf("Valid(%s) is %v", sample.Short(textOf(c.p)), !c.want)
		}
	}
}

// Every jump of every place of a short program, and the first ones outside.
func TestValidJumps(t *testing.T) {
	for n := range 6 {
		for i := range n {
			for b := -n - 2; b <= n+2; b++ {
				p := slices.Repeat(api.Program{write.Move(0, 0)}, n)
				p[i] = write.Jump(0, b)
				if want := i+b >= 0 && i+b <= n; code.Valid(p) != want {
					t.Errorf("Valid(%s) is %v", textOf(p), !want)
				}
			}
		}
	}
}

func TestRegs(t *testing.T) {
	for _, c := range []struct {
		p    api.Program
		want int
	}{
		{nil, 1}, {api.Program{write.Set(0, "100")}, 1}, {api.Program{write.Move(0, 0)}, 1}, {api.Program{write.Set(4, "0")}, 5},
		{api.Program{write.Move(3, 0)}, 4}, {api.Program{write.Move(0, 3)}, 4}, {api.Program{write.Head(6, 2)}, 7}, {api.Program{write.Head(2, 6)}, 7},
		{api.Program{write.Tail(8, 2)}, 9}, {api.Program{write.Tail(2, 8)}, 9}, {api.Program{write.Cons(9, 1, 2)}, 10}, {api.Program{write.Cons(1, 9, 2)}, 10}, {api.Program{write.Cons(1, 2, 9)}, 10},
		{api.Program{write.Jump(5, 1)}, 6}, {api.Program{write.Jump(1, 3), write.Move(0, 0), write.Move(0, 0)}, 2}, {api.Program{write.Move(0, 0), write.Move(0, 0), write.Jump(0, -2)}, 1},
		{api.Program{write.Cons(0, 4, 7), write.Jump(0, 1)}, 8}, {api.Program{write.Move(31, 0), write.Set(2, "0")}, 32}, {api.Program{write.Set(2, "0"), write.Cons(1, 31, 3), write.Jump(7, 0)}, 32},
	} {
		if n, e := code.Regs(c.p); e != api.OK || n != c.want {
			t.Errorf("Regs(%s) = %d, %d", textOf(c.p), n, e)
		}
	}
}

// P2.1: Decode of Code is the program.
func TestDecodeOfCode(t *testing.T) {
	for _, p := range programs() {
		if len(p) == api.MaxCode {
			continue // in TestCodeOfTheLongest
		}
		s, e := code.Code(p)
		if e != api.OK || s != codeOf(p) {
			t.Errorf("Code(%s) = %s, %d", sample.Short(textOf(p)), sample.Short(s), e)
		}
		if q, e := code.Decode(s); e != api.OK || !slices.Equal(q, p) {
			t.Errorf("Decode of Code(%s) = %s, %d", sample.Short(textOf(p)), sample.Short(textOf(q)), e)
		}
	}
}

func TestCodeOfTheLongest(t *testing.T) {
	p := slices.Repeat(api.Program{write.Set(0, "0"), write.Jump(31, 0)}, api.MaxCode/2)
	p[0], p[api.MaxCode-1] = write.Jump(2, api.MaxCode), write.Jump(31, 1-api.MaxCode)
	want := codeOf(p)
	if s, e := code.Code(p); e != api.OK || s != want {
		t.Errorf("%s, %d", sample.Short(s), e)
	}
	if q, e := code.Decode(want); e != api.OK || !slices.Equal(q, p) {
		t.Errorf("%d instructions, %d", len(q), e)
	}
	if q, e := code.Decode(codeOf(append(p, write.Move(0, 0)))); e != api.ErrNone || len(q) != 0 {
		t.Errorf("%d instructions, %d", len(q), e)
	}
}

func TestCodeTooLarge(t *testing.T) {
	far := make(api.Program, api.MaxCode)
	for i := range far {
		far[i] = write.Jump(0, api.MaxCode-i)
	}
	for _, c := range []struct {
		p    api.Program
		want api.Errno
	}{
		{api.Program{write.Set(0, sample.Number(999996))}, api.OK}, // the code has 1999999 characters
		{api.Program{write.Set(0, sample.Number(999997))}, api.ErrSize},
		{api.Program{write.Set(0, sample.Number(999999))}, api.ErrSize},
		{api.Program{write.Set(31, sample.Number(999965))}, api.OK},
		{api.Program{write.Set(31, sample.Number(999966))}, api.ErrSize},
		{api.Program{write.Set(0, sample.Number(499996)), write.Set(0, sample.Number(499996))}, api.OK},
		{api.Program{write.Set(0, sample.Number(499997)), write.Set(0, sample.Number(499997))}, api.ErrSize},
		{api.Program{write.Set(0, sample.Number(999997)), {Op: api.Ops}}, api.ErrForm},
		{far, api.ErrSize},
		{far[:1000:1000], api.ErrForm}, // the jumps lead out of it
	} {
		s, e := code.Code(c.p)
		if e != c.want || e != api.OK && s != "" || e == api.OK && s != codeOf(c.p) {
			t.Errorf("%d instructions: %s, %d", len(c.p), sample.Short(s), e)
		}
		if e != api.OK {
			continue
		}
		if q, e := code.Decode(s); e != api.OK || !slices.Equal(q, c.p) {
			t.Errorf("%d instructions, %d", len(q), e)
		}
	}
}

// small returns the instructions whose codes have at most the given number of pairs.
func small(pairs int) []api.Instr {
	var l []api.Instr
	for op := range api.Ops {
		for a := range pairs {
			for b := -pairs; b <= pairs; b++ {
				for c := range pairs {
					l = append(l, api.Instr{Op: op, A: a, B: b, C: c})
				}
			}
			for _, s := range sample.Trees(pairs - 2) {
				l = append(l, api.Instr{Op: op, A: a, Tree: s})
			}
		}
	}
	return slices.DeleteFunc(l, func(in api.Instr) bool {
		return in.Op != api.OpJump && in.B < 0 || (in.Op == api.OpSet) != (in.Tree != "") || in.Op == api.OpSet && in.B != 0 ||
			in.Op != api.OpCons && in.C != 0 || len(codeOfInstr(in))/2 > pairs
	})
}

// P2.1: every tree that is no code of a valid program is refused, and what is accepted is the code of what is returned.
func TestDecodeOfAllSmallTrees(t *testing.T) {
	const most = 11
	want := map[string]api.Program{}
	var extend func(p api.Program, left int)
	instrs := small(most - 1)
	extend = func(p api.Program, left int) {
		if inside(p) {
			want[codeOf(p)] = slices.Clone(p)
		}
		for _, in := range instrs {
			if n := len(codeOfInstr(in))/2 + 1; n <= left {
				extend(append(p[:len(p):len(p)], in), left-n)
			}
		}
	}
	extend(nil, most)
	for _, s := range sample.Trees(most) {
		p, e := code.Decode(s)
		q, ok := want[s]
		if ok && (e != api.OK || !slices.Equal(p, q)) {
			t.Errorf("Decode(%s) = %s, %d", s, textOf(p), e)
		}
		if !ok && (e != api.ErrNone || len(p) != 0) {
			t.Errorf("Decode(%s) = %d instructions, %d", s, len(p), e)
		}
		if c, e := code.Code(p); ok && (e != api.OK || c != s) {
			t.Errorf("Code of Decode(%s) = %s, %d", s, c, e)
		}
	}
	if len(want) < 500 {
		t.Error("only", len(want), "programs")
	}
}

// inside reports whether all jumps of a program stay in it.
func inside(p api.Program) bool {
	for i, in := range p {
		if in.Op == api.OpJump && (i+in.B < 0 || i+in.B > len(p)) {
			return false
		}
	}
	return true
}

// P2.1: programs with the same code are equal; all of programs() are different, but for the empty one.
func TestCodesDiffer(t *testing.T) {
	seen := map[string]api.Program{}
	for _, p := range programs()[:200] {
		if len(p) == api.MaxCode {
			continue
		}
		s, e := code.Code(p)
		if q, ok := seen[s]; e != api.OK || ok && !slices.Equal(p, q) {
			t.Errorf("%s and %s: %d", textOf(p), textOf(q), e)
		}
		seen[s] = p
	}
	if len(seen) < 190 {
		t.Error("only", len(seen), "codes")
	}
}

func TestDecodeRefuses(t *testing.T) {
	for _, s := range []string{"", "1", "00", "2", "10", "11101010100100", "111010101001000 ", sample.Number(api.MaxTree / 2)} {
		if p, e := code.Decode(s); e != api.ErrForm || len(p) != 0 {
			t.Errorf("Decode(%q) = %s, %d", sample.Short(s), textOf(p), e)
		}
	}
	one := func(op, rest string) string {
		return list([]string{sample.Pair(sample.Number(0), sample.Pair("0", "0")), sample.Pair(op, rest)})
	}
	for name, s := range map[string]string{
		"an element that is nil":     list([]string{"0"}),
		"no fields":                  one(sample.Number(api.OpSet), "0"),
		"no number of an Op":         one("11000", sample.Pair("0", "0")),
		"an Op out of the table":     one(sample.Number(api.Ops), sample.Pair("0", "0")),
		"a large Op":                 one(sample.Number(5000), sample.Pair("0", "0")),
		"register 32":                one(sample.Number(api.OpSet), sample.Pair(sample.Number(32), "0")),
		"register 32 of a move":      one(sample.Number(api.OpMove), sample.Pair(sample.Number(0), sample.Number(32))),
		"no register":                one(sample.Number(api.OpMove), sample.Pair("11000", "0")),
		"no second register":         one(sample.Number(api.OpMove), sample.Pair("0", "11000")),
		"a cons with two registers":  one(sample.Number(api.OpCons), sample.Pair("0", "0")),
		"a cons with no third":       one(sample.Number(api.OpCons), sample.Pair("0", sample.Pair("0", "11000"))),
		"a cons with four registers": one(sample.Number(api.OpCons), sample.Pair("0", sample.Pair("0", sample.Pair("11000", "0")))),
		"a jump without a sign":      one(sample.Number(api.OpJump), sample.Pair("0", "0")),
		"another sign":               one(sample.Number(api.OpJump), sample.Pair("0", sample.Pair("10100", "10100"))),
		"one more other sign":        one(sample.Number(api.OpJump), sample.Pair("0", sample.Pair("11000", "100"))),
		"0 backwards":                one(sample.Number(api.OpJump), sample.Pair("0", sample.Pair("100", "0"))),
		"no distance":                one(sample.Number(api.OpJump), sample.Pair("0", sample.Pair("0", "11000"))),
		"no distance backwards":      one(sample.Number(api.OpJump), sample.Pair("0", sample.Pair("100", "11000"))),
		"a jump behind the end":      one(sample.Number(api.OpJump), sample.Pair("0", sample.Pair("0", sample.Number(2)))),
		"a jump before the start":    one(sample.Number(api.OpJump), sample.Pair("0", sample.Pair("100", sample.Number(2)))),
		"a far jump":                 one(sample.Number(api.OpJump), sample.Pair("0", sample.Pair("0", sample.Number(900000)))),
		"a far jump backwards":       one(sample.Number(api.OpJump), sample.Pair("0", sample.Pair("100", sample.Number(900000)))),
		"too many instructions":      codeOf(slices.Repeat(api.Program{write.Move(0, 0)}, api.MaxCode+1)),
		"a list of many nils":        sample.Number(999999),
		"a tree of many heads":       strings.Repeat("1", 999999) + strings.Repeat("0", 1000000),
	} {
		if p, e := code.Decode(s); e != api.ErrNone || len(p) != 0 {
			t.Errorf("%s: %s, %d", name, sample.Short(textOf(p)), e)
		}
	}
}

// P2.2: Parse of Text is the program.
func TestParseOfText(t *testing.T) {
	for _, p := range append(programs(), api.Program{write.Set(0, sample.Number(999999))}, slices.Repeat(api.Program{write.Cons(31, 30, 29)}, api.MaxCode)) {
		s, e := code.Text(p)
		if e != api.OK || s != textOf(p) {
			t.Errorf("Text(%s) = %s, %d", sample.Short(textOf(p)), sample.Short(s), e)
		}
		if q, e := code.Parse(s); e != api.OK || !slices.Equal(q, p) {
			t.Errorf("Parse of Text(%s) = %s, %d", sample.Short(textOf(p)), sample.Short(textOf(q)), e)
		}
	}
}

// P2.2: what Parse accepts is the Text of what it returns. The strings differ from those of programs by one byte.
func TestParseOfAlmostTexts(t *testing.T) {
	p := api.Program{write.Set(31, "100"), write.Move(2, 10), write.Cons(0, 1, 20), write.Jump(0, -2), write.Head(3, 4), write.Tail(30, 5), write.Jump(1, 1)}
	accepted := 0
	for s := range almost(textOf(p)) {
		q, e := code.Parse(s)
		if e == api.OK {
			accepted++
			if u, e := code.Text(q); e != api.OK || u != s {
				t.Errorf("Parse(%q) = %s, %d", s, u, e)
			}
		} else if e != api.ErrParse || len(q) != 0 {
			t.Errorf("Parse(%q): %d instructions, %d", s, len(q), e)
		}
	}
	if accepted < 50 {
		t.Error("only", accepted, "accepted")
	}
}

// almost returns the strings that become s when a byte is put in, left out, or replaced.
func almost(s string) map[string]bool {
	m := map[string]bool{}
	for i := range len(s) + 1 {
		for _, c := range "0123456789-+; \n_,ast" {
			m[s[:i]+string(c)+s[i:]] = true
			if i < len(s) {
				m[s[:i]+string(c)+s[i+1:]] = true
			}
		}
		if i < len(s) {
			m[s[:i]+s[i+1:]] = true
		}
	}
	return m
}

func TestParseRefuses(t *testing.T) {
	l := []string{
		" ", ";", "; ", "x", "0", "set", "set 0", "set 0 ", "set 0 1", "set 0 0 0", "set  0 0", "set 0  0", "set 00 0", "set 32 0", "set -1 0", "set 0 00", "set x 0",
		"Set 0 0", "SET 0 0", "sets 0 0", "se 0 0", " 0 0", "nop 0 0", "halt", "move 0", "move 0 0 0", "move 0 32", "move 32 0", "move 0 -1", "move +0 0", "move 0 -0", "move 0x1 0", "move 1_0 0", "move 0 100",
		"cons 0 0", "cons 0 0 0 0", "cons 0 0 32", "cons 0 0 0 ", "head 0 0 0", "head 0,0", "head\t0 0", "tail 0 0\n", "tail 00 0", "tail 0 0;", "tail 0 0; ", "; tail 0 0", "tail 0 0;tail 0 0", "tail 0 0 ; tail 0 0", "tail 0 0;  tail 0 0", "tail 0 0; ; tail 0 0", " tail 0 0", "tail 0 0 ",
		"jump 0", "jump 0 2", "jump 0 -1", "jump 0 +1", "jump 0 01", "jump 0 -0", "jump 0 -", "jump 0 1.0", "jump 0 1 0", "move 0 0; jump 0 -2", "move 0 0; jump 0 -01", "jump 0 99999999999999999999", "jump 0 -99999999999999999999", "jump 0 9223372036854775807", "jump 0 -9223372036854775808",
		"head \uff10 0", "head \u0661 0", "head 0 0\x00", "\xff", "head 0 0\xff",
		textOf(slices.Repeat(api.Program{write.Move(0, 0)}, api.MaxCode+1)), textOf(api.Program{write.Set(0, sample.Number(sample.MostPairs)), write.Set(0, "0"), write.Set(0, "0")}),
		"set 0 " + sample.Number(api.MaxTree/2), "set 0 " + strings.Repeat("0", api.MaxText), "head 0 " + strings.Repeat("0", api.MaxText), "head 0 " + strings.Repeat("9", api.MaxText-7),
		strings.Repeat(" ", api.MaxText), strings.Repeat("; ", api.MaxText/2), strings.Repeat("; ", api.MaxText), strings.Repeat("move 0 0; ", api.MaxText/10) + "move 0 0",
	}
	for _, s := range l {
		if p, e := code.Parse(s); e != api.ErrParse || len(p) != 0 {
			t.Errorf("Parse(%q) = %s, %d", sample.Short(s), sample.Short(textOf(p)), e)
		}
	}
}

// P2.3: the items of a code are the codes of the instructions.
func TestItemsOfCode(t *testing.T) {
	for _, p := range programs() {
		if len(p) == api.MaxCode {
			continue
		}
		s, _ := code.Code(p)
		l, e := tree.Items(s)
		if e != api.OK || len(l) != len(p) {
			t.Fatalf("%s: %d items, %d", sample.Short(textOf(p)), len(l), e)
		}
		for i, in := range p {
			if l[i] != codeOfInstr(in) {
				t.Errorf("%s: the item %d is %s", sample.Short(textOf(p)), i, sample.Short(l[i]))
			}
		}
		if r, e := tree.List(l); e != api.OK || r != s {
			t.Errorf("%s: the list of the items is %s, %d", sample.Short(textOf(p)), sample.Short(r), e)
		}
	}
}

func TestInvalidPrograms(t *testing.T) {
	for i, p := range sample.Invalid() {
		if n, e := code.Regs(p); e != api.ErrForm || n != 0 {
			t.Errorf("Regs of program %d: %d, %d", i, n, e)
		}
		if s, e := code.Code(p); e != api.ErrForm || s != "" {
			t.Errorf("Code of program %d: %s, %d", i, sample.Short(s), e)
		}
		if s, e := code.Text(p); e != api.ErrForm || s != "" {
			t.Errorf("Text of program %d: %s, %d", i, sample.Short(s), e)
		}
	}
}

// R5: arguments are neither changed nor retained, and results are new memory.
func TestNewMemory(t *testing.T) {
	p := long()
	kept := slices.Clone(p)
	s, _ := code.Code(p)
	u, _ := code.Text(p)
	code.Valid(p)
	code.Regs(p)
	if !slices.Equal(p, kept) {
		t.Fatal("an argument has been changed")
	}
	for name, again := range map[string]func() (api.Program, api.Errno){
		"Decode": func() (api.Program, api.Errno) { return code.Decode(s) },
		"Parse":  func() (api.Program, api.Errno) { return code.Parse(u) },
	} {
		q, _ := again()
		clear(q)
		if q, e := again(); e != api.OK || !slices.Equal(q, kept) {
			t.Error(name, "returns the same memory again")
		}
	}
	for _, q := range []api.Program{must(code.Decode(s)), must(code.Parse(u))} {
		for _, in := range q {
			if in.Tree != "" && (within(in.Tree, s) || within(in.Tree, u)) {
				t.Fatal("a tree is a part of the memory of the argument")
			}
		}
	}
	one := api.Program{write.Set(0, "1100100")}
	if s, e := code.Text(one); e != api.OK || within(s, one[0].Tree) || within(one[0].Tree, s) {
		t.Error("the string of a program shares memory with it")
	}
}

func must(p api.Program, _ api.Errno) api.Program { return p }

// within reports whether the first byte of part is one of the bytes of s in memory.
func within(part, s string) bool {
	p, first := uintptr(unsafe.Pointer(unsafe.StringData(part))), uintptr(unsafe.Pointer(unsafe.StringData(s)))
	return p >= first && p < first+uintptr(len(s))
}

// The examples of the chapter.
func TestExamples(t *testing.T) {
	texts := map[string]api.Program{
		"tail 0 0":                         {write.Tail(0, 0)},
		"jump 0 1":                         {write.Jump(0, 1)},
		"set 1 100; cons 0 1 0; jump 0 -2": {write.Set(1, "100"), write.Cons(0, 1, 0), write.Jump(0, -2)},
		"":                                 {},
	}
	for _, s := range slices.Sorted(maps.Keys(texts)) {
		p, e := code.Parse(s)
		u, f := code.Text(p)
		if e != api.OK || f != api.OK || !slices.Equal(p, texts[s]) || u != s {
			t.Errorf("%q: %q, %d, %d", s, u, e, f)
		}
	}
	if s, e := code.Code(api.Program{write.Tail(0, 0)}); e != api.OK || s != "111010101001000" {
		t.Error(s, e)
	}
	if code.Valid(api.Program{write.Jump(0, 2)}) || code.Valid(api.Program{write.Move(0, 32)}) || !code.Valid(api.Program{write.Jump(0, 1)}) {
		t.Error("jump 0 1 is valid, jump 0 2 and move 0 32 are not")
	}
}
