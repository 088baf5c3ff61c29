package code_test

import (
	"maps"
	"slices"
	"strconv"
	"strings"
	"testing"
	"unsafe"

	"narcissus/api"
	"narcissus/code"
	"narcissus/tree"
)

const greatest = int(^uint(0) >> 1)

// The document's notations, written down once more, to hold the package against them.

func number(n int) string { return strings.Repeat("10", n) + "0" }

func pair(a, b string) string { return "1" + a + b }

func list(l []string) string {
	s := "0"
	for _, x := range slices.Backward(l) {
		s = pair(x, s)
	}
	return s
}

func codeOf(p api.Program) string {
	var l []string
	for _, in := range p {
		l = append(l, codeOfInstr(in))
	}
	return list(l)
}

func codeOfInstr(in api.Instr) string {
	a, op := number(in.A), number(in.Op)
	switch in.Op {
	case api.OpSet:
		return pair(op, pair(a, in.Tree))
	case api.OpCons:
		return pair(op, pair(a, pair(number(in.B), number(in.C))))
	case api.OpJump:
		if in.B < 0 {
			return pair(op, pair(a, pair("100", number(-in.B))))
		}
		return pair(op, pair(a, pair("0", number(in.B))))
	}
	return pair(op, pair(a, number(in.B)))
}

func textOf(p api.Program) string {
	var l []string
	for _, in := range p {
		l = append(l, textOfInstr(in))
	}
	return strings.Join(l, "; ")
}

func textOfInstr(in api.Instr) string {
	name := []string{"set", "move", "cons", "head", "tail", "jump"}[in.Op]
	s := name + " " + strconv.Itoa(in.A) + " "
	switch in.Op {
	case api.OpSet:
		return s + in.Tree
	case api.OpCons:
		return s + strconv.Itoa(in.B) + " " + strconv.Itoa(in.C)
	}
	return s + strconv.Itoa(in.B)
}

func set(a int, s string) api.Instr { return api.Instr{Op: api.OpSet, A: a, Tree: s} }
func move(a, b int) api.Instr       { return api.Instr{Op: api.OpMove, A: a, B: b} }
func cons(a, b, c int) api.Instr    { return api.Instr{Op: api.OpCons, A: a, B: b, C: c} }
func head(a, b int) api.Instr       { return api.Instr{Op: api.OpHead, A: a, B: b} }
func tail(a, b int) api.Instr       { return api.Instr{Op: api.OpTail, A: a, B: b} }
func jump(a, b int) api.Instr       { return api.Instr{Op: api.OpJump, A: a, B: b} }

// some are instructions of all kinds, from the least numbers to the greatest ones.
func some() []api.Instr {
	return []api.Instr{
		set(0, "0"), set(31, "100"), set(7, "1100100"), set(1, "11000"),
		move(0, 0), move(31, 0), move(0, 31), move(3, 12),
		cons(0, 0, 0), cons(31, 30, 29), cons(1, 2, 31), cons(5, 31, 0),
		head(0, 0), head(31, 31), head(2, 9), tail(0, 0), tail(31, 30), tail(9, 2),
		jump(0, 0), jump(31, 1), jump(4, -1), jump(0, 2), jump(1, -2),
	}
}

// long is a program whose code and string are long, with jumps over all of it.
func long() api.Program {
	var p api.Program
	for i := range 600 {
		p = append(p, some()[i%18])
	}
	p[0], p[1], p[598], p[599] = jump(0, 600), jump(31, 599), jump(31, -598), jump(1, -599)
	return p
}

// programs returns valid programs.
func programs() []api.Program {
	l := []api.Program{nil, {}, long(), slices.Repeat(api.Program{move(1, 0)}, api.MaxCode)}
	for _, a := range some() {
		l = append(l, api.Program{move(0, 1), move(0, 1), a, move(0, 1)})
		if a.Op == api.OpJump && (a.B < 0 || a.B > 1) {
			continue
		}
		l = append(l, api.Program{a})
		for _, b := range some() {
			if b.Op != api.OpJump || -1 <= b.B && b.B <= 1 {
				l = append(l, api.Program{a, b})
			}
		}
	}
	return l
}

// invalid returns programs that are not valid.
func invalid() []api.Program {
	l := []api.Program{
		slices.Repeat(api.Program{move(1, 0)}, api.MaxCode+1),
		{{Op: -1}}, {{Op: api.Ops}}, {{Op: greatest}}, {{Op: -greatest - 1}}, {move(0, 0), {Op: api.Ops}},
		{set(0, "")}, {set(0, "1")}, {set(0, "00")}, {set(0, "2")}, {set(0, number(api.MaxTree/2))},
		largeTrees(),
		{{Op: api.OpSet}}, {{Op: api.OpSet, Tree: "0", B: 1}}, {{Op: api.OpSet, Tree: "0", C: 1}}, {{Op: api.OpSet, Tree: "0", B: -1}},
		{{Op: api.OpMove, C: 1}}, {{Op: api.OpHead, C: 1}}, {{Op: api.OpTail, C: -1}}, {{Op: api.OpJump, C: 1}},
		{{Op: api.OpMove, Tree: "0"}}, {{Op: api.OpCons, Tree: "0"}}, {{Op: api.OpHead, Tree: "0"}}, {{Op: api.OpTail, Tree: "0"}}, {{Op: api.OpJump, Tree: "0"}},
		{{Op: api.OpCons, Tree: "1"}},
		{jump(0, 2)}, {jump(0, -1)}, {move(0, 0), jump(0, 2)}, {move(0, 0), jump(0, -2)}, {jump(0, 3), move(0, 0)},
		{jump(0, greatest)}, {jump(0, -greatest-1)}, {move(0, 0), jump(0, greatest)}, {move(0, 0), jump(0, -greatest-1)},
	}
	for _, r := range []int{-1, 32, 1000, greatest, -greatest - 1} {
		l = append(l, api.Program{set(r, "0")}, api.Program{move(r, 0)}, api.Program{move(0, r)}, api.Program{head(r, 0)}, api.Program{head(0, r)},
			api.Program{tail(r, 0)}, api.Program{tail(0, r)}, api.Program{cons(r, 0, 0)}, api.Program{cons(0, r, 0)}, api.Program{cons(0, 0, r)},
			api.Program{jump(r, 0)}, api.Program{move(0, 0), cons(0, 0, r), move(0, 0)})
	}
	return l
}

// largeTrees is a program whose trees have one character more together than those of a valid one.
func largeTrees() api.Program {
	return api.Program{set(0, number(499999)), set(0, number(499999)), set(0, "0"), set(0, "0"), set(0, "0")}
}

func short(s string) string {
	if len(s) > 60 {
		return s[:60] + ".."
	}
	return s
}

func TestValid(t *testing.T) {
	for _, p := range programs() {
		if !code.Valid(p) {
			t.Errorf("not valid: %s", short(textOf(p)))
		}
	}
	for i, p := range invalid() {
		if code.Valid(p) {
			t.Errorf("valid: program %d of %d instructions", i, len(p))
		}
	}
}

func TestValidAtTheLimitOfTrees(t *testing.T) {
	half := number(499999) // of 999999 characters
	for _, c := range []struct {
		p    api.Program
		want bool
	}{
		{api.Program{set(0, number(999999))}, true},
		{api.Program{set(0, number(999999)), set(0, "0")}, true},
		{api.Program{set(0, half), move(0, 0), set(1, half)}, true},
		{api.Program{set(0, half), set(1, half), set(2, "0"), set(3, "0")}, true},
		{api.Program{set(0, half), set(1, half), set(2, "0"), set(3, "100")}, false},
		{api.Program{set(0, number(999999)), set(0, "0"), set(0, "0")}, false},
		{api.Program{set(0, number(999999)), set(0, number(999999))}, false},
	} {
		if code.Valid(c.p) != c.want {
			t.Errorf("Valid(%s) is %v", short(textOf(c.p)), !c.want)
		}
	}
}

// Every jump of every place of a short program, and the first ones outside.
func TestValidJumps(t *testing.T) {
	for n := range 6 {
		for i := range n {
			for b := -n - 2; b <= n+2; b++ {
				p := slices.Repeat(api.Program{move(0, 0)}, n)
				p[i] = jump(0, b)
				if want := i+b >= 0 && i+b <= n; code.Valid(p) != want {
					t.Errorf("Valid(%s) is %v", textOf(p), !want)
				}
			}
		}
	}
}

func TestRegs(t *testing.T) {
	for _, c := range []struct {
		p    api.Program
		want int
	}{
		{nil, 1}, {api.Program{set(0, "100")}, 1}, {api.Program{move(0, 0)}, 1}, {api.Program{set(4, "0")}, 5},
		{api.Program{move(3, 0)}, 4}, {api.Program{move(0, 3)}, 4}, {api.Program{head(6, 2)}, 7}, {api.Program{head(2, 6)}, 7},
		{api.Program{tail(8, 2)}, 9}, {api.Program{tail(2, 8)}, 9}, {api.Program{cons(9, 1, 2)}, 10}, {api.Program{cons(1, 9, 2)}, 10}, {api.Program{cons(1, 2, 9)}, 10},
		{api.Program{jump(5, 1)}, 6}, {api.Program{jump(1, 3), move(0, 0), move(0, 0)}, 2}, {api.Program{move(0, 0), move(0, 0), jump(0, -2)}, 1},
		{api.Program{cons(0, 4, 7), jump(0, 1)}, 8}, {api.Program{move(31, 0), set(2, "0")}, 32}, {api.Program{set(2, "0"), cons(1, 31, 3), jump(7, 0)}, 32},
	} {
		if n, e := code.Regs(c.p); e != api.OK || n != c.want {
			t.Errorf("Regs(%s) = %d, %d", textOf(c.p), n, e)
		}
	}
}

// P2.1: Decode of Code is the program.
func TestDecodeOfCode(t *testing.T) {
	for _, p := range programs() {
		if len(p) == api.MaxCode {
			continue // in TestCodeOfTheLongest
		}
		s, e := code.Code(p)
		if e != api.OK || s != codeOf(p) {
			t.Errorf("Code(%s) = %s, %d", short(textOf(p)), short(s), e)
		}
		if q, e := code.Decode(s); e != api.OK || !slices.Equal(q, p) {
			t.Errorf("Decode of Code(%s) = %s, %d", short(textOf(p)), short(textOf(q)), e)
		}
	}
}

func TestCodeOfTheLongest(t *testing.T) {
	p := slices.Repeat(api.Program{set(0, "0"), jump(31, 0)}, api.MaxCode/2)
	p[0], p[api.MaxCode-1] = jump(2, api.MaxCode), jump(31, 1-api.MaxCode)
	want := codeOf(p)
	if s, e := code.Code(p); e != api.OK || s != want {
		t.Errorf("%s, %d", short(s), e)
	}
	if q, e := code.Decode(want); e != api.OK || !slices.Equal(q, p) {
		t.Errorf("%d instructions, %d", len(q), e)
	}
	if q, e := code.Decode(codeOf(append(p, move(0, 0)))); e != api.ErrNone || len(q) != 0 {
		t.Errorf("%d instructions, %d", len(q), e)
	}
}

func TestCodeTooLarge(t *testing.T) {
	far := make(api.Program, api.MaxCode)
	for i := range far {
		far[i] = jump(0, api.MaxCode-i)
	}
	for _, c := range []struct {
		p    api.Program
		want api.Errno
	}{
		{api.Program{set(0, number(999996))}, api.OK}, // the code has 1999999 characters
		{api.Program{set(0, number(999997))}, api.ErrSize},
		{api.Program{set(0, number(999999))}, api.ErrSize},
		{api.Program{set(31, number(999965))}, api.OK},
		{api.Program{set(31, number(999966))}, api.ErrSize},
		{api.Program{set(0, number(499996)), set(0, number(499996))}, api.OK},
		{api.Program{set(0, number(499997)), set(0, number(499997))}, api.ErrSize},
		{api.Program{set(0, number(999997)), {Op: api.Ops}}, api.ErrForm},
		{far, api.ErrSize},
		{far[:1000:1000], api.ErrForm}, // the jumps lead out of it
	} {
		s, e := code.Code(c.p)
		if e != c.want || e != api.OK && s != "" || e == api.OK && s != codeOf(c.p) {
			t.Errorf("%d instructions: %s, %d", len(c.p), short(s), e)
		}
		if e != api.OK {
			continue
		}
		if q, e := code.Decode(s); e != api.OK || !slices.Equal(q, c.p) {
			t.Errorf("%d instructions, %d", len(q), e)
		}
	}
}

// trees returns all trees with the numbers of pairs from 0 to most, the smaller ones first.
func trees(most int) []string {
	byPairs := [][]string{{"0"}}
	for k := 1; k <= most; k++ {
		var l []string
		for i := range k {
			for _, h := range byPairs[i] {
				for _, r := range byPairs[k-1-i] {
					l = append(l, pair(h, r))
				}
			}
		}
		byPairs = append(byPairs, l)
	}
	return slices.Concat(byPairs...)
}

// small returns the instructions whose codes have at most the given number of pairs.
func small(pairs int) []api.Instr {
	var l []api.Instr
	for op := range api.Ops {
		for a := range pairs {
			for b := -pairs; b <= pairs; b++ {
				for c := range pairs {
					l = append(l, api.Instr{Op: op, A: a, B: b, C: c})
				}
			}
			for _, s := range trees(pairs - 2) {
				l = append(l, api.Instr{Op: op, A: a, Tree: s})
			}
		}
	}
	return slices.DeleteFunc(l, func(in api.Instr) bool {
		return in.Op != api.OpJump && in.B < 0 || (in.Op == api.OpSet) != (in.Tree != "") || in.Op == api.OpSet && in.B != 0 ||
			in.Op != api.OpCons && in.C != 0 || len(codeOfInstr(in))/2 > pairs
	})
}

// P2.1: every tree that is no code of a valid program is refused, and what is accepted is the code of what is returned.
func TestDecodeOfAllSmallTrees(t *testing.T) {
	const most = 11
	want := map[string]api.Program{}
	var extend func(p api.Program, left int)
	instrs := small(most - 1)
	extend = func(p api.Program, left int) {
		if inside(p) {
			want[codeOf(p)] = slices.Clone(p)
		}
		for _, in := range instrs {
			if n := len(codeOfInstr(in))/2 + 1; n <= left {
				extend(append(p[:len(p):len(p)], in), left-n)
			}
		}
	}
	extend(nil, most)
	for _, s := range trees(most) {
		p, e := code.Decode(s)
		q, ok := want[s]
		if ok && (e != api.OK || !slices.Equal(p, q)) {
			t.Errorf("Decode(%s) = %s, %d", s, textOf(p), e)
		}
		if !ok && (e != api.ErrNone || len(p) != 0) {
			t.Errorf("Decode(%s) = %d instructions, %d", s, len(p), e)
		}
		if c, e := code.Code(p); ok && (e != api.OK || c != s) {
			t.Errorf("Code of Decode(%s) = %s, %d", s, c, e)
		}
	}
	if len(want) < 500 {
		t.Error("only", len(want), "programs")
	}
}

// inside reports whether all jumps of a program stay in it.
func inside(p api.Program) bool {
	for i, in := range p {
		if in.Op == api.OpJump && (i+in.B < 0 || i+in.B > len(p)) {
			return false
		}
	}
	return true
}

// P2.1: programs with the same code are equal; all of programs() are different, but for the empty one.
func TestCodesDiffer(t *testing.T) {
	seen := map[string]api.Program{}
	for _, p := range programs()[:200] {
		if len(p) == api.MaxCode {
			continue
		}
		s, e := code.Code(p)
		if q, ok := seen[s]; e != api.OK || ok && !slices.Equal(p, q) {
			t.Errorf("%s and %s: %d", textOf(p), textOf(q), e)
		}
		seen[s] = p
	}
	if len(seen) < 190 {
		t.Error("only", len(seen), "codes")
	}
}

func TestDecodeRefuses(t *testing.T) {
	for _, s := range []string{"", "1", "00", "2", "10", "11101010100100", "111010101001000 ", number(api.MaxTree / 2)} {
		if p, e := code.Decode(s); e != api.ErrForm || len(p) != 0 {
			t.Errorf("Decode(%q) = %s, %d", short(s), textOf(p), e)
		}
	}
	one := func(op, rest string) string { return list([]string{pair(number(0), pair("0", "0")), pair(op, rest)}) }
	for name, s := range map[string]string{
		"an element that is nil":     list([]string{"0"}),
		"no fields":                  one(number(api.OpSet), "0"),
		"no number of an Op":         one("11000", pair("0", "0")),
		"an Op out of the table":     one(number(api.Ops), pair("0", "0")),
		"a large Op":                 one(number(5000), pair("0", "0")),
		"register 32":                one(number(api.OpSet), pair(number(32), "0")),
		"register 32 of a move":      one(number(api.OpMove), pair(number(0), number(32))),
		"no register":                one(number(api.OpMove), pair("11000", "0")),
		"no second register":         one(number(api.OpMove), pair("0", "11000")),
		"a cons with two registers":  one(number(api.OpCons), pair("0", "0")),
		"a cons with no third":       one(number(api.OpCons), pair("0", pair("0", "11000"))),
		"a cons with four registers": one(number(api.OpCons), pair("0", pair("0", pair("11000", "0")))),
		"a jump without a sign":      one(number(api.OpJump), pair("0", "0")),
		"another sign":               one(number(api.OpJump), pair("0", pair("10100", "10100"))),
		"one more other sign":        one(number(api.OpJump), pair("0", pair("11000", "100"))),
		"0 backwards":                one(number(api.OpJump), pair("0", pair("100", "0"))),
		"no distance":                one(number(api.OpJump), pair("0", pair("0", "11000"))),
		"no distance backwards":      one(number(api.OpJump), pair("0", pair("100", "11000"))),
		"a jump behind the end":      one(number(api.OpJump), pair("0", pair("0", number(2)))),
		"a jump before the start":    one(number(api.OpJump), pair("0", pair("100", number(2)))),
		"a far jump":                 one(number(api.OpJump), pair("0", pair("0", number(900000)))),
		"a far jump backwards":       one(number(api.OpJump), pair("0", pair("100", number(900000)))),
		"too many instructions":      codeOf(slices.Repeat(api.Program{move(0, 0)}, api.MaxCode+1)),
		"a list of many nils":        number(999999),
		"a tree of many heads":       strings.Repeat("1", 999999) + strings.Repeat("0", 1000000),
	} {
		if p, e := code.Decode(s); e != api.ErrNone || len(p) != 0 {
			t.Errorf("%s: %s, %d", name, short(textOf(p)), e)
		}
	}
}

// P2.2: Parse of Text is the program.
func TestParseOfText(t *testing.T) {
	for _, p := range append(programs(), api.Program{set(0, number(999999))}, slices.Repeat(api.Program{cons(31, 30, 29)}, api.MaxCode)) {
		s, e := code.Text(p)
		if e != api.OK || s != textOf(p) {
			t.Errorf("Text(%s) = %s, %d", short(textOf(p)), short(s), e)
		}
		if q, e := code.Parse(s); e != api.OK || !slices.Equal(q, p) {
			t.Errorf("Parse of Text(%s) = %s, %d", short(textOf(p)), short(textOf(q)), e)
		}
	}
}

// P2.2: what Parse accepts is the Text of what it returns. The strings differ from those of programs by one byte.
func TestParseOfAlmostTexts(t *testing.T) {
	p := api.Program{set(31, "100"), move(2, 10), cons(0, 1, 20), jump(0, -2), head(3, 4), tail(30, 5), jump(1, 1)}
	accepted := 0
	for s := range almost(textOf(p)) {
		q, e := code.Parse(s)
		if e == api.OK {
			accepted++
			if u, e := code.Text(q); e != api.OK || u != s {
				t.Errorf("Parse(%q) = %s, %d", s, u, e)
			}
		} else if e != api.ErrParse || len(q) != 0 {
			t.Errorf("Parse(%q): %d instructions, %d", s, len(q), e)
		}
	}
	if accepted < 50 {
		t.Error("only", accepted, "accepted")
	}
}

// almost returns the strings that become s when a byte is put in, left out, or replaced.
func almost(s string) map[string]bool {
	m := map[string]bool{}
	for i := range len(s) + 1 {
		for _, c := range "0123456789-+; \n_,ast" {
			m[s[:i]+string(c)+s[i:]] = true
			if i < len(s) {
				m[s[:i]+string(c)+s[i+1:]] = true
			}
		}
		if i < len(s) {
			m[s[:i]+s[i+1:]] = true
		}
	}
	return m
}

func TestParseRefuses(t *testing.T) {
	l := []string{
		" ", ";", "; ", "x", "0", "set", "set 0", "set 0 ", "set 0 1", "set 0 0 0", "set  0 0", "set 0  0", "set 00 0", "set 32 0", "set -1 0", "set 0 00", "set x 0",
		"Set 0 0", "SET 0 0", "sets 0 0", "se 0 0", " 0 0", "nop 0 0", "halt", "move 0", "move 0 0 0", "move 0 32", "move 32 0", "move 0 -1", "move +0 0", "move 0 -0", "move 0x1 0", "move 1_0 0", "move 0 100",
		"cons 0 0", "cons 0 0 0 0", "cons 0 0 32", "cons 0 0 0 ", "head 0 0 0", "head 0,0", "head\t0 0", "tail 0 0\n", "tail 00 0", "tail 0 0;", "tail 0 0; ", "; tail 0 0", "tail 0 0;tail 0 0", "tail 0 0 ; tail 0 0", "tail 0 0;  tail 0 0", "tail 0 0; ; tail 0 0", " tail 0 0", "tail 0 0 ",
		"jump 0", "jump 0 2", "jump 0 -1", "jump 0 +1", "jump 0 01", "jump 0 -0", "jump 0 -", "jump 0 1.0", "jump 0 1 0", "move 0 0; jump 0 -2", "move 0 0; jump 0 -01", "jump 0 99999999999999999999", "jump 0 -99999999999999999999", "jump 0 9223372036854775807", "jump 0 -9223372036854775808",
		"head \uff10 0", "head \u0661 0", "head 0 0\x00", "\xff", "head 0 0\xff",
		textOf(slices.Repeat(api.Program{move(0, 0)}, api.MaxCode+1)), textOf(largeTrees()),
		"set 0 " + number(api.MaxTree/2), "set 0 " + strings.Repeat("0", api.MaxText), "head 0 " + strings.Repeat("0", api.MaxText), "head 0 " + strings.Repeat("9", api.MaxText-7),
		strings.Repeat(" ", api.MaxText), strings.Repeat("; ", api.MaxText/2), strings.Repeat("; ", api.MaxText), strings.Repeat("move 0 0; ", api.MaxText/10) + "move 0 0",
	}
	for _, s := range l {
		if p, e := code.Parse(s); e != api.ErrParse || len(p) != 0 {
			t.Errorf("Parse(%q) = %s, %d", short(s), short(textOf(p)), e)
		}
	}
}

// P2.3: the items of a code are the codes of the instructions.
func TestItemsOfCode(t *testing.T) {
	for _, p := range programs() {
		if len(p) == api.MaxCode {
			continue
		}
		s, _ := code.Code(p)
		l, e := tree.Items(s)
		if e != api.OK || len(l) != len(p) {
			t.Fatalf("%s: %d items, %d", short(textOf(p)), len(l), e)
		}
		for i, in := range p {
			if l[i] != codeOfInstr(in) {
				t.Errorf("%s: the item %d is %s", short(textOf(p)), i, short(l[i]))
			}
		}
		if r, e := tree.List(l); e != api.OK || r != s {
			t.Errorf("%s: the list of the items is %s, %d", short(textOf(p)), short(r), e)
		}
	}
}

func TestInvalidPrograms(t *testing.T) {
	for i, p := range invalid() {
		if n, e := code.Regs(p); e != api.ErrForm || n != 0 {
			t.Errorf("Regs of program %d: %d, %d", i, n, e)
		}
		if s, e := code.Code(p); e != api.ErrForm || s != "" {
			t.Errorf("Code of program %d: %s, %d", i, short(s), e)
		}
		if s, e := code.Text(p); e != api.ErrForm || s != "" {
			t.Errorf("Text of program %d: %s, %d", i, short(s), e)
		}
	}
}

// R5: arguments are neither changed nor retained, and results are new memory.
func TestNewMemory(t *testing.T) {
	p := long()
	kept := slices.Clone(p)
	s, _ := code.Code(p)
	u, _ := code.Text(p)
	code.Valid(p)
	code.Regs(p)
	if !slices.Equal(p, kept) {
		t.Fatal("an argument has been changed")
	}
	for name, again := range map[string]func() (api.Program, api.Errno){
		"Decode": func() (api.Program, api.Errno) { return code.Decode(s) },
		"Parse":  func() (api.Program, api.Errno) { return code.Parse(u) },
	} {
		q, _ := again()
		clear(q)
		if q, e := again(); e != api.OK || !slices.Equal(q, kept) {
			t.Error(name, "returns the same memory again")
		}
	}
	for _, q := range []api.Program{must(code.Decode(s)), must(code.Parse(u))} {
		for _, in := range q {
			if in.Tree != "" && (within(in.Tree, s) || within(in.Tree, u)) {
				t.Fatal("a tree is a part of the memory of the argument")
			}
		}
	}
	one := api.Program{set(0, "1100100")}
	if s, e := code.Text(one); e != api.OK || within(s, one[0].Tree) || within(one[0].Tree, s) {
		t.Error("the string of a program shares memory with it")
	}
}

func must(p api.Program, _ api.Errno) api.Program { return p }

// within reports whether the first byte of part is one of the bytes of s in memory.
func within(part, s string) bool {
	p, first := uintptr(unsafe.Pointer(unsafe.StringData(part))), uintptr(unsafe.Pointer(unsafe.StringData(s)))
	return p >= first && p < first+uintptr(len(s))
}

// The examples of the chapter.
func TestExamples(t *testing.T) {
	texts := map[string]api.Program{
		"tail 0 0":                         {tail(0, 0)},
		"jump 0 1":                         {jump(0, 1)},
		"set 1 100; cons 0 1 0; jump 0 -2": {set(1, "100"), cons(0, 1, 0), jump(0, -2)},
		"":                                 {},
	}
	for _, s := range slices.Sorted(maps.Keys(texts)) {
		p, e := code.Parse(s)
		u, f := code.Text(p)
		if e != api.OK || f != api.OK || !slices.Equal(p, texts[s]) || u != s {
			t.Errorf("%q: %q, %d, %d", s, u, e, f)
		}
	}
	if s, e := code.Code(api.Program{tail(0, 0)}); e != api.OK || s != "111010101001000" {
		t.Error(s, e)
	}
	if code.Valid(api.Program{jump(0, 2)}) || code.Valid(api.Program{move(0, 32)}) || !code.Valid(api.Program{jump(0, 1)}) {
		t.Error("jump 0 1 is valid, jump 0 2 and move 0 32 are not")
	}
}
