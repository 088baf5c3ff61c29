package tree_test

import (
	"slices"
	"strings"
	"testing"
	"unsafe"

	"narcissus/api"
	"narcissus/sample"
	"narcissus/tree"
)

// zigzag is a tree with 2n pairs that is nested in the tail of the head of the tail and so on.
func zigzag(n int) string { return strings.Repeat("110", n) + "0" + strings.Repeat("0", n) }

func TestLimit(t *testing.T) {
	if n := len(sample.Number(sample.MostPairs)); n > api.MaxTree || n+2 <= api.MaxTree {
		t.Fatal("not the longest valid tree:", n)
	}
}

func TestValidOfAllShortStrings(t *testing.T) {
	want := map[string]bool{}
	for _, s := range sample.Trees(7) {
		want[s] = true
	}
	words := []string{""}
	for len(words[0]) <= 15 {
		var longer []string
		for _, s := range words {
			if tree.Valid(s) != want[s] {
				t.Errorf("Valid(%q) is %v", s, !want[s])
			}
			longer = append(longer, s+"0", s+"1")
		}
		words = longer
	}
}

func TestValidOfLongStrings(t *testing.T) {
	for _, s := range []string{sample.Number(sample.MostPairs), sample.Comb(sample.MostPairs), zigzag(sample.MostPairs / 2), sample.Full(19)} {
		if !tree.Valid(s) {
			t.Errorf("not valid: %s", sample.Short(s))
		}
	}
	for _, s := range sample.NotTrees() {
		if tree.Valid(s) {
			t.Errorf("valid: %q", sample.Short(s))
		}
	}
}

// P1.2: no valid tree is the beginning of another one.
func TestNoTreeBeginsAnother(t *testing.T) {
	for _, s := range append(sample.Trees(7), sample.Number(5000), sample.Comb(5000)) {
		for i := range len(s) {
			if tree.Valid(s[:i]) {
				t.Fatalf("%q is the beginning of %q", sample.Short(s[:i]), sample.Short(s))
			}
		}
		for _, more := range []string{"0", "1", "100", "2"} {
			if tree.Valid(s + more) {
				t.Fatalf("valid: %q", sample.Short(s+more))
			}
		}
	}
}

// P1.2: the size is 1 more than twice the number of pairs.
func TestPairs(t *testing.T) {
	long := []string{sample.Number(sample.MostPairs), sample.Comb(sample.MostPairs), zigzag(sample.MostPairs / 2), sample.Full(19)}
	for _, s := range append(sample.Trees(7), long...) {
		n, e := tree.Pairs(s)
		if e != api.OK || n != strings.Count(s, "1") || len(s) != 2*n+1 {
			t.Errorf("Pairs(%s) = %d, %d", sample.Short(s), n, e)
		}
	}
	for _, s := range sample.NotTrees() {
		if n, e := tree.Pairs(s); e != api.ErrForm || n != 0 {
			t.Errorf("Pairs(%q) = %d, %d", sample.Short(s), n, e)
		}
	}
}

// P1.1: the head and the tail of a pair are its parts, and the pair is that of its parts.
func TestConsHeadTail(t *testing.T) {
	parts := append(sample.Trees(4), sample.Number(1000), sample.Comb(1000), sample.Full(10))
	for _, a := range parts {
		for _, b := range parts {
			s, e := tree.Cons(a, b)
			if e != api.OK || s != "1"+a+b {
				t.Fatalf("Cons(%s, %s) = %s, %d", sample.Short(a), sample.Short(b), sample.Short(s), e)
			}
			checkParts(t, s, a, b)
		}
	}
}

func checkParts(t *testing.T, s, head, tail string) {
	t.Helper()
	if h, e := tree.Head(s); e != api.OK || h != head {
		t.Errorf("Head(%s) = %s, %d", sample.Short(s), sample.Short(h), e)
	}
	if r, e := tree.Tail(s); e != api.OK || r != tail {
		t.Errorf("Tail(%s) = %s, %d", sample.Short(s), sample.Short(r), e)
	}
}

func TestPairOfHeadAndTail(t *testing.T) {
	for _, s := range append(sample.Trees(7)[1:], sample.Number(sample.MostPairs), sample.Comb(sample.MostPairs), sample.Full(19)) {
		h, e1 := tree.Head(s)
		r, e2 := tree.Tail(s)
		c, e3 := tree.Cons(h, r)
		if e1 != api.OK || e2 != api.OK || e3 != api.OK || c != s {
			t.Errorf("%s: %d, %d, %d", sample.Short(s), e1, e2, e3)
		}
	}
}

func TestPartsOfNil(t *testing.T) {
	checkParts(t, "0", "0", "0")
}

func TestPartsOfLongTrees(t *testing.T) {
	checkParts(t, sample.Number(sample.MostPairs), "0", sample.Number(sample.MostPairs-1))
	checkParts(t, sample.Comb(sample.MostPairs), sample.Comb(sample.MostPairs-1), "0")
	checkParts(t, sample.Full(19), sample.Full(18), sample.Full(18))
}

func TestPartsOfInvalid(t *testing.T) {
	for _, s := range sample.NotTrees() {
		if h, e := tree.Head(s); e != api.ErrForm || h != "" {
			t.Errorf("Head(%q) = %q, %d", sample.Short(s), sample.Short(h), e)
		}
		if r, e := tree.Tail(s); e != api.ErrForm || r != "" {
			t.Errorf("Tail(%q) = %q, %d", sample.Short(s), sample.Short(r), e)
		}
	}
}

func TestConsOfInvalid(t *testing.T) {
	for _, bad := range sample.NotTrees() {
		for _, good := range []string{"0", "100", sample.Number(sample.MostPairs)} {
			if s, e := tree.Cons(bad, good); e != api.ErrForm || s != "" {
				t.Errorf("Cons(%q, %q) = %q, %d", sample.Short(bad), sample.Short(good), sample.Short(s), e)
			}
			if s, e := tree.Cons(good, bad); e != api.ErrForm || s != "" {
				t.Errorf("Cons(%q, %q) = %q, %d", sample.Short(good), sample.Short(bad), sample.Short(s), e)
			}
		}
		if s, e := tree.Cons(bad, bad); e != api.ErrForm || s != "" {
			t.Errorf("Cons(%q, %q) = %q, %d", sample.Short(bad), sample.Short(bad), sample.Short(s), e)
		}
	}
}

func TestConsAtTheLimit(t *testing.T) {
	const half = (sample.MostPairs - 1) / 2
	for _, c := range []struct {
		left, right int
		want        api.Errno
	}{
		{sample.MostPairs - 1, 0, api.OK}, {0, sample.MostPairs - 1, api.OK}, {half, half, api.OK},
		{sample.MostPairs, 0, api.ErrSize}, {0, sample.MostPairs, api.ErrSize}, {half, half + 1, api.ErrSize}, {half + 1, half, api.ErrSize},
		{sample.MostPairs, sample.MostPairs, api.ErrSize},
	} {
		a, b := sample.Comb(c.left), sample.Number(c.right)
		want := "1" + a + b
		if c.want != api.OK {
			want = ""
		}
		if s, e := tree.Cons(a, b); e != c.want || s != want {
			t.Errorf("Cons of %d and %d pairs: %s, %d", c.left, c.right, sample.Short(s), e)
		}
	}
}

// depthOf is the depth of the tree with which s begins, and what is behind it, as the document defines the depth.
func depthOf(s string) (int, string) {
	if s[0] == '0' {
		return 0, s[1:]
	}
	head, rest := depthOf(s[1:])
	tail, rest := depthOf(rest)
	return 1 + max(head, tail), rest
}

func TestDepth(t *testing.T) {
	for _, s := range sample.Trees(8) {
		want, _ := depthOf(s)
		if d, e := tree.Depth(s); e != api.OK || d != want {
			t.Errorf("Depth(%s) = %d, %d", s, d, e)
		}
	}
	for s, want := range map[string]int{
		"0": 0, "100": 1, "1100100": 2, sample.Number(sample.MostPairs): sample.MostPairs, sample.Comb(sample.MostPairs): sample.MostPairs,
		zigzag(sample.MostPairs / 2): sample.MostPairs - 1, sample.Full(19): 19,
		"1" + sample.Number(7) + sample.Comb(9): 10, "1" + sample.Comb(9) + sample.Number(7): 10,
	} {
		if d, e := tree.Depth(s); e != api.OK || d != want {
			t.Errorf("Depth(%s) = %d, %d", sample.Short(s), d, e)
		}
	}
	for _, s := range sample.NotTrees() {
		if d, e := tree.Depth(s); e != api.ErrForm || d != 0 {
			t.Errorf("Depth(%q) = %d, %d", sample.Short(s), d, e)
		}
	}
}

// P1.3: the value of a number is the number.
func TestNumberValue(t *testing.T) {
	for _, n := range []int{0, 1, 2, 3, 4, 5, 31, 100, 4000, sample.MostPairs - 1, sample.MostPairs} {
		s, e := tree.Number(n)
		if e != api.OK || s != sample.Number(n) {
			t.Errorf("Number(%d) = %s, %d", n, sample.Short(s), e)
		}
		if v, e := tree.Value(s); e != api.OK || v != n {
			t.Errorf("Value of the number %d = %d, %d", n, v, e)
		}
	}
}

func TestNumberOutOfRange(t *testing.T) {
	for n, want := range map[int]api.Errno{
		-1: api.ErrArg, -sample.MostPairs: api.ErrArg, -sample.Greatest - 1: api.ErrArg,
		sample.MostPairs + 1: api.ErrSize, api.MaxTree: api.ErrSize, sample.Greatest/2 + 1: api.ErrSize, sample.Greatest: api.ErrSize,
	} {
		if s, e := tree.Number(n); e != want || s != "" {
			t.Errorf("Number(%d) = %s, %d", n, sample.Short(s), e)
		}
	}
}

func TestValueOfAllSmallTrees(t *testing.T) {
	for _, s := range sample.Trees(8) {
		want, n := api.ErrNone, 0
		if k := len(s) / 2; s == sample.Number(k) {
			want, n = api.OK, k
		}
		if v, e := tree.Value(s); e != want || v != n {
			t.Errorf("Value(%s) = %d, %d", s, v, e)
		}
	}
}

func TestValueOfOthers(t *testing.T) {
	last := strings.Repeat("10", sample.MostPairs-2) + "11000" // its last pair but one has a head
	for _, s := range []string{sample.Comb(2), sample.Comb(sample.MostPairs), sample.Full(19), last, "1" + sample.Number(1) + sample.Number(5), "1" + sample.Number(sample.MostPairs-2) + "100"} {
		if v, e := tree.Value(s); e != api.ErrNone || v != 0 {
			t.Errorf("Value(%s) = %d, %d", sample.Short(s), v, e)
		}
	}
	for _, s := range sample.NotTrees() {
		if v, e := tree.Value(s); e != api.ErrForm || v != 0 {
			t.Errorf("Value(%q) = %d, %d", sample.Short(s), v, e)
		}
	}
}

// P1.4: the items of a list are its elements.
func TestItemsOfList(t *testing.T) {
	small := sample.Trees(3)
	lists := [][]string{nil, {}, small, {"0", "100"}, {sample.Comb(sample.MostPairs - 1)}, {sample.Number(1000), "0", sample.Comb(1000)}, {sample.Full(18), sample.Full(17), "0"}}
	for _, a := range small {
		lists = append(lists, []string{a})
		for _, b := range small {
			lists = append(lists, []string{a, b}, []string{a, b, a}, []string{b, b, a, a, b})
		}
	}
	for n := range 70 {
		lists = append(lists, slices.Repeat([]string{"0", "11000"}, n))
	}
	for _, l := range lists {
		want := "0"
		for _, s := range slices.Backward(l) {
			want = "1" + s + want
		}
		s, e := tree.List(l)
		if e != api.OK || s != want {
			t.Fatalf("List of %d elements: %s, %d", len(l), sample.Short(s), e)
		}
		if i, e := tree.Items(s); e != api.OK || !slices.Equal(i, l) {
			t.Fatalf("Items(%s): %d elements, %d", sample.Short(s), len(i), e)
		}
	}
}

// P1.4: every tree is a list.
func TestListOfItems(t *testing.T) {
	long := []string{sample.Number(sample.MostPairs), sample.Comb(sample.MostPairs), zigzag(sample.MostPairs / 2), sample.Full(19)}
	for _, s := range append(sample.Trees(8), long...) {
		l, e := tree.Items(s)
		if e != api.OK {
			t.Errorf("Items(%s): %d", sample.Short(s), e)
		}
		if r, e := tree.List(l); e != api.OK || r != s {
			t.Errorf("List of Items(%s) = %s, %d", sample.Short(s), sample.Short(r), e)
		}
	}
}

func TestItemsAreHeadsOfTails(t *testing.T) {
	for _, s := range sample.Trees(6) {
		l, e := tree.Items(s)
		if e != api.OK {
			t.Errorf("Items(%s): %d", s, e)
		}
		rest := s
		for _, want := range l {
			h, _ := tree.Head(rest)
			if h != want {
				t.Errorf("Items(%s) = %v", s, l)
			}
			rest, _ = tree.Tail(rest)
		}
		if rest != "0" {
			t.Errorf("Items(%s) = %v", s, l)
		}
	}
}

func TestItemsOfLongLists(t *testing.T) {
	l, e := tree.Items(sample.Number(sample.MostPairs))
	if e != api.OK || len(l) != sample.MostPairs || slices.ContainsFunc(l, func(s string) bool { return s != "0" }) {
		t.Errorf("%d elements, %d", len(l), e)
	}
	l, e = tree.Items(sample.Comb(sample.MostPairs))
	if e != api.OK || !slices.Equal(l, []string{sample.Comb(sample.MostPairs - 1)}) {
		t.Errorf("%d elements, %d", len(l), e)
	}
	l, e = tree.Items("1" + sample.Full(18) + sample.Number(1000))
	if e != api.OK || !slices.Equal(l, append([]string{sample.Full(18)}, slices.Repeat([]string{"0"}, 1000)...)) {
		t.Errorf("%d elements, %d", len(l), e)
	}
}

func TestListAtTheLimit(t *testing.T) {
	for _, c := range []struct {
		l    []string
		want api.Errno
	}{
		{slices.Repeat([]string{"0"}, sample.MostPairs), api.OK},
		{slices.Repeat([]string{"0"}, sample.MostPairs+1), api.ErrSize},
		{[]string{sample.Number(sample.MostPairs - 1)}, api.OK},
		{[]string{sample.Number(sample.MostPairs)}, api.ErrSize},
		{[]string{sample.Comb(sample.MostPairs - 2), "0"}, api.OK},
		{[]string{sample.Comb(sample.MostPairs - 1), "0"}, api.ErrSize},
		{[]string{"0", sample.Comb(sample.MostPairs - 1)}, api.ErrSize},
		{[]string{sample.Comb(sample.MostPairs), sample.Comb(sample.MostPairs), sample.Comb(sample.MostPairs)}, api.ErrSize},
	} {
		s, e := tree.List(c.l)
		if e != c.want {
			t.Errorf("List of %d elements: %d", len(c.l), e)
		}
		if e == api.OK && (len(s) != 2*sample.MostPairs+1 || !tree.Valid(s)) || e != api.OK && s != "" {
			t.Errorf("List of %d elements: %s, %d", len(c.l), sample.Short(s), e)
		}
	}
}

func TestListOfInvalid(t *testing.T) {
	for _, bad := range sample.NotTrees() {
		for _, l := range [][]string{{bad}, {"0", bad}, {bad, "0"}, {"100", bad, "0"}, {sample.Comb(sample.MostPairs), bad}, {bad, sample.Comb(sample.MostPairs)}} {
			if s, e := tree.List(l); e != api.ErrForm || s != "" {
				t.Errorf("List with %q: %q, %d", sample.Short(bad), sample.Short(s), e)
			}
		}
		if l, e := tree.Items(bad); e != api.ErrForm || len(l) != 0 {
			t.Errorf("Items(%q): %d elements, %d", sample.Short(bad), len(l), e)
		}
	}
}

// R5: arguments are neither changed nor retained, and results are new memory.
func TestNewMemory(t *testing.T) {
	l := []string{"0", "100", "11000", "out of the list"}
	before := slices.Clone(l)
	s, e := tree.List(l[:3])
	if e != api.OK || !slices.Equal(l, before) {
		t.Fatal("List changes its argument:", l, e)
	}
	first, _ := tree.Items(s)
	for i := range first {
		first[i] = "changed"
	}
	if again, e := tree.Items(s); e != api.OK || !slices.Equal(again, before[:3]) {
		t.Error("Items returns the same memory again:", again, e)
	}
}

func TestPartsAreNewMemory(t *testing.T) {
	s := "1" + sample.Full(5) + sample.Comb(40)
	h, _ := tree.Head(s)
	r, _ := tree.Tail(s)
	l, _ := tree.Items(s)
	for _, part := range append(l, h, r) {
		if within(part, s) {
			t.Errorf("%s is a part of the memory of the argument", sample.Short(part))
		}
	}
}

// within reports whether the first byte of part is one of the bytes of s in memory.
func within(part, s string) bool {
	p, first := uintptr(unsafe.Pointer(unsafe.StringData(part))), uintptr(unsafe.Pointer(unsafe.StringData(s)))
	return p >= first && p < first+uintptr(len(s))
}

// The examples of the chapter.
func TestExamples(t *testing.T) {
	if s, e := tree.Number(2); e != api.OK || s != "10100" {
		t.Error(s, e)
	}
	checkParts(t, "1100100", "100", "100")
	for _, s := range []string{"1", "00", "2", ""} {
		if tree.Valid(s) {
			t.Errorf("valid: %q", s)
		}
	}
	if s, e := tree.List([]string{"0", "100"}); e != api.OK || s != "1011000" {
		t.Error(s, e)
	}
}
