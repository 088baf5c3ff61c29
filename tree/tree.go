// Package tree is layer 1: trees as strings.
package tree

import (
	"strings"

	"narcissus/api"
)

const (
	nilTree  = "0"                   // the tree without parts
	maxPairs = (api.MaxTree - 1) / 2 // pairs of the longest valid tree
)

// Valid reports whether a string is a valid tree.
func Valid(s string) bool {
	return len(s) <= api.MaxTree && firstSize(s) == len(s)
}

// firstSize returns the size of the tree with which s begins, or -1 if it begins with none.
func firstSize(s string) int {
	missing := 1
	for i, c := range s {
		switch c {
		case '0':
			missing--
		case '1':
			missing++
		default:
			return -1
		}
		if missing == 0 {
			return i + 1
		}
	}
	return -1
}

// parts returns the head and the tail of a valid tree. They share its memory.
func parts(s string) (head, tail string) {
	if s == nilTree {
		return nilTree, nilTree
	}
	end := 1 + firstSize(s[1:])
	return s[1:end], s[end:]
}

// Cons returns the pair of two trees.
func Cons(a, b string) (string, api.Errno) {
	if !Valid(a) || !Valid(b) {
		return "", api.ErrForm
	}
	if 1+len(a)+len(b) > api.MaxTree {
		return "", api.ErrSize
	}
	return "1" + a + b, api.OK
}

// Head returns the head of a tree.
func Head(s string) (string, api.Errno) {
	if !Valid(s) {
		return "", api.ErrForm
	}
	head, _ := parts(s)
	// A copy, so that a small head does not keep a large tree in memory.
	return strings.Clone(head), api.OK
}

// Tail returns the tail of a tree.
func Tail(s string) (string, api.Errno) {
	if !Valid(s) {
		return "", api.ErrForm
	}
	_, tail := parts(s)
	return strings.Clone(tail), api.OK
}

// Pairs returns how many pairs a tree has.
func Pairs(s string) (int, api.Errno) {
	if !Valid(s) {
		return 0, api.ErrForm
	}
	return strings.Count(s, "1"), api.OK
}

// Depth returns the depth of a tree.
func Depth(s string) (int, api.Errno) {
	if !Valid(s) {
		return 0, api.ErrForm
	}
	depth, level := 0, 0
	// The levels of the tails to come are kept here instead of in nested calls, which would be as many as the tree is deep.
	var tails []int
	for _, c := range s {
		if c == '1' {
			level++
			depth = max(depth, level)
			tails = append(tails, level)
		} else if last := len(tails) - 1; last >= 0 {
			level = tails[last]
			tails = tails[:last]
		}
	}
	return depth, api.OK
}

// Number returns a number as a tree.
func Number(n int) (string, api.Errno) {
	if n < 0 {
		return "", api.ErrArg
	}
	if n > maxPairs {
		return "", api.ErrSize
	}
	return strings.Repeat("10", n) + nilTree, api.OK
}

// Value returns the number that a tree is.
func Value(s string) (int, api.Errno) {
	if !Valid(s) {
		return 0, api.ErrForm
	}
	// The heads of a number are nil, so no pair in it begins with a pair.
	if strings.Contains(s, "11") {
		return 0, api.ErrNone
	}
	return len(s) / 2, api.OK
}

// List returns a list of trees as a tree.
func List(l []string) (string, api.Errno) {
	for _, s := range l {
		if !Valid(s) {
			return "", api.ErrForm
		}
	}
	size := len(nilTree)
	for _, s := range l {
		size += 1 + len(s)
		if size > api.MaxTree {
			return "", api.ErrSize
		}
	}
	var b strings.Builder
	b.Grow(size)
	for _, s := range l {
		b.WriteString("1")
		b.WriteString(s)
	}
	b.WriteString(nilTree)
	return b.String(), api.OK
}

// Items returns the elements of a tree as a list.
func Items(s string) ([]string, api.Errno) {
	if !Valid(s) {
		return nil, api.ErrForm
	}
	var l []string
	// collect appends the first elements of rest, not more than most, and returns the list of the others.
	// It calls itself on halves of most, so that the calls are not nested as deep as the list is long.
	var collect func(rest string, most int) string
	collect = func(rest string, most int) string {
		if rest == nilTree {
			return rest
		}
		if most == 1 {
			head, tail := parts(rest)
			l = append(l, strings.Clone(head))
			return tail
		}
		half := most / 2
		return collect(collect(rest, half), most-half)
	}
	collect(s, len(s)/2)
	return l, api.OK
}
