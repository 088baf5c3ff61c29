package run

import (
	"strings"

	"narcissus/api"
)

const nilTree = "0" // the tree without parts

// node is a pair; a nil pointer is the tree nil. Nodes are not changed once they are made.
// So trees share their parts, and a step takes the same time however large its trees are.
type node struct {
	head, tail *node
	size       int // characters of the tree as a string
}

// size returns the number of characters of a tree as a string.
func size(t *node) int {
	if t == nil {
		return len(nilTree)
	}
	return t.size
}

// cons returns the pair of two trees, or false if it would not be a valid tree.
func cons(a, b *node) (*node, bool) {
	n := 1 + size(a) + size(b)
	if n > api.MaxTree {
		return nil, false
	}
	return &node{a, b, n}, true
}

// head returns the head of a tree.
func head(t *node) *node {
	if t == nil {
		return nil
	}
	return t.head
}

// tail returns the tail of a tree.
func tail(t *node) *node {
	if t == nil {
		return nil
	}
	return t.tail
}

// share returns a tree that is given as a valid string.
func share(s string) *node {
	nodes := make([]node, len(s)/2) // as many as there are pairs
	// From the end on, both parts of a pair are complete when it is met; the one met last is the head.
	var parts []*node
	for i := len(s) - 1; i >= 0; i-- {
		if s[i] == '0' {
			parts = append(parts, nil)
			continue
		}
		last := len(parts) - 1
		a, b := parts[last], parts[last-1]
		pair := &nodes[0]
		nodes = nodes[1:]
		*pair = node{a, b, 1 + size(a) + size(b)}
		parts = append(parts[:last-1], pair)
	}
	return parts[0]
}

// text returns a tree as a string.
func (t *node) text() string {
	var b strings.Builder
	b.Grow(size(t))
	// What is still to be written is kept here instead of in nested calls, which would be as many as the tree is deep.
	rest := []*node{t}
	for len(rest) > 0 {
		last := len(rest) - 1
		part := rest[last]
		rest = rest[:last]
		for part != nil {
			b.WriteByte('1')
			rest = append(rest, part.tail)
			part = part.head
		}
		b.WriteString(nilTree)
	}
	return b.String()
}
