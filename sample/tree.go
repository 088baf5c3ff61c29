// Package sample makes trees and programs for the tests of the other packages.
package sample

import (
	"slices"
	"strings"

	"narcissus/api"
)

const (
	MostPairs = (api.MaxTree - 1) / 2 // pairs of the longest valid tree
	Greatest  = int(^uint(0) >> 1)    // the greatest integer
)

// Number returns the number n as a tree, whose pairs are nested in the tails.
func Number(n int) string { return strings.Repeat("10", n) + "0" }

// Comb returns a tree with n pairs that are nested in the heads.
func Comb(n int) string { return strings.Repeat("1", n) + strings.Repeat("0", n+1) }

// Full returns the tree in which every path has the length depth.
func Full(depth int) string {
	s := "0"
	for range depth {
		s = Pair(s, s)
	}
	return s
}

// Pair returns the pair of two trees.
func Pair(a, b string) string { return "1" + a + b }

// Trees returns all trees with the numbers of pairs from 0 to most, the smaller ones first.
func Trees(most int) []string {
	byPairs := [][]string{{"0"}}
	for k := 1; k <= most; k++ {
		var l []string
		for i := range k {
			for _, head := range byPairs[i] {
				for _, tail := range byPairs[k-1-i] {
					l = append(l, Pair(head, tail))
				}
			}
		}
		byPairs = append(byPairs, l)
	}
	return slices.Concat(byPairs...)
}

// NotTrees returns strings that are no valid trees.
func NotTrees() []string {
	return []string{
		"", "1", "10", "11", "1010", "110", "1100", // stop too early
		"00", "01", "0100", "1000", "1001", "100100", // something behind the tree
		"2", "a", "102", "120", "200", "1a0", "0 ", " 0", "100 ", "1 0 0", "0\n", "0\x00", "+0", "-0",
		"\xff", "1\xff0", "0\xff", "\uff10", "1\uff100", "\u0661\u0660\u0660",
		Number(MostPairs + 1), Comb(MostPairs + 1), // too long
		Number(MostPairs) + "0", Number(MostPairs)[:2*MostPairs], // of MaxTree characters and less
	}
}

// Short returns a string, or its beginning if it is long.
func Short(s string) string {
	const most = 300
	if len(s) > most {
		return s[:most] + ".."
	}
	return s
}
