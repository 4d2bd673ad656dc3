package trie

import (
	"testing"

	"crossroads/api"
)

// size returns how many nodes there are, and how many of them, beside the root, lead to no prefix.
func (t *Trie) size() (nodes, idle int) {
	var visit func(n *node)
	visit = func(n *node) {
		nodes++
		if *n == (node{}) {
			idle++
		}
		for _, child := range n.children {
			if child != nil {
				visit(child)
			}
		}
	}
	visit(&t.root)
	if t.root == (node{}) {
		idle--
	}
	return nodes, idle
}

// A trie keeps no node that leads to no prefix: not behind Drop, and not behind a Set that is refused.
func TestNoIdleNodes(t *testing.T) {
	x := New()
	check := func(act string, most int) {
		t.Helper()
		if nodes, idle := x.size(); nodes > most || idle != 0 {
			t.Fatalf("behind %s: %d nodes, %d idle", act, nodes, idle)
		}
	}
	set := func(a uint32, n int) {
		if e := x.Set(api.Prefix{A: a, N: n}, 1); e != api.OK {
			t.Fatalf("Set: error %d", e)
		}
	}
	for i := range uint32(1000) {
		a := i * 0x9e3779b9
		set(a, 32)
		set(a&^255, 24)
		set(a&^255|(a+1)&255, 32)
		x.Drop(api.Prefix{A: a, N: 32})
		check("Drop of one beside another", 1+32)
		x.Drop(api.Prefix{A: a&^255 | (a+1)&255, N: 32})
		check("Drop of one below another", 1+24)
		x.Drop(api.Prefix{A: a &^ 255, N: 24})
		check("Drop of the last one", 1)
	}
	for i := range uint32(most) {
		set(i<<8, 32)
	}
	before, _ := x.size()
	for i := range uint32(100) {
		if e := x.Set(api.Prefix{A: 1<<31 | i, N: 32}, 1); e != api.ErrFull {
			t.Fatalf("Set: error %d", e)
		}
		x.Drop(api.Prefix{A: 1<<31 | i, N: 32})
	}
	check("refused prefixes", before)
}
