package trie_test

import (
	"fmt"
	"math"
	"slices"
	"strings"
	"testing"

	"crossroads/api"
	"crossroads/trie"
)

type (
	prefix = api.Prefix
	entry  = api.Entry
)

// full is how many prefixes a trie has at most.
const full = 5000

// of returns the prefix of the first n bits of a.
func of(a uint32, n int) prefix {
	for i := n; i < 32; i++ {
		a &^= 1 << (31 - i)
	}
	return prefix{A: a, N: n}
}

// binary writes an address bit by bit, bit 0 first: what the tests expect is worked out on these texts.
func binary(a uint32) string {
	var out [32]byte
	for i := 31; i >= 0; i-- {
		out[i] = byte('0' + a%2)
		a /= 2
	}
	return string(out[:])
}

// digits are the bits of a valid prefix.
func digits(p prefix) string { return binary(p.A)[:p.N] }

func valid(p prefix) bool {
	return p.N >= 0 && p.N <= 32 && !strings.Contains(binary(p.A)[p.N:], "1")
}

// drawer returns a source of numbers below a bound that are the same for the same seed.
func drawer(seed uint64) func(below int) int {
	seed = seed*0x9e3779b97f4a7c15 + 1
	return func(below int) int {
		seed = seed*6364136223846793005 + 1442695040888963407
		return int(seed >> 31 % uint64(below))
	}
}

// model is the prefixes and values that a trie must have.
type model map[prefix]int

// list returns the entries for which keep is true, by their addresses and then by their numbers of bits.
func (m model) list(keep func(p prefix) bool) []entry {
	var out []entry
	for p, v := range m {
		if keep(p) {
			out = append(out, entry{P: p, V: v})
		}
	}
	slices.SortFunc(out, func(x, y entry) int {
		if x.P.A != y.P.A {
			return strings.Compare(binary(x.P.A), binary(y.P.A))
		}
		return x.P.N - y.P.N
	})
	return out
}

func (m model) walk() []entry {
	return m.list(func(prefix) bool { return true })
}

func (m model) below(p prefix) []entry {
	if !valid(p) {
		return nil
	}
	return m.list(func(q prefix) bool { return strings.HasPrefix(digits(q), digits(p)) })
}

func (m model) above(p prefix) []entry {
	if !valid(p) {
		return nil
	}
	out := m.list(func(q prefix) bool { return strings.HasPrefix(digits(p), digits(q)) })
	slices.SortFunc(out, func(x, y entry) int { return x.P.N - y.P.N })
	return out
}

func (m model) find(a uint32) (entry, bool) {
	best, ok := entry{}, false
	for p, v := range m {
		if strings.HasPrefix(binary(a), digits(p)) && (!ok || p.N > best.P.N) {
			best, ok = entry{P: p, V: v}, true
		}
	}
	return best, ok
}

// made returns a trie with these entries, set in their order, and its model.
func made(t *testing.T, l ...entry) (*trie.Trie, model) {
	t.Helper()
	x, m := trie.New(), model{}
	for _, e := range l {
		sets(t, x, m, e.P, e.V)
	}
	return x, m
}

// sets checks one Set, and does what it must do to the model.
func sets(t *testing.T, x *trie.Trie, m model, p prefix, v int) {
	t.Helper()
	_, there := m[p]
	want := api.OK
	switch {
	case !valid(p):
		want = api.ErrArg
	case !there && len(m) == full:
		want = api.ErrFull
	default:
		m[p] = v
	}
	if got := x.Set(p, v); got != want {
		t.Fatalf("Set(%v, %d) of %d prefixes: error %d, want %d", p, v, len(m), got, want)
	}
}

// drops checks one Drop, and does what it must do to the model.
func drops(t *testing.T, x *trie.Trie, m model, p prefix) {
	t.Helper()
	_, want := m[p]
	delete(m, p)
	if got := x.Drop(p); got != want {
		t.Fatalf("Drop(%v): %v, want %v", p, got, want)
	}
}

// holds checks Len, Walk and Get of every prefix of the model.
func holds(t *testing.T, x *trie.Trie, m model) {
	t.Helper()
	if n := x.Len(); n != len(m) {
		t.Fatalf("Len: %d, want %d", n, len(m))
	}
	if got, want := x.Walk(), m.walk(); !slices.Equal(got, want) {
		t.Fatalf("Walk: %v, want %v", got, want)
	}
	for p := range m {
		gets(t, x, m, p)
	}
}

// gets checks Get of p, which need not be valid.
func gets(t *testing.T, x *trie.Trie, m model, p prefix) {
	t.Helper()
	want, there := m[p]
	if v, ok := x.Get(p); v != want || ok != there {
		t.Fatalf("Get(%v): %d %v, want %d %v", p, v, ok, want, there)
	}
}

// answers checks what each function that changes nothing returns for p, which need not be valid.
func answers(t *testing.T, x *trie.Trie, m model, p prefix) {
	t.Helper()
	gets(t, x, m, p)
	if got, want := x.Below(p), m.below(p); !slices.Equal(got, want) {
		t.Fatalf("Below(%v): %v, want %v", p, got, want)
	}
	if got, want := x.Above(p), m.above(p); !slices.Equal(got, want) {
		t.Fatalf("Above(%v): %v, want %v", p, got, want)
	}
	finds(t, x, m, p.A)
}

func finds(t *testing.T, x *trie.Trie, m model, a uint32) {
	t.Helper()
	want, there := m.find(a)
	if got, ok := x.Find(a); got != want || ok != there {
		t.Fatalf("Find(%x): %v %v, want %v %v", a, got, ok, want, there)
	}
}

// around are the prefix p, the ones that are a bit shorter and longer, those whose last or first bit is another one, and the addresses at both ends of p, inside and outside.
func around(p prefix) []prefix {
	last := p.A + uint32(1<<(32-p.N)-1)
	out := []prefix{p, of(p.A, max(0, p.N-1)), of(p.A, min(32, p.N+1)), of(last, min(32, p.N+1)), of(p.A^1<<31, p.N)}
	if p.N > 0 {
		out = append(out, of(p.A^1<<(32-p.N), p.N))
	}
	for _, a := range []uint32{p.A, last, p.A - 1, last + 1} {
		out = append(out, of(a, 32))
	}
	return out
}

// agrees checks all functions, at the prefixes of the model and around them.
func agrees(t *testing.T, x *trie.Trie, m model) {
	t.Helper()
	holds(t, x, m)
	answers(t, x, m, prefix{})
	for p := range m {
		for _, q := range around(p) {
			answers(t, x, m, q)
		}
	}
}

// notValid are prefixes with a wrong length, some of them with 32 or less in their lowest bits, and ones with a bit that is 1 behind their first N bits.
func notValid() []prefix {
	var out []prefix
	for _, n := range []int{-1, -2, -8, -31, -32, -33, 33, 34, 64, 255, 256, 264, 1 << 32, 1<<32 + 8, -1 << 32, math.MaxInt32, math.MinInt32, math.MaxInt, math.MinInt} {
		out = append(out, prefix{N: n}, prefix{A: 10 << 24, N: n}, prefix{A: 1<<32 - 1, N: n})
	}
	for n := range 32 {
		for _, a := range []uint32{0, 10 << 24, 1<<32 - 1} {
			out = append(out, prefix{A: of(a, n).A | 1<<(31-n), N: n}, prefix{A: of(a, n).A | 1, N: n})
		}
	}
	return out
}

// nested are the prefixes of every length that contain a, with their lengths as values.
func nested(a uint32) []entry {
	var out []entry
	for n := range 33 {
		out = append(out, entry{P: of(a, n), V: n})
	}
	return out
}

// drawn returns a prefix near a few addresses, so that many of them cover each other.
func drawn(draw func(int) int) prefix {
	bases := []uint32{0, 1<<32 - 1, 10 << 24, 0xaaaaaaaa}
	a := bases[draw(len(bases))] ^ 1<<draw(32)
	n := draw(33)
	if draw(3) == 0 {
		n = []int{0, 1, 31, 32}[draw(4)]
	}
	return of(a, n)
}

// drawnTries are scripts of entries for tries of many sizes: dense ones of short prefixes, dense ones of long ones, and spread ones.
func drawnTries() [][]entry {
	var out [][]entry
	for seed := range uint64(150) {
		draw := drawer(seed)
		var l []entry
		for i := range draw(60) {
			p := drawn(draw)
			switch seed % 3 {
			case 0:
				p = of(uint32(draw(32))<<27, draw(6))
			case 1:
				p = of(0xc0a80100|uint32(draw(16)), 28+draw(5))
			}
			l = append(l, entry{P: p, V: i})
		}
		out = append(out, l)
	}
	return out
}

// Example 1 of the chapter.
func TestExample(t *testing.T) {
	x := trie.New()
	zero, ten := prefix{}, prefix{A: 10 << 24, N: 8}
	if e, f := x.Set(zero, 1), x.Set(ten, 2); e != api.OK || f != api.OK {
		t.Fatalf("Set: errors %d and %d", e, f)
	}
	if e, ok := x.Find(10<<24 | 1<<16 | 2<<8 | 3); !ok || e != (entry{P: ten, V: 2}) {
		t.Errorf("10.1.2.3: %v %v", e, ok)
	}
	if e, ok := x.Find(11 << 24); !ok || e != (entry{P: zero, V: 1}) {
		t.Errorf("11.0.0.0: %v %v", e, ok)
	}
}

// F1: a new trie has nothing, and is not nil: Set adds to it.
func TestNew(t *testing.T) {
	x, m := made(t)
	agrees(t, x, m)
	for _, p := range []prefix{{}, of(1<<31, 1), of(1<<32-1, 32)} {
		answers(t, x, m, p)
		drops(t, x, m, p)
		agrees(t, x, m)
	}
	sets(t, x, m, prefix{}, 7)
	agrees(t, x, m)
}

// F1: Set of a new prefix of every length, and again with another value.
func TestSet(t *testing.T) {
	for _, a := range []uint32{0, 1<<32 - 1, 10<<24 | 1<<16 | 2<<8 | 3} {
		for n := range 33 {
			x, m := made(t)
			for _, v := range []int{5, 5, 0, -1, math.MinInt, math.MaxInt} {
				sets(t, x, m, of(a, n), v)
				agrees(t, x, m)
			}
		}
	}
}

// A prefix has a value of its own, whether those that cover it or that it covers are set before or behind it.
func TestSetKeepsOthers(t *testing.T) {
	for _, a := range []uint32{0, 1<<32 - 1, 0xaaaaaaaa} {
		up := nested(a)
		down := slices.Clone(up)
		slices.Reverse(down)
		for _, l := range [][]entry{up, down} {
			x, m := made(t)
			for _, e := range l {
				sets(t, x, m, e.P, e.V)
				agrees(t, x, m)
			}
			for _, e := range l {
				sets(t, x, m, e.P, e.V+100)
				holds(t, x, m)
			}
			agrees(t, x, m)
		}
	}
}

// F1 and F2: a prefix that is not valid is not set, dropped, found, or covered, and nothing changes; the trie has the prefix that it would be without its last bits.
func TestNotValid(t *testing.T) {
	for _, l := range [][]entry{nil, nested(0), nested(10 << 24), nested(1<<32 - 1)} {
		x, m := made(t, l...)
		for _, p := range notValid() {
			if e := x.Set(p, 1); e != api.ErrArg {
				t.Fatalf("Set(%v): error %d", p, e)
			}
			if x.Drop(p) {
				t.Fatalf("Drop(%v) is true", p)
			}
			if v, ok := x.Get(p); v != 0 || ok {
				t.Fatalf("Get(%v): %d %v", p, v, ok)
			}
			if b, a := x.Below(p), x.Above(p); len(b) != 0 || len(a) != 0 {
				t.Fatalf("Below and Above of %v: %v %v", p, b, a)
			}
			holds(t, x, m)
		}
		agrees(t, x, m)
	}
}

// F1: Drop of every prefix of a trie, in several orders, and of each once more.
func TestDrop(t *testing.T) {
	for _, a := range []uint32{0, 1<<32 - 1, 0xaaaaaaaa} {
		up := nested(a)
		down := slices.Clone(up)
		slices.Reverse(down)
		inside := append(slices.Clone(up[16:]), up[:16]...)
		for _, l := range [][]entry{up, down, inside} {
			x, m := made(t, up...)
			for _, e := range l {
				drops(t, x, m, e.P)
				agrees(t, x, m)
				drops(t, x, m, e.P)
				holds(t, x, m)
			}
			if x.Len() != 0 || len(x.Walk()) != 0 {
				t.Fatalf("behind all: %v", x.Walk())
			}
			sets(t, x, m, of(a, 20), 9)
			agrees(t, x, m)
		}
	}
}

// P6.2: dropping a prefix that is not in the trie changes nothing; these are on the way to ones that are in it, beside them, and behind them.
func TestDropOfOthers(t *testing.T) {
	for _, l := range drawnTries() {
		x, m := made(t, l...)
		was := x.Walk()
		for _, e := range l {
			for _, p := range around(e.P) {
				if _, there := m[p]; there {
					continue
				}
				drops(t, x, m, p)
				if !slices.Equal(x.Walk(), was) || x.Len() != len(was) {
					t.Fatalf("behind Drop(%v): %v, was %v", p, x.Walk(), was)
				}
			}
		}
		agrees(t, x, m)
	}
}

// What is dropped is there no more, and all others are as before.
func TestDropLeavesOthers(t *testing.T) {
	for _, l := range drawnTries() {
		for i, e := range l {
			if i%7 != 0 {
				continue
			}
			x, m := made(t, l...)
			was := x.Walk()
			drops(t, x, m, e.P)
			if v, ok := x.Get(e.P); v != 0 || ok {
				t.Fatalf("Get(%v): %d %v", e.P, v, ok)
			}
			left := slices.DeleteFunc(was, func(y entry) bool { return y.P == e.P })
			if got := x.Walk(); !slices.Equal(got, left) {
				t.Fatalf("behind Drop(%v): %v, want %v", e.P, got, left)
			}
			for _, p := range around(e.P) {
				answers(t, x, m, p)
			}
		}
	}
}

// many are tries of 5000 prefixes: of 32 bits side by side, of 32 bits far apart, and of all lengths, the prefix of 0 bits among them.
func many() map[string][]entry {
	out := map[string][]entry{}
	for i := range uint32(full) {
		out["near"] = append(out["near"], entry{P: of(10<<24+i, 32), V: int(i)})
		out["apart"] = append(out["apart"], entry{P: of(i*858993459, 32), V: int(i)})
	}
	seen := map[prefix]int{}
	draw := drawer(3)
	l := append(nested(0), nested(1<<32 - 1)[1:]...)
	for _, e := range l {
		seen[e.P]++
	}
	for _, p := range fresh() {
		seen[p]++
	}
	for len(l) < full {
		p := of(uint32(draw(1<<32)), 1+draw(32))
		seen[p]++
		if seen[p] == 1 {
			l = append(l, entry{P: p, V: len(l)})
		}
	}
	out["all lengths"] = l
	return out
}

// fresh are prefixes that are in none of the tries of 5000.
func fresh() []prefix {
	return []prefix{of(0xdeadbeef, 29), of(0xdeadbeef, 30), of(172<<24, 6)}
}

// F1: the 5000th prefix, the 5001st, and ones that are there when 5000 are.
func TestFull(t *testing.T) {
	for name, l := range many() {
		t.Run(name, func(t *testing.T) {
			x, m := made(t, l...)
			if len(m) != full || x.Len() != full {
				t.Fatalf("%d prefixes, Len %d", len(m), x.Len())
			}
			holds(t, x, m)
			for _, p := range fresh() {
				if e := x.Set(p, 1); e != api.ErrFull {
					t.Fatalf("Set(%v): error %d", p, e)
				}
				answers(t, x, m, p)
			}
			holds(t, x, m)
			for _, p := range notValid() {
				if e := x.Set(p, 1); e != api.ErrArg {
					t.Fatalf("Set(%v): error %d", p, e)
				}
			}
			for i, e := range l {
				sets(t, x, m, e.P, -i)
			}
			holds(t, x, m)
			turnOver(t, x, m, l)
		})
	}
}

// turnOver drops a prefix of a full trie for each fresh one, which it has room for then, and for no other one.
func turnOver(t *testing.T, x *trie.Trie, m model, l []entry) {
	t.Helper()
	for i, p := range fresh() {
		drops(t, x, m, p)
		sets(t, x, m, p, 1)
		old := l[i*2499].P
		drops(t, x, m, old)
		drops(t, x, m, old)
		sets(t, x, m, p, i)
		if e := x.Set(old, 1); e != api.ErrFull {
			t.Fatalf("Set(%v) again: error %d", old, e)
		}
		holds(t, x, m)
	}
	for _, e := range x.Walk() {
		drops(t, x, m, e.P)
	}
	holds(t, x, model{})
}

// A trie from which all is dropped has room for 5000 prefixes again, and its functions end soon when it has them.
func TestFullAgain(t *testing.T) {
	l := many()["all lengths"]
	x, m := made(t, l...)
	for range 3 {
		for _, e := range l {
			drops(t, x, m, e.P)
		}
		holds(t, x, m)
		for _, e := range l {
			sets(t, x, m, e.P, e.V)
		}
		sets(t, x, m, fresh()[0], 1)
	}
	holds(t, x, m)
	for i := range 200 {
		answers(t, x, m, l[i*25].P)
	}
}

// F2: prefixes of 0, 1, 31 and 32 bits at both ends of the addresses, in every choice of them.
func TestLengthsAtTheEnds(t *testing.T) {
	ends := []prefix{{}, of(0, 1), of(1<<31, 1), of(0, 31), of(0, 32), of(1, 32), of(1<<32-1, 31), of(1<<32-2, 32), of(1<<32-1, 32)}
	addresses := []uint32{0, 1, 2, 3, 1<<31 - 1, 1 << 31, 1<<31 + 1, 1<<32 - 4, 1<<32 - 3, 1<<32 - 2, 1<<32 - 1}
	for choice := range 1 << len(ends) {
		x, m := made(t)
		for i, p := range ends {
			if choice>>i&1 == 1 {
				sets(t, x, m, p, i+1)
			}
		}
		holds(t, x, m)
		for _, p := range ends {
			answers(t, x, m, p)
		}
		for _, a := range addresses {
			finds(t, x, m, a)
		}
	}
}

// F2, written out: what Find, Walk, Below and Above return for a small trie.
func TestSmallTrie(t *testing.T) {
	p := func(a uint32, n int) prefix { return of(a<<24, n) }
	eight, ten7, ten8 := entry{P: p(8, 6), V: 5}, entry{P: p(10, 7), V: 2}, entry{P: p(10, 8), V: 0}
	ten9, eleven, high := entry{P: p(10, 9), V: 4}, entry{P: p(11, 8), V: 3}, entry{P: p(128, 1), V: 1}
	x, _ := made(t, ten8, high, ten7, eleven, ten9, eight)
	for _, c := range []struct {
		name      string
		got, want []entry
	}{
		{"Walk", x.Walk(), []entry{eight, ten7, ten8, ten9, eleven, high}},
		{"Below itself", x.Below(p(10, 7)), []entry{ten7, ten8, ten9, eleven}},
		{"Below one that is not there", x.Below(p(8, 5)), []entry{eight, ten7, ten8, ten9, eleven}},
		{"Below all", x.Below(prefix{}), x.Walk()},
		{"Below the longest", x.Below(p(10, 9)), []entry{ten9}},
		{"Below one that covers none", x.Below(p(10, 10)), nil},
		{"Above itself", x.Above(p(10, 9)), []entry{eight, ten7, ten8, ten9}},
		{"Above one that is not there", x.Above(of(11<<24|5, 32)), []entry{eight, ten7, eleven}},
		{"Above all", x.Above(prefix{}), nil},
		{"Above one that none covers", x.Above(p(12, 8)), nil},
	} {
		if !slices.Equal(c.got, c.want) {
			t.Errorf("%s: %v, want %v", c.name, c.got, c.want)
		}
	}
	for a, want := range map[uint32]int{10 << 24: 4, 10<<24 | 1<<23: 0, 11<<24 | 9: 3, 8 << 24: 5, 1<<32 - 1: 1} {
		if e, ok := x.Find(a); !ok || e.V != want {
			t.Errorf("Find(%x): %v %v, want %d", a, e, ok, want)
		}
	}
	for _, a := range []uint32{0, 8<<24 - 1, 12 << 24, 1<<31 - 1} {
		if e, ok := x.Find(a); ok || e != (entry{}) {
			t.Errorf("Find(%x): %v %v", a, e, ok)
		}
	}
}

// F2 on many tries, at prefixes that are in them, near them and far from them.
func TestDrawnTries(t *testing.T) {
	for i, l := range drawnTries() {
		x, m := made(t, l...)
		agrees(t, x, m)
		draw := drawer(uint64(i) + 700)
		for range 40 {
			answers(t, x, m, drawn(draw))
			answers(t, x, m, of(uint32(draw(1<<32)), draw(33)))
		}
	}
}

// P6.2, by its words: what Find returns is in the trie and contains the address, and no longer prefix in the trie contains it.
func TestLongestMatch(t *testing.T) {
	for i, l := range drawnTries() {
		x, _ := made(t, l...)
		draw := drawer(uint64(i) + 900)
		for range 100 {
			a := drawn(draw).A ^ uint32(draw(4))
			if len(l) > 0 && draw(2) == 0 {
				a = l[draw(len(l))].P.A | uint32(draw(1<<8))
			}
			longest(t, x, a)
		}
	}
}

func longest(t *testing.T, x *trie.Trie, a uint32) {
	t.Helper()
	found, ok := x.Find(a)
	if !ok {
		found = entry{P: prefix{N: -1}}
	}
	for _, e := range x.Walk() {
		if e.P.N > found.P.N && of(a, e.P.N) == e.P {
			t.Fatalf("Find(%x): %v %v, but %v is longer", a, found, ok, e)
		}
	}
	if !ok {
		return
	}
	if v, there := x.Get(found.P); !there || v != found.V {
		t.Fatalf("Find(%x): %v, but Get: %d %v", a, found, v, there)
	}
	if of(a, found.P.N) != found.P {
		t.Fatalf("Find(%x): %v does not contain it", a, found)
	}
}

// Scripts of Set and Drop against the model, of prefixes that are there, that are not, and that are not valid.
func TestScripts(t *testing.T) {
	wrong := notValid()
	for seed := range uint64(60) {
		draw := drawer(seed + 300)
		x, m := made(t)
		// A short script of names is drawn first, so that the same prefixes come and go.
		var names []prefix
		for range 5 + draw(30) {
			names = append(names, drawn(draw))
		}
		for step := range 150 {
			p := names[draw(len(names))]
			switch act := draw(10); {
			case act == 0:
				p = wrong[draw(len(wrong))]
				sets(t, x, m, p, step)
				drops(t, x, m, p)
			case act < 6:
				sets(t, x, m, p, step)
			default:
				drops(t, x, m, p)
			}
			holds(t, x, m)
			for _, q := range around(names[draw(len(names))]) {
				answers(t, x, m, q)
			}
		}
		agrees(t, x, m)
	}
}

// R5: the same prefixes, set in any order, are the same trie.
func TestOrderOfSetting(t *testing.T) {
	for i, l := range drawnTries() {
		_, m := made(t, l...)
		want := m.walk()
		turned := slices.Clone(want)
		slices.Reverse(turned)
		mixed := slices.Clone(want)
		draw := drawer(uint64(i))
		for j := range mixed {
			k := j + draw(len(mixed)-j)
			mixed[j], mixed[k] = mixed[k], mixed[j]
		}
		for _, order := range [][]entry{want, turned, mixed} {
			x, _ := made(t, order...)
			agrees(t, x, m)
		}
	}
}

// The lists that a trie returns are memory of their own: the trie stays as it is when they are changed, and they when it is.
func TestAnswersAreApart(t *testing.T) {
	l := nested(10 << 24)
	x, m := made(t, l...)
	p := of(10<<24, 16)
	ask := map[string]func() []entry{
		"Walk":  x.Walk,
		"Below": func() []entry { return x.Below(p) },
		"Above": func() []entry { return x.Above(p) },
	}
	for name, list := range ask {
		got := list()
		got = got[:cap(got)]
		for i := range got {
			got[i] = entry{P: of(1<<32-1, 9), V: -7}
		}
		agrees(t, x, m)
		kept, was := list(), list()
		sets(t, x, m, p, 99)
		drops(t, x, m, of(10<<24, 15))
		drops(t, x, m, of(10<<24, 17))
		if !slices.Equal(kept, was) {
			t.Errorf("%s: %v, was %v", name, kept, was)
		}
		x.Set(p, 16)
		x.Set(of(10<<24, 15), 15)
		x.Set(of(10<<24, 17), 17)
		_, m = made(t, l...)
	}
}

// What happens to a trie is nothing to another one.
func TestTriesAreApart(t *testing.T) {
	one, m := made(t, nested(0)...)
	two, k := made(t, nested(1<<32-1)...)
	for n := range 33 {
		drops(t, one, m, of(0, n))
		sets(t, two, k, of(0, n), n)
		holds(t, one, m)
		holds(t, two, k)
	}
	fresh, none := made(t)
	agrees(t, fresh, none)
}

// On a nil trie, Set returns ErrArg, and all other results are zero values.
func TestNilTrie(t *testing.T) {
	var none *trie.Trie
	prefixes := append(notValid(), prefix{}, of(0, 1), of(10<<24, 8), of(1<<32-1, 31), of(1<<32-1, 32))
	for _, p := range prefixes {
		t.Run(fmt.Sprint(p), func(t *testing.T) {
			if e := none.Set(p, 1); e != api.ErrArg {
				t.Errorf("Set: error %d", e)
			}
			if none.Drop(p) {
				t.Error("Drop is true")
			}
			answers(t, none, nil, p)
			holds(t, none, nil)
		})
	}
}
