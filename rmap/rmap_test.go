package rmap_test

import (
	"fmt"
	"math"
	"reflect"
	"slices"
	"testing"

	"crossroads/api"
	"crossroads/plist"
	"crossroads/rmap"
)

type (
	prefix = api.Prefix
	rule   = plist.Rule
	route  = rmap.Route
	clause = rmap.Clause
)

// most is the greatest cost.
const most = 16777215

var (
	ten   = prefix{A: 10 << 24, N: 8}
	ten16 = prefix{A: 10<<24 | 1<<16, N: 16}
	one   = prefix{A: 10<<24 | 1, N: 32}
	other = prefix{A: 11 << 24, N: 8}
	tens  = []rule{{Seq: 1, P: ten16}, {Seq: 2, Permit: true, P: ten, Le: 32}}
)

// open returns a clause that matches every route, permits it and does not change it.
func open(seq int) clause {
	return clause{Seq: seq, Permit: true, MKind: -1, MHigh: most, SCost: -1, SKind: -1}
}

// with returns an open clause, changed.
func with(seq int, change func(x *clause)) clause {
	x := open(seq)
	change(&x)
	return x
}

// closed returns a clause that matches every route and denies it.
func closed(seq int) clause {
	return with(seq, func(x *clause) { x.Permit = false })
}

// near are numbers at the bounds that a clause has, just beyond them, and far beyond, some of them with a small number in their lowest 8, 16, 24 or 32 bits.
func near() []int {
	out := []int{math.MinInt, -1 << 32, -1<<32 + 5, -1 << 24, -65536, -256, math.MaxInt, 1 << 32, 1<<32 + 5, 1<<32 - 1, 1<<24 + 5, 1 << 25, 256, 261, 255, 32767, 32768, 1<<16 + 5}
	for _, n := range []int{0, 9, 65535, most} {
		for d := -3; d <= 3; d++ {
			out = append(out, n+d)
		}
	}
	return out
}

func between(n, low, high int) bool { return low <= n && n <= high }

// validRule goes by the words of layer 7.
func validRule(x rule) bool {
	p := x.P
	if !between(x.Seq, 1, 65535) || !between(p.N, 0, 32) || uint64(p.A)<<p.N&(1<<32-1) != 0 {
		return false
	}
	if x.Ge != 0 && !between(x.Ge, p.N+1, 32) {
		return false
	}
	return x.Le == 0 || between(x.Le, p.N, 32) && x.Le >= x.Ge
}

// valid goes by the words of the chapter, one condition after the other.
func valid(x clause) bool {
	seq := 0
	for _, y := range x.List {
		if !validRule(y) || y.Seq <= seq {
			return false
		}
		seq = y.Seq
	}
	switch {
	case x.Seq < 1, x.Seq > 65535:
	case x.MKind < -1, x.MKind > 9:
	case x.MLow < 0, x.MLow > x.MHigh, x.MHigh > most:
	case x.SCost < -1, x.SCost > most:
	case x.SPlus < 0, x.SPlus > most:
	case x.SKind < -1, x.SKind > 9:
	default:
		return true
	}
	return false
}

// listed tells whether a list lets a prefix pass, by the addresses from the first to the last one of a prefix.
func listed(l []rule, q prefix) bool {
	end := func(p prefix) uint64 { return uint64(p.A) + 1<<(32-p.N) }
	for _, x := range l {
		low, high := x.Ge, x.Le
		if low == 0 {
			low = x.P.N
		}
		if high == 0 {
			high = 32
		}
		if x.Ge == 0 && x.Le == 0 {
			high = x.P.N
		}
		if x.P.A <= q.A && end(q) <= end(x.P) && between(q.N, low, high) {
			return x.Permit
		}
	}
	return len(l) == 0
}

// failing returns which of the four conditions do not hold.
func failing(x clause, t route) []string {
	var out []string
	if !listed(x.List, t.P) {
		out = append(out, "List")
	}
	if x.MKind >= 0 && t.Kind != x.MKind {
		out = append(out, "MKind")
	}
	if t.Cost < x.MLow || t.Cost > x.MHigh {
		out = append(out, "cost")
	}
	has := len(x.MTags) == 0
	for _, tag := range x.MTags {
		has = has || tag == t.Tag
	}
	if !has {
		out = append(out, "MTags")
	}
	return out
}

func changed(x clause, t route) route {
	out := route{P: t.P, Kind: t.Kind, Cost: t.Cost, Tag: t.Tag}
	if x.SCost >= 0 {
		out.Cost = x.SCost
	}
	out.Cost += x.SPlus
	if out.Cost > most {
		out.Cost = most
	}
	if x.SKind >= 0 {
		out.Kind = x.SKind
	}
	if x.SetTag {
		out.Tag = x.STag
	}
	return out
}

func evaluated(m []clause, t route) (route, bool, int) {
	for _, x := range m {
		switch {
		case len(failing(x, t)) > 0:
		case x.Permit:
			return changed(x, t), true, x.Seq
		default:
			return route{}, false, x.Seq
		}
	}
	return route{}, false, 0
}

// drawer returns a source of numbers below a bound that are the same for the same seed.
func drawer(seed uint64) func(below int) int {
	seed = seed*0x9e3779b97f4a7c15 + 1
	return func(below int) int {
		seed = seed*6364136223846793005 + 1442695040888963407
		return int(seed >> 31 % uint64(below))
	}
}

func pick[T any](draw func(int) int, l ...T) T { return l[draw(len(l))] }

func drawnCost(draw func(int) int) int {
	return pick(draw, 0, 1, 5, 6, 7, 100, most-1, most, draw(most+1))
}

// drawnTag returns one of a few tags, so that many are equal.
func drawnTag(draw func(int) int) uint32 { return pick[uint32](draw, 0, 1, 5, 1<<31, 1<<32-1) }

func drawnPrefix(draw func(int) int) prefix {
	return pick(draw, prefix{}, ten, ten16, one, other, prefix{A: 10 << 24, N: 9}, prefix{A: 10<<24 | 1<<23, N: 9}, prefix{A: 1<<32 - 1, N: 32})
}

func drawnRoute(draw func(int) int) route {
	return route{P: drawnPrefix(draw), Kind: draw(10), Cost: drawnCost(draw), Tag: drawnTag(draw)}
}

// drawnList returns a valid list, empty for half of the draws.
func drawnList(draw func(int) int) []rule {
	if draw(2) == 0 {
		return nil
	}
	var out []rule
	seq := 0
	for range 1 + draw(4) {
		seq += 1 + draw(10)
		x := rule{Seq: seq, Permit: draw(3) > 0, P: drawnPrefix(draw)}
		if draw(2) == 0 {
			x.Le = 32
		}
		out = append(out, x)
	}
	return out
}

// drawnClause returns a valid clause of which each condition lets everything pass for some of the draws.
func drawnClause(draw func(int) int, seq int) clause {
	x := clause{Seq: seq, Permit: draw(3) > 0, List: drawnList(draw), MKind: -1, MHigh: most, SCost: -1, SKind: draw(11) - 1}
	if draw(3) == 0 {
		x.MKind = draw(11) - 1
	}
	if a, b := drawnCost(draw), drawnCost(draw); draw(2) == 0 {
		x.MLow, x.MHigh = min(a, b), max(a, b)
	}
	if draw(3) == 0 {
		for range 1 + draw(3) {
			x.MTags = append(x.MTags, drawnTag(draw))
		}
	}
	if draw(2) == 0 {
		x.SCost = drawnCost(draw)
	}
	if draw(2) == 0 {
		x.SPlus = drawnCost(draw)
	}
	x.SetTag, x.STag = draw(2) == 0, drawnTag(draw)
	return x
}

// drawnMap returns a valid map.
func drawnMap(draw func(int) int) []clause {
	var out []clause
	seq := 0
	for range draw(7) {
		seq += 1 + draw(100)
		out = append(out, drawnClause(draw, seq))
	}
	return out
}

// copied returns a map that shares no memory with m, with room behind each of its slices that is filled with what is not in m.
func copied(m []clause) []clause {
	out := append(slices.Clone(m), closed(4711), closed(4712))[:len(m)]
	for i := range out {
		out[i].List = append(slices.Clone(out[i].List), rule{Seq: 4711})[:len(out[i].List)]
		out[i].MTags = append(slices.Clone(out[i].MTags), 4711)[:len(out[i].MTags)]
	}
	return out
}

// whole returns m with the room behind it and behind the slices of its clauses.
func whole(m []clause) []clause {
	out := slices.Clone(m[:cap(m)])
	for i := range out {
		out[i].List = out[i].List[:cap(out[i].List)]
		out[i].MTags = out[i].MTags[:cap(out[i].MTags)]
	}
	return out
}

// kept calls act with a map like m, and checks that it stays as it was, with the room behind it.
func kept(t *testing.T, m []clause, act func(m []clause)) {
	t.Helper()
	passed := copied(m)
	want := whole(passed)
	for i := range want {
		want[i].List, want[i].MTags = slices.Clone(want[i].List), slices.Clone(want[i].MTags)
	}
	act(passed)
	if got := whole(passed); !reflect.DeepEqual(got, want) {
		t.Fatalf("the map that was passed is %v, was %v", got, want)
	}
}

// evals checks one Eval.
func evals(t *testing.T, m []clause, r, want route, ok bool, seq int) {
	t.Helper()
	kept(t, m, func(m []clause) {
		got, passes, by := rmap.Eval(m, r)
		if got != want || passes != ok || by != seq {
			t.Fatalf("Eval(%v, %v) = %v, %v, %d, want %v, %v, %d", m, r, got, passes, by, want, ok, seq)
		}
	})
}

// Example 1 of the chapter.
func TestExample(t *testing.T) {
	for _, m := range [][]clause{nil, {}} {
		for _, r := range []route{{}, {P: ten, Kind: 1, Cost: 3, Tag: 5}, {P: one, Kind: 9, Cost: most, Tag: 1<<32 - 1}} {
			evals(t, m, r, route{}, false, 0)
			if l := rmap.Filter(m, []route{r, r}); len(l) != 0 {
				t.Errorf("Filter without clauses: %v", l)
			}
			if got, ok := rmap.Then(m, []clause{open(1)}, r); ok || got != (route{}) {
				t.Errorf("Then, first without clauses: %v, %v", got, ok)
			}
			if got, ok := rmap.Then([]clause{open(1)}, m, r); ok || got != (route{}) {
				t.Errorf("Then, second without clauses: %v, %v", got, ok)
			}
		}
	}
}

// H1, written out: May at each bound.
func TestMayAtBounds(t *testing.T) {
	for _, c := range []struct {
		name   string
		change func(x *clause)
		want   bool
	}{
		{"open", func(x *clause) {}, true},
		{"Seq -1", func(x *clause) { x.Seq = -1 }, false},
		{"Seq 0", func(x *clause) { x.Seq = 0 }, false},
		{"Seq 1", func(x *clause) { x.Seq = 1 }, true},
		{"Seq 65535", func(x *clause) { x.Seq = 65535 }, true},
		{"Seq 65536", func(x *clause) { x.Seq = 65536 }, false},
		{"Seq 65537", func(x *clause) { x.Seq = 65537 }, false},
		{"MKind -2", func(x *clause) { x.MKind = -2 }, false},
		{"MKind -1", func(x *clause) { x.MKind = -1 }, true},
		{"MKind 0", func(x *clause) { x.MKind = 0 }, true},
		{"MKind 9", func(x *clause) { x.MKind = 9 }, true},
		{"MKind 10", func(x *clause) { x.MKind = 10 }, false},
		{"MLow -1", func(x *clause) { x.MLow = -1 }, false},
		{"MLow -1, MHigh -1", func(x *clause) { x.MLow, x.MHigh = -1, -1 }, false},
		{"MLow -2, MHigh -1", func(x *clause) { x.MLow, x.MHigh = -2, -1 }, false},
		{"MLow 0, MHigh -1", func(x *clause) { x.MLow, x.MHigh = 0, -1 }, false},
		{"MLow 0, MHigh 0", func(x *clause) { x.MLow, x.MHigh = 0, 0 }, true},
		{"MLow 1, MHigh 0", func(x *clause) { x.MLow, x.MHigh = 1, 0 }, false},
		{"MLow 4, MHigh 5", func(x *clause) { x.MLow, x.MHigh = 4, 5 }, true},
		{"MLow 5, MHigh 5", func(x *clause) { x.MLow, x.MHigh = 5, 5 }, true},
		{"MLow 6, MHigh 5", func(x *clause) { x.MLow, x.MHigh = 6, 5 }, false},
		{"MLow most, MHigh most", func(x *clause) { x.MLow, x.MHigh = most, most }, true},
		{"MLow most + 1, MHigh most", func(x *clause) { x.MLow, x.MHigh = most+1, most }, false},
		{"MLow 0, MHigh most + 1", func(x *clause) { x.MHigh = most + 1 }, false},
		{"MLow most + 1, MHigh most + 1", func(x *clause) { x.MLow, x.MHigh = most+1, most+1 }, false},
		{"SCost -2", func(x *clause) { x.SCost = -2 }, false},
		{"SCost -1", func(x *clause) { x.SCost = -1 }, true},
		{"SCost 0", func(x *clause) { x.SCost = 0 }, true},
		{"SCost most", func(x *clause) { x.SCost = most }, true},
		{"SCost most + 1", func(x *clause) { x.SCost = most + 1 }, false},
		{"SPlus -1", func(x *clause) { x.SPlus = -1 }, false},
		{"SPlus 0", func(x *clause) { x.SPlus = 0 }, true},
		{"SPlus most", func(x *clause) { x.SPlus = most }, true},
		{"SPlus most + 1", func(x *clause) { x.SPlus = most + 1 }, false},
		{"SCost most, SPlus most", func(x *clause) { x.SCost, x.SPlus = most, most }, true},
		{"SKind -2", func(x *clause) { x.SKind = -2 }, false},
		{"SKind -1", func(x *clause) { x.SKind = -1 }, true},
		{"SKind 0", func(x *clause) { x.SKind = 0 }, true},
		{"SKind 9", func(x *clause) { x.SKind = 9 }, true},
		{"SKind 10", func(x *clause) { x.SKind = 10 }, false},
		{"tags", func(x *clause) { x.MTags = []uint32{1<<32 - 1, 0, 0} }, true},
		{"a tag", func(x *clause) { x.SetTag, x.STag = true, 1<<32-1 }, true},
		{"denies", func(x *clause) { x.Permit = false }, true},
		{"all at the lower bounds", func(x *clause) { *x = clause{Seq: 1, MKind: -1, SCost: -1, SKind: -1} }, true},
		{"all at the upper bounds", func(x *clause) {
			*x = clause{Seq: 65535, MKind: 9, MLow: most, MHigh: most, SCost: most, SPlus: most, SKind: 9}
		}, true},
		{"zero", func(x *clause) { *x = clause{} }, false},
		{"zero but for Seq", func(x *clause) { *x = clause{Seq: 1} }, true},
	} {
		x := with(5, c.change)
		if got := rmap.May(x); got != c.want {
			t.Errorf("%s: May = %v", c.name, got)
		}
		if got := rmap.MayAll([]clause{x}); got != c.want {
			t.Errorf("%s: MayAll = %v", c.name, got)
		}
	}
}

// H1: May for every number near the bounds, for one field at a time, and for each pair of MLow and MHigh.
func TestMay(t *testing.T) {
	fields := []func(x *clause) *int{
		func(x *clause) *int { return &x.Seq },
		func(x *clause) *int { return &x.MKind },
		func(x *clause) *int { return &x.MLow },
		func(x *clause) *int { return &x.MHigh },
		func(x *clause) *int { return &x.SCost },
		func(x *clause) *int { return &x.SPlus },
		func(x *clause) *int { return &x.SKind },
	}
	for i, f := range fields {
		for _, n := range near() {
			for _, g := range fields[i:] {
				for _, k := range near() {
					x := open(5)
					*f(&x) = n
					*g(&x) = k
					if got := rmap.May(x); got != valid(x) {
						t.Fatalf("May(%v) = %v", x, got)
					}
				}
			}
		}
	}
}

// H1: May with a List that is valid, one that is empty, and one that is not valid.
func TestMayList(t *testing.T) {
	var long []rule
	for seq := 1; seq <= 65535; seq += 100 {
		long = append(long, rule{Seq: seq, P: ten})
	}
	for _, c := range []struct {
		name string
		l    []rule
		want bool
	}{
		{"nil", nil, true},
		{"empty", []rule{}, true},
		{"one rule", []rule{{Seq: 1, P: ten}}, true},
		{"two rules", tens, true},
		{"the bounds of Seq", []rule{{Seq: 1}, {Seq: 65535}}, true},
		{"the same rule at two Seqs", []rule{{Seq: 5, P: ten}, {Seq: 6, P: ten}}, true},
		{"many", long, true},
		{"equal Seqs", []rule{{Seq: 5, P: ten}, {Seq: 5, P: other}}, false},
		{"descending Seqs", []rule{{Seq: 6, P: ten}, {Seq: 5, P: other}}, false},
		{"equal Seqs at the end", []rule{{Seq: 5}, {Seq: 6}, {Seq: 6}}, false},
		{"descending Seqs at the end", []rule{{Seq: 5}, {Seq: 7}, {Seq: 6}}, false},
		{"descending Seqs at the start", []rule{{Seq: 7}, {Seq: 6}, {Seq: 8}}, false},
		{"descending and ascending", []rule{{Seq: 5}, {Seq: 1}, {Seq: 6}}, false},
		{"many and an equal Seq", append(slices.Clone(long), long[len(long)-1]), false},
		{"Seq 0", []rule{{Seq: 0, P: ten}}, false},
		{"Seq 65536", []rule{{Seq: 1, P: ten}, {Seq: 65536, P: ten}}, false},
		{"a prefix with bits behind its length", []rule{{Seq: 1, P: prefix{A: 10<<24 | 1, N: 8}}}, false},
		{"a prefix of 33 bits", []rule{{Seq: 1, P: ten}, {Seq: 2, P: prefix{A: 10 << 24, N: 33}}}, false},
		{"Ge too small", []rule{{Seq: 1, P: ten, Ge: 8}, {Seq: 2, P: ten}}, false},
		{"Ge above Le", []rule{{Seq: 1, P: ten}, {Seq: 2, P: ten, Ge: 17, Le: 16}, {Seq: 3, P: ten}}, false},
		{"Le too great", []rule{{Seq: 1, P: ten, Le: 33}}, false},
		{"a zero rule", []rule{{}}, false},
	} {
		x := with(5, func(x *clause) { x.List = c.l })
		if c.want != valid(x) {
			t.Fatalf("%s: the test goes wrong", c.name)
		}
		kept(t, []clause{x}, func(m []clause) {
			if got := rmap.May(m[0]); got != c.want {
				t.Errorf("%s: May = %v", c.name, got)
			}
			if got := rmap.MayAll(m); got != c.want {
				t.Errorf("%s: MayAll = %v", c.name, got)
			}
		})
		x.Seq = 0
		if rmap.May(x) {
			t.Errorf("%s: May with Seq 0", c.name)
		}
	}
}

// seqs is a map of open clauses with these Seqs.
func seqs(l ...int) []clause {
	var out []clause
	for _, seq := range l {
		out = append(out, open(seq))
	}
	return out
}

// H1, written out: MayAll of no clause, and with Seqs that ascend, are equal and descend.
func TestMayAll(t *testing.T) {
	for _, c := range []struct {
		m    []clause
		want bool
	}{
		{nil, true},
		{[]clause{}, true},
		{seqs(1), true},
		{seqs(65535), true},
		{seqs(1, 2), true},
		{seqs(1, 65535), true},
		{seqs(5, 10, 20, 21, 65535), true},
		{seqs(5, 5), false},
		{seqs(6, 5), false},
		{seqs(1, 1, 2), false},
		{seqs(1, 2, 2), false},
		{seqs(1, 3, 2), false},
		{seqs(2, 1, 3), false},
		{seqs(3, 2, 1), false},
		{seqs(2, 3, 1), false},
		{seqs(1, 5, 3, 6), false},
		{seqs(0), false},
		{seqs(0, 1), false},
		{seqs(-1, 1), false},
		{seqs(1, 65536), false},
	} {
		kept(t, c.m, func(m []clause) {
			if got := rmap.MayAll(m); got != c.want {
				t.Errorf("MayAll(%v) = %v", m, got)
			}
		})
	}
}

// H1: one clause that is not valid, at each place of a map whose Seqs ascend.
func TestMayAllNotValid(t *testing.T) {
	for place := range 5 {
		for _, change := range []func(x *clause){
			func(x *clause) { x.MKind = 10 },
			func(x *clause) { x.MLow = -1 },
			func(x *clause) { x.MLow = most + 1 },
			func(x *clause) { x.MHigh = most + 1 },
			func(x *clause) { x.SCost = -2 },
			func(x *clause) { x.SPlus = -1 },
			func(x *clause) { x.SKind = 10 },
			func(x *clause) { x.List = []rule{{}} },
			func(x *clause) { x.List = []rule{{Seq: 2}, {Seq: 1}} },
		} {
			m := seqs(10, 20, 30, 40, 50)
			if !rmap.MayAll(m) {
				t.Fatalf("MayAll(%v) is false", m)
			}
			change(&m[place])
			if rmap.MayAll(m) {
				t.Errorf("MayAll(%v) is true", m)
			}
		}
	}
}

// H1: MayAll of many Seqs, and of such with two of them exchanged or made equal.
func TestMayAllOfMany(t *testing.T) {
	m := make([]clause, 0, 1000)
	for i := range 1000 {
		m = append(m, open(1+i*65))
	}
	if !rmap.MayAll(m) {
		t.Fatal("MayAll is false")
	}
	for i := 1; i < len(m); i++ {
		was := m[i].Seq
		m[i].Seq = m[i-1].Seq
		if rmap.MayAll(m) {
			t.Fatalf("equal at %d: MayAll is true", i)
		}
		m[i-1].Seq, m[i].Seq = was, m[i-1].Seq
		if rmap.MayAll(m) {
			t.Fatalf("exchanged at %d: MayAll is true", i)
		}
		m[i-1].Seq, m[i].Seq = m[i].Seq, was
	}
}

// strict matches this route and few others: each of its conditions lets only some routes pass.
func strict() (clause, route) {
	x := with(5, func(x *clause) {
		x.List, x.MKind, x.MLow, x.MHigh, x.MTags = tens, 3, 10, 20, []uint32{7, 0, 9}
	})
	return x, route{P: ten, Kind: 3, Cost: 15, Tag: 7}
}

// H1, written out: of the four conditions, each one alone does not hold, and each one alone lets everything pass.
func TestMatches(t *testing.T) {
	lets := map[string]func(x *clause){
		"List":  func(x *clause) { x.List = nil },
		"MKind": func(x *clause) { x.MKind = -1 },
		"cost":  func(x *clause) { x.MLow, x.MHigh = 0, most },
		"MTags": func(x *clause) { x.MTags = nil },
	}
	for _, c := range []struct {
		name   string // of the condition that does not hold
		change func(r *route)
	}{
		{"", func(r *route) {}},
		{"", func(r *route) { r.P = one }},
		{"", func(r *route) { r.P = prefix{A: 10 << 24, N: 9} }},
		{"List", func(r *route) { r.P = ten16 }},
		{"List", func(r *route) { r.P = other }},
		{"List", func(r *route) { r.P = prefix{} }},
		{"List", func(r *route) { r.P = prefix{A: 10 << 24, N: 7} }},
		{"List", func(r *route) { r.P = prefix{A: 10 << 24, N: 33} }},
		{"List", func(r *route) { r.P = prefix{A: 10 << 24, N: -1} }},
		{"List", func(r *route) { r.P = prefix{A: 10<<24 | 1, N: 8} }},
		{"MKind", func(r *route) { r.Kind = 2 }},
		{"MKind", func(r *route) { r.Kind = 4 }},
		{"MKind", func(r *route) { r.Kind = 0 }},
		{"MKind", func(r *route) { r.Kind = 9 }},
		{"MKind", func(r *route) { r.Kind = 3 + 256 }},
		{"", func(r *route) { r.Cost = 10 }},
		{"", func(r *route) { r.Cost = 11 }},
		{"", func(r *route) { r.Cost = 19 }},
		{"", func(r *route) { r.Cost = 20 }},
		{"cost", func(r *route) { r.Cost = 9 }},
		{"cost", func(r *route) { r.Cost = 21 }},
		{"cost", func(r *route) { r.Cost = 0 }},
		{"cost", func(r *route) { r.Cost = most }},
		{"", func(r *route) { r.Tag = 0 }},
		{"", func(r *route) { r.Tag = 9 }},
		{"MTags", func(r *route) { r.Tag = 8 }},
		{"MTags", func(r *route) { r.Tag = 10 }},
		{"MTags", func(r *route) { r.Tag = 1 }},
		{"MTags", func(r *route) { r.Tag = 1<<32 - 1 }},
		{"MTags", func(r *route) { r.Tag = 7 + 1<<16 }},
	} {
		x, r := strict()
		c.change(&r)
		if got := rmap.Matches(x, r); got != (c.name == "") {
			t.Errorf("%v and %v: %v, but %q does not hold", x, r, got, c.name)
		}
		for name, let := range lets {
			x, _ := strict()
			let(&x)
			if got := rmap.Matches(x, r); got != (c.name == "" || c.name == name) {
				t.Errorf("%v, whose %s lets everything pass, and %v: %v, but %q does not hold", x, name, r, got, c.name)
			}
		}
	}
}

// H1: kind, cost and tag of 0 and the greatest ones, each in a clause that lets only them pass.
func TestMatchesAtBounds(t *testing.T) {
	for kind := range 10 {
		x := with(1, func(x *clause) { x.MKind = kind })
		for k := range 10 {
			if got := rmap.Matches(x, route{P: ten, Kind: k}); got != (k == kind) {
				t.Errorf("MKind %d, kind %d: %v", kind, k, got)
			}
			if !rmap.Matches(open(1), route{P: ten, Kind: k}) {
				t.Errorf("MKind -1, kind %d: false", k)
			}
		}
	}
	costs := []int{0, 1, 2, 255, 256, 257, 65535, 65536, most - 2, most - 1, most}
	for i, low := range costs {
		for _, high := range costs[i:] {
			x := with(1, func(x *clause) { x.MLow, x.MHigh = low, high })
			for _, cost := range costs {
				if got := rmap.Matches(x, route{P: ten, Cost: cost}); got != (cost >= low && cost <= high) {
					t.Errorf("%d to %d, cost %d: %v", low, high, cost, got)
				}
			}
		}
	}
	tags := []uint32{0, 1, 1 << 16, 1 << 31, 1<<32 - 1}
	for _, tag := range tags {
		for _, u := range tags {
			x := with(1, func(x *clause) { x.MTags = []uint32{tag} })
			if got := rmap.Matches(x, route{P: ten, Tag: u}); got != (tag == u) {
				t.Errorf("MTags %d, tag %d: %v", tag, u, got)
			}
			x.MTags = []uint32{}
			if !rmap.Matches(x, route{P: ten, Tag: u}) {
				t.Errorf("no MTags, tag %d: false", u)
			}
		}
	}
}

// H1: whether a clause permits or denies, its Seq, and what it sets, are nothing to Matches; an empty list permits every prefix, and one of which no rule matches permits none.
func TestMatchesNotByTheRest(t *testing.T) {
	x, r := strict()
	for _, change := range []func(x *clause){
		func(x *clause) { x.Permit = false },
		func(x *clause) { x.Seq = 65535 },
		func(x *clause) { x.SCost, x.SPlus, x.SKind = 1, 2, 9 },
		func(x *clause) { x.SetTag, x.STag = true, 8 },
	} {
		y := x
		change(&y)
		if !rmap.Matches(y, r) {
			t.Errorf("%v does not match %v", y, r)
		}
		miss := r
		miss.Tag = 8
		if rmap.Matches(y, miss) {
			t.Errorf("%v matches %v", y, miss)
		}
	}
	for _, p := range []prefix{{}, ten, ten16, one, other} {
		x := open(1)
		x.List = []rule{}
		if !rmap.Matches(x, route{P: p}) {
			t.Errorf("an empty list: %v does not match", p)
		}
		x.List = []rule{{Seq: 1, P: prefix{}, Le: 32}}
		if rmap.Matches(x, route{P: p}) {
			t.Errorf("a list that denies all: %v matches", p)
		}
		x.List = []rule{{Seq: 1, Permit: true, P: prefix{A: 99 << 24, N: 8}}}
		if rmap.Matches(x, route{P: p}) {
			t.Errorf("a list without a rule for %v: it matches", p)
		}
	}
}

// H1: Matches of many clauses and routes; each condition is the only one that does not hold for many of them.
func TestMatchesOfMany(t *testing.T) {
	draw := drawer(3)
	count := map[string]int{}
	for range 40000 {
		x, r := drawnClause(draw, 1+draw(65535)), drawnRoute(draw)
		if !rmap.May(x) || !valid(x) {
			t.Fatalf("%v is not valid", x)
		}
		misses := failing(x, r)
		kept(t, []clause{x}, func(m []clause) {
			if got := rmap.Matches(m[0], r); got != (len(misses) == 0) {
				t.Fatalf("Matches(%v, %v) = %v, but %v do not hold", x, r, got, misses)
			}
		})
		if len(misses) < 2 {
			count[fmt.Sprint(misses)]++
		}
	}
	for _, name := range []string{"[]", "[List]", "[MKind]", "[cost]", "[MTags]"} {
		if count[name] < 500 {
			t.Errorf("only %d times: %s", count[name], name)
		}
	}
}

// H1, written out: Change, at and beyond the greatest cost.
func TestChange(t *testing.T) {
	from := route{P: ten16, Kind: 2, Cost: 100, Tag: 5}
	for _, c := range []struct {
		name       string
		change     func(x *clause)
		cost, kind int
		tag        uint32
	}{
		{"nothing", func(x *clause) {}, 100, 2, 5},
		{"SCost 0", func(x *clause) { x.SCost = 0 }, 0, 2, 5},
		{"SCost 1", func(x *clause) { x.SCost = 1 }, 1, 2, 5},
		{"SCost most", func(x *clause) { x.SCost = most }, most, 2, 5},
		{"SPlus 1", func(x *clause) { x.SPlus = 1 }, 101, 2, 5},
		{"SPlus most - 101", func(x *clause) { x.SPlus = most - 101 }, most - 1, 2, 5},
		{"SPlus most - 100", func(x *clause) { x.SPlus = most - 100 }, most, 2, 5},
		{"SPlus most - 99", func(x *clause) { x.SPlus = most - 99 }, most, 2, 5},
		{"SPlus most", func(x *clause) { x.SPlus = most }, most, 2, 5},
		{"SCost 0, SPlus 3", func(x *clause) { x.SCost, x.SPlus = 0, 3 }, 3, 2, 5},
		{"SCost 7, SPlus 3", func(x *clause) { x.SCost, x.SPlus = 7, 3 }, 10, 2, 5},
		{"SCost 0, SPlus most", func(x *clause) { x.SCost, x.SPlus = 0, most }, most, 2, 5},
		{"SCost 1, SPlus most - 2", func(x *clause) { x.SCost, x.SPlus = 1, most-2 }, most - 1, 2, 5},
		{"SCost 1, SPlus most - 1", func(x *clause) { x.SCost, x.SPlus = 1, most-1 }, most, 2, 5},
		{"SCost 1, SPlus most", func(x *clause) { x.SCost, x.SPlus = 1, most }, most, 2, 5},
		{"SCost most, SPlus 1", func(x *clause) { x.SCost, x.SPlus = most, 1 }, most, 2, 5},
		{"SCost most, SPlus most", func(x *clause) { x.SCost, x.SPlus = most, most }, most, 2, 5},
		{"SKind 0", func(x *clause) { x.SKind = 0 }, 100, 0, 5},
		{"SKind 2", func(x *clause) { x.SKind = 2 }, 100, 2, 5},
		{"SKind 9", func(x *clause) { x.SKind = 9 }, 100, 9, 5},
		{"STag without SetTag", func(x *clause) { x.STag = 8 }, 100, 2, 5},
		{"STag 8", func(x *clause) { x.SetTag, x.STag = true, 8 }, 100, 2, 8},
		{"STag 0", func(x *clause) { x.SetTag, x.STag = true, 0 }, 100, 2, 0},
		{"the greatest STag", func(x *clause) { x.SetTag, x.STag = true, 1<<32-1 }, 100, 2, 1<<32 - 1},
		{"all", func(x *clause) { x.SCost, x.SPlus, x.SKind, x.SetTag, x.STag = 40, 2, 6, true, 9 }, 42, 6, 9},
		{"all, of one that denies", func(x *clause) { x.Permit, x.SCost, x.SPlus, x.SKind, x.SetTag, x.STag = false, 40, 2, 6, true, 9 }, 42, 6, 9},
		{"of one that does not match", func(x *clause) { x.List, x.MKind, x.MLow, x.MTags, x.SPlus = tens, 8, 200, []uint32{1}, 2 }, 102, 2, 5},
	} {
		want := route{P: ten16, Kind: c.kind, Cost: c.cost, Tag: c.tag}
		kept(t, []clause{with(5, c.change)}, func(m []clause) {
			if got := rmap.Change(m[0], from); got != want {
				t.Errorf("%s: %v, want %v", c.name, got, want)
			}
		})
	}
}

// H1: Change of many routes, valid clauses with costs at the bounds, kinds and tags.
func TestChangeOfMany(t *testing.T) {
	draw := drawer(4)
	beyond, below := 0, 0
	for range 40000 {
		x, r := drawnClause(draw, 1+draw(65535)), drawnRoute(draw)
		got, want := rmap.Change(x, r), changed(x, r)
		if got != want {
			t.Fatalf("Change(%v, %v) = %v, want %v", x, r, got, want)
		}
		if got.Cost < 0 || got.Cost > most || got.Kind < 0 || got.Kind > 9 {
			t.Fatalf("Change(%v, %v) = %v", x, r, got)
		}
		if x.SPlus > 0 && got.Cost == most {
			beyond++
		} else if x.SPlus > 0 {
			below++
		}
	}
	if beyond < 1000 || below < 1000 {
		t.Errorf("only %d times the greatest cost, %d times another one", beyond, below)
	}
}

// H1, written out: the first clause that matches permits, denies, and none matches.
func TestEval(t *testing.T) {
	onTag := func(seq int, permit bool, tag uint32) clause {
		return with(seq, func(x *clause) {
			x.Permit, x.MTags, x.SPlus, x.SKind = permit, []uint32{tag}, seq, 6
		})
	}
	m := []clause{onTag(1, true, 1), onTag(20, false, 2), onTag(300, true, 3), onTag(301, false, 3), onTag(302, true, 2), onTag(65535, false, 4)}
	if !rmap.MayAll(m) {
		t.Fatal("MayAll is false")
	}
	from := func(tag uint32) route { return route{P: ten16, Kind: 2, Cost: 10, Tag: tag} }
	to := func(cost int, tag uint32) route { return route{P: ten16, Kind: 6, Cost: cost, Tag: tag} }
	evals(t, m, from(1), to(11, 1), true, 1)
	evals(t, m, from(2), route{}, false, 20)
	evals(t, m, from(3), to(310, 3), true, 300)
	evals(t, m, from(4), route{}, false, 65535)
	evals(t, m, from(5), route{}, false, 0)
	evals(t, m[1:], from(1), route{}, false, 0)
	evals(t, m[2:], from(2), to(312, 2), true, 302)
	evals(t, m[3:], from(3), route{}, false, 301)
	evals(t, m[:1], from(1), to(11, 1), true, 1)
}

// H1: a route passes as one clause changes it: what the clause makes of it is not matched again, and the clauses behind it do not change it.
func TestEvalByOneClause(t *testing.T) {
	first := with(10, func(x *clause) { x.MTags, x.SetTag, x.STag, x.SCost = []uint32{1}, true, 2, 7 })
	second := with(20, func(x *clause) { x.MTags, x.SKind = []uint32{2}, 9 })
	deny := with(30, func(x *clause) { x.Permit, x.MTags = false, []uint32{2} })
	evals(t, []clause{first, second}, route{P: ten, Kind: 1, Cost: 3, Tag: 1}, route{P: ten, Kind: 1, Cost: 7, Tag: 2}, true, 10)
	evals(t, []clause{first, deny}, route{P: ten, Kind: 1, Cost: 3, Tag: 1}, route{P: ten, Kind: 1, Cost: 7, Tag: 2}, true, 10)
	evals(t, []clause{first, second}, route{P: ten, Kind: 1, Cost: 3, Tag: 2}, route{P: ten, Kind: 9, Cost: 3, Tag: 2}, true, 20)
	evals(t, []clause{closed(1), open(2)}, route{P: ten}, route{}, false, 1)
	evals(t, []clause{open(1), closed(2)}, route{P: ten, Cost: 1}, route{P: ten, Cost: 1}, true, 1)
}

// H1: a clause whose list denies the prefix does not match, whether the clause permits or not.
func TestEvalByList(t *testing.T) {
	permit := with(10, func(x *clause) { x.List = tens })
	deny := with(20, func(x *clause) { x.Permit, x.List = false, tens })
	r := func(p prefix) route { return route{P: p, Kind: 4, Cost: 8, Tag: 1} }
	evals(t, []clause{permit, closed(50)}, r(ten), r(ten), true, 10)
	evals(t, []clause{permit, closed(50)}, r(ten16), route{}, false, 50)
	evals(t, []clause{deny, open(50)}, r(ten), route{}, false, 20)
	evals(t, []clause{deny, open(50)}, r(ten16), r(ten16), true, 50)
	evals(t, []clause{permit}, r(other), route{}, false, 0)
}

// outcome names which of its answers Eval gave.
func outcome(ok bool, seq int) string {
	switch {
	case ok:
		return "permitted"
	case seq > 0:
		return "denied"
	}
	return "not matched"
}

// H1: Eval of many maps and routes, against the words of the chapter.
func TestEvalOfMany(t *testing.T) {
	count := map[string]int{}
	for seed := range uint64(4000) {
		draw := drawer(seed + 100)
		m := drawnMap(draw)
		if !rmap.MayAll(m) {
			t.Fatalf("MayAll(%v) is false", m)
		}
		for range 10 {
			r := drawnRoute(draw)
			want, ok, seq := evaluated(m, r)
			evals(t, m, r, want, ok, seq)
			count[outcome(ok, seq)]++
		}
	}
	for _, name := range []string{"permitted", "denied", "not matched"} {
		if count[name] < 4000 {
			t.Errorf("only %d routes are %s", count[name], name)
		}
	}
}

// filters checks one Filter, that what was passed stays as it was, and that this holds also when the answer is changed.
func filters(t *testing.T, m []clause, l, want []route) {
	t.Helper()
	room := append(slices.Clone(l), route{Tag: 4711}, route{Tag: 4712})
	was := slices.Clone(room)
	kept(t, m, func(m []clause) {
		got := rmap.Filter(m, room[:len(l)])
		if !slices.Equal(got, want) {
			t.Fatalf("Filter(%v, %v) = %v, want %v", m, l, got, want)
		}
		got = got[:cap(got)]
		for i := range got {
			got[i] = route{Kind: -7}
		}
	})
	if !slices.Equal(room, was) {
		t.Fatalf("the routes that were passed are %v, were %v", room, was)
	}
}

// H1, written out: Filter in order, for no route, for equal ones, where all pass and where none does.
func TestFilter(t *testing.T) {
	m := []clause{
		with(10, func(x *clause) { x.Permit, x.MKind = false, 1 }),
		with(20, func(x *clause) { x.MKind, x.SetTag, x.STag = 2, true, 8 }),
		with(30, func(x *clause) { x.MKind, x.SPlus = 3, 5 }),
	}
	r := func(kind, cost int, tag uint32) route { return route{P: ten, Kind: kind, Cost: cost, Tag: tag} }
	filters(t, m, nil, nil)
	filters(t, m, []route{}, nil)
	filters(t, nil, nil, nil)
	filters(t, nil, []route{r(2, 1, 1)}, nil)
	filters(t, m, []route{r(1, 1, 1), r(4, 1, 1)}, nil)
	filters(t, m, []route{r(3, 1, 1)}, []route{r(3, 6, 1)})
	filters(t, m, []route{r(3, 9, 1), r(1, 8, 2), r(2, 7, 3), r(4, 6, 4), r(3, 5, 5), r(2, 4, 6)}, []route{r(3, 14, 1), r(2, 7, 8), r(3, 10, 5), r(2, 4, 8)})
	filters(t, m, []route{r(2, 7, 3), r(2, 7, 3), r(2, 7, 4), r(1, 7, 3)}, []route{r(2, 7, 8), r(2, 7, 8), r(2, 7, 8)})
	filters(t, []clause{open(1)}, []route{r(3, 9, 1), r(1, 8, 2), {}}, []route{r(3, 9, 1), r(1, 8, 2), {}})
	filters(t, []clause{closed(1), open(2)}, []route{r(3, 9, 1), r(1, 8, 2), {}}, nil)
}

// H1: Filter of many routes.
func TestFilterOfMany(t *testing.T) {
	for seed := range uint64(300) {
		draw := drawer(seed + 7000)
		m := drawnMap(draw)
		var l, want []route
		for range draw(200) {
			r := drawnRoute(draw)
			l = append(l, r)
			if changed, ok, _ := evaluated(m, r); ok {
				want = append(want, changed)
			}
		}
		filters(t, m, l, want)
	}
	var l, want []route
	for i := range 50000 {
		l = append(l, route{P: ten, Kind: i % 10, Cost: i})
		if i%10 == 4 {
			want = append(want, l[i])
		}
	}
	filters(t, []clause{with(1, func(x *clause) { x.MKind = 4 })}, l, want)
}

// thens checks one Then.
func thens(t *testing.T, m, n []clause, r, want route, ok bool) {
	t.Helper()
	kept(t, m, func(m []clause) {
		kept(t, n, func(n []clause) {
			got, passes := rmap.Then(m, n, r)
			if got != want || passes != ok {
				t.Fatalf("Then(%v, %v, %v) = %v, %v, want %v, %v", m, n, r, got, passes, want, ok)
			}
		})
	})
}

// H1, written out: both permit, the first one does not, the second one does not; the second one works on what the first one made.
func TestThen(t *testing.T) {
	r := route{P: ten, Kind: 1, Cost: 3, Tag: 5}
	plus := []clause{with(10, func(x *clause) { x.MTags, x.SPlus, x.SetTag, x.STag = []uint32{5}, 4, true, 6 })}
	kind := []clause{with(10, func(x *clause) { x.MTags, x.MLow, x.MHigh, x.SKind = []uint32{6}, 7, 7, 9 })}
	thens(t, plus, kind, r, route{P: ten, Kind: 9, Cost: 7, Tag: 6}, true)
	thens(t, kind, plus, r, route{}, false)
	thens(t, plus, plus, r, route{}, false)
	thens(t, []clause{open(1)}, []clause{open(1)}, r, r, true)
	thens(t, []clause{open(1)}, plus, r, route{P: ten, Kind: 1, Cost: 7, Tag: 6}, true)
	thens(t, plus, []clause{open(1)}, r, route{P: ten, Kind: 1, Cost: 7, Tag: 6}, true)
	thens(t, plus, []clause{closed(1)}, r, route{}, false)
	thens(t, []clause{closed(1)}, []clause{open(1)}, r, route{}, false)
	thens(t, []clause{closed(1)}, []clause{closed(1)}, r, route{}, false)
	thens(t, nil, []clause{open(1)}, r, route{}, false)
	thens(t, []clause{open(1)}, nil, r, route{}, false)
	thens(t, nil, nil, r, route{}, false)
	// What the first map does not permit must not reach the second one as a zero route.
	zero := []clause{with(1, func(x *clause) { x.MTags, x.MHigh, x.MKind = []uint32{0}, 0, 0 })}
	thens(t, []clause{closed(1)}, zero, r, route{}, false)
	thens(t, nil, zero, r, route{}, false)
	thens(t, zero, zero, route{}, route{}, true)
}

// H1: Then of one map with itself, twice: its changes add up to the greatest cost.
func TestThenTwice(t *testing.T) {
	plus := []clause{with(1, func(x *clause) { x.SPlus = most / 3 * 2 })}
	r := route{P: one, Kind: 4, Cost: 1, Tag: 9}
	thens(t, plus, plus, r, route{P: one, Kind: 4, Cost: most, Tag: 9}, true)
	set := []clause{with(1, func(x *clause) { x.SCost, x.SPlus = 5, 2 })}
	thens(t, set, set, r, route{P: one, Kind: 4, Cost: 7, Tag: 9}, true)
	thens(t, plus, set, r, route{P: one, Kind: 4, Cost: 7, Tag: 9}, true)
}

// H1: Then of many pairs of maps.
func TestThenOfMany(t *testing.T) {
	passed, first, second := 0, 0, 0
	for seed := range uint64(4000) {
		draw := drawer(seed + 20000)
		m, n := drawnMap(draw), drawnMap(draw)
		for range 10 {
			r := drawnRoute(draw)
			want, ok, _ := evaluated(m, r)
			if !ok {
				first++
			} else if want, ok, _ = evaluated(n, want); ok {
				passed++
			} else {
				second++
			}
			thens(t, m, n, r, want, ok)
		}
	}
	if passed < 1000 || first < 1000 || second < 1000 {
		t.Errorf("only %d routes pass, %d do not pass the first map, %d not the second one", passed, first, second)
	}
}

// P8.2: of a map of which all clauses set a tag, every route that passes has that tag.
func TestTagOfWhatPasses(t *testing.T) {
	passed := 0
	for seed := range uint64(2000) {
		draw := drawer(seed + 40000)
		m, tag := drawnMap(draw), drawnTag(draw)
		if draw(2) == 0 {
			tag = uint32(draw(1 << 32))
		}
		for i := range m {
			m[i].SetTag, m[i].STag = true, tag
		}
		var l []route
		for range 20 {
			l = append(l, drawnRoute(draw))
		}
		out := rmap.Filter(m, l)
		for _, r := range out {
			if r.Tag != tag {
				t.Fatalf("%v sets the tag %d, but %v passes", m, tag, r)
			}
		}
		for _, r := range l {
			if got, ok, _ := rmap.Eval(m, r); ok && got.Tag != tag {
				t.Fatalf("%v sets the tag %d, but Eval of %v is %v", m, tag, r, got)
			}
			if got, ok := rmap.Then([]clause{open(1)}, m, r); ok && got.Tag != tag {
				t.Fatalf("%v sets the tag %d, but Then of %v is %v", m, tag, r, got)
			}
		}
		passed += len(out)
	}
	if passed < 5000 {
		t.Errorf("only %d routes pass", passed)
	}
}

// P8.2: of a map whose first clause denies a tag, no route with this tag passes, whatever the clauses behind it are; those with another tag pass as they do without it.
func TestTagThatIsDenied(t *testing.T) {
	denied, passed := 0, 0
	for seed := range uint64(2000) {
		draw := drawer(seed + 60000)
		tag := drawnTag(draw)
		deny := with(1, func(x *clause) { x.Permit, x.MTags = false, []uint32{tag} })
		rest := drawnMap(draw)
		for i := range rest {
			rest[i].Seq++
		}
		m := slices.Concat([]clause{deny}, rest)
		if !rmap.MayAll(m) {
			t.Fatalf("MayAll(%v) is false", m)
		}
		for range 20 {
			r := drawnRoute(draw)
			want, ok, seq := evaluated(rest, r)
			if r.Tag == tag {
				want, ok, seq = route{}, false, 1
				denied++
			}
			evals(t, m, r, want, ok, seq)
			if len(rmap.Filter(m, []route{r})) > 0 != ok {
				t.Fatalf("%v denies %d: Filter of %v", m, tag, r)
			}
			if _, both := rmap.Then(m, []clause{open(1)}, r); both != ok {
				t.Fatalf("%v denies %d: Then of %v", m, tag, r)
			}
			if ok {
				passed++
			}
		}
	}
	if denied < 2000 || passed < 2000 {
		t.Errorf("only %d routes are denied, %d pass", denied, passed)
	}
}

// P8.2: two maps, of which the first one sets a tag that the second one denies, let nothing pass.
func TestTagsAgainstFeedback(t *testing.T) {
	for seed := range uint64(500) {
		draw := drawer(seed + 80000)
		tag := drawnTag(draw)
		set := drawnMap(draw)
		for i := range set {
			set[i].SetTag, set[i].STag = true, tag
		}
		deny := with(1, func(x *clause) { x.Permit, x.MTags = false, []uint32{3, tag} })
		for range 20 {
			thens(t, set, []clause{deny, open(2)}, drawnRoute(draw), route{}, false)
		}
	}
}

// Maps, clauses and routes that are not valid: May and MayAll say so, and no call panics on them.
func TestNotValid(t *testing.T) {
	wrong := []prefix{{N: -1}, {N: 33}, {A: 1, N: 0}, {A: 10<<24 | 1, N: 8}, {A: 1<<32 - 1, N: math.MaxInt}, {N: math.MinInt}}
	var m []clause
	for i, n := range near() {
		x := clause{Seq: n, Permit: i%2 == 0, MKind: n, MLow: -n, MHigh: n, SCost: n, SPlus: n, SKind: n, MTags: []uint32{0, uint32(n)}}
		for _, p := range wrong {
			x.List = append(x.List, rule{Seq: n, P: p, Ge: n, Le: -n})
		}
		m = append(m, x)
		if rmap.May(x) {
			t.Errorf("May(%v) is true", x)
		}
	}
	if rmap.MayAll(m) {
		t.Error("MayAll is true")
	}
	var l []route
	for _, n := range near() {
		for _, p := range append(wrong, ten) {
			l = append(l, route{P: p, Kind: n, Cost: n, Tag: uint32(n)})
		}
	}
	for i := range m {
		m := m[i:]
		kept(t, m, func(m []clause) {
			for _, r := range l {
				rmap.Matches(m[0], r)
				rmap.Change(m[0], r)
				rmap.Eval(m, r)
				rmap.Then(m, m, r)
			}
			rmap.Filter(m, l)
		})
	}
}

// H1: a route whose prefix is not valid passes where there is no list, and none permits it.
func TestRoutesNotValid(t *testing.T) {
	all := with(1, func(x *clause) { x.List = []rule{{Seq: 1, Permit: true, Le: 32}} })
	for _, p := range []prefix{{N: -1}, {N: 33}, {A: 1, N: 0}, {A: 10<<24 | 1, N: 8}} {
		r := route{P: p, Kind: 1, Cost: 2, Tag: 3}
		evals(t, []clause{open(7)}, r, r, true, 7)
		evals(t, []clause{all}, r, route{}, false, 0)
	}
}

// R5: the same call gives the same answer again, and behind other calls.
func TestAgain(t *testing.T) {
	draw := drawer(12)
	m, r := drawnMap(draw), drawnRoute(draw)
	want, ok, seq := rmap.Eval(m, r)
	for range 100 {
		rmap.Eval(drawnMap(draw), drawnRoute(draw))
		evals(t, m, r, want, ok, seq)
	}
}
