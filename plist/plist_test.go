package plist_test

import (
	"fmt"
	"math"
	"regexp"
	"slices"
	"strconv"
	"strings"
	"testing"

	"crossroads/api"
	"crossroads/plist"
)

type (
	prefix = api.Prefix
	rule   = plist.Rule
)

// full is how many rules a list has at most.
const full = 200

// of returns the prefix of the first n bits of a.
func of(a uint32, n int) prefix {
	for i := n; i < 32; i++ {
		a &^= 1 << (31 - i)
	}
	return prefix{A: a, N: n}
}

var (
	ten   = of(10<<24, 8)
	ten16 = of(10<<24|1<<16, 16)
	all   = prefix{}
	one   = of(10<<24|1, 32)
)

// binary writes an address bit by bit, bit 0 first: what the tests expect is worked out on these texts.
func binary(a uint32) string {
	var out [32]byte
	for i := 31; i >= 0; i-- {
		out[i] = byte('0' + a%2)
		a /= 2
	}
	return string(out[:])
}

func validPrefix(p prefix) bool {
	return p.N >= 0 && p.N <= 32 && !strings.Contains(binary(p.A)[p.N:], "1")
}

func covers(p, q prefix) bool {
	return strings.HasPrefix(binary(q.A)[:q.N], binary(p.A)[:p.N])
}

// valid goes by the words of the chapter, one condition after the other.
func valid(x rule) bool {
	if x.Seq < 1 || x.Seq > 65535 || !validPrefix(x.P) {
		return false
	}
	if x.Ge != 0 && (x.Ge <= x.P.N || x.Ge > 32) {
		return false
	}
	return x.Le == 0 || x.Le >= x.Ge && x.Le >= x.P.N && x.Le <= 32
}

// lengths returns, for a valid rule, which numbers of bits the prefixes that it matches have.
func lengths(x rule) (out [33]bool) {
	for n := range out {
		switch {
		case x.Ge == 0 && x.Le == 0:
			out[n] = n == x.P.N
		case x.Ge == 0:
			out[n] = n >= x.P.N && n <= x.Le
		case x.Le == 0:
			out[n] = n >= x.Ge
		default:
			out[n] = n >= x.Ge && n <= x.Le
		}
	}
	return out
}

func means(x rule, q prefix) bool {
	return valid(x) && validPrefix(q) && covers(x.P, q) && lengths(x)[q.N]
}

func eval(l []rule, q prefix) (bool, int) {
	for _, x := range l {
		if means(x, q) {
			return x.Permit, x.Seq
		}
	}
	return false, 0
}

// edges are the first and the last prefix of every length that x matches: a rule that matches all of these matches all that x does.
func edges(x rule) []prefix {
	var out []prefix
	end := x.P.A + uint32(1<<(32-x.P.N)-1)
	for n, ok := range lengths(x) {
		if ok {
			out = append(out, of(x.P.A, n), of(end, n))
		}
	}
	return out
}

// idle goes by what the rules match: a rule is idle if a single one before it matches all that it does.
func idle(l []rule) []int {
	var out []int
	for i, x := range l {
		hidden := slices.ContainsFunc(l[:i], func(y rule) bool {
			return !slices.ContainsFunc(edges(x), func(q prefix) bool { return !means(y, q) })
		})
		if hidden {
			out = append(out, x.Seq)
		}
	}
	return out
}

// notValid are prefixes with a wrong length, some of them with 32 or less in their lowest bits, and ones with a bit that is 1 behind their first N bits.
func notValid() []prefix {
	var out []prefix
	for _, n := range []int{-1, -8, -32, -33, 33, 34, 64, 256, 264, 1 << 32, 1<<32 + 8, -1 << 32, math.MaxInt, math.MinInt} {
		out = append(out, prefix{N: n}, prefix{A: 10 << 24, N: n}, prefix{A: 1<<32 - 1, N: n})
	}
	for n := range 32 {
		for _, a := range []uint32{0, 10 << 24, 1<<32 - 1} {
			out = append(out, prefix{A: of(a, n).A | 1<<(31-n), N: n}, prefix{A: of(a, n).A | 1, N: n})
		}
	}
	return out
}

// drawer returns a source of numbers below a bound that are the same for the same seed.
func drawer(seed uint64) func(below int) int {
	seed = seed*0x9e3779b97f4a7c15 + 1
	return func(below int) int {
		seed = seed*6364136223846793005 + 1442695040888963407
		return int(seed >> 31 % uint64(below))
	}
}

// drawnPrefix returns a prefix of a few addresses, so that many of them cover each other.
func drawnPrefix(draw func(int) int) prefix {
	bases := []uint32{0, 1<<32 - 1, 10 << 24, 10<<24 | 1<<16, 10<<24 | 1<<23}
	n := draw(33)
	if draw(2) == 0 {
		n = []int{0, 1, 7, 8, 9, 16, 24, 31, 32}[draw(9)]
	}
	return of(bases[draw(len(bases))], n)
}

// drawnRule returns a valid rule, with and without Ge and Le, at their bounds and between them.
func drawnRule(draw func(int) int, seq int) rule {
	x := rule{Seq: seq, Permit: draw(2) == 0, P: drawnPrefix(draw)}
	if x.P.N < 32 && draw(2) == 0 {
		x.Ge = x.P.N + 1 + draw(32-x.P.N)
	}
	if low := max(x.Ge, x.P.N, 1); draw(2) == 0 {
		x.Le = low + draw(33-low)
	}
	return x
}

// drawnList returns a valid list.
func drawnList(draw func(int) int) []rule {
	var out []rule
	seq := 0
	for range draw(16) {
		seq += 1 + draw(10)
		out = append(out, drawnRule(draw, seq))
	}
	return out
}

// around are the prefixes at the edges of the rules of a list, and those a bit shorter, a bit longer, and beside them.
func around(l []rule) []prefix {
	out := []prefix{all, one, of(1<<32-1, 32)}
	for _, x := range l {
		for _, q := range append(edges(x), x.P) {
			out = append(out, q, of(q.A, max(0, q.N-1)), of(q.A, min(32, q.N+1)), of(q.A^1<<31, q.N))
			if q.N > 0 {
				out = append(out, of(q.A^1<<(32-q.N), q.N))
			}
		}
	}
	return out
}

// rules are valid and invalid ones: every Ge and Le from below 0 to beyond 32 for some prefixes, and beyond the numbers of 8 and 32 bits.
func rules() []rule {
	var out []rule
	numbers := []int{math.MinInt, -1 << 32, 256, 256 + 24, 1 << 32, 1<<32 + 24, math.MaxInt}
	for n := -3; n <= 35; n++ {
		numbers = append(numbers, n)
	}
	for _, p := range []prefix{all, of(1<<31, 1), ten, ten16, of(10<<24, 31), one} {
		for _, ge := range numbers {
			for _, le := range numbers {
				out = append(out, rule{Seq: 1 + len(out)%65535, Permit: len(out)%2 == 0, P: p, Ge: ge, Le: le})
			}
		}
	}
	return out
}

// Example 1 of the chapter, and example 6 of the whole.
func TestExample(t *testing.T) {
	x, e := plist.Parse("5 permit 10.0.0.0/8 le 24")
	if want := (rule{Seq: 5, Permit: true, P: ten, Le: 24}); x != want || e != api.OK {
		t.Fatalf("Parse: %v, error %d", x, e)
	}
	if !plist.Means(x, ten16) {
		t.Error("10.1.0.0/16 is not matched")
	}
	if plist.Means(x, of(10<<24|1<<16|1<<8, 25)) {
		t.Error("10.1.1.0/25 is matched")
	}
}

// G1, written out: May at each bound of Seq, Ge and Le.
func TestMayAtBounds(t *testing.T) {
	for _, c := range []struct {
		x    rule
		want bool
	}{
		{rule{Seq: 0, P: ten}, false},
		{rule{Seq: 1, P: ten}, true},
		{rule{Seq: -1, P: ten}, false},
		{rule{Seq: 65535, P: ten}, true},
		{rule{Seq: 65536, P: ten}, false},
		{rule{Seq: 65537, P: ten}, false},
		{rule{Seq: 1<<32 + 1, P: ten}, false},
		{rule{Seq: math.MinInt, P: ten}, false},
		{rule{Seq: 1, P: ten, Ge: -1}, false},
		{rule{Seq: 1, P: ten, Ge: 7}, false},
		{rule{Seq: 1, P: ten, Ge: 8}, false},
		{rule{Seq: 1, P: ten, Ge: 9}, true},
		{rule{Seq: 1, P: ten, Ge: 32}, true},
		{rule{Seq: 1, P: ten, Ge: 33}, false},
		{rule{Seq: 1, P: ten, Le: -1}, false},
		{rule{Seq: 1, P: ten, Le: 7}, false},
		{rule{Seq: 1, P: ten, Le: 8}, true},
		{rule{Seq: 1, P: ten, Le: 9}, true},
		{rule{Seq: 1, P: ten, Le: 32}, true},
		{rule{Seq: 1, P: ten, Le: 33}, false},
		{rule{Seq: 1, P: ten, Ge: 16, Le: 15}, false},
		{rule{Seq: 1, P: ten, Ge: 16, Le: 16}, true},
		{rule{Seq: 1, P: ten, Ge: 16, Le: 17}, true},
		{rule{Seq: 1, P: ten, Ge: 16, Le: 8}, false},
		{rule{Seq: 1, P: ten, Ge: 8, Le: 16}, false},
		{rule{Seq: 1, P: ten, Ge: 32, Le: 32}, true},
		{rule{Seq: 1, P: ten, Ge: 33, Le: 33}, false},
		{rule{Seq: 1, P: all}, true},
		{rule{Seq: 1, P: all, Ge: 1}, true},
		{rule{Seq: 1, P: all, Ge: -1}, false},
		{rule{Seq: 1, P: all, Le: 1}, true},
		{rule{Seq: 1, P: all, Le: -1}, false},
		{rule{Seq: 1, P: one}, true},
		{rule{Seq: 1, P: one, Ge: 32}, false},
		{rule{Seq: 1, P: one, Ge: 33}, false},
		{rule{Seq: 1, P: one, Le: 32}, true},
		{rule{Seq: 1, P: one, Le: 31}, false},
		{rule{Seq: 1, P: one, Le: 33}, false},
	} {
		if got := plist.May(c.x); got != c.want {
			t.Errorf("May(%v) = %v", c.x, got)
		}
		c.x.Permit = true
		if got := plist.May(c.x); got != c.want {
			t.Errorf("May(%v) = %v", c.x, got)
		}
	}
}

// G1: May for every Ge and Le, for each Seq, and for prefixes that are not valid.
func TestMay(t *testing.T) {
	for _, x := range rules() {
		if got := plist.May(x); got != valid(x) {
			t.Errorf("May(%v) = %v", x, got)
		}
	}
	for seq := -70000; seq <= 140000; seq++ {
		if got := plist.May(rule{Seq: seq}); got != (seq >= 1 && seq <= 65535) {
			t.Fatalf("May with Seq %d: %v", seq, got)
		}
	}
	for _, p := range notValid() {
		for _, le := range []int{0, 1, 24, 32, p.N} {
			for _, ge := range []int{0, 32, p.N, p.N + 1} {
				if x := (rule{Seq: 1, P: p, Ge: ge, Le: le}); plist.May(x) {
					t.Errorf("May(%v) is true", x)
				}
			}
		}
	}
}

// G1, written out: Means at LOW and HIGH, and just beyond them.
func TestMeansAtBounds(t *testing.T) {
	for _, c := range []struct {
		ge, le    int
		low, high int
	}{
		{0, 0, 8, 8},
		{0, 8, 8, 8},
		{0, 9, 8, 9},
		{0, 24, 8, 24},
		{0, 32, 8, 32},
		{9, 0, 9, 32},
		{16, 0, 16, 32},
		{32, 0, 32, 32},
		{9, 9, 9, 9},
		{16, 24, 16, 24},
		{24, 24, 24, 24},
		{31, 32, 31, 32},
	} {
		x := rule{Seq: 1, P: ten, Ge: c.ge, Le: c.le}
		for n := range 33 {
			for _, a := range []uint32{10 << 24, 11<<24 - 1, 10<<24 | 0x555555} {
				want := n >= c.low && n <= c.high
				if got := plist.Means(x, of(a, n)); got != want {
					t.Errorf("Means(%v, %v) = %v", x, of(a, n), got)
				}
			}
			for _, a := range []uint32{9 << 24, 10<<24 - 1, 11 << 24, 0, 1<<32 - 1, 138 << 24} {
				if plist.Means(x, of(a, n)) {
					t.Errorf("Means(%v, %v) is true", x, of(a, n))
				}
			}
		}
	}
}

// G1: of the prefix of 0 bits, LOW is 0 unless Ge is another number, and HIGH is 0 if neither is.
func TestMeansOfAll(t *testing.T) {
	for _, c := range []struct{ ge, le, low, high int }{{0, 0, 0, 0}, {0, 1, 0, 1}, {0, 32, 0, 32}, {1, 0, 1, 32}, {32, 0, 32, 32}, {1, 1, 1, 1}} {
		x := rule{Seq: 9, P: all, Ge: c.ge, Le: c.le}
		for n := range 33 {
			for _, a := range []uint32{0, 10 << 24, 1<<32 - 1} {
				if got := plist.Means(x, of(a, n)); got != (n >= c.low && n <= c.high) {
					t.Errorf("Means(%v, %v) = %v", x, of(a, n), got)
				}
			}
		}
	}
}

// G1: Means for every rule, valid or not, whether it permits or denies, and for prefixes that are not valid.
func TestMeans(t *testing.T) {
	wrong := notValid()
	for _, x := range rules() {
		for n := range 33 {
			for _, a := range []uint32{0, 10<<24 | 1, 10<<24 | 1<<16, 1<<32 - 1} {
				if got := plist.Means(x, of(a, n)); got != means(x, of(a, n)) {
					t.Fatalf("Means(%v, %v) = %v", x, of(a, n), got)
				}
			}
		}
	}
	for _, x := range []rule{{Seq: 1, P: all, Le: 32}, {Seq: 1, Permit: true, P: all, Ge: 1}, {Seq: 1, P: ten, Le: 32}, {Seq: 1, P: all}} {
		for _, q := range wrong {
			if plist.Means(x, q) {
				t.Errorf("Means(%v, %v) is true", x, q)
			}
		}
	}
	for _, p := range wrong {
		for _, le := range []int{0, 32} {
			if x := (rule{Seq: 1, P: p, Le: le}); plist.Means(x, p) || plist.Means(x, one) || plist.Means(x, all) {
				t.Errorf("%v is not valid, but matches", x)
			}
		}
	}
	for _, seq := range []int{-1, 0, 65536} {
		if x := (rule{Seq: seq, P: ten}); plist.Means(x, ten) {
			t.Errorf("%v is not valid, but matches", x)
		}
	}
}

// row is a list of these Seqs, whose rules differ in all that a rule has.
func row(seqs ...int) []rule {
	var out []rule
	for _, seq := range seqs {
		n := seq%31 + 1
		out = append(out, rule{Seq: seq, Permit: seq%2 == 0, P: of(uint32(seq)*0x9e3779b9, n), Ge: n + 1, Le: 32})
	}
	return out
}

// spare returns a copy of l with room behind it, and that room, filled with a rule that no list here has.
func spare(l []rule) (list, behind []rule) {
	room := make([]rule, len(l)+3)
	copy(room, l)
	for i := len(l); i < len(room); i++ {
		room[i] = rule{Seq: 4711, P: one}
	}
	return room[:len(l)], room[len(l):]
}

// unchanged checks that the list that was passed, and the memory behind it, is as it was.
func unchanged(t *testing.T, list, behind, was []rule) {
	t.Helper()
	if !slices.Equal(list, was) {
		t.Fatalf("the list that was passed is %v, was %v", list, was)
	}
	for _, x := range behind {
		if x != (rule{Seq: 4711, P: one}) {
			t.Fatalf("behind the list that was passed: %v", behind)
		}
	}
}

// adds checks one Add.
func adds(t *testing.T, l []rule, x rule, want []rule, e api.Errno) {
	t.Helper()
	turns(t, l, fmt.Sprintf("Add of %v", x), func(l []rule) ([]rule, api.Errno) { return plist.Add(l, x) }, want, e)
}

// drops checks one Drop.
func drops(t *testing.T, l []rule, seq int, want []rule, e api.Errno) {
	t.Helper()
	turns(t, l, fmt.Sprintf("Drop of %d", seq), func(l []rule) ([]rule, api.Errno) { return plist.Drop(l, seq) }, want, e)
}

// turns checks what act makes of the list l, and that l stays as it was, also when the answer is changed.
func turns(t *testing.T, l []rule, name string, act func([]rule) ([]rule, api.Errno), want []rule, e api.Errno) {
	t.Helper()
	list, behind := spare(l)
	got, err := act(list)
	if err != e || !slices.Equal(got, want) {
		t.Fatalf("%s, from %v: %v, error %d, want %v, error %d", name, l, got, err, want, e)
	}
	unchanged(t, list, behind, l)
	got = got[:cap(got)]
	for i := range got {
		got[i] = rule{Seq: -1}
	}
	unchanged(t, list, behind, l)
}

// G1, written out: Add to no list, at the front, in the middle, and at the end.
func TestAdd(t *testing.T) {
	x := func(seq int) rule { return row(seq)[0] }
	l := row(10, 20, 30)
	adds(t, nil, x(5), row(5), api.OK)
	adds(t, []rule{}, x(5), row(5), api.OK)
	adds(t, l, x(1), row(1, 10, 20, 30), api.OK)
	adds(t, l, x(9), row(9, 10, 20, 30), api.OK)
	adds(t, l, x(11), row(10, 11, 20, 30), api.OK)
	adds(t, l, x(19), row(10, 19, 20, 30), api.OK)
	adds(t, l, x(21), row(10, 20, 21, 30), api.OK)
	adds(t, l, x(31), row(10, 20, 30, 31), api.OK)
	adds(t, l, x(65535), row(10, 20, 30, 65535), api.OK)
}

// G1: a Seq that the list has is refused at every place, also for a rule that is otherwise another one or the same one.
func TestAddThatExists(t *testing.T) {
	l := row(1, 10, 20, 65535)
	for _, y := range l {
		adds(t, l, y, nil, api.ErrExists)
		adds(t, l, rule{Seq: y.Seq, P: one}, nil, api.ErrExists)
	}
	adds(t, row(7), row(7)[0], nil, api.ErrExists)
}

// G1, R2: a rule that is not valid is refused, before anything else is.
func TestAddNotValid(t *testing.T) {
	lists := [][]rule{nil, row(5), row(10, 20, 30), seqs(1, full)}
	for _, l := range lists {
		for _, x := range []rule{{}, {Seq: 0, P: ten}, {Seq: -1, P: ten}, {Seq: 65536, P: ten}, {Seq: 5, P: ten, Ge: 8}, {Seq: 5, P: ten, Le: 7}, {Seq: 10, P: ten, Ge: 20, Le: 19}, {Seq: 10, P: ten, Le: 33}, {Seq: 20, P: prefix{A: 1}}, {Seq: 400, P: prefix{N: 33}}} {
			adds(t, l, x, nil, api.ErrArg)
		}
		for _, p := range notValid() {
			adds(t, l, rule{Seq: 500, P: p}, nil, api.ErrArg)
		}
	}
}

// seqs is the row of n Seqs from the first one on, two apart.
func seqs(from, n int) []rule {
	var out []int
	for i := range n {
		out = append(out, from+2*i)
	}
	return row(out...)
}

// G1: the 200th rule, and the 201st; a Seq that is there is refused as such in a full list, too.
func TestAddFull(t *testing.T) {
	short, l := seqs(2, full-1), seqs(2, full)
	adds(t, short, l[full-1], l, api.OK)
	adds(t, short, row(1)[0], slices.Concat(row(1), short), api.OK)
	adds(t, short, row(101)[0], slices.Concat(short[:50], row(101), short[50:]), api.OK)
	for _, seq := range []int{1, 3, 101, 399, 401, 65535} {
		adds(t, l, row(seq)[0], nil, api.ErrFull)
	}
	for _, x := range l {
		adds(t, l, x, nil, api.ErrExists)
	}
	adds(t, seqs(2, full+1), row(1)[0], nil, api.ErrFull)
	less, e := plist.Drop(l, 200)
	if e != api.OK {
		t.Fatalf("Drop: error %d", e)
	}
	adds(t, less, row(200)[0], l, api.OK)
}

// G1: the rules of a full list, added in several orders.
func TestAddInAnyOrder(t *testing.T) {
	want := seqs(3, full)
	for _, step := range []int{1, 199, 7, 73} {
		var l []rule
		for i := range full {
			var e api.Errno
			if l, e = plist.Add(l, want[i*step%full]); e != api.OK {
				t.Fatalf("Add: error %d", e)
			}
		}
		if !slices.Equal(l, want) {
			t.Fatalf("with step %d: %v", step, l)
		}
	}
}

// G1: two rules that are added to the same list are not in each other's.
func TestAnswersAreApart(t *testing.T) {
	l, _ := plist.Add(nil, row(10)[0])
	l, _ = plist.Add(l, row(20)[0])
	l, _ = plist.Add(l, row(30)[0])
	x, _ := plist.Add(l, row(40)[0])
	y, _ := plist.Add(l, row(50)[0])
	z, _ := plist.Drop(x, 10)
	if !slices.Equal(l, row(10, 20, 30)) || !slices.Equal(x, row(10, 20, 30, 40)) || !slices.Equal(y, row(10, 20, 30, 50)) || !slices.Equal(z, row(20, 30, 40)) {
		t.Errorf("%v, %v, %v, %v", l, x, y, z)
	}
}

// G1: Drop of each rule, and of Seqs that are not there.
func TestDrop(t *testing.T) {
	l := row(1, 10, 20, 30, 65535)
	drops(t, l, 1, row(10, 20, 30, 65535), api.OK)
	drops(t, l, 10, row(1, 20, 30, 65535), api.OK)
	drops(t, l, 20, row(1, 10, 30, 65535), api.OK)
	drops(t, l, 65535, row(1, 10, 20, 30), api.OK)
	drops(t, row(7), 7, nil, api.OK)
	for _, seq := range []int{0, -1, -10, 2, 9, 11, 31, 65534, 65536, 65537, 1<<32 + 10, math.MaxInt, math.MinInt} {
		drops(t, l, seq, nil, api.ErrNone)
		drops(t, nil, seq, nil, api.ErrNone)
	}
	many := seqs(2, full)
	for i, x := range many {
		drops(t, many, x.Seq, slices.Concat(many[:i], many[i+1:]), api.OK)
		drops(t, many, x.Seq+1, nil, api.ErrNone)
	}
}

// G2, written out: the first rule that matches permits or denies, or none matches.
func TestEval(t *testing.T) {
	l := []rule{
		{Seq: 5, P: ten16, Le: 24},
		{Seq: 10, Permit: true, P: ten, Le: 32},
		{Seq: 15, P: ten, Le: 32},
		{Seq: 20, P: of(11<<24, 8)},
		{Seq: 25, Permit: true, P: of(11<<24, 8), Ge: 16},
	}
	for _, c := range []struct {
		q    prefix
		want bool
		seq  int
	}{
		{ten16, false, 5},
		{of(10<<24|1<<16|5<<8, 24), false, 5},
		{of(10<<24|1<<16|5<<8, 25), true, 10},
		{ten, true, 10},
		{one, true, 10},
		{of(11<<24, 8), false, 20},
		{of(11<<24, 9), false, 0},
		{of(11<<24, 15), false, 0},
		{of(11<<24, 16), true, 25},
		{of(11<<24, 32), true, 25},
		{all, false, 0},
		{of(10<<24, 7), false, 0},
		{of(12<<24, 8), false, 0},
		{prefix{A: 10 << 24, N: 33}, false, 0},
		{prefix{A: 10 << 24, N: -1}, false, 0},
		{prefix{A: 10<<24 | 1, N: 8}, false, 0},
	} {
		if ok, seq := plist.Eval(l, c.q); ok != c.want || seq != c.seq {
			t.Errorf("Eval(%v) = %v, %d", c.q, ok, seq)
		}
		if ok, seq := plist.Eval(nil, c.q); ok || seq != 0 {
			t.Errorf("Eval(%v) of no rules = %v, %d", c.q, ok, seq)
		}
	}
}

// G2 on many lists, at the edges of their rules and beside them, and for prefixes that are not valid.
func TestEvalOfManyLists(t *testing.T) {
	wrong := notValid()
	for seed := range uint64(300) {
		l := drawnList(drawer(seed))
		was := slices.Clone(l)
		for _, q := range append(around(l), wrong...) {
			want, seq := eval(l, q)
			if ok, got := plist.Eval(l, q); ok != want || got != seq {
				t.Fatalf("Eval(%v, %v) = %v, %d, want %v, %d", l, q, ok, got, want, seq)
			}
		}
		if !slices.Equal(l, was) {
			t.Fatalf("the list that was passed is %v, was %v", l, was)
		}
	}
}

// G2, written out: which of two rules is idle behind the other one.
func TestIdleBehindOne(t *testing.T) {
	for _, c := range []struct {
		before, x string
		want      bool
	}{
		{"permit 10.0.0.0/8", "permit 10.0.0.0/8", true},
		{"permit 10.0.0.0/8", "deny 10.0.0.0/8", true},
		{"deny 10.0.0.0/8", "permit 10.0.0.0/8", true},
		{"permit 10.0.0.0/8", "permit 10.0.0.0/8 le 8", true},
		{"permit 10.0.0.0/8 le 8", "permit 10.0.0.0/8", true},
		{"permit 10.0.0.0/8", "permit 10.0.0.0/9", false},
		{"permit 10.0.0.0/8", "permit 10.0.0.0/8 le 9", false},
		{"permit 10.0.0.0/8 le 9", "permit 10.0.0.0/9", true},
		{"permit 10.0.0.0/8 le 9", "permit 10.128.0.0/9", true},
		{"permit 10.0.0.0/8 le 9", "permit 11.0.0.0/9", false},
		{"permit 10.0.0.0/8 le 9", "permit 10.0.0.0/10", false},
		{"permit 10.0.0.0/8 ge 16 le 24", "permit 10.1.0.0/16 le 24", true},
		{"permit 10.0.0.0/8 ge 16 le 24", "permit 10.1.0.0/16", true},
		{"permit 10.0.0.0/8 ge 16 le 24", "permit 10.1.0.0/16 ge 24", false},
		{"permit 10.0.0.0/8 ge 16 le 24", "permit 10.1.0.0/16 ge 24 le 24", true},
		{"permit 10.0.0.0/8 ge 16 le 24", "permit 10.1.0.0/16 le 25", false},
		{"permit 10.0.0.0/8 ge 16 le 24", "permit 10.0.0.0/15 le 24", false},
		{"permit 10.0.0.0/8 ge 16 le 24", "permit 10.0.0.0/15 ge 16 le 24", true},
		{"permit 10.0.0.0/8 ge 16", "permit 10.0.0.0/8 ge 16 le 32", true},
		{"permit 10.0.0.0/8 ge 16 le 32", "permit 10.0.0.0/8 ge 16", true},
		{"permit 10.0.0.0/8 ge 16 le 31", "permit 10.0.0.0/8 ge 16", false},
		{"permit 10.0.0.0/8 ge 17", "permit 10.0.0.0/8 ge 16", false},
		{"permit 10.0.0.0/9 ge 16", "permit 10.0.0.0/8 ge 16", false},
		{"permit 0.0.0.0/0", "permit 10.0.0.0/8", false},
		{"permit 0.0.0.0/0 le 32", "permit 10.0.0.0/8", true},
		{"permit 0.0.0.0/0 le 32", "deny 0.0.0.0/0", true},
		{"permit 0.0.0.0/0 ge 1", "deny 0.0.0.0/0", false},
		{"permit 0.0.0.0/0 ge 1", "deny 0.0.0.0/0 le 1", false},
		{"permit 0.0.0.0/0 ge 1", "deny 0.0.0.0/1", true},
	} {
		l := []rule{parsed(t, "1 "+c.before), parsed(t, "2 "+c.x)}
		var want []int
		if c.want {
			want = []int{2}
		}
		if got := plist.Idle(l); !slices.Equal(got, want) {
			t.Errorf("%s, then %s: Idle = %v", c.before, c.x, got)
		}
	}
}

func parsed(t *testing.T, s string) rule {
	t.Helper()
	x, e := plist.Parse(s)
	if e != api.OK {
		t.Fatalf("Parse(%q): error %d", s, e)
	}
	return x
}

// G2: the idle rules of a list, in order; one that is idle itself makes others idle, several together do not make one idle, and one behind makes none idle.
func TestIdle(t *testing.T) {
	if got := plist.Idle(nil); len(got) != 0 {
		t.Errorf("Idle of no rules: %v", got)
	}
	if got := plist.Idle(row(5)); len(got) != 0 {
		t.Errorf("Idle of one rule: %v", got)
	}
	var l []rule
	for _, s := range []string{
		"3 permit 10.0.0.0/9",
		"4 permit 10.128.0.0/9",
		"7 permit 10.0.0.0/8 ge 9 le 9",
		"8 permit 10.0.0.0/8 ge 10",
		"9 permit 10.0.0.0/8",
		"11 permit 10.0.0.0/8 le 32",
		"20 deny 10.0.0.0/8 le 24",
		"30 permit 10.1.0.0/16 le 24",
		"40 permit 11.0.0.0/8",
		"60000 permit 10.1.2.0/24",
		"65535 permit 0.0.0.0/0 le 32",
	} {
		l = append(l, parsed(t, s))
	}
	if got, want := plist.Idle(l), []int{20, 30, 60000}; !slices.Equal(got, want) {
		t.Errorf("Idle = %v, want %v", got, want)
	}
	slices.Reverse(l)
	for i := range l {
		l[i].Seq = i + 1
	}
	if got, want := plist.Idle(l), []int{2, 3, 4, 5, 6, 7, 8, 9, 10, 11}; !slices.Equal(got, want) {
		t.Errorf("reversed: Idle = %v, want %v", got, want)
	}
}

// without returns the list without the rules of these Seqs.
func without(l []rule, gone []int) []rule {
	return slices.DeleteFunc(slices.Clone(l), func(x rule) bool { return slices.Contains(gone, x.Seq) })
}

// G2 and P7.2 on many lists: Idle names the rules of which a single one before matches all that they match, and without them a list permits the same prefixes.
func TestIdleOfManyLists(t *testing.T) {
	some := 0
	for seed := range uint64(2000) {
		l := drawnList(drawer(seed + 5000))
		was := slices.Clone(l)
		got := plist.Idle(l)
		if !slices.Equal(l, was) {
			t.Fatalf("the list that was passed is %v, was %v", l, was)
		}
		if want := idle(l); !slices.Equal(got, want) {
			t.Fatalf("Idle(%v) = %v, want %v", l, got, want)
		}
		some += len(got)
		rest := without(l, got)
		if len(rest) != len(l)-len(got) {
			t.Fatalf("Idle(%v) = %v", l, got)
		}
		for _, q := range around(l) {
			before, x := plist.Eval(l, q)
			after, y := plist.Eval(rest, q)
			if before != after || x != y {
				t.Fatalf("%v of %v: %v by %d, and %v by %d without %v", q, l, before, x, after, y, got)
			}
		}
		if again := plist.Idle(rest); len(again) != 0 {
			t.Fatalf("Idle(%v) = %v, behind it %v", l, got, again)
		}
	}
	if some < 1000 {
		t.Fatalf("only %d idle rules", some)
	}
}

// P7.2 on full lists of rules that hide each other.
func TestIdleOfFullLists(t *testing.T) {
	for seed := range uint64(10) {
		draw := drawer(seed + 90)
		var l []rule
		for i := range full {
			l = append(l, drawnRule(draw, 1+i*300))
		}
		rest := without(l, plist.Idle(l))
		if len(rest) == len(l) {
			t.Fatal("no rule is idle")
		}
		for range 3000 {
			q := of(drawnPrefix(draw).A^1<<draw(32), draw(33))
			before, x := plist.Eval(l, q)
			if after, y := plist.Eval(rest, q); before != after || x != y {
				t.Fatalf("%v: %v by %d, and %v by %d without the idle rules", q, before, x, after, y)
			}
		}
	}
}

// texts are rules and how they are written.
func texts() map[string]rule {
	return map[string]rule{
		"5 permit 10.0.0.0/8":               {Seq: 5, Permit: true, P: ten},
		"5 deny 10.0.0.0/8":                 {Seq: 5, P: ten},
		"5 deny 10.0.0.0/8 ge 9":            {Seq: 5, P: ten, Ge: 9},
		"5 deny 10.0.0.0/8 le 8":            {Seq: 5, P: ten, Le: 8},
		"5 permit 10.0.0.0/8 ge 16 le 24":   {Seq: 5, Permit: true, P: ten, Ge: 16, Le: 24},
		"5 permit 10.0.0.0/8 ge 32 le 32":   {Seq: 5, Permit: true, P: ten, Ge: 32, Le: 32},
		"1 permit 0.0.0.0/0":                {Seq: 1, Permit: true},
		"1 deny 0.0.0.0/0 ge 1":             {Seq: 1, Ge: 1},
		"1 deny 0.0.0.0/0 le 1":             {Seq: 1, Le: 1},
		"1 deny 0.0.0.0/0 ge 1 le 1":        {Seq: 1, Ge: 1, Le: 1},
		"10 deny 10.0.0.1/32":               {Seq: 10, P: one},
		"999 deny 10.0.0.1/32 le 32":        {Seq: 999, P: one, Le: 32},
		"1000 permit 128.0.0.0/1 ge 2":      {Seq: 1000, Permit: true, P: of(1<<31, 1), Ge: 2},
		"65535 permit 255.255.255.255/32":   {Seq: 65535, Permit: true, P: of(1<<32-1, 32)},
		"65535 deny 192.168.100.0/22 ge 23": {Seq: 65535, P: of(192<<24|168<<16|100<<8, 22), Ge: 23},
	}
}

// G3, written out: Text, and Parse of it.
func TestTexts(t *testing.T) {
	for s, x := range texts() {
		if got := plist.Text(x); got != s {
			t.Errorf("Text(%v) = %q, want %q", x, got, s)
		}
		if got, e := plist.Parse(s); got != x || e != api.OK {
			t.Errorf("Parse(%q) = %v, error %d, want %v", s, got, e, x)
		}
	}
}

// G3: Text of rules that are not valid.
func TestTextNotValid(t *testing.T) {
	for s, x := range map[string]rule{
		"0 deny 0.0.0.0/0":                           {},
		"-7 permit 10.0.0.0/8 ge -1 le -2":           {Seq: -7, Permit: true, P: ten, Ge: -1, Le: -2},
		"65536 deny 10.0.0.1/8 ge 8":                 {Seq: 65536, P: prefix{A: 10<<24 | 1, N: 8}, Ge: 8},
		"1 deny 10.0.0.0/33 le 33":                   {Seq: 1, P: prefix{A: 10 << 24, N: 33}, Le: 33},
		"1 deny 255.255.255.255/-1":                  {Seq: 1, P: prefix{A: 1<<32 - 1, N: -1}},
		"123456789 permit 10.0.0.0/8 ge 24 le 16":    {Seq: 123456789, Permit: true, P: ten, Ge: 24, Le: 16},
		"-9223372036854775808 deny 0.0.0.0/0 le 100": {Seq: math.MinInt, Le: 100},
	} {
		if got := plist.Text(x); got != s {
			t.Errorf("Text(%v) = %q, want %q", x, got, s)
		}
	}
}

// G3: Parse of what Text returns, for many rules.
func TestParseOfText(t *testing.T) {
	draw := drawer(8)
	for range 20000 {
		x := drawnRule(draw, 1+draw(65535))
		if draw(2) == 0 {
			x.P = of(uint32(draw(1<<32)), x.P.N)
		}
		if got, e := plist.Parse(plist.Text(x)); got != x || e != api.OK {
			t.Fatalf("Parse(%q) = %v, error %d", plist.Text(x), got, e)
		}
	}
}

// refused checks that Parse returns this error, and no rule.
func refused(t *testing.T, s string, want api.Errno) {
	t.Helper()
	if x, e := plist.Parse(s); x != (rule{}) || e != want {
		t.Errorf("Parse(%q) = %v, error %d, want %d", s, x, e, want)
	}
}

// G3, written out: texts that do not have the form.
func TestParseForm(t *testing.T) {
	for _, s := range []string{
		"", " ", "  ", "   ", "5", "5 permit", "5 permit ", "permit 10.0.0.0/8", "5 10.0.0.0/8", " permit 10.0.0.0/8", "5  10.0.0.0/8",
		"0 permit 10.0.0.0/8", "05 permit 10.0.0.0/8", "00005 permit 10.0.0.0/8", "-5 permit 10.0.0.0/8", "+5 permit 10.0.0.0/8", "100000 permit 10.0.0.0/8", "000005 permit 10.0.0.0/8", "5x permit 10.0.0.0/8", "x5 permit 10.0.0.0/8", "5. permit 10.0.0.0/8", "0x5 permit 10.0.0.0/8", "1_0 permit 10.0.0.0/8", "1e3 permit 10.0.0.0/8", "\u0665 permit 10.0.0.0/8", "\uff15 permit 10.0.0.0/8", "\xff permit 10.0.0.0/8",
		"18446744073709551621 permit 10.0.0.0/8", "4294967301 permit 10.0.0.0/8",
		"5 permits 10.0.0.0/8", "5 Permit 10.0.0.0/8", "5 PERMIT 10.0.0.0/8", "5 permi 10.0.0.0/8", "5 denies 10.0.0.0/8", "5 den 10.0.0.0/8", "5 Deny 10.0.0.0/8", "5 permitdeny 10.0.0.0/8", "5 permit deny 10.0.0.0/8",
		"5 permit 10.0.0.0", "5 permit 10.0.0.0/", "5 permit 10.0.0/8", "5 permit 10.0.0.0.0/8", "5 permit 10.0.0.0/33", "5 permit 10.0.0.0/08", "5 permit 010.0.0.0/8", "5 permit 256.0.0.0/8", "5 permit /8", "5 permit x", "5 permit 10.0.0.0/-8", "5 permit 10.0.0.0/99999",
		"5 permit 10.0.0.0/8 ", " 5 permit 10.0.0.0/8", "5  permit 10.0.0.0/8", "5 permit  10.0.0.0/8", "5\tpermit 10.0.0.0/8", "5 permit\t10.0.0.0/8", "5 permit 10.0.0.0/8\n", "\n5 permit 10.0.0.0/8", "5 permit 10.0.0.0/8\x00",
		"5 permit 10.0.0.0/8 ge", "5 permit 10.0.0.0/8 ge ", "5 permit 10.0.0.0/8 le", "5 permit 10.0.0.0/8 le ", "5 permit 10.0.0.0/8 16", "5 permit 10.0.0.0/8 eq 16", "5 permit 10.0.0.0/8 Ge 16", "5 permit 10.0.0.0/8 LE 16", "5 permit 10.0.0.0/8 ge16", "5 permit 10.0.0.0/8 ge  16", "5 permit 10.0.0.0/8  ge 16", "5 permit 10.0.0.0/8 ge 16 ",
		"5 permit 10.0.0.0/8 ge 0", "5 permit 10.0.0.0/8 le 0", "5 permit 10.0.0.0/8 ge 016", "5 permit 10.0.0.0/8 le 024", "5 permit 10.0.0.0/8 ge -16", "5 permit 10.0.0.0/8 ge +16", "5 permit 10.0.0.0/8 ge x", "5 permit 10.0.0.0/8 ge 100000", "5 permit 10.0.0.0/8 le 100000", "5 permit 10.0.0.0/8 le 4294967320",
		"5 permit 10.0.0.0/8 le 24 ge 16", "5 permit 10.0.0.0/8 ge 16 ge 17", "5 permit 10.0.0.0/8 le 16 le 17", "5 permit 10.0.0.0/8 ge 16 le", "5 permit 10.0.0.0/8 ge 16 le ", "5 permit 10.0.0.0/8 ge 16 24", "5 permit 10.0.0.0/8 ge le 24", "5 permit 10.0.0.0/8 ge 0 le 24", "5 permit 10.0.0.0/8 ge 16 le 0", "5 permit 10.0.0.0/8 ge 16 le 024",
		"5 permit 10.0.0.0/8 ge 16 le 24 ", "5 permit 10.0.0.0/8 ge 16 le 24 x", "5 permit 10.0.0.0/8 ge 16 le 24 ge 16", "5 permit 10.0.0.0/8 ge 16 le 24 le 24", "5 permit 10.0.0.0/8 ge 16 le 24x", "5 permit 10.0.0.0/8 ge 16 le 24 ge 16 le 24",
		"5 permit 10.0.0.0/8 ge 16 le 24" + strings.Repeat(" ", 100000), strings.Repeat("5", 100000), strings.Repeat(" ", 100000), "5 permit 10.0.0.0/8" + strings.Repeat(" le 24", 1000),
	} {
		refused(t, s, api.ErrForm)
	}
}

// G3, written out: texts that have the form, of rules or prefixes that are not valid.
func TestParseNotValid(t *testing.T) {
	for _, s := range []string{
		"65536 permit 10.0.0.0/8", "99999 permit 10.0.0.0/8", "65537 deny 0.0.0.0/0 le 32",
		"5 permit 10.0.0.1/8", "5 permit 10.1.0.0/8", "5 permit 128.0.0.0/0", "5 permit 255.255.255.255/31", "5 permit 0.0.0.1/0 le 32",
		"5 permit 10.0.0.0/8 ge 8", "5 permit 10.0.0.0/8 ge 7", "5 permit 10.0.0.0/8 ge 33", "5 permit 10.0.0.0/8 ge 99999",
		"5 permit 10.0.0.0/8 le 7", "5 permit 10.0.0.0/8 le 33", "5 permit 10.0.0.0/8 le 99999", "5 permit 10.0.0.1/32 le 31",
		"5 permit 10.0.0.1/32 ge 32", "5 permit 10.0.0.0/8 ge 16 le 15", "5 permit 10.0.0.0/8 ge 8 le 24", "5 permit 10.0.0.0/8 ge 33 le 33",
		"65536 permit 10.0.0.1/8 ge 8 le 7",
	} {
		refused(t, s, api.ErrArg)
	}
}

// R2: a text that does not have the form is ErrForm, also if its rule or prefix would not be valid.
func TestParseFormFirst(t *testing.T) {
	for _, s := range []string{
		"65536 permits 10.0.0.0/8", "65536 permit 10.0.0.0/33", "99999 deny 10.0.0.0/8 le", "0 deny 10.0.0.1/8", "5 permits 10.0.0.1/8", "5 permit 10.0.0.1/8 ge", "5 permit 10.0.0.1/8 le 24 ge 16", "5 permit 10.0.0.1/8 ", "5 permit 10.0.0.0/8 ge 8 le", "5 permit 10.0.0.0/8 ge 8 x", "5 permit 10.0.0.0/8 le 7 ge 16", "5 permit 10.0.0.0/8 ge 33 le 0", "5 permit 10.0.0.0/8 ge 33 le 24 x",
	} {
		refused(t, s, api.ErrForm)
	}
}

// form is what a rule's text looks like, by the words of the chapter and, for the prefix, by those of layer 3.
var form = regexp.MustCompile(strings.NewReplacer("N", "([1-9][0-9]{0,4})", "B", "(0|[1-9][0-9]?|1[0-9][0-9]|2[0-4][0-9]|25[0-5])", "L", "(0|[1-9]|[12][0-9]|3[0-2])").Replace(`^N (permit|deny) B\.B\.B\.B/L(?: ge N)?(?: le N)?$`))

// parse is what Parse must return.
func parse(s string) (rule, api.Errno) {
	m := form.FindStringSubmatch(s)
	if m == nil {
		return rule{}, api.ErrForm
	}
	n := func(i int) int {
		v, _ := strconv.Atoi(m[i])
		return v
	}
	x := rule{Seq: n(1), Permit: m[2] == "permit", P: prefix{N: n(7)}, Ge: n(8), Le: n(9)}
	for i := 3; i <= 6; i++ {
		x.P.A = x.P.A*256 + uint32(n(i))
	}
	if !valid(x) {
		return rule{}, api.ErrArg
	}
	return x, api.OK
}

func parses(t *testing.T, s string) api.Errno {
	t.Helper()
	want, e := parse(s)
	if got, err := plist.Parse(s); got != want || err != e {
		t.Fatalf("Parse(%q) = %v, error %d, want %v, error %d", s, got, err, want, e)
	}
	return e
}

// G3: every text that differs from a rule's in one byte: one more, one less, or another one.
func TestParseNearTexts(t *testing.T) {
	other := "0123456789 ./gelpx-+\t\n\x00\xff"
	for s := range texts() {
		for i := 0; i <= len(s); i++ {
			for j := range len(other) {
				parses(t, s[:i]+other[j:j+1]+s[i:])
				if i < len(s) {
					parses(t, s[:i]+other[j:j+1]+s[i+1:])
				}
			}
			if i < len(s) {
				parses(t, s[:i]+s[i+1:])
			}
			parses(t, s[:i])
			parses(t, s[i:])
		}
	}
}

// G3: texts of drawn words, with each of the answers many times.
func TestParseDrawnTexts(t *testing.T) {
	numbers := []string{"1", "5", "7", "8", "9", "16", "24", "31", "32", "33", "100", "65535", "65536", "99999", "100000", "0", "08", ""}
	prefixes := []string{"10.0.0.0/8", "0.0.0.0/0", "10.0.0.1/32", "10.1.0.0/16", "10.0.0.1/8", "10.0.0.0/33", "10.0.0/8"}
	draw := drawer(77)
	pick := func(l []string) string {
		return l[min(draw(len(l)), draw(len(l)))]
	}
	count := map[api.Errno]int{}
	for range 50000 {
		words := []string{pick(numbers), pick([]string{"permit", "deny", "permits"}), pick(prefixes)}
		for range draw(3) {
			words = append(words, pick([]string{"ge", "le", "eq"}), pick(numbers))
		}
		if draw(12) == 0 {
			words = slices.Delete(words, 0, draw(2))
		}
		if draw(12) == 0 {
			words = append(words, pick(numbers))
		}
		count[parses(t, strings.Join(words, " "))]++
	}
	for _, e := range []api.Errno{api.OK, api.ErrForm, api.ErrArg} {
		if count[e] < 1000 {
			t.Errorf("error %d only %d times", e, count[e])
		}
	}
}

// Every rule that is valid has a text of its own.
func TestTextsDiffer(t *testing.T) {
	seen := map[string]rule{}
	for _, x := range rules() {
		if !valid(x) {
			continue
		}
		s := plist.Text(x)
		if y, ok := seen[s]; ok && y != x {
			t.Fatalf("%v and %v are both %q", x, y, s)
		}
		seen[s] = x
		if got, e := plist.Parse(s); got != x || e != api.OK {
			t.Fatalf("Parse(%q) = %v, error %d", s, got, e)
		}
	}
}

// Lists that are not valid have no answer in the chapter, but no call panics on them.
func TestListsNotValid(t *testing.T) {
	broken := slices.Concat(row(30, 20, 20, 10), rules()[:500], []rule{{P: prefix{N: -1}}, {Seq: math.MinInt, P: prefix{N: 99}, Ge: -5, Le: 400}})
	for _, q := range append(notValid(), all, ten, one) {
		t.Run(fmt.Sprint(q), func(t *testing.T) {
			plist.Eval(broken, q)
			plist.Add(broken, rule{Seq: 7, P: q})
			plist.Add(broken[:50], rule{Seq: 7, P: q})
		})
	}
	plist.Idle(broken)
	plist.Drop(broken, 20)
}
