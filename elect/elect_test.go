package elect_test

import (
	"cmp"
	"math"
	"slices"
	"testing"

	"crossroads/elect"
)

type cand = elect.Cand

// numbers are IDs that differ in each of their bytes, or lie at a bound, in order.
var numbers = []uint32{1, 2, 255, 256, 65535, 65536, 0x01020304, 0x7fffffff, 0x80000000, 0xfffefdfc, math.MaxUint32}

// far are numbers that are no priority, most of them with a valid one in their lowest 8, 16 or 32 bits.
var far = []int{math.MinInt, math.MinInt + 1, -1 << 32, 1 - 1<<32, -65536, -65535, -256, -255, -2, -1, 256, 257, 511, 65536, 65537, 1 << 31, 1<<32 - 1, 1 << 32, 1<<32 + 1, 1<<32 + 255, math.MaxInt - 1, math.MaxInt}

// drawer returns a source of numbers from 0 to below-1 that is the same for the same seed.
func drawer(seed uint64) func(below int) int {
	return func(below int) int {
		seed = seed*6364136223846793005 + 1442695040888963407
		return int(seed>>33) % below
	}
}

// upTo returns the candidates 1 to many with priority 1, of which 2 is the designated router and 1 the backup.
func upTo(many int) []cand {
	out := []cand{}
	for i := range many {
		out = append(out, cand{ID: uint32(i + 1), Priority: 1, DR: 2, BDR: 1})
	}
	return out
}

// with returns l with c in the place at.
func with(l []cand, at int, c cand) []cand {
	out := slices.Clone(l)
	out[at] = c
	return out
}

// drawIDs returns many distinct IDs, in no order.
func drawIDs(draw func(int) int, many int) []uint32 {
	out := []uint32{}
	for len(out) < many {
		id := uint32(draw(2*many)) + 1
		if draw(4) == 0 {
			id = numbers[draw(len(numbers))]
		}
		if !slices.Contains(out, id) {
			out = append(out, id)
		}
	}
	return out
}

// drawCands returns many candidates, which declare each other, themselves, nobody, or one that is no candidate.
func drawCands(draw func(int) int, many int) []cand {
	ids := drawIDs(draw, many)
	// Few different ones let several candidates declare the same, and none declare it.
	few := append([]uint32{0, 7777}, ids[:min(len(ids), 1+draw(4))]...)
	says := func(own uint32) uint32 {
		if draw(4) == 0 {
			return own
		}
		return few[draw(len(few))]
	}
	priorities := []int{0, 1, 1, 2, 254, 255, draw(256)}
	out := []cand{}
	for _, id := range ids {
		out = append(out, cand{ID: id, Priority: priorities[draw(1+draw(len(priorities)))], DR: says(id), BDR: says(id)})
	}
	return out
}

// The model: the election by the words of the chapter, on the candidates in the order of their rank.

// ranked returns the candidates that are not ignored, the highest one first.
func ranked(l []cand) []cand {
	out := []cand{}
	for _, c := range l {
		if c.Priority != 0 {
			out = append(out, c)
		}
	}
	slices.SortFunc(out, func(a, b cand) int {
		return cmp.Or(cmp.Compare(b.Priority, a.Priority), cmp.Compare(b.ID, a.ID))
	})
	return out
}

// firstID returns the ID of the first one of l, or 0.
func firstID(l []cand) uint32 {
	if len(l) == 0 {
		return 0
	}
	return l[0].ID
}

func turn(l []cand) (uint32, uint32) {
	var routers, backups, others []cand
	for _, c := range ranked(l) {
		switch {
		case c.DR == c.ID:
			routers = append(routers, c)
		case c.BDR == c.ID:
			backups = append(backups, c)
		default:
			others = append(others, c)
		}
	}
	bdr := firstID(append(backups, others...))
	if len(backups) == 0 {
		bdr = firstID(others)
	}
	dr := bdr
	if len(routers) > 0 {
		dr = firstID(routers)
	}
	return dr, bdr
}

func electModel(l []cand, own uint32) (uint32, uint32) {
	dr, bdr := turn(l)
	for i, c := range l {
		if c.ID != own {
			continue
		}
		became := dr == own && c.DR != own || bdr == own && c.BDR != own
		lost := c.DR == own && dr != own || c.BDR == own && bdr != own
		if became || lost {
			return turn(with(l, i, cand{ID: own, Priority: c.Priority, DR: dr, BDR: bdr}))
		}
	}
	return dr, bdr
}

func settleModel(l []cand) []cand {
	out := []cand{}
	for _, c := range l {
		dr, bdr := electModel(l, c.ID)
		out = append(out, cand{ID: c.ID, Priority: c.Priority, DR: dr, BDR: bdr})
	}
	return out
}

// checkAll compares all functions with the model.
func checkAll(t *testing.T, l []cand) {
	t.Helper()
	dr, bdr := turn(l)
	if d, b := elect.Turn(l); d != dr || b != bdr {
		t.Fatalf("Turn(%v) = %d, %d and not %d, %d", l, d, b, dr, bdr)
	}
	top := firstID(ranked(l))
	if s := elect.Speaker(l); s != top {
		t.Fatalf("Speaker(%v) = %d and not %d", l, s, top)
	}
	owns := []uint32{0, 7777, math.MaxUint32}
	for _, c := range l {
		owns = append(owns, c.ID, c.DR, c.BDR)
	}
	for _, own := range owns {
		dr, bdr := electModel(l, own)
		if d, b := elect.Elect(l, own); d != dr || b != bdr {
			t.Fatalf("Elect(%v, %d) = %d, %d and not %d, %d", l, own, d, b, dr, bdr)
		}
		if w := elect.Wins(l, own); w != (own != 0 && own == top) {
			t.Fatalf("Wins(%v, %d) = %v", l, own, w)
		}
	}
	if s, want := elect.Settle(l), settleModel(l); !slices.Equal(s, want) {
		t.Fatalf("Settle(%v) = %v and not %v", l, s, want)
	}
}

// checkNone checks that there is no election among the candidates of l.
func checkNone(t *testing.T, l []cand) {
	t.Helper()
	if d, b := elect.Turn(l); d != 0 || b != 0 {
		t.Fatalf("Turn(%v) = %d, %d", l, d, b)
	}
	if s := elect.Speaker(l); s != 0 {
		t.Fatalf("Speaker(%v) = %d", l, s)
	}
	if s := elect.Settle(l); len(s) != 0 {
		t.Fatalf("Settle(%v) = %v", l, s)
	}
	owns := []uint32{0, 1, 2, 3, 50, 51}
	for _, c := range l {
		owns = append(owns, c.ID)
	}
	for _, own := range owns {
		if d, b := elect.Elect(l, own); d != 0 || b != 0 {
			t.Fatalf("Elect(%v, %d) = %d, %d", l, own, d, b)
		}
		if elect.Wins(l, own) {
			t.Fatalf("Wins(%v, %d)", l, own)
		}
	}
}

func TestExample(t *testing.T) {
	l := []cand{{ID: 1, Priority: 1}, {ID: 2, Priority: 1}}
	if d, b := elect.Elect(l, 2); d != 2 || b != 1 {
		t.Errorf("%d, %d", d, b)
	}
}

// TestTurn: P15.1, THE DESIGNATED ROUTER and THE BACKUP of one round.
func TestTurn(t *testing.T) {
	for _, x := range []struct {
		name    string
		l       []cand
		dr, bdr uint32
	}{
		{"no candidate", nil, 0, 0},
		{"priorities of 0 only", []cand{{ID: 1}, {ID: 2}}, 0, 0},
		{"priorities of 0 only, declared", []cand{{ID: 1, DR: 1, BDR: 2}, {ID: 2, DR: 1, BDR: 2}}, 0, 0},
		{"one that declares nothing", []cand{{ID: 9, Priority: 1}}, 9, 9},
		{"one that declares itself as the one", []cand{{ID: 9, Priority: 1, DR: 9}}, 9, 0},
		{"one that declares itself as the other", []cand{{ID: 9, Priority: 1, BDR: 9}}, 9, 9},
		{"one that declares itself as both", []cand{{ID: 9, Priority: 1, DR: 9, BDR: 9}}, 9, 0},
		{"nobody declares, equal priorities", []cand{{ID: 4, Priority: 1}, {ID: 6, Priority: 1}, {ID: 5, Priority: 1}}, 6, 6},
		{"nobody declares, a greater priority", []cand{{ID: 4, Priority: 2}, {ID: 6, Priority: 1}, {ID: 5, Priority: 1}}, 4, 4},
		{"the greatest priority and the greatest ID", []cand{{ID: 1, Priority: 255}, {ID: math.MaxUint32, Priority: 254}}, 1, 1},
		{"the greatest IDs", []cand{{ID: 1 << 31, Priority: 255}, {ID: math.MaxUint32, Priority: 255}, {ID: 1, Priority: 255}}, math.MaxUint32, math.MaxUint32},
		{"one declares itself as the one", []cand{{ID: 1, Priority: 1, DR: 1}, {ID: 2, Priority: 9}, {ID: 3, Priority: 8}}, 1, 2},
		{"one declares itself as the other", []cand{{ID: 1, Priority: 1, BDR: 1}, {ID: 2, Priority: 9}, {ID: 3, Priority: 8}}, 1, 1},
		{"one declares itself as both", []cand{{ID: 1, Priority: 1, DR: 1, BDR: 1}, {ID: 2, Priority: 9}, {ID: 3, Priority: 8}}, 1, 2},
		{"both are declared", []cand{{ID: 1, Priority: 1, DR: 1}, {ID: 2, Priority: 9}, {ID: 3, Priority: 8, BDR: 3}}, 1, 3},
		{"several declare themselves as the one", []cand{{ID: 1, Priority: 7, DR: 1}, {ID: 2, Priority: 7, DR: 2}, {ID: 3, Priority: 6, DR: 3}, {ID: 4, Priority: 1}}, 2, 4},
		{"several declare themselves as the other", []cand{{ID: 1, Priority: 7, BDR: 1}, {ID: 2, Priority: 7, BDR: 2}, {ID: 3, Priority: 6, BDR: 3}, {ID: 4, Priority: 9}}, 2, 2},
		{"several declare themselves as both", []cand{{ID: 1, Priority: 7, DR: 1, BDR: 1}, {ID: 2, Priority: 7, DR: 2, BDR: 2}}, 2, 0},
		{"all declare themselves as the one", []cand{{ID: 3, Priority: 7, DR: 3}, {ID: 2, Priority: 8, DR: 2}}, 2, 0},
		{"priority 0 declares itself as the one", []cand{{ID: 3, DR: 3}, {ID: 2, Priority: 1}, {ID: 1, Priority: 1}}, 2, 2},
		{"priority 0 declares itself as the other", []cand{{ID: 3, BDR: 3}, {ID: 2, Priority: 1}, {ID: 1, Priority: 1, DR: 1}}, 1, 2},
		{"priority 0 beside others that declare", []cand{{ID: 3, DR: 3, BDR: 3}, {ID: 2, Priority: 1, BDR: 2}, {ID: 1, Priority: 1, DR: 1}}, 1, 2},
		{"another one is declared than declares itself", []cand{{ID: 3, Priority: 1, DR: 1, BDR: 2}, {ID: 2, Priority: 1, DR: 1, BDR: 2}, {ID: 1, Priority: 1}}, 2, 2},
		{"no candidates are declared", []cand{{ID: 3, Priority: 1, DR: 8, BDR: 9}, {ID: 2, Priority: 1, DR: 8, BDR: 9}}, 3, 3},
		{"the same one is declared twice", []cand{{ID: 3, Priority: 1, DR: 2, BDR: 2}, {ID: 2, Priority: 1, DR: 2, BDR: 2}}, 2, 3},
	} {
		if d, b := elect.Turn(x.l); d != x.dr || b != x.bdr {
			t.Errorf("%s: %d, %d", x.name, d, b)
		}
	}
}

// TestElect: P15.1, the point of view of a candidate.
func TestElect(t *testing.T) {
	fresh := []cand{{ID: 1, Priority: 1}, {ID: 2, Priority: 1}, {ID: 3}}
	stays := []cand{{ID: 1, Priority: 1, DR: 1, BDR: 2}, {ID: 2, Priority: 1, DR: 1, BDR: 2}, {ID: 3, Priority: 9}}
	two := []cand{{ID: 1, Priority: 1, DR: 1}, {ID: 2, Priority: 2, DR: 2}}
	backups := []cand{{ID: 1, Priority: 1, BDR: 1}, {ID: 2, Priority: 2, BDR: 2}, {ID: 3, Priority: 1, DR: 3}}
	alone := []cand{{ID: 2}, {ID: 5, Priority: 3}}
	gone := []cand{{ID: 1, Priority: 1, DR: 9, BDR: 1}, {ID: 2, Priority: 1, DR: 9, BDR: 1}, {ID: 3, Priority: 9, DR: 9, BDR: 1}}
	both := []cand{{ID: 1, Priority: 1, DR: 1, BDR: 1}, {ID: 2, Priority: 1}}
	ignored := []cand{{ID: 1, DR: 1, BDR: 1}, {ID: 2, Priority: 1}}
	for _, x := range []struct {
		name    string
		l       []cand
		own     uint32
		dr, bdr uint32
	}{
		{"becomes both, and then the one", fresh, 2, 2, 1},
		{"becomes nothing", fresh, 1, 2, 2},
		{"is ignored", fresh, 3, 2, 2},
		{"is no candidate", fresh, 4, 2, 2},
		{"is 0", fresh, 0, 2, 2},
		{"becomes the one, alone", alone, 5, 5, 0},
		{"is ignored beside one", alone, 2, 5, 5},
		{"stays the one", stays, 1, 1, 2},
		{"stays the other", stays, 2, 1, 2},
		{"comes anew", stays, 3, 1, 2},
		{"is no longer the one, but the other", two, 1, 2, 1},
		{"stays the one of two that declare it", two, 2, 2, 0},
		{"is no longer the other", backups, 1, 3, 2},
		{"stays the other of two that declare it", backups, 2, 3, 2},
		{"the other becomes the one when it is gone", gone, 1, 1, 3},
		{"one sees the other as both when the one is gone", gone, 2, 1, 1},
		{"the highest one sees the same", gone, 3, 1, 1},
		{"declares itself as both, and stays the one", both, 1, 1, 2},
		{"becomes the other", both, 2, 1, 2},
		{"declares itself as both, and is ignored", ignored, 1, 2, 2},
		{"becomes both beside one that is ignored", ignored, 2, 2, 0},
		{"is not there", nil, 1, 0, 0},
		{"is 0, and not there", nil, 0, 0, 0},
	} {
		if d, b := elect.Elect(x.l, x.own); d != x.dr || b != x.bdr {
			t.Errorf("%s: %d, %d", x.name, d, b)
		}
	}
}

// TestSpeaker: P15.1, the highest candidate.
func TestSpeaker(t *testing.T) {
	for _, x := range []struct {
		l  []cand
		id uint32
	}{
		{nil, 0},
		{[]cand{{ID: 1}}, 0},
		{[]cand{{ID: 1, DR: 1, BDR: 1}, {ID: 2}}, 0},
		{[]cand{{ID: 1, Priority: 1}, {ID: 2}}, 1},
		{[]cand{{ID: 1, Priority: 1}, {ID: 2, Priority: 1}}, 2},
		{[]cand{{ID: 2, Priority: 1}, {ID: 1, Priority: 1}}, 2},
		{[]cand{{ID: 2, Priority: 254}, {ID: 1, Priority: 255}}, 1},
		{[]cand{{ID: 2, Priority: 1}, {ID: 1, Priority: 1, DR: 1, BDR: 1}, {ID: 3, DR: 3, BDR: 3}}, 2},
		{[]cand{{ID: 1<<31 - 1, Priority: 1}, {ID: math.MaxUint32, Priority: 1}, {ID: 1 << 31, Priority: 1}}, math.MaxUint32},
	} {
		if s := elect.Speaker(x.l); s != x.id {
			t.Errorf("%v: %d", x.l, s)
		}
		for _, id := range append([]uint32{0, 1, 2, 3, 4}, numbers...) {
			if w := elect.Wins(x.l, id); w != (id != 0 && id == x.id) {
				t.Errorf("%v, %d: %v", x.l, id, w)
			}
		}
	}
}

// TestSettle: P15.1, each one declares what it elects by what was declared before.
func TestSettle(t *testing.T) {
	for _, x := range []struct{ l, want []cand }{
		{nil, nil},
		{[]cand{{ID: 3, DR: 3, BDR: 7}}, []cand{{ID: 3}}},
		{[]cand{{ID: 3, Priority: 255}}, []cand{{ID: 3, Priority: 255, DR: 3}}},
		{[]cand{{ID: 2, Priority: 1}, {ID: 1, Priority: 1}, {ID: 3}}, []cand{{ID: 2, Priority: 1, DR: 2, BDR: 1}, {ID: 1, Priority: 1, DR: 2, BDR: 2}, {ID: 3, DR: 2, BDR: 2}}},
		{[]cand{{ID: 1, Priority: 1, DR: 1}, {ID: 2, Priority: 2, DR: 2}}, []cand{{ID: 1, Priority: 1, DR: 2, BDR: 1}, {ID: 2, Priority: 2, DR: 2}}},
	} {
		if s := elect.Settle(x.l); !slices.Equal(s, x.want) {
			t.Errorf("%v: %v", x.l, s)
		}
	}
	// From a state in which nobody declares anything, all agree after a while.
	l := []cand{{ID: 4, Priority: 3}, {ID: 9, Priority: 1}, {ID: 5, Priority: 3}, {ID: 6}}
	for range 3 {
		l = elect.Settle(l)
	}
	want := []cand{{4, 3, 5, 4}, {9, 1, 5, 4}, {5, 3, 5, 4}, {6, 0, 5, 4}}
	if !slices.Equal(l, want) {
		t.Errorf("%v", l)
	}
}

// TestEach: P15.1 for all declarations of two candidates, and of three with one more that is declared by some.
func TestEach(t *testing.T) {
	all := func(id uint32, priorities []int, says []uint32) []cand {
		out := []cand{}
		for _, p := range priorities {
			for _, d := range says {
				for _, b := range says {
					out = append(out, cand{ID: id, Priority: p, DR: d, BDR: b})
				}
			}
		}
		return out
	}
	for _, a := range all(1, []int{0, 1, 2, 255}, []uint32{0, 1, 2, 8}) {
		checkAll(t, []cand{a})
		for _, b := range all(2, []int{0, 1, 2, 255}, []uint32{0, 1, 2, 8}) {
			checkAll(t, []cand{a, b})
			checkAll(t, []cand{b, a})
		}
	}
	for _, a := range all(1, []int{1, 2}, []uint32{0, 1, 2}) {
		for _, b := range all(2, []int{0, 1}, []uint32{1, 2, 3}) {
			for _, c := range all(3, []int{1}, []uint32{1, 2, 3}) {
				checkAll(t, []cand{b, a, c})
			}
		}
	}
}

// TestDrawn: P15.1 for drawn candidates.
func TestDrawn(t *testing.T) {
	draw := drawer(15)
	for range 3000 {
		checkAll(t, drawCands(draw, draw(9)))
	}
	for range 100 {
		checkAll(t, drawCands(draw, 10+draw(41)))
	}
}

// TestHowMany: P15.1, there are at most 50 candidates.
func TestHowMany(t *testing.T) {
	for _, many := range []int{0, 1, 2, 3, 49, 50} {
		checkAll(t, upTo(many))
		checkAll(t, drawCands(drawer(uint64(many)), many))
	}
	for _, many := range []int{51, 52, 100, 255, 256, 257, 306, 65536, 65537} {
		checkNone(t, upTo(many)[:many:many])
	}
	if d, b := elect.Turn(upTo(50)); d != 2 || b != 1 {
		t.Errorf("%d, %d", d, b)
	}
	checkNone(t, append(make([]cand, 0, 60), drawCands(drawer(1), 51)...))
	// Those that are ignored count too.
	checkNone(t, append(upTo(50), cand{ID: 51}))
}

// TestIDs: P15.1, an ID is above 0 and there is no other one like it.
func TestIDs(t *testing.T) {
	for _, many := range []int{1, 2, 3, 50} {
		for _, at := range []int{0, many / 2, many - 1} {
			for _, p := range []int{0, 1, 255} {
				checkNone(t, with(upTo(many), at, cand{Priority: p}))
				checkNone(t, with(upTo(many), at, cand{Priority: p, DR: 2, BDR: 1}))
				checkAll(t, with(upTo(many), at, cand{ID: 1 << 16, Priority: p}))
				checkAll(t, with(upTo(many), at, cand{ID: math.MaxUint32, Priority: p}))
			}
		}
	}
	for _, many := range []int{2, 3, 9, 50} {
		for i := range many {
			for _, j := range []int{0, many / 2, many - 1} {
				if i == j {
					continue
				}
				l := upTo(many)
				l[i].ID = l[j].ID
				checkNone(t, l)
				l[i].Priority = 0
				checkNone(t, l)
				l[j].Priority = 0
				checkNone(t, l)
				l[i].Priority = 255
				checkNone(t, l)
			}
		}
	}
	checkNone(t, []cand{{ID: 1}, {ID: 1}})
	checkNone(t, []cand{{ID: 1, Priority: 1}, {ID: 1, Priority: 1}, {ID: 1, Priority: 1}})
	checkNone(t, []cand{{}, {}})
	// Equal in their lowest bits only.
	checkAll(t, []cand{{ID: 1, Priority: 1}, {ID: 1 + 1<<8, Priority: 1}, {ID: 1 + 1<<16, Priority: 1}, {ID: 1 + 1<<31, Priority: 1}})
}

// TestPriorities: P15.1, a priority is from 0 to 255.
func TestPriorities(t *testing.T) {
	for _, many := range []int{1, 2, 3, 50} {
		for _, at := range []int{0, many / 2, many - 1} {
			for _, p := range far {
				checkNone(t, with(upTo(many), at, cand{ID: 99, Priority: p}))
				checkNone(t, with(upTo(many), at, cand{ID: 99, Priority: p, DR: 99, BDR: 99}))
			}
			for p := range 256 {
				checkAll(t, with(upTo(many), at, cand{ID: 99, Priority: p, DR: 99}))
			}
		}
	}
	// What is declared may be anything.
	for _, id := range append([]uint32{0}, numbers...) {
		checkAll(t, []cand{{ID: 1, Priority: 1, DR: id}, {ID: 2, Priority: 1, BDR: id}})
	}
}

// TestOrder: R5 and R6, the order of the candidates makes no difference for who is elected, and Settle keeps it.
func TestOrder(t *testing.T) {
	draw := drawer(151)
	for range 300 {
		l := drawCands(draw, 2+draw(12))
		moved := slices.Clone(l)
		for i := range moved {
			j := draw(i + 1)
			moved[i], moved[j] = moved[j], moved[i]
		}
		d, b := elect.Turn(l)
		if x, y := elect.Turn(moved); x != d || y != b {
			t.Fatalf("%v: %d, %d and %d, %d", l, d, b, x, y)
		}
		settled := elect.Settle(l)
		for i, c := range elect.Settle(moved) {
			if c.ID != moved[i].ID || !slices.Contains(settled, c) {
				t.Fatalf("%v: %v and %v", l, c, settled)
			}
		}
	}
}

// TestStability: P15.2.
func TestStability(t *testing.T) {
	draw := drawer(152)
	for n := range 500 {
		many := 2 + draw(8)
		if n%50 == 0 {
			many = 49
		}
		ids := drawIDs(draw, many+1)
		dr, bdr := ids[0], ids[1]
		l := []cand{}
		for i, id := range ids[:many] {
			p := draw(256)
			if i < 2 {
				p = 1 + draw(255)
			}
			l = append(l, cand{ID: id, Priority: p, DR: dr, BDR: bdr})
		}
		stays(t, l, dr, bdr)
		for _, p := range []int{0, 1, l[0].Priority, l[1].Priority, 255, draw(256)} {
			newcomer := cand{ID: ids[many], Priority: p}
			at := draw(many + 1)
			stays(t, slices.Insert(slices.Clone(l), at, newcomer), dr, bdr)
		}
	}
}

// stays checks that all candidates elect these two.
func stays(t *testing.T, l []cand, dr, bdr uint32) {
	t.Helper()
	if d, b := elect.Turn(l); d != dr || b != bdr {
		t.Fatalf("Turn(%v): %d, %d and not %d, %d", l, d, b, dr, bdr)
	}
	for i, c := range elect.Settle(l) {
		if d, b := elect.Elect(l, c.ID); d != dr || b != bdr {
			t.Fatalf("Elect(%v, %d): %d, %d and not %d, %d", l, c.ID, d, b, dr, bdr)
		}
		if c != (cand{ID: l[i].ID, Priority: l[i].Priority, DR: dr, BDR: bdr}) {
			t.Fatalf("Settle(%v): %v", l, c)
		}
	}
}

// TestArguments: R4, neither the candidates nor the memory behind them change, and what Settle returns has its own.
func TestArguments(t *testing.T) {
	draw := drawer(153)
	lists := [][]cand{{}, upTo(1), upTo(50), upTo(51), {{ID: 1}, {ID: 1}}, {{ID: 0}}, {{ID: 1, Priority: 256}}}
	for range 100 {
		lists = append(lists, drawCands(draw, draw(10)))
	}
	for _, l := range lists {
		roomy := append(make([]cand, 0, len(l)+4), l...)
		behind := roomy[len(l):cap(roomy)]
		for i := range behind {
			behind[i] = cand{ID: 5, Priority: 6, DR: 7, BDR: 8}
		}
		full := slices.Clone(roomy[:cap(roomy)])
		for _, c := range append(slices.Clone(l), cand{}) {
			elect.Elect(roomy, c.ID)
			elect.Wins(roomy, c.ID)
		}
		elect.Turn(roomy)
		elect.Speaker(roomy)
		s := elect.Settle(roomy)
		kept := slices.Clone(s)
		for i := range s {
			s[i] = cand{ID: 77}
		}
		grown := s[:cap(s)]
		for i := range grown {
			grown[i] = cand{ID: 78}
		}
		if !slices.Equal(roomy[:cap(roomy)], full) {
			t.Fatalf("%v became %v", full, roomy[:cap(roomy)])
		}
		again := elect.Settle(roomy)
		if !slices.Equal(again, kept) {
			t.Fatalf("%v: %v and %v", l, kept, again)
		}
		clear(roomy)
		if !slices.Equal(again, kept) {
			t.Fatalf("%v: %v changed to %v", l, kept, again)
		}
	}
}
