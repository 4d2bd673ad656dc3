package nbr_test

import (
	"math"
	"slices"
	"testing"

	"crossroads/api"
	"crossroads/nbr"
)

type event = nbr.Event

const (
	states = 7  // how many there are
	kinds  = 13 // how many kinds of events there are
)

// far are numbers that are no state and no event, many of them with one in their lowest 8, 16 or 32 bits.
var far = []int{math.MinInt, math.MinInt + 1, -1 << 32, 3 - 1<<32, -65536, -65533, -256, -253, -13, -7, -2, -1, 13, 14, 99, 256, 257, 262, 65536, 65537, 1 << 31, 1<<32 - 1, 1 << 32, 1<<32 + 1, 1<<32 + 6, math.MaxInt - 1, math.MaxInt}

var both = []bool{false, true}

// effect is what a kind of event does in each of the states: the state after it, and the actions.
type effect struct {
	kind int
	does [states][2]int
}

// always are the events for which it does not matter what is wanted and what is to request.
var always = []effect{
	{nbr.HelloSeen, [states][2]int{{1, 1}, {1, 1}, {2, 1}, {3, 1}, {4, 1}, {5, 1}, {6, 1}}},
	{nbr.Unseen, [states][2]int{{0, 0}, {1, 0}, {1, 16}, {1, 16}, {1, 16}, {1, 16}, {1, 48}}},
	{nbr.Negotiated, [states][2]int{{0, 0}, {1, 0}, {2, 0}, {4, 4}, {4, 0}, {5, 0}, {6, 0}}},
	{nbr.Loaded, [states][2]int{{0, 0}, {1, 0}, {2, 0}, {3, 0}, {4, 0}, {6, 32}, {6, 0}}},
	{nbr.Mismatch, [states][2]int{{0, 0}, {1, 0}, {2, 0}, {3, 0}, {3, 18}, {3, 18}, {3, 50}}},
	{nbr.BadRequest, [states][2]int{{0, 0}, {1, 0}, {2, 0}, {3, 0}, {3, 18}, {3, 18}, {3, 50}}},
	{nbr.Silent, [states][2]int{{0, 16}, {0, 16}, {0, 16}, {0, 16}, {0, 16}, {0, 16}, {0, 48}}},
	{nbr.Killed, [states][2]int{{0, 16}, {0, 16}, {0, 16}, {0, 16}, {0, 16}, {0, 16}, {0, 48}}},
	{nbr.Cut, [states][2]int{{0, 16}, {0, 16}, {0, 16}, {0, 16}, {0, 16}, {0, 16}, {0, 48}}},
}

// ifWanted and ifNot are the events for which it matters whether an adjacency is wanted.
var ifWanted = []effect{
	{nbr.Seen, [states][2]int{{0, 0}, {3, 2}, {2, 0}, {3, 0}, {4, 0}, {5, 0}, {6, 0}}},
	{nbr.Wanted, [states][2]int{{0, 0}, {1, 0}, {3, 2}, {3, 0}, {4, 0}, {5, 0}, {6, 0}}},
	{nbr.Unwanted, [states][2]int{{0, 0}, {1, 0}, {3, 2}, {3, 0}, {4, 0}, {5, 0}, {6, 0}}},
}

var ifNot = []effect{
	{nbr.Seen, [states][2]int{{0, 0}, {2, 0}, {2, 0}, {3, 0}, {4, 0}, {5, 0}, {6, 0}}},
	{nbr.Wanted, [states][2]int{{0, 0}, {1, 0}, {2, 0}, {2, 16}, {2, 16}, {2, 16}, {2, 48}}},
	{nbr.Unwanted, [states][2]int{{0, 0}, {1, 0}, {2, 0}, {2, 16}, {2, 16}, {2, 16}, {2, 48}}},
}

// ifEmpty and ifMore are the event for which it matters whether there is something to request.
var ifEmpty = []effect{{nbr.Described, [states][2]int{{0, 0}, {1, 0}, {2, 0}, {3, 0}, {6, 40}, {5, 0}, {6, 0}}}}

var ifMore = []effect{{nbr.Described, [states][2]int{{0, 0}, {1, 0}, {2, 0}, {3, 0}, {5, 8}, {5, 0}, {6, 0}}}}

// expected returns the state after v, and the actions, by the lists above; and a state or an event that is none as what it is, with ok false.
func expected(state int, v event) (after, do int, ok bool) {
	lists := [][]effect{always, ifNot, ifMore}
	if v.Wanted {
		lists[1] = ifWanted
	}
	if v.Empty {
		lists[2] = ifEmpty
	}
	for _, l := range lists {
		for _, x := range l {
			if x.kind == v.Kind && 0 <= state && state < states {
				return x.does[state][0], x.does[state][1], true
			}
		}
	}
	return state, 0, false
}

// expectedRun returns the state after the events of l, and their actions, by the lists above.
func expectedRun(state int, l []event) (int, int) {
	all := 0
	for _, v := range l {
		after, do, _ := expected(state, v)
		state, all = after, all|do
	}
	return state, all
}

// allEvents returns every event of a kind that there is.
func allEvents() []event {
	out := []event{}
	for kind := range kinds {
		for _, w := range both {
			for _, e := range both {
				out = append(out, event{Kind: kind, Wanted: w, Empty: e})
			}
		}
	}
	return out
}

// drawer returns a source of numbers from 0 to below-1 that is the same for the same seed.
func drawer(seed uint64) func(below int) int {
	return func(below int) int {
		seed = seed*6364136223846793005 + 1442695040888963407
		return int(seed>>33) % below
	}
}

// drawEvents returns many events, some of them with a kind that is none.
func drawEvents(draw func(int) int, many int) []event {
	out := []event{}
	for range many {
		v := event{Kind: draw(kinds), Wanted: draw(4) > 0, Empty: draw(2) > 0}
		switch draw(4) {
		case 0:
			v.Kind = far[draw(len(far))]
		case 1, 2:
			// These lead up to Full.
			v.Kind = []int{nbr.HelloSeen, nbr.Seen, nbr.Wanted, nbr.Negotiated, nbr.Described, nbr.Loaded}[draw(6)]
		}
		out = append(out, v)
	}
	return out
}

// checkStep checks one step against the lists.
func checkStep(t *testing.T, state int, v event) {
	t.Helper()
	after, do, ok := expected(state, v)
	e := api.OK
	if !ok {
		e = api.ErrArg
	}
	if s, d, err := nbr.Step(state, v.Kind, v.Wanted, v.Empty); s != after || d != do || err != e {
		t.Fatalf("Step(%d, %v) = %d, %d, %d and not %d, %d, %d", state, v, s, d, err, after, do, e)
	}
}

// checkRun checks one run against the lists.
func checkRun(t *testing.T, state int, l []event) {
	t.Helper()
	after, all := expectedRun(state, l)
	if s, d := nbr.Run(state, l); s != after || d != all {
		t.Fatalf("Run(%d, %v) = %d, %d and not %d, %d", state, l, s, d, after, all)
	}
}

func TestExample(t *testing.T) {
	if s, do, e := nbr.Step(nbr.Init, nbr.Seen, true, false); s != nbr.ExStart || do != 2 || e != api.OK {
		t.Errorf("%d, %d, %d", s, do, e)
	}
}

// TestNumbers: the states and the events have the numbers of the chapter, on which the lists of effects rest.
func TestNumbers(t *testing.T) {
	for i, n := range []int{nbr.Down, nbr.Init, nbr.TwoWay, nbr.ExStart, nbr.Exchange, nbr.Loading, nbr.Full} {
		if i != n {
			t.Errorf("state %d: %d", i, n)
		}
	}
	for i, n := range []int{nbr.HelloSeen, nbr.Seen, nbr.Unseen, nbr.Wanted, nbr.Unwanted, nbr.Negotiated, nbr.Described, nbr.Loaded, nbr.Mismatch, nbr.BadRequest, nbr.Silent, nbr.Killed, nbr.Cut} {
		if i != n {
			t.Errorf("event %d: %d", i, n)
		}
	}
}

// TestStep: P16.1, Q1: every event in every state, wanted or not, with something to request or not.
func TestStep(t *testing.T) {
	for state := range states {
		for _, v := range allEvents() {
			if _, _, ok := expected(state, v); !ok {
				t.Fatalf("state %d, event %v: not in the lists", state, v)
			}
			checkStep(t, state, v)
		}
	}
}

// TestStepNone: P16.1, Q1: a state or an event that is none leaves the state as it is, and asks for nothing.
func TestStepNone(t *testing.T) {
	odd := append([]int{states, states + 1}, far...)
	for _, state := range odd {
		for _, v := range allEvents() {
			checkStep(t, state, v)
		}
		for _, kind := range far {
			for _, w := range both {
				checkStep(t, state, event{Kind: kind, Wanted: w, Empty: !w})
			}
		}
	}
	for state := range states {
		for _, kind := range far {
			for _, w := range both {
				checkStep(t, state, event{Kind: kind, Wanted: w, Empty: w})
				checkStep(t, state, event{Kind: kind, Wanted: w, Empty: !w})
			}
		}
	}
}

// TestFullRule: P16.1, Q1: action 32 is asked for if exactly one of the states before and after is Full.
func TestFullRule(t *testing.T) {
	for state := range states {
		for _, v := range allEvents() {
			after, do, _ := nbr.Step(state, v.Kind, v.Wanted, v.Empty)
			if (do&32 != 0) != ((state == nbr.Full) != (after == nbr.Full)) {
				t.Errorf("Step(%d, %v) = %d, %d", state, v, after, do)
			}
		}
	}
}

// TestRun: P16.1, Q2: the state after events, and all of their actions.
func TestRun(t *testing.T) {
	up := []event{{Kind: nbr.HelloSeen}, {Kind: nbr.Seen, Wanted: true}, {Kind: nbr.Negotiated}, {Kind: nbr.Described}, {Kind: nbr.Loaded}}
	skipped := []event{{Kind: -1, Wanted: true}, {Kind: nbr.HelloSeen}, {Kind: 13}, {Kind: math.MinInt}, {Kind: nbr.Seen}, {Kind: math.MaxInt, Empty: true}}
	for _, x := range []struct {
		name  string
		state int
		l     []event
		after int
		all   int
	}{
		{"no events", nbr.Exchange, nil, nbr.Exchange, 0},
		{"an empty list of events", nbr.Full, []event{}, nbr.Full, 0},
		{"one event", nbr.Full, []event{{Kind: nbr.Silent}}, nbr.Down, 48},
		{"up to Full", nbr.Down, up, nbr.Full, 1 + 2 + 4 + 8 + 32},
		{"up to Full from another state", nbr.TwoWay, append(up, event{Kind: nbr.HelloSeen}), nbr.TwoWay, 1},
		{"the same action twice", nbr.Down, []event{{Kind: nbr.HelloSeen}, {Kind: nbr.HelloSeen}}, nbr.Init, 1},
		{"the action 32 twice", nbr.Loading, []event{{Kind: nbr.Loaded}, {Kind: nbr.Unseen}}, nbr.Init, 48},
		{"events that are none among others", nbr.Down, skipped, nbr.TwoWay, 1},
		{"events that are none only", nbr.Loading, []event{{Kind: -1}, {Kind: 13}}, nbr.Loading, 0},
		{"a state that is none", 7, up, 7, 0},
		{"a state below 0", -1, up, -1, 0},
		{"a state that is none, and no events", math.MaxInt, nil, math.MaxInt, 0},
		{"a state that is none, and events that are none", math.MinInt, skipped, math.MinInt, 0},
	} {
		if s, all := nbr.Run(x.state, x.l); s != x.after || all != x.all {
			t.Errorf("%s: %d, %d", x.name, s, all)
		}
	}
}

// TestRunDrawn: P16.1, Q2: drawn runs from every state and from states that are none.
func TestRunDrawn(t *testing.T) {
	draw := drawer(161)
	full := 0
	for range 20000 {
		state := draw(states)
		if draw(10) == 0 {
			state = append([]int{states}, far...)[draw(len(far)+1)]
		}
		l := drawEvents(draw, draw(30))
		checkRun(t, state, l)
		if s, _ := nbr.Run(state, l); s == nbr.Full {
			full++
		}
	}
	if full < 1000 {
		t.Errorf("only %d runs end in Full", full)
	}
	checkRun(t, nbr.Down, drawEvents(draw, 100000))
}

// TestName: P16.1, Q2: the names of the states.
func TestName(t *testing.T) {
	for state, name := range []string{"down", "init", "two-way", "ex-start", "exchange", "loading", "full"} {
		if s := nbr.Name(state); s != name {
			t.Errorf("%d: %q", state, s)
		}
	}
	for _, state := range append([]int{states, states + 1}, far...) {
		if s := nbr.Name(state); s != "?" {
			t.Errorf("%d: %q", state, s)
		}
	}
}

// TestSeesFloods: P16.1, Q2: in which states the neighbor sees this router, and in which it is flooded to.
func TestSeesFloods(t *testing.T) {
	for state, x := range [][2]bool{{false, false}, {false, false}, {true, false}, {true, false}, {true, true}, {true, true}, {true, true}} {
		if s, f := nbr.Sees(state), nbr.Floods(state); s != x[0] || f != x[1] {
			t.Errorf("%d: %v, %v", state, s, f)
		}
	}
	for _, state := range append([]int{states, states + 1}, far...) {
		if nbr.Sees(state) || nbr.Floods(state) {
			t.Errorf("%d: %v, %v", state, nbr.Sees(state), nbr.Floods(state))
		}
	}
}

// checkFull checks P16.2 for one event more behind a run, and returns the state after it.
func checkFull(t *testing.T, state int, l []event, v event) int {
	t.Helper()
	before, earlier := nbr.Run(state, l)
	after, all := nbr.Run(state, append(slices.Clone(l), v))
	_, do := nbr.Run(before, []event{v})
	if all != earlier|do {
		t.Fatalf("%d, %v, %v: %d, %d and %d", state, l, v, earlier, do, all)
	}
	if after == nbr.Full && before != nbr.Full && v.Kind != nbr.Described && v.Kind != nbr.Loaded {
		t.Fatalf("%d, %v: %v enters Full", state, l, v)
	}
	if before >= nbr.Exchange && after < before && do&16 == 0 {
		t.Fatalf("%d, %v: %v leads from %d to %d and does not clear all lists: %d", state, l, v, before, after, do)
	}
	return after
}

// TestFull: P16.2, over all runs of up to three events, from every state.
func TestFull(t *testing.T) {
	events := []event{{Kind: -1}, {Kind: kinds, Wanted: true, Empty: true}}
	for kind := range kinds {
		events = append(events, event{Kind: kind}, event{Kind: kind, Wanted: true, Empty: true})
	}
	entered := 0
	var behind func(state int, l []event)
	behind = func(state int, l []event) {
		if len(l) == 3 {
			return
		}
		for _, v := range events {
			if checkFull(t, state, l, v) == nbr.Full {
				entered++
			}
			behind(state, append(slices.Clone(l), v))
		}
	}
	for state := range states {
		behind(state, nil)
	}
	if entered == 0 {
		t.Error("no run enters Full")
	}
}

// TestFullShortest: P16.2: from Down, Full is entered by four events at least, the last one of which is Described.
func TestFullShortest(t *testing.T) {
	events := allEvents()
	reached := []int{nbr.Down}
	for many := range 4 {
		next := []int{}
		for _, state := range reached {
			for _, v := range events {
				after, _, _ := nbr.Step(state, v.Kind, v.Wanted, v.Empty)
				if after == nbr.Full && (many < 3 || v.Kind != nbr.Described || !v.Empty) {
					t.Errorf("%d enters Full by %v behind %d events", state, v, many)
				}
				if !slices.Contains(next, after) {
					next = append(next, after)
				}
			}
		}
		reached = next
	}
	if !slices.Contains(reached, nbr.Full) {
		t.Error("four events do not enter Full")
	}
}

// TestArguments: R4, neither the events nor the memory behind them change; and R5, the same call returns the same again.
func TestArguments(t *testing.T) {
	draw := drawer(162)
	for range 1000 {
		state := draw(states+2) - 1
		l := drawEvents(draw, draw(10))
		roomy := append(make([]event, 0, len(l)+4), l...)
		behind := roomy[len(l):cap(roomy)]
		for i := range behind {
			behind[i] = event{Kind: nbr.Silent, Wanted: true, Empty: true}
		}
		whole := slices.Clone(roomy[:cap(roomy)])
		s, all := nbr.Run(state, roomy)
		if !slices.Equal(roomy[:cap(roomy)], whole) {
			t.Fatalf("%v became %v", whole, roomy[:cap(roomy)])
		}
		if after, do := nbr.Run(state, l); after != s || do != all {
			t.Fatalf("%d, %v: %d, %d and then %d, %d", state, l, s, all, after, do)
		}
	}
}
