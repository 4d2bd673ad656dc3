package spf_test

import (
	"fmt"
	"maps"
	"math"
	"slices"
	"testing"

	"crossroads/api"
	"crossroads/spf"
)

type (
	edge  = api.Edge
	graph = spf.Graph
)

const inf = api.Inf

// list is edges, each as its From, its To and its Cost.
type list [][3]int

func (l list) edges() []edge {
	var out []edge
	for _, x := range l {
		out = append(out, one(x[0], x[1], x[2]))
	}
	return out
}

func one(from, to, cost int) edge {
	return edge{From: from, To: to, Cost: cost}
}

// drawer returns a source of numbers below a bound that are the same for the same seed.
func drawer(seed uint64) func(below int) int {
	seed = seed*0x9e3779b97f4a7c15 + 1
	return func(below int) int {
		seed = seed*6364136223846793005 + 1442695040888963407
		return int(seed >> 33 % uint64(below))
	}
}

// drawn returns a valid graph without order, with costs below span.
func drawn(n, edges, span int, seed uint64) graph {
	draw := drawer(seed)
	g := graph{N: n}
	for range edges {
		g.L = append(g.L, one(draw(n), draw(n), draw(span)))
	}
	return g
}

// smallGraphs are so small that all their paths can be tried; many have edges of cost 0, rings of them, edges from a node to itself and several between the same nodes.
func smallGraphs() []graph {
	var out []graph
	for seed := range uint64(1500) {
		draw := drawer(seed + 5000)
		span := []int{1, 2, 3, 5, 65536}[draw(5)]
		out = append(out, drawn(1+draw(5), draw(13), span, seed))
	}
	return out
}

// largeGraphs have up to 64 nodes and 400 edges.
func largeGraphs() []graph {
	out := []graph{chain(64, 65535), chain(64, 0), {N: 64}, {N: 1}, repeated(2, 400, one(0, 1, 0)), repeated(64, 400, one(63, 0, 65535))}
	for seed := range uint64(200) {
		draw := drawer(seed + 9000)
		span := []int{1, 2, 4, 30, 65536}[draw(5)]
		out = append(out, drawn(1+draw(64), draw(401), span, seed), drawn(64, 400, span, seed))
	}
	return out
}

// chain returns a graph whose edges lead from each node to the next one.
func chain(n, cost int) graph {
	g := graph{N: n}
	for i := range n - 1 {
		g.L = append(g.L, one(i, i+1, cost))
	}
	return g
}

// repeated returns a graph with the same edge many times.
func repeated(n, edges int, e edge) graph {
	return graph{N: n, L: slices.Repeat([]edge{e}, edges)}
}

// triedPaths goes along all paths that meet no node twice, and returns the length of the shortest ones and the edges with which these begin. (A path that consists of tight edges is a shortest one, and the other way round; and the rings of a path that does not return to the root can be left out behind its first edge.)
func triedPaths(g graph, root int) ([]int, [][]int) {
	dist := make([]int, g.N)
	first := make([][]int, g.N)
	for i := range dist {
		dist[i] = inf
	}
	dist[root] = 0
	met := make([]bool, g.N)
	var walk func(node, long, began int)
	walk = func(node, long, began int) {
		if node != root {
			if long < dist[node] {
				dist[node], first[node] = long, nil
			}
			if long == dist[node] && !slices.Contains(first[node], began) {
				first[node] = append(first[node], began)
			}
		}
		met[node] = true
		for i, e := range g.L {
			if e.From != node || met[e.To] {
				continue
			}
			if node == root {
				walk(e.To, long+e.Cost, i)
			} else {
				walk(e.To, long+e.Cost, began)
			}
		}
		met[node] = false
	}
	walk(root, 0, -1)
	for _, l := range first {
		slices.Sort(l)
	}
	return dist, first
}

// settled goes over all edges until nothing changes any more, first for the distances and then for the hops.
func settled(g graph, root int) ([]int, [][]int) {
	dist := make([]int, g.N)
	for i := range dist {
		dist[i] = inf
	}
	dist[root] = 0
	for changed := true; changed; {
		changed = false
		for _, e := range g.L {
			if dist[e.From] != inf && dist[e.From]+e.Cost < dist[e.To] {
				dist[e.To], changed = dist[e.From]+e.Cost, true
			}
		}
	}
	sets := make([][400]bool, g.N)
	for changed := true; changed; {
		changed = false
		for i, e := range g.L {
			if dist[e.From] == inf || dist[e.From]+e.Cost != dist[e.To] || e.To == root {
				continue
			}
			want := sets[e.To]
			if e.From == root {
				want[i] = true
			}
			for k, has := range sets[e.From] {
				want[k] = want[k] || has
			}
			if want != sets[e.To] {
				sets[e.To], changed = want, true
			}
		}
	}
	hops := make([][]int, g.N)
	for node := range sets {
		for i, has := range sets[node] {
			if has {
				hops[node] = append(hops[node], i)
			}
		}
	}
	return dist, hops
}

func sameLists(a, b [][]int) bool {
	return slices.EqualFunc(a, b, func(x, y []int) bool { return slices.Equal(x, y) })
}

// answers checks Dist and Hops for one root.
func answers(t *testing.T, g graph, root int, dist []int, hops [][]int) {
	t.Helper()
	d, e := spf.Dist(g, root)
	if e != api.OK || !slices.Equal(d, dist) {
		t.Fatalf("Dist(%v, %d): %v %d, want %v", g, root, d, e, dist)
	}
	h, e := spf.Hops(g, root)
	if e != api.OK || !sameLists(h, hops) {
		t.Fatalf("Hops(%v, %d): %v %d, want %v", g, root, h, e, hops)
	}
}

// refuses checks that Dist and Hops return ErrArg and nothing else.
func refuses(t *testing.T, g graph, root int) {
	t.Helper()
	if d, e := spf.Dist(g, root); e != api.ErrArg || len(d) != 0 {
		t.Errorf("Dist(root %d): %v %d", root, d, e)
	}
	if h, e := spf.Hops(g, root); e != api.ErrArg || len(h) != 0 {
		t.Errorf("Hops(root %d): %v %d", root, h, e)
	}
}

// Example 1 of the chapter.
func TestExample(t *testing.T) {
	g := graph{2, list{{0, 1, 1}, {0, 1, 1}}.edges()}
	answers(t, g, 0, []int{0, 1}, [][]int{nil, {0, 1}})
}

// validRows are valid graphs, each named by what is special about it.
func validRows() map[string]graph {
	return map[string]graph{
		"one node":                   {N: 1},
		"one node and no edges":      {1, []edge{}},
		"64 nodes":                   {N: 64},
		"63 nodes":                   {N: 63},
		"400 edges":                  repeated(2, 400, one(0, 1, 1)),
		"400 edges of one node":      repeated(1, 400, one(0, 0, 0)),
		"64 nodes and 400 edges":     repeated(64, 400, one(63, 0, 65535)),
		"from the first to the last": {64, list{{0, 63, 1}}.edges()},
		"from a node to itself":      {3, list{{2, 2, 1}}.edges()},
		"cost 0":                     {2, list{{0, 1, 0}}.edges()},
		"cost 65535":                 {2, list{{0, 1, 65535}}.edges()},
		"several of the same":        {2, list{{0, 1, 3}, {0, 1, 3}, {0, 1, 4}}.edges()},
		"nodes without any edge":     {4, list{{0, 1, 1}}.edges()},
	}
}

// invalidRows are graphs that are not valid, each named by the reason.
func invalidRows() map[string]graph {
	good := [3]int{0, 1, 1}
	return map[string]graph{
		"no node":                     {},
		"no node and an edge":         {0, list{{0, 0, 1}}.edges()},
		"N below 0":                   {N: -1},
		"least N":                     {N: math.MinInt},
		"65 nodes":                    {N: 65},
		"greatest N":                  {N: math.MaxInt},
		"N that is 1 in 32 bits":      {N: 1<<32 + 1},
		"401 edges":                   repeated(2, 401, one(0, 1, 1)),
		"401 edges of one node":       repeated(1, 401, one(0, 0, 0)),
		"from below 0":                {2, list{{-1, 0, 1}}.edges()},
		"to below 0":                  {2, list{{0, -1, 1}}.edges()},
		"from N":                      {2, list{{2, 0, 1}}.edges()},
		"to N":                        {2, list{{0, 2, 1}}.edges()},
		"from 64":                     {64, list{{64, 0, 1}}.edges()},
		"to 64":                       {64, list{{0, 64, 1}}.edges()},
		"from the greatest":           {2, list{{math.MaxInt, 0, 1}}.edges()},
		"to the least":                {2, list{{0, math.MinInt, 1}}.edges()},
		"cost -1":                     {2, list{{0, 1, -1}}.edges()},
		"cost 65536":                  {2, list{{0, 1, 65536}}.edges()},
		"least cost":                  {2, list{{0, 1, math.MinInt}}.edges()},
		"greatest cost":               {2, list{{0, 1, math.MaxInt}}.edges()},
		"cost that is 1 in 32 bits":   {2, list{{0, 1, 1<<32 + 1}}.edges()},
		"the last edge to no node":    {2, list{good, good, {1, 2, 1}}.edges()},
		"the last edge from no node":  {2, list{good, good, {2, 1, 1}}.edges()},
		"the last edge has cost -1":   {2, list{good, good, {1, 0, -1}}.edges()},
		"the first edge to no node":   {2, list{{0, 2, 1}, good, good}.edges()},
		"an edge no path leads to":    {3, list{good, {2, 3, 1}}.edges()},
		"a bad cost in another place": {3, list{good, {2, 1, 65536}, good}.edges()},
	}
}

// E1: valid graphs, and their roots.
func TestValid(t *testing.T) {
	for name, g := range validRows() {
		t.Run(name, func(t *testing.T) {
			if !spf.May(g) {
				t.Error("May is false")
			}
			for root := range g.N {
				dist, hops := settled(g, root)
				answers(t, g, root, dist, hops)
			}
			for _, root := range []int{-1, -2, g.N, g.N + 1, 64, 65, math.MinInt, math.MaxInt, 1 << 32, -1 << 32} {
				refuses(t, g, root)
			}
		})
	}
}

// E1: graphs that are not valid.
func TestNotValid(t *testing.T) {
	for name, g := range invalidRows() {
		t.Run(name, func(t *testing.T) {
			if spf.May(g) {
				t.Error("May is true")
			}
			for _, root := range []int{0, 1, -1, 64, math.MaxInt} {
				refuses(t, g, root)
			}
		})
	}
}

// E1: graphs that are made for one thing each.
func TestDistAndHops(t *testing.T) {
	for name, c := range map[string]struct {
		g    graph
		root int
		dist []int
		hops [][]int
	}{
		"one node": {graph{N: 1}, 0, []int{0}, [][]int{nil}},
		"no edge":  {graph{N: 3}, 1, []int{inf, 0, inf}, [][]int{nil, nil, nil}},
		"edges lead one way": {
			graph{3, list{{0, 1, 2}, {1, 2, 3}}.edges()}, 1,
			[]int{inf, 0, 3}, [][]int{nil, nil, {1}}},
		"no path to an edge": {
			graph{4, list{{2, 3, 1}, {3, 1, 0}, {0, 1, 9}}.edges()}, 0,
			[]int{0, 9, inf, inf}, [][]int{nil, {2}, nil, nil}},
		"more edges, but shorter": {
			graph{3, list{{0, 2, 5}, {0, 1, 2}, {1, 2, 2}}.edges()}, 0,
			[]int{0, 2, 4}, [][]int{nil, {1}, {1}}},
		"two that are equal": {
			graph{4, list{{1, 3, 1}, {0, 2, 1}, {2, 3, 1}, {0, 1, 1}}.edges()}, 0,
			[]int{0, 1, 1, 2}, [][]int{nil, {3}, {1}, {1, 3}}},
		"a lesser way to a node that was seen": {
			graph{4, list{{0, 1, 10}, {0, 2, 1}, {2, 1, 1}, {1, 3, 1}}.edges()}, 0,
			[]int{0, 2, 1, 3}, [][]int{nil, {1}, {1}, {1}}},
		"several edges, the least twice": {
			graph{2, list{{0, 1, 3}, {0, 1, 2}, {0, 1, 4}, {0, 1, 2}}.edges()}, 0,
			[]int{0, 2}, [][]int{nil, {1, 3}}},
		"several edges further on are one hop": {
			graph{3, list{{1, 2, 1}, {0, 1, 1}, {1, 2, 1}}.edges()}, 0,
			[]int{0, 1, 2}, [][]int{nil, {1}, {1}}},
		"a node to itself": {
			graph{2, list{{0, 0, 0}, {0, 0, 1}, {0, 1, 1}, {1, 1, 0}, {1, 1, 2}}.edges()}, 0,
			[]int{0, 1}, [][]int{nil, {2}}},
		"cost 0 there and back": {
			graph{2, list{{0, 1, 0}, {1, 0, 0}}.edges()}, 0,
			[]int{0, 0}, [][]int{nil, {0}}},
		"a ring of cost 0 through the root": {
			graph{3, list{{0, 1, 0}, {1, 2, 0}, {2, 0, 0}, {0, 2, 0}}.edges()}, 0,
			[]int{0, 0, 0}, [][]int{nil, {0}, {0, 3}}},
		// The hop of 2 is one of 1 only by way of the root.
		"no way round through the root": {
			graph{3, list{{0, 1, 0}, {0, 2, 0}, {1, 0, 0}, {2, 0, 0}}.edges()}, 0,
			[]int{0, 0, 0}, [][]int{nil, {0}, {1}}},
		"a ring of cost 0 with two ways in": {
			graph{4, list{{0, 1, 4}, {1, 2, 0}, {2, 3, 0}, {3, 1, 0}, {0, 3, 4}}.edges()}, 0,
			[]int{0, 4, 4, 4}, [][]int{nil, {0, 4}, {0, 4}, {0, 4}}},
		"a ring of cost 0 against the order of the nodes": {
			graph{5, list{{4, 3, 1}, {3, 2, 0}, {2, 1, 0}, {1, 3, 0}, {4, 1, 1}, {1, 0, 1}, {4, 2, 2}}.edges()}, 4,
			[]int{2, 1, 1, 1, 0}, [][]int{{0, 4}, {0, 4}, {0, 4}, {0, 4}, nil}},
		"greatest cost": {
			graph{3, list{{0, 1, 65535}, {1, 2, 65535}}.edges()}, 0,
			[]int{0, 65535, 131070}, [][]int{nil, {0}, {0}}},
	} {
		t.Run(name, func(t *testing.T) { answers(t, c.g, c.root, c.dist, c.hops) })
	}
}

// The longest shortest path has 63 edges, and its length is less than Inf.
func TestLongestPath(t *testing.T) {
	g := chain(64, 65535)
	dist := make([]int, 64)
	hops := make([][]int, 64)
	for i := 1; i < 64; i++ {
		dist[i], hops[i] = i*65535, []int{0}
	}
	answers(t, g, 0, dist, hops)
}

// All 400 edges of the root can be hops, and of every node of a ring of cost 0.
func TestManyHops(t *testing.T) {
	all := make([]int, 400)
	for i := range all {
		all[i] = i
	}
	g := repeated(2, 400, one(1, 0, 7))
	answers(t, g, 1, []int{7, 0}, [][]int{all, nil})

	g = graph{N: 64}
	want := make([][]int, 64)
	for i := range 400 - 63 {
		g.L = append(g.L, one(0, 1+i%63, 5))
	}
	for node := 1; node < 64; node++ {
		g.L = append(g.L, one(node, 1+node%63, 0))
		want[node] = all[:400-63]
	}
	dist := make([]int, 64)
	for i := 1; i < 64; i++ {
		dist[i] = 5
	}
	answers(t, g, 0, dist, want)
}

// E1: on graphs whose paths can all be tried.
func TestAgainstAllPaths(t *testing.T) {
	for _, g := range smallGraphs() {
		for root := range g.N {
			dist, hops := triedPaths(g, root)
			answers(t, g, root, dist, hops)
		}
	}
}

// E1: on greater graphs.
func TestAgainstRounds(t *testing.T) {
	for _, g := range largeGraphs() {
		for root := 0; root < g.N; root += 1 + g.N/5 {
			dist, hops := settled(g, root)
			answers(t, g, root, dist, hops)
		}
	}
}

// P5.2, in its own words.
func TestShortest(t *testing.T) {
	for _, g := range append(smallGraphs(), largeGraphs()...) {
		for root := range g.N {
			shortest(t, g, root)
		}
	}
}

func shortest(t *testing.T, g graph, root int) {
	t.Helper()
	dist, e := spf.Dist(g, root)
	if e != api.OK || len(dist) != g.N || dist[root] != 0 {
		t.Fatalf("Dist(%v, %d): %v %d", g, root, dist, e)
	}
	hops, e := spf.Hops(g, root)
	if e != api.OK || len(hops) != g.N || len(hops[root]) != 0 {
		t.Fatalf("Hops(%v, %d): %v %d", g, root, hops, e)
	}
	led := make([]bool, g.N)
	for i, tight := range spf.Tight(g, dist) {
		e := g.L[i]
		if dist[e.From] != inf && dist[e.From]+e.Cost < dist[e.To] {
			t.Fatalf("edge %d of %v leads to a smaller distance: %v", i, g, dist)
		}
		if tight {
			led[e.To] = true
		}
	}
	for node := range g.N {
		if dist[node] != inf && node != root && !led[node] {
			t.Fatalf("no tight edge of %v leads to %d: %v", g, node, dist)
		}
		if node != root && (len(hops[node]) > 0) != (dist[node] != inf) {
			t.Fatalf("node %d of %v has the distance %d and the hops %v", node, g, dist[node], hops[node])
		}
		firsts(t, g, root, dist, hops[node])
	}
}

// firsts checks that hops are in order, and that each is a tight edge of the root to another node.
func firsts(t *testing.T, g graph, root int, dist, hops []int) {
	t.Helper()
	last := -1
	for _, i := range hops {
		if i <= last || i >= len(g.L) {
			t.Fatalf("hops of %v: %v", g, hops)
		}
		e := g.L[i]
		if e.From != root || e.To == root || dist[e.To] != e.Cost {
			t.Fatalf("edge %d of %v is no hop", i, g)
		}
		last = i
	}
}

// E2: Mutual, of graphs that are valid and that are not.
func TestMutual(t *testing.T) {
	for name, c := range map[string]struct{ g, want graph }{
		"nothing":         {graph{}, graph{}},
		"no edge":         {graph{N: 5}, graph{N: 5}},
		"one way":         {graph{2, list{{0, 1, 1}}.edges()}, graph{N: 2}},
		"a ring":          {graph{3, list{{0, 1, 1}, {1, 2, 1}, {2, 0, 1}}.edges()}, graph{N: 3}},
		"both ways":       {graph{2, list{{0, 1, 3}, {1, 0, 4}}.edges()}, graph{2, list{{0, 1, 3}, {1, 0, 4}}.edges()}},
		"node to itself":  {graph{2, list{{1, 1, 3}, {0, 1, 1}}.edges()}, graph{2, list{{1, 1, 3}}.edges()}},
		"several and one": {graph{2, list{{0, 1, 1}, {0, 1, 2}, {1, 0, 9}, {0, 1, 1}}.edges()}, graph{2, list{{0, 1, 1}, {0, 1, 2}, {1, 0, 9}, {0, 1, 1}}.edges()}},
		"in order, and some are left out": {
			graph{4, list{{3, 2, 1}, {0, 3, 5}, {2, 3, 7}, {1, 0, 2}, {2, 1, 1}, {0, 1, 2}}.edges()},
			graph{4, list{{3, 2, 1}, {2, 3, 7}, {1, 0, 2}, {0, 1, 2}}.edges()}},
		"no nodes":      {graph{0, list{{0, 1, 1}, {1, 0, 1}, {1, 2, 1}}.edges()}, graph{0, list{{0, 1, 1}, {1, 0, 1}}.edges()}},
		"N below 0":     {graph{-7, list{{5, 5, -1}}.edges()}, graph{-7, list{{5, 5, -1}}.edges()}},
		"greatest N":    {graph{N: math.MaxInt}, graph{N: math.MaxInt}},
		"beyond":        {graph{2, list{{-1, 9, 1}, {9, -1, 70000}, {1, -9, 1}}.edges()}, graph{2, list{{-1, 9, 1}, {9, -1, 70000}}.edges()}},
		"alike but not": {graph{2, list{{1, 1 << 32, 1}, {0, 1, 1}, {-1, 1, 1}, {1, 255, 1}}.edges()}, graph{N: 2}},
	} {
		t.Run(name, func(t *testing.T) { same(t, spf.Mutual(c.g), c.want) })
	}
	for _, g := range graphs() {
		want := graph{N: g.N}
		for _, e := range g.L {
			if slices.ContainsFunc(g.L, func(o edge) bool { return o.From == e.To && o.To == e.From }) {
				want.L = append(want.L, e)
			}
		}
		same(t, spf.Mutual(g), want)
	}
}

func same(t *testing.T, got, want graph) {
	t.Helper()
	if got.N != want.N || !slices.Equal(got.L, want.L) {
		t.Fatalf("%v, want %v", got, want)
	}
}

// graphs are all graphs of the tests, those that are not valid too, and one with more edges than a valid one has.
func graphs() []graph {
	out := append(smallGraphs(), largeGraphs()...)
	for _, rows := range []map[string]graph{validRows(), invalidRows()} {
		for _, name := range slices.Sorted(maps.Keys(rows)) {
			out = append(out, rows[name])
		}
	}
	return append(out, drawn(70, 1000, 100000, 3))
}

// E2: Reverse, of graphs that are valid and that are not; twice, it is the graph again.
func TestReverse(t *testing.T) {
	same(t, spf.Reverse(graph{}), graph{})
	same(t, spf.Reverse(graph{N: -3}), graph{N: -3})
	same(t, spf.Reverse(graph{3, list{{0, 1, 5}, {2, 1, 6}, {2, 2, 7}}.edges()}), graph{3, list{{1, 0, 5}, {1, 2, 6}, {2, 2, 7}}.edges()})
	same(t, spf.Reverse(graph{99, list{{-4, 8, -5}, {math.MaxInt, 0, 1 << 20}}.edges()}), graph{99, list{{8, -4, -5}, {0, math.MaxInt, 1 << 20}}.edges()})
	for _, g := range graphs() {
		want := graph{N: g.N}
		for _, e := range g.L {
			want.L = append(want.L, edge{From: e.To, To: e.From, Cost: e.Cost})
		}
		same(t, spf.Reverse(g), want)
		same(t, spf.Reverse(spf.Reverse(g)), g)
	}
}

// E2: Tight, of graphs that are valid and that are not, with distances that need not be those of the graph.
func TestTight(t *testing.T) {
	for name, c := range map[string]struct {
		l    list
		dist []int
		want []bool
	}{
		"no edge":               {nil, []int{0}, nil},
		"no distance":           {list{{0, 1, 0}, {0, 0, 0}}, nil, []bool{false, false}},
		"tight and not":         {list{{0, 1, 2}, {0, 1, 3}, {0, 1, 1}, {1, 0, 2}}, []int{0, 2}, []bool{true, false, false, false}},
		"cost 0":                {list{{0, 1, 0}, {1, 0, 0}, {1, 1, 0}, {1, 1, 1}}, []int{5, 5}, []bool{true, true, true, false}},
		"From is Inf":           {list{{0, 1, 0}, {0, 0, 0}, {0, 2, 5}}, []int{inf, inf, inf + 5}, []bool{false, false, false}},
		"To is Inf":             {list{{0, 1, 0}, {0, 1, 65535}}, []int{0, inf}, []bool{false, false}},
		"To is Inf, and it is":  {list{{0, 1, 5}}, []int{inf - 5, inf}, []bool{true}},
		"beyond Inf":            {list{{0, 1, 5}, {1, 0, -5}}, []int{inf + 1, inf + 6}, []bool{true, true}},
		"below 0":               {list{{0, 1, 5}, {1, 0, 5}}, []int{-10, -5}, []bool{true, false}},
		"no element of To":      {list{{0, 2, 0}, {0, 1, 0}, {0, 3, 0}}, []int{0, 0}, []bool{false, true, false}},
		"no element of From":    {list{{2, 0, 0}, {1, 0, 0}, {3, 0, 0}}, []int{0, 0}, []bool{false, true, false}},
		"a node below 0":        {list{{-1, 0, 0}, {0, -1, 0}, {math.MinInt, 0, 0}, {-1, -1, 0}}, []int{0}, []bool{false, false, false, false}},
		"a node to itself":      {list{{7, 7, 0}, {0, 0, 0}}, []int{1}, []bool{false, true}},
		"nodes far beyond":      {list{{math.MaxInt, 0, 0}, {0, 1 << 32, 0}}, []int{0, 0}, []bool{false, false}},
		"the sum wraps around":  {list{{0, 1, 1}}, []int{math.MaxInt, math.MinInt}, []bool{true}},
		"costs beyond the most": {list{{0, 1, 1 << 20}, {1, 0, -1 << 20}}, []int{0, 1 << 20}, []bool{true, true}},
	} {
		// Which edges are tight depends on the elements of dist, and not on the number of nodes.
		for _, n := range []int{0, 1, 2, 64, 65, -1, math.MaxInt} {
			t.Run(fmt.Sprint(name, " of ", n), func(t *testing.T) {
				if got := spf.Tight(graph{n, c.l.edges()}, c.dist); !slices.Equal(got, c.want) {
					t.Errorf("%v, want %v", got, c.want)
				}
			})
		}
	}
}

// E2: Tight on all graphs, with distances drawn from a few so that many edges are tight; some nodes have none.
func TestTightOfDrawnDistances(t *testing.T) {
	tight := 0
	for k, g := range graphs() {
		draw := drawer(uint64(k))
		dist := make([]int, draw(8)*10)
		for i := range dist {
			dist[i] = []int{0, 1, 2, 3, inf, inf + 1}[draw(6)]
		}
		got := spf.Tight(g, dist)
		if len(got) != len(g.L) {
			t.Fatalf("%d answers for %d edges", len(got), len(g.L))
		}
		for i, e := range g.L {
			n := len(dist)
			want := e.From >= 0 && e.From < n && e.To >= 0 && e.To < n && dist[e.From] != inf && dist[e.To]-dist[e.From] == e.Cost
			if got[i] != want {
				t.Fatalf("Tight(%v, %v), edge %d: %v", g, dist, i, got[i])
			}
			if want {
				tight++
			}
		}
	}
	if tight < 1000 {
		t.Errorf("only %d edges of all graphs are tight", tight)
	}
}

// guarded returns a list with spare capacity behind it, and all of that memory.
func guarded[T any](l []T, spare T) (given, all []T) {
	all = append(slices.Clone(l), spare, spare, spare)
	return all[:len(l)], all
}

// The graph, the distances and the memory behind them stay as they were, also when the answers are written to.
func TestArgumentsStay(t *testing.T) {
	for _, g := range graphs() {
		l, all := guarded(g.L, one(1, 2, 3))
		was := slices.Clone(all)
		given := graph{g.N, l}
		askAndSpoil(given)
		if !slices.Equal(all, was) {
			t.Fatalf("%v, was %v", all, was)
		}
		for _, some := range [][]int{nil, {0, 1, 2}, {inf, 0, 0, 1}} {
			dist, whole := guarded(some, 77)
			before := slices.Clone(whole)
			spoil(spf.Tight(given, dist), true)
			if !slices.Equal(whole, before) || !slices.Equal(all, was) {
				t.Fatalf("behind Tight: %v %v, was %v %v", whole, all, before, was)
			}
		}
	}
}

// spoil writes to all of an answer's memory.
func spoil[T any](l []T, x T) {
	l = l[:cap(l)]
	for i := range l {
		l[i] = x
	}
}

// askAndSpoil calls the functions that take only a graph and a root, and spoils what they return.
func askAndSpoil(g graph) {
	spf.May(g)
	spoil(spf.Mutual(g).L, one(-9, -9, -9))
	spoil(spf.Reverse(g).L, one(-9, -9, -9))
	for _, root := range []int{0, -1} {
		dist, _ := spf.Dist(g, root)
		spoil(dist, -9)
		hops, _ := spf.Hops(g, root)
		for _, l := range hops {
			spoil(l, -9)
		}
		spoil(hops, nil)
	}
}

// The lists of one answer are apart: what is written to one of them, or behind it, is not seen in another one.
func TestHopsAreApart(t *testing.T) {
	for _, g := range append(smallGraphs(), largeGraphs()...) {
		hops, _ := spf.Hops(g, 0)
		was := make([][]int, len(hops))
		for i, l := range hops {
			was[i] = slices.Clone(l)
		}
		for i, l := range hops {
			spoil(l, -9)
			copy(l, was[i])
			if !sameLists(hops, was) {
				t.Fatalf("behind a change of list %d: %v, was %v", i, hops, was)
			}
		}
	}
}

// The same question has the same answer, whatever was asked in between and was done to the answers.
func TestAskedAgain(t *testing.T) {
	g := drawn(30, 200, 3, 1)
	dist, hops := settled(g, 4)
	mutual := spf.Mutual(g)
	for _, other := range graphs() {
		askAndSpoil(other)
		answers(t, g, 4, dist, hops)
		same(t, spf.Mutual(g), mutual)
		askAndSpoil(g)
	}
}
