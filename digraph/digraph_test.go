package digraph

import (
	"math/rand"
	"reflect"
	"slices"
	"testing"

	"slipway/api"
)

func wrongGraphs() []Graph {
	return []Graph{
		{N: -1}, {N: 65}, {N: -1 << 63}, {N: 1<<63 - 1}, {N: 2, Edges: make([][2]int, 4097)},
		{N: 0, Edges: [][2]int{{0, 0}}}, {N: 2, Edges: [][2]int{{0, 2}}}, {N: 2, Edges: [][2]int{{2, 0}}}, {N: 2, Edges: [][2]int{{0, 1}, {-1, 0}}}, {N: 2, Edges: [][2]int{{0, -1}}},
	}
}

// P3.1
func TestEachCallAnswersCheckFirst(t *testing.T) {
	for i, g := range wrongGraphs() {
		_, order := g.Order()
		_, reach := g.Reach()
		_, levels := g.Levels()
		_, closed := g.Closed(^uint64(0))
		_, ready := g.Ready(^uint64(0))
		_, thin := g.Thin()
		for j, e := range []api.Errno{g.Check(), order, reach, levels, closed, ready, thin} {
			if e != api.ErrNode {
				t.Error(i, j, e)
			}
		}
	}
	for i, g := range []Graph{{}, {N: 64}, {N: 64, Edges: [][2]int{{63, 63}, {63, 63}}}, {N: 1, Edges: make([][2]int, 4096)}} {
		if e := g.Check(); e != api.OK {
			t.Error(i, e)
		}
	}
}

func TestExamples(t *testing.T) {
	g := Graph{3, [][2]int{{0, 1}, {1, 2}, {0, 2}}}
	order, _ := g.Order()
	levels, _ := g.Levels()
	thin, _ := g.Thin()
	reach, _ := g.Reach()
	closed, e := g.Closed(5)
	if !slices.Equal(order, []int{0, 1, 2}) || !slices.Equal(levels, []int{0, 1, 2}) || !slices.Equal(reach, []uint64{6, 4, 0}) || closed || e != api.OK {
		t.Error(order, levels, reach, closed, e)
	}
	if !slices.Equal(thin, [][2]int{{0, 1}, {1, 2}}) {
		t.Error(thin)
	}
}

// P3.2
func TestOrderIsTheFirstOne(t *testing.T) {
	for _, c := range []struct {
		g    Graph
		want []int
	}{
		{Graph{}, nil},
		{Graph{N: 3}, []int{0, 1, 2}},
		{Graph{3, [][2]int{{2, 0}}}, []int{1, 2, 0}},
		{Graph{4, [][2]int{{3, 0}, {3, 1}}}, []int{2, 3, 0, 1}},
		{Graph{5, [][2]int{{4, 0}, {0, 1}, {3, 2}}}, []int{3, 2, 4, 0, 1}},
		{Graph{3, [][2]int{{2, 1}, {2, 1}, {1, 0}}}, []int{2, 1, 0}},
	} {
		if order, e := c.g.Order(); e != api.OK || !slices.Equal(order, c.want) {
			t.Error(c.g, order, e)
		}
	}
}

func TestCirclesAreRefused(t *testing.T) {
	for _, g := range []Graph{{1, [][2]int{{0, 0}}}, {2, [][2]int{{0, 1}, {1, 0}}}, {4, [][2]int{{0, 1}, {1, 2}, {2, 3}, {3, 1}}}, {64, [][2]int{{63, 63}}}} {
		order, e1 := g.Order()
		levels, e2 := g.Levels()
		thin, e3 := g.Thin()
		if e1 != api.ErrCycle || e2 != api.ErrCycle || e3 != api.ErrCycle || len(order)+len(levels)+len(thin) != 0 {
			t.Error(g, e1, e2, e3, order, levels, thin)
		}
		if reach, e := g.Reach(); e != api.OK || len(reach) != g.N {
			t.Error(g, reach, e)
		}
	}
	reach, _ := Graph{4, [][2]int{{0, 1}, {1, 2}, {2, 1}, {3, 3}}}.Reach()
	if !slices.Equal(reach, []uint64{6, 6, 6, 8}) {
		t.Error(reach)
	}
}

// P3.3
func TestClosedAndReady(t *testing.T) {
	g := Graph{5, [][2]int{{0, 1}, {1, 2}, {0, 2}, {3, 3}}}
	for _, c := range []struct {
		set    uint64
		closed bool
		ready  uint64
	}{{0, true, 17}, {1, true, 18}, {2, false, 17}, {3, true, 20}, {5, false, 18}, {7, true, 16}, {8, true, 17}, {31, true, 0}, {16, true, 1}, {6, false, 17}} {
		closed, e1 := g.Closed(c.set)
		ready, e2 := g.Ready(c.set)
		if closed != c.closed || ready != c.ready || e1 != api.OK || e2 != api.OK {
			t.Error(c, closed, ready, e1, e2)
		}
	}
	for _, set := range []uint64{32, 1 << 63, ^uint64(0)} {
		closed, e1 := g.Closed(set)
		ready, e2 := g.Ready(set)
		if closed || ready != 0 || e1 != api.ErrNode || e2 != api.ErrNode {
			t.Error(set, closed, ready, e1, e2)
		}
	}
	full := Graph{N: 64}
	if ready, e := full.Ready(1 << 63); e != api.OK || ready != 1<<63-1 {
		t.Error(ready, e)
	}
	if closed, e := full.Closed(^uint64(0)); e != api.OK || !closed {
		t.Error(closed, e)
	}
	if _, e := (Graph{}).Ready(1); e != api.ErrNode {
		t.Error(e)
	}
}

// P3.4
func TestThin(t *testing.T) {
	for _, c := range []struct {
		g    Graph
		want [][2]int
	}{
		{Graph{}, nil},
		{Graph{2, [][2]int{{1, 0}, {1, 0}}}, [][2]int{{1, 0}}},
		{Graph{4, [][2]int{{2, 3}, {0, 3}, {0, 2}, {0, 1}, {1, 3}}}, [][2]int{{0, 1}, {0, 2}, {1, 3}, {2, 3}}},
		{Graph{4, [][2]int{{3, 2}, {2, 1}, {1, 0}, {3, 0}, {3, 1}, {2, 0}}}, [][2]int{{1, 0}, {2, 1}, {3, 2}}},
	} {
		if thin, e := c.g.Thin(); e != api.OK || !slices.Equal(thin, c.want) {
			t.Error(c.g, thin, e)
		}
	}
}

// walks tells by plain steps whether a way of at least so many edges leads from one node to another.
func walks(g Graph, from, to, least int) bool {
	at := map[int]bool{from: true}
	for n := 1; n <= g.N+least; n++ {
		next := map[int]bool{}
		for _, e := range g.Edges {
			if at[e[0]] {
				next[e[1]] = true
			}
		}
		at = next
		if n >= least && at[to] {
			return true
		}
	}
	return false
}

func randomGraph(r *rand.Rand, most int, circles bool) Graph {
	g := Graph{N: 1 + r.Intn(most)}
	names := r.Perm(g.N)
	for range r.Intn(2 * g.N) {
		a, b := r.Intn(g.N), r.Intn(g.N)
		if !circles && a >= b {
			continue
		}
		g.Edges = append(g.Edges, [2]int{names[a], names[b]})
	}
	return g
}

func TestAgainstPlainSteps(t *testing.T) {
	r := rand.New(rand.NewSource(1))
	for range 400 {
		g := randomGraph(r, 8, r.Intn(2) == 0)
		kept := slices.Clone(g.Edges)
		reach, e := g.Reach()
		circle := false
		for a := range g.N {
			for b := range g.N {
				if e != api.OK || has(reach[a], b) != walks(g, a, b, 1) {
					t.Fatal(g, a, b)
				}
			}
			circle = circle || has(reach[a], a)
		}
		order, e := g.Order()
		if circle != (e == api.ErrCycle) {
			t.Fatal(g, e)
		}
		if !circle {
			checkRight(t, g, order, reach)
		}
		if !slices.Equal(kept, g.Edges) {
			t.Fatal("edges were changed")
		}
	}
}

func checkRight(t *testing.T, g Graph, order []int, reach []uint64) {
	levels, _ := g.Levels()
	thin, _ := g.Thin()
	var done uint64
	for _, node := range order {
		ready, _ := g.Ready(done)
		if ready&-ready != 1<<node {
			t.Fatal(g, order)
		}
		done |= 1 << node
	}
	for node, level := range levels {
		for n := range g.N + 1 {
			some := false
			for first := range g.N {
				some = some || n == 0 || walks(g, first, node, n)
			}
			if some != (n <= level) {
				t.Fatal(g, levels)
			}
		}
	}
	again, _ := Graph{g.N, thin}.Reach()
	if !reflect.DeepEqual(again, reach) || !slices.IsSortedFunc(thin, func(a, b [2]int) int { return slices.Compare(a[:], b[:]) }) {
		t.Fatal(g, thin)
	}
	for _, e := range g.Edges {
		if slices.Contains(thin, e) == walks(g, e[0], e[1], 2) {
			t.Fatal(g, thin, e)
		}
	}
}
