package lattice

import (
	"math"
	"math/rand"
	"slices"
	"testing"

	"slipway/api"
	"slipway/digraph"
)

var (
	fork   = digraph.Graph{N: 3, Edges: [][2]int{{0, 1}, {0, 2}}}
	circle = digraph.Graph{N: 3, Edges: [][2]int{{0, 1}, {1, 2}, {2, 1}}}
)

// P9.1
func TestErrorsOfGraphsAndSets(t *testing.T) {
	for _, k := range []struct {
		g        digraph.Graph
		set      uint64
		ofSets   api.Errno
		ofGraphs api.Errno
	}{
		{digraph.Graph{N: -1}, 0, api.ErrNode, api.ErrNode}, {digraph.Graph{N: 65}, 0, api.ErrNode, api.ErrNode}, {digraph.Graph{N: 1, Edges: [][2]int{{0, 1}}}, 0, api.ErrNode, api.ErrNode},
		{digraph.Graph{N: 2, Edges: make([][2]int, 4097)}, 0, api.ErrNode, api.ErrNode},
		{fork, 8, api.ErrNode, api.OK}, {fork, math.MaxUint64, api.ErrNode, api.OK}, {fork, 7, api.OK, api.OK}, {circle, 7, api.OK, api.ErrCycle}, {digraph.Graph{}, 1, api.ErrNode, api.OK},
	} {
		all, e1 := All(k.g)
		ways, e2 := Ways(k.g)
		way, e3 := Way(k.g, []int{1})
		for i, e := range []api.Errno{e1, e2, e3} {
			if e != k.ofGraphs {
				t.Error(k, i, e)
			}
		}
		down, e1 := Down(k.g, k.set)
		up, e2 := Up(k.g, k.set)
		border, e3 := Border(k.g, k.set)
		for i, e := range []api.Errno{e1, e2, e3} {
			if e != k.ofSets {
				t.Error(k, i, e)
			}
		}
		if k.ofGraphs != api.OK && (all != nil || ways != 0 || way != nil) || k.ofSets != api.OK && (down != 0 || up != 0 || border != 0) {
			t.Error(k, all, ways, way, down, up, border)
		}
	}
}

// P9.2
func TestAllAndWays(t *testing.T) {
	chain := digraph.Graph{N: 64}
	for i := range 63 {
		chain.Edges = append(chain.Edges, [2]int{i, i + 1})
	}
	for _, k := range []struct {
		g    digraph.Graph
		sets int
		ways int
		e    api.Errno
		wayE api.Errno
	}{
		{digraph.Graph{}, 1, 1, api.OK, api.OK}, {fork, 5, 2, api.OK, api.OK}, {chain, 65, 1, api.OK, api.OK},
		{digraph.Graph{N: 10}, 1024, 3628800, api.OK, api.OK},
		{digraph.Graph{N: 16}, 65536, 20922789888000, api.OK, api.OK},
		{digraph.Graph{N: 17}, 0, 0, api.ErrBig, api.ErrBig}, {digraph.Graph{N: 64}, 0, 0, api.ErrBig, api.ErrBig},
	} {
		all, e := All(k.g)
		ways, wayE := Ways(k.g)
		if len(all) != k.sets || e != k.e || ways != k.ways || wayE != k.wayE {
			t.Error(k.g.N, len(all), e, ways, wayE)
		}
	}
	if all, _ := All(fork); !slices.Equal(all, []uint64{0, 1, 3, 5, 7}) {
		t.Error(all)
	}
}

// chains is several chains side by side: a grid of closed sets.
func chains(lengths ...int) digraph.Graph {
	var g digraph.Graph
	for _, length := range lengths {
		for i := range length {
			if i > 0 {
				g.Edges = append(g.Edges, [2]int{g.N - 1, g.N})
			}
			g.N++
		}
	}
	return g
}

func TestWaysAtTheirLimit(t *testing.T) {
	// Two chains of m and n nodes have binomial(m + n, m) ways.
	if ways, e := Ways(chains(31, 31)); e != api.OK || ways != 465428353255261088 {
		t.Error(ways, e)
	}
	if ways, e := Ways(chains(31, 32)); e != api.OK || ways != 916312070471295267 {
		t.Error(ways, e)
	}
	if ways, e := Ways(chains(32, 32)); e != api.ErrBig || ways != 0 {
		t.Error(ways, e)
	}
	if ways, e := Ways(chains(31, 33)); e != api.ErrBig || ways != 0 {
		t.Error(ways, e)
	}
	if all, e := All(chains(32, 32)); e != api.OK || len(all) != 33*33 {
		t.Error(len(all), e)
	}
	if ways, e := Ways(chains(16, 16, 16, 12)); e != api.ErrBig || ways != 0 {
		t.Error(ways, e)
	}
	if all, e := All(chains(15, 15, 15, 15)); e != api.OK || len(all) != 1<<16 {
		t.Error(len(all), e)
	}
	if all, e := All(chains(15, 15, 15, 16)); e != api.ErrBig || all != nil {
		t.Error(len(all), e)
	}
}

// row is ten blocks of six nodes, one behind the other, each with 2^6 ways of its own, and some nodes behind them all.
func row(more int) digraph.Graph {
	g := digraph.Graph{N: 60 + more}
	for at := 0; at < 60; at += 6 {
		for _, e := range [][2]int{{0, 2}, {0, 3}, {0, 4}, {0, 5}, {1, 2}, {1, 3}} {
			g.Edges = append(g.Edges, [2]int{at + e[0], at + e[1]})
		}
		for first := at; first < at+6; first++ {
			for second := at + 6; second < min(at+12, g.N); second++ {
				g.Edges = append(g.Edges, [2]int{first, second})
			}
		}
	}
	return g
}

func TestJustSoManyWays(t *testing.T) {
	for more, want := range []int{1 << 60, 1 << 60, 0} {
		wantE := api.OK
		if want == 0 {
			wantE = api.ErrBig
		}
		if ways, e := Ways(row(more)); ways != want || e != wantE {
			t.Error(more, ways, e)
		}
	}
}

func TestOneSetTooMany(t *testing.T) {
	// Sixteen nodes side by side, and one behind them all: 2^16 + 1 closed sets.
	g := digraph.Graph{N: 17}
	for i := range 16 {
		g.Edges = append(g.Edges, [2]int{i, 16})
	}
	all, e := All(g)
	ways, e2 := Ways(g)
	if all != nil || e != api.ErrBig || ways != 0 || e2 != api.ErrBig {
		t.Error(len(all), e, ways, e2)
	}
}

// P9.3
func TestDownUpBorder(t *testing.T) {
	for _, k := range []struct {
		g                     digraph.Graph
		set, down, up, border uint64
	}{
		{fork, 0, 0, 0, 0}, {fork, 4, 5, 4, 4}, {fork, 1, 1, 7, 1}, {fork, 7, 7, 7, 6}, {fork, 6, 7, 6, 6}, {fork, 3, 3, 7, 2},
		{circle, 2, 7, 6, 2}, {circle, 6, 7, 6, 0}, {circle, 1, 1, 7, 1}, {circle, 5, 7, 7, 5},
		{digraph.Graph{N: 1, Edges: [][2]int{{0, 0}}}, 1, 1, 1, 0},
		{digraph.Graph{N: 64, Edges: [][2]int{{63, 0}}}, 1, 1<<63 | 1, 1, 1}, {digraph.Graph{N: 64, Edges: [][2]int{{63, 0}}}, 1 << 63, 1 << 63, 1<<63 | 1, 1 << 63},
	} {
		down, e1 := Down(k.g, k.set)
		up, e2 := Up(k.g, k.set)
		border, e3 := Border(k.g, k.set)
		if down != k.down || up != k.up || border != k.border || e1 != api.OK || e2 != api.OK || e3 != api.OK {
			t.Error(k, down, up, border, e1, e2, e3)
		}
	}
}

// P9.4
func TestWay(t *testing.T) {
	free := digraph.Graph{N: 4}
	for _, k := range []struct {
		g     digraph.Graph
		picks []int
		want  []int
	}{
		{digraph.Graph{}, []int{1}, nil}, {free, nil, []int{0, 1, 2, 3}}, {free, []int{3, 2, 1, 0}, []int{3, 2, 1, 0}}, {free, []int{1, 1}, []int{1, 2, 0, 3}},
		{free, []int{-1, -5}, []int{1, 3, 0, 2}}, {free, []int{4, 3, 2, 1}, []int{0, 1, 2, 3}}, {free, []int{7, 0, 0, 0, 9}, []int{3, 0, 1, 2}},
		{free, []int{math.MinInt, math.MinInt}, []int{0, 3, 1, 2}}, {free, []int{math.MaxInt}, []int{3, 0, 1, 2}},
		{fork, []int{5, 1}, []int{0, 2, 1}}, {digraph.Graph{N: 3, Edges: [][2]int{{2, 0}}}, []int{1}, []int{2, 0, 1}},
	} {
		if way, e := Way(k.g, k.picks); e != api.OK || !slices.Equal(way, k.want) {
			t.Error(k, way, e)
		}
	}
}

// countWays goes through all ways, one node at a time.
func countWays(g digraph.Graph, done uint64) int {
	if done == 1<<g.N-1 {
		return 1
	}
	ways := 0
	ready, _ := g.Ready(done)
	for node := range g.N {
		if ready>>node&1 == 1 {
			ways += countWays(g, done|1<<node)
		}
	}
	return ways
}

func randomGraph(r *rand.Rand) digraph.Graph {
	g := digraph.Graph{N: 1 + r.Intn(7)}
	names := r.Perm(g.N)
	for range r.Intn(2 * g.N) {
		if a, b := r.Intn(g.N), r.Intn(g.N); a < b {
			g.Edges = append(g.Edges, [2]int{names[a], names[b]})
		}
	}
	return g
}

func TestAgainstAllSubsets(t *testing.T) {
	r := rand.New(rand.NewSource(9))
	for range 200 {
		g := randomGraph(r)
		var closed []uint64
		for set := range uint64(1) << g.N {
			if ok, _ := g.Closed(set); ok {
				closed = append(closed, set)
			}
		}
		all, e := All(g)
		ways, e2 := Ways(g)
		if e != api.OK || e2 != api.OK || !slices.Equal(all, closed) || ways != countWays(g, 0) {
			t.Fatal(g, all, ways)
		}
		set := r.Uint64() & (1<<g.N - 1)
		down, _ := Down(g, set)
		for _, c := range closed {
			if c&set == set && c&down != down {
				t.Fatal(g, set, down, c)
			}
		}
		if !slices.Contains(closed, down) || down&set != set {
			t.Fatal(g, set, down)
		}
		way, _ := Way(g, []int{r.Int(), -r.Int(), r.Int()})
		var done uint64
		for _, node := range way {
			done |= 1 << node
			if !slices.Contains(closed, done) {
				t.Fatal(g, way)
			}
		}
	}
}
