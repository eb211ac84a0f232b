package solve

import (
	"math"
	"math/rand"
	"reflect"
	"slices"
	"strconv"
	"testing"

	"slipway/api"
	"slipway/catalog"
	"slipway/ranges"
	"slipway/rank"
	"slipway/semver"
)

func span(t *testing.T, s string) ranges.Range {
	t.Helper()
	r, e := ranges.Parse(s)
	if e != api.OK {
		t.Fatal(s, e)
	}
	return r
}

// pair is layer 6's example.
func pair(t *testing.T) catalog.Catalog {
	one, two := semver.Version{Major: 1}, semver.Version{Major: 2}
	return catalog.Catalog{Services: []catalog.Service{
		{Name: "a", Releases: []catalog.Release{{Version: one}, {Version: two}}},
		{Name: "b", Releases: []catalog.Release{
			{Version: one, Needs: []catalog.Need{{Service: 0, Range: span(t, "^1.0.0")}}},
			{Version: two, Needs: []catalog.Need{{Service: 0, Range: span(t, "*")}}},
		}},
	}}
}

// P7.1
func TestCheck(t *testing.T) {
	c := pair(t)
	all := span(t, "*")
	for i, k := range []struct {
		now  []int
		q    Request
		want api.Errno
	}{
		{[]int{0, 0}, Request{nil, []int{0, 3}}, api.OK},
		{[]int{1, 0}, Request{nil, []int{0, 0}}, api.OK},
		{[]int{0}, Request{nil, nil}, api.ErrMap}, {nil, Request{nil, []int{0, 0}}, api.ErrMap}, {[]int{0, 2}, Request{nil, []int{0, 0}}, api.ErrMap}, {[]int{-1, 0}, Request{}, api.ErrMap}, {[]int{0, 0, 0}, Request{}, api.ErrMap},
		{[]int{0, 0}, Request{make([]Pin, 25), []int{0, 9}}, api.ErrCount}, {[]int{0, 0}, Request{nil, []int{0}}, api.ErrCount}, {[]int{0, 0}, Request{nil, []int{0, 0, 0}}, api.ErrCount},
		{[]int{0, 0}, Request{[]Pin{{9, all}}, []int{0, 4}}, api.ErrForm}, {[]int{0, 0}, Request{nil, []int{-1, 0}}, api.ErrForm}, {[]int{0, 0}, Request{[]Pin{{9, all}, {0, ranges.Range{}}}, []int{0, 0}}, api.ErrForm},
		{[]int{0, 0}, Request{[]Pin{{0, all}, {2, all}}, []int{0, 0}}, api.ErrService}, {[]int{0, 0}, Request{[]Pin{{-1, all}}, []int{0, 0}}, api.ErrService},
		{[]int{0, 0}, Request{slices.Repeat([]Pin{{1, all}}, 24), []int{0, 0}}, api.OK},
	} {
		if e := Check(c, k.now, k.q); e != k.want {
			t.Error(i, e)
		}
		for _, budget := range []int{0, api.MaxBudget} {
			if target, e := Solve(c, k.now, k.q, budget); k.want != api.OK && (e != k.want || target != nil) {
				t.Error(i, target, e)
			}
		}
	}
}

// P7.2
func TestSolveExamples(t *testing.T) {
	c := pair(t)
	one, two := span(t, "=1.0.0"), span(t, "=2.0.0")
	for i, k := range []struct {
		pins  []Pin
		modes []int
		want  []int
		e     api.Errno
	}{
		{nil, []int{0, 0}, []int{1, 1}, api.OK},
		{[]Pin{{1, one}}, []int{0, 0}, []int{0, 0}, api.OK},
		{[]Pin{{1, one}, {0, two}}, []int{0, 0}, nil, api.ErrUnsat},
		{[]Pin{{1, one}, {1, two}}, []int{0, 0}, nil, api.ErrUnsat},
		{nil, []int{1, 1}, []int{0, 0}, api.OK}, {nil, []int{2, 0}, []int{0, 1}, api.OK}, {nil, []int{0, 1}, []int{1, 1}, api.OK}, {nil, []int{3, 2}, []int{0, 0}, api.OK},
	} {
		if target, e := Solve(c, []int{0, 0}, Request{k.pins, k.modes}, 100); e != k.e || !slices.Equal(target, k.want) {
			t.Error(i, target, e)
		}
	}
	for _, budget := range []int{0, -1, math.MinInt, api.MaxBudget + 1, math.MaxInt} {
		if target, e := Solve(c, []int{0, 0}, Request{nil, []int{0, 0}}, budget); e != api.ErrBig || target != nil {
			t.Error(budget, target, e)
		}
	}
}

// P7.3
func TestMeets(t *testing.T) {
	c := pair(t)
	for i, k := range []struct {
		pins   []Pin
		target []int
		want   bool
	}{
		{nil, []int{0, 0}, true}, {nil, []int{0, 1}, true}, {nil, []int{1, 1}, true}, {nil, []int{1, 0}, false},
		{nil, []int{0}, false}, {nil, nil, false}, {nil, []int{0, 2}, false}, {nil, []int{-1, 0}, false}, {nil, []int{0, 0, 0}, false},
		{[]Pin{{0, span(t, "=1.0.0")}}, []int{0, 1}, true}, {[]Pin{{0, span(t, "=1.0.0")}}, []int{1, 1}, false},
		{[]Pin{{0, span(t, "*")}, {1, span(t, "<2.0.0")}}, []int{0, 1}, false},
		{[]Pin{{2, span(t, "*")}}, []int{0, 0}, false}, {[]Pin{{-1, span(t, "*")}}, []int{0, 0}, false}, {[]Pin{{0, ranges.Range{}}}, []int{0, 0}, false},
	} {
		if got := Meets(c, Request{k.pins, nil}, k.target); got != k.want {
			t.Error(i, got)
		}
	}
}

func randomRange(t *testing.T, r *rand.Rand) ranges.Range {
	n := strconv.Itoa(r.Intn(4))
	return span(t, []string{"*", "=", "<=", ">=", "^", ">=0.0.0 <"}[1+r.Intn(5)]+n+".0.0")
}

func randomCatalog(t *testing.T, r *rand.Rand) catalog.Catalog {
	var c catalog.Catalog
	for i := range 1 + r.Intn(4) {
		s := catalog.Service{Name: "s" + strconv.Itoa(i)}
		for v := range 1 + r.Intn(4) {
			release := catalog.Release{Version: semver.Version{Major: v}}
			for j := range i {
				if r.Intn(3) == 0 {
					release.Needs = append(release.Needs, catalog.Need{Service: j, Range: randomRange(t, r)})
				}
			}
			s.Releases = append(s.Releases, release)
		}
		c.Services = append(c.Services, s)
	}
	return c
}

// best goes through all choices of places in the orders, the preferred ones first.
func best(c catalog.Catalog, now []int, q Request) []int {
	var limits []int
	var orders [][]int
	for i, s := range c.Services {
		limits = append(limits, len(s.Releases))
		order, _ := rank.Order(q.Modes[i], len(s.Releases), now[i])
		orders = append(orders, order)
	}
	count, _ := rank.Count(limits)
	for index := range count {
		choice, _ := rank.Nth(limits, index)
		for i := range choice {
			choice[i] = orders[i][choice[i]]
		}
		if Meets(c, q, choice) {
			return choice
		}
	}
	return nil
}

// plainTries counts how many releases the plain search looks at, by a search that calls itself.
func plainTries(c catalog.Catalog, now []int, q Request) int {
	tries := 0
	var down func(chosen []int) bool
	down = func(chosen []int) bool {
		i := len(chosen)
		if i == len(c.Services) {
			return true
		}
		order, _ := rank.Order(q.Modes[i], len(c.Services[i].Releases), now[i])
		for _, v := range order {
			tries++
			bears := q.pinned(c, i, v)
			for j, w := range chosen {
				bears = bears && c.Fits(i, v, j, w)
			}
			if bears && down(append(slices.Clone(chosen), v)) {
				return true
			}
		}
		return false
	}
	down(nil)
	return tries
}

func TestSolveFindsTheMostPreferred(t *testing.T) {
	r := rand.New(rand.NewSource(7))
	unsat := 0
	for range 500 {
		c := randomCatalog(t, r)
		if _, _, e := c.Check(); e != api.OK {
			t.Fatal(e)
		}
		q := Request{}
		var now []int
		for _, s := range c.Services {
			q.Modes = append(q.Modes, r.Intn(4))
			now = append(now, r.Intn(len(s.Releases)))
		}
		for range r.Intn(3) {
			q.Pins = append(q.Pins, Pin{r.Intn(len(c.Services)), randomRange(t, r)})
		}
		want, wantErr := best(c, now, q), api.OK
		if want == nil {
			wantErr = api.ErrUnsat
			unsat++
		}
		kept := c.Clone()
		tries := plainTries(c, now, q)
		for _, budget := range []int{tries, api.MaxBudget} {
			if target, e := Solve(c, now, q, budget); e != wantErr || !slices.Equal(target, want) {
				t.Fatal(c, now, q, target, e, want)
			}
		}
		if tries > 1 {
			target, e := Solve(c, now, q, tries-1)
			if e != api.ErrBudget && (e != wantErr || !slices.Equal(target, want)) || e == api.ErrBudget && target != nil {
				t.Fatal(target, e)
			}
		}
		if !reflect.DeepEqual(kept, c) {
			t.Fatal("the catalogue was changed")
		}
	}
	if unsat == 0 || unsat == 500 {
		t.Error("no mixture", unsat)
	}
}

// hard is twelve services of which the last one's needs can't be met: the plain search looks at very many.
func hard(t *testing.T) catalog.Catalog {
	var c catalog.Catalog
	for i := range 12 {
		s := catalog.Service{Name: "s" + strconv.Itoa(i)}
		for v := range 12 {
			release := catalog.Release{Version: semver.Version{Major: v}}
			if i == 11 {
				release.Needs = []catalog.Need{{Service: 10, Range: span(t, "=99.0.0")}}
			}
			s.Releases = append(s.Releases, release)
		}
		c.Services = append(c.Services, s)
	}
	return c
}

func TestSolveEndsByItsBudget(t *testing.T) {
	target, e := Solve(hard(t), make([]int, 12), Request{nil, make([]int, 12)}, api.MaxBudget)
	if target != nil || e != api.ErrBudget && e != api.ErrUnsat {
		t.Error(target, e)
	}
}
