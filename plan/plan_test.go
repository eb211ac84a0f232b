package plan

import (
	"math"
	"math/rand"
	"reflect"
	"slices"
	"strconv"
	"testing"

	"slipway/api"
	"slipway/catalog"
	"slipway/ranges"
	"slipway/semver"
)

func span(t *testing.T, s string) ranges.Range {
	t.Helper()
	r, e := ranges.Parse(s)
	if e != api.OK {
		t.Fatal(s, e)
	}
	return r
}

// service has releases 1.0.0, 2.0.0 and on, of these levels.
func service(name string, levels ...int) catalog.Service {
	s := catalog.Service{Name: name}
	for v, level := range levels {
		s.Releases = append(s.Releases, catalog.Release{Version: semver.Version{Major: v + 1}, Level: level})
	}
	return s
}

// sample is a, whose second release is one level up; b, whose first release bears a's first one alone; and c, which leaps.
func sample(t *testing.T) catalog.Catalog {
	c := catalog.Catalog{Services: []catalog.Service{service("a", 0, 1), service("b", 0, 0), service("c", 0, 2, 3)}}
	c.Services[1].Releases[0].Needs = []catalog.Need{{Service: 0, Range: span(t, "^1.0.0")}}
	c.Services[1].Releases[1].Needs = []catalog.Need{{Service: 0, Range: span(t, "*")}}
	if _, _, e := c.Check(); e != api.OK {
		t.Fatal(e)
	}
	return c
}

// stuck is two services of which neither new release bears the other's old one.
func stuck(t *testing.T) catalog.Catalog {
	c := catalog.Catalog{Services: []catalog.Service{service("a", 0, 0), service("b", 0, 1)}}
	c.Services[1].Releases[0].Needs = []catalog.Need{{Service: 0, Range: span(t, "=1.0.0")}}
	c.Services[1].Releases[1].Needs = []catalog.Need{{Service: 0, Range: span(t, "=2.0.0")}}
	return c
}

// P10.1
func TestMake(t *testing.T) {
	c := sample(t)
	p, e := Make(c, []int{0, 0, 0}, []int{1, 1, 0})
	want := Plan{[]int{0, 0, 0}, []int{1, 1, 0}, []Step{{0, 1}, {0, 2}, {0, 3}, {1, 2}}, [][2]int{{0, 1}, {1, 2}, {3, 1}}}
	if e != api.OK || !reflect.DeepEqual(p, want) {
		t.Error(p, e)
	}
	for _, k := range []struct {
		c        catalog.Catalog
		from, to []int
		steps    []Step
		e        api.Errno
	}{
		{c, []int{0, 0, 0}, []int{0, 0, 0}, nil, api.OK}, {c, []int{0, 1, 0}, []int{0, 0, 0}, []Step{{1, 2}}, api.OK},
		{c, []int{0, 0, 1}, []int{0, 1, 2}, []Step{{1, 2}, {2, 1}, {2, 2}, {2, 3}}, api.OK},
		{c, nil, []int{0, 0, 0}, nil, api.ErrMap}, {c, []int{0, 0, 0}, []int{0, 0}, nil, api.ErrMap}, {c, []int{0, 2, 0}, []int{0, 0, 0}, nil, api.ErrMap}, {c, []int{1, 0, 0}, []int{0, -1, 0}, nil, api.ErrMap},
		{c, []int{1, 0, 0}, []int{1, 1, 0}, nil, api.ErrState}, {c, []int{0, 0, 0}, []int{1, 0, 1}, nil, api.ErrState},
		{c, []int{0, 0, 0}, []int{0, 0, 1}, nil, api.ErrLeap}, {c, []int{1, 1, 0}, []int{0, 1, 0}, nil, api.ErrLeap}, {c, []int{0, 0, 2}, []int{0, 0, 1}, nil, api.ErrLeap},
		{stuck(t), []int{0, 0}, []int{1, 1}, nil, api.ErrStuck},
	} {
		p, e := Make(k.c, k.from, k.to)
		if e != k.e || !slices.Equal(p.Steps, k.steps) || e != api.OK && !reflect.DeepEqual(p, Plan{}) {
			t.Error(k.from, k.to, p, e)
		}
	}
}

func TestBeforeStandsInItsOrder(t *testing.T) {
	c := catalog.Catalog{Services: []catalog.Service{service("a", 0, 1), service("b", 0, 1)}}
	c.Services[1].Releases[0].Needs = []catalog.Need{{Service: 0, Range: span(t, "=1.0.0")}}
	p, e := Make(c, []int{0, 0}, []int{1, 1})
	if e != api.OK || !slices.Equal(p.Before, [][2]int{{0, 1}, {1, 2}, {3, 4}, {4, 1}, {4, 5}}) {
		t.Error(p, e)
	}
}

func TestAPlanIsNewMemory(t *testing.T) {
	from, to := []int{0, 0, 0}, []int{1, 1, 0}
	p, _ := Make(sample(t), from, to)
	p.From[0], p.To[0] = 9, 9
	g := p.Graph()
	g.Edges[0] = [2]int{9, 9}
	if from[0] != 0 || to[0] != 1 || p.Before[0] != [2]int{0, 1} {
		t.Error(from, to, p)
	}
}

// P10.2
func TestCheck(t *testing.T) {
	c := sample(t)
	right, _ := Make(c, []int{0, 0, 1}, []int{1, 1, 2})
	for i, k := range []struct {
		change func(p *Plan)
		want   api.Errno
	}{
		{func(p *Plan) {}, api.OK},
		{func(p *Plan) { p.Before = append(p.Before, [2]int{0, 6}, [2]int{0, 6}) }, api.OK},
		{func(p *Plan) { p.Before = append(slices.Repeat([][2]int{{0, 1}}, 4096-len(p.Before)), p.Before...) }, api.OK},
		{func(p *Plan) { p.Before = append(slices.Repeat([][2]int{{0, 1}}, 4097-len(p.Before)), p.Before...) }, api.ErrPlan},
		{func(p *Plan) { p.From = nil }, api.ErrMap}, {func(p *Plan) { p.To = append(p.To, 0) }, api.ErrMap}, {func(p *Plan) { p.From = []int{1, 0, 1} }, api.ErrState}, {func(p *Plan) { p.From = []int{0, 0, 0}; p.Steps = nil }, api.ErrLeap},
		{func(p *Plan) { p.Steps = p.Steps[:6] }, api.ErrPlan}, {func(p *Plan) { p.Steps = append(p.Steps, Step{2, 3}) }, api.ErrPlan}, {func(p *Plan) { p.Steps[3].Kind = 1 }, api.ErrPlan}, {func(p *Plan) { p.Steps[0], p.Steps[1] = p.Steps[1], p.Steps[0] }, api.ErrPlan},
		{func(p *Plan) { p.Before = append(p.Before, [2]int{1, 7}) }, api.ErrPlan}, {func(p *Plan) { p.Before = append(p.Before, [2]int{-1, 1}) }, api.ErrPlan},
		{func(p *Plan) { p.Before = append(p.Before, [2]int{2, 0}) }, api.ErrPlan}, {func(p *Plan) { p.Before = append(p.Before, [2]int{5, 5}) }, api.ErrPlan},
		{func(p *Plan) { p.Before = nil }, api.ErrPlan},
		{func(p *Plan) { p.Before = [][2]int{{0, 1}, {1, 2}, {4, 5}, {5, 6}} }, api.ErrPlan},
		{func(p *Plan) { p.Before = [][2]int{{1, 2}, {3, 1}, {4, 5}, {5, 6}} }, api.ErrPlan},
		{func(p *Plan) { p.Before = [][2]int{{0, 1}, {3, 1}, {4, 5}, {5, 6}} }, api.ErrPlan},
		// By way of other steps is as good.
		{func(p *Plan) { p.Before = [][2]int{{3, 0}, {0, 1}, {1, 2}, {4, 5}, {5, 6}} }, api.OK},
		{func(p *Plan) { p.Before = [][2]int{{0, 4}, {4, 1}, {1, 2}, {3, 5}, {5, 1}, {4, 5}, {5, 6}} }, api.OK},
	} {
		p := Plan{slices.Clone(right.From), slices.Clone(right.To), slices.Clone(right.Steps), slices.Clone(right.Before)}
		k.change(&p)
		if e := Check(c, p); e != k.want {
			t.Error(i, e)
		}
	}
}

// P10.3
func TestGraphFleetVector(t *testing.T) {
	c := sample(t)
	p, _ := Make(c, []int{0, 0, 0}, []int{1, 1, 0})
	if g := p.Graph(); g.N != 4 || !slices.Equal(g.Edges, p.Before) {
		t.Error(g)
	}
	for set, want := range map[uint64][]complex128{0: {0, 0, 0}, 1: {1i, 0, 0}, 8: {0, 1, 0}, 11: {1 + 1i, 1, 0}, 15: {1 + 2i, 1, 0}, 2: {1, 0, 0}, 5: {2i, 0, 0}} {
		if fleet, e := Fleet(c, p, set); e != api.OK || !slices.Equal(fleet, want) {
			t.Error(set, fleet, e)
		}
	}
	for step, want := range []complex128{1i, 1, 1i, 1} {
		if z, e := Vector(p, step); e != api.OK || z != want {
			t.Error(step, z, e)
		}
	}
	for i, k := range []struct {
		p   Plan
		set uint64
		e   api.Errno
	}{
		{p, 16, api.ErrStep}, {p, 1 << 63, api.ErrStep}, {Plan{From: p.From, To: p.To}, 1, api.ErrStep},
		{Plan{From: []int{0, 0}, To: p.To}, 16, api.ErrMap}, {Plan{From: p.From, To: []int{0, 0, 3}}, 0, api.ErrMap},
		{Plan{p.From, p.To, []Step{{3, 1}}, nil}, 1, api.ErrStep}, {Plan{p.From, p.To, []Step{{-1, 2}}, nil}, 1, api.ErrStep}, {Plan{p.From, p.To, []Step{{0, 0}}, nil}, 1, api.ErrStep}, {Plan{p.From, p.To, []Step{{0, 4}}, nil}, 1, api.ErrStep},
		{Plan{[]int{0, 1, 0}, []int{0, 0, 0}, []Step{{1, 2}, {1, 2}}, nil}, 3, api.ErrBig}, {Plan{[]int{0, 1, 0}, []int{0, 0, 0}, []Step{{1, 2}, {1, 2}}, nil}, 2, api.OK},
	} {
		fleet, e := Fleet(c, k.p, k.set)
		if e != k.e || e != api.OK && fleet != nil {
			t.Error(i, fleet, e)
		}
	}
	long := Plan{p.From, p.To, slices.Repeat([]Step{{2, 1}}, 100), nil}
	if fleet, e := Fleet(c, long, math.MaxUint64); e != api.OK || fleet[2] != 64i {
		t.Error(fleet, e)
	}
}

func TestVectorErrors(t *testing.T) {
	big := api.MaxPart + 1
	for i, k := range []struct {
		p    Plan
		step int
		z    complex128
		e    api.Errno
	}{
		{Plan{}, 0, 0, api.ErrStep}, {Plan{Steps: []Step{{0, 1}}}, 1, 0, api.ErrStep}, {Plan{Steps: []Step{{0, 1}}}, -1, 0, api.ErrStep}, {Plan{Steps: []Step{{0, 1}}}, math.MaxInt, 0, api.ErrStep},
		{Plan{Steps: []Step{{0, 0}}}, 0, 0, api.ErrStep}, {Plan{Steps: []Step{{0, 4}}}, 0, 0, api.ErrStep},
		{Plan{Steps: []Step{{-9, 1}}}, 0, 1i, api.OK}, {Plan{Steps: []Step{{99, 3}}}, 0, 1i, api.OK},
		{Plan{Steps: []Step{{0, 2}}}, 0, 0, api.ErrStep}, {Plan{From: []int{0}, Steps: []Step{{0, 2}}}, 0, 0, api.ErrStep}, {Plan{To: []int{0}, Steps: []Step{{0, 2}}}, 0, 0, api.ErrStep}, {Plan{[]int{0}, []int{0}, []Step{{-1, 2}}, nil}, 0, 0, api.ErrStep},
		{Plan{[]int{0, 4}, []int{0, 1}, []Step{{1, 2}}, nil}, 0, -3, api.OK}, {Plan{[]int{big}, []int{0}, []Step{{0, 2}}, nil}, 0, 0, api.ErrBig}, {Plan{[]int{0}, []int{-1}, []Step{{0, 2}}, nil}, 0, 0, api.ErrBig},
	} {
		if z, e := Vector(k.p, k.step); z != k.z || e != k.e {
			t.Error(i, z, e)
		}
	}
}

// P10.4
func TestCompensate(t *testing.T) {
	p, _ := Make(sample(t), []int{0, 0, 0}, []int{1, 1, 0})
	wrong := Plan{Steps: p.Steps, Before: [][2]int{{0, 9}}}
	long := Plan{Steps: slices.Repeat([]Step{{0, 1}}, 65)}
	for i, k := range []struct {
		p          Plan
		done, want []int
		e          api.Errno
	}{
		{p, nil, nil, api.OK}, {p, []int{0, 3, 1}, []int{1, 3, 0}, api.OK}, {p, []int{3, 0, 1, 2}, []int{2, 1, 0, 3}, api.OK},
		{p, []int{1}, nil, api.ErrOrder}, {p, []int{0, 1, 3}, nil, api.ErrOrder}, {p, []int{0, 3, 2, 1}, nil, api.ErrOrder},
		{p, []int{1, 4}, nil, api.ErrStep}, {p, []int{-1}, nil, api.ErrStep}, {p, []int{1, 1}, nil, api.ErrStep}, {p, []int{0, 3, 0}, nil, api.ErrStep},
		{wrong, nil, nil, api.ErrNode}, {wrong, []int{0}, nil, api.ErrNode}, {wrong, []int{9}, nil, api.ErrStep}, {long, []int{64}, nil, api.ErrNode},
	} {
		kept := slices.Clone(k.done)
		if back, e := Compensate(k.p, k.done); e != k.e || !slices.Equal(back, k.want) || !slices.Equal(kept, k.done) {
			t.Error(i, back, e)
		}
	}
}

// randomCatalog has few services, so that all closed sets can be gone through.
func randomCatalog(t *testing.T, r *rand.Rand) catalog.Catalog {
	var c catalog.Catalog
	signs := []string{"=", "<=", ">="}
	for i := range 2 + r.Intn(2) {
		s := catalog.Service{Name: "s" + strconv.Itoa(i)}
		level := r.Intn(2)
		for v := range 2 + r.Intn(2) {
			release := catalog.Release{Version: semver.Version{Major: v}, Level: level}
			level += r.Intn(2)
			for j := range i {
				if r.Intn(2) == 0 {
					release.Needs = append(release.Needs, catalog.Need{Service: j, Range: span(t, signs[r.Intn(3)]+strconv.Itoa(r.Intn(3))+".0.0")})
				}
			}
			s.Releases = append(s.Releases, release)
		}
		c.Services = append(c.Services, s)
	}
	return c
}

// allGood goes through all sets of steps.
func allGood(t *testing.T, c catalog.Catalog, p Plan) bool {
	for set := range uint64(1) << len(p.Steps) {
		closed, e := p.Graph().Closed(set)
		if e != api.OK {
			t.Fatal(e)
		}
		fleet, e := Fleet(c, p, set)
		if closed && (e != api.OK || !c.Good(fleet)) {
			return false
		}
	}
	return true
}

// deployable looks for an order of the deploys, each as one step, in which the releases that run fit all the time.
func deployable(c catalog.Catalog, now []int, to []int) bool {
	if slices.Equal(now, to) {
		return true
	}
	for i := range now {
		if now[i] == to[i] {
			continue
		}
		next := slices.Clone(now)
		next[i] = to[i]
		fleet, _ := c.Settled(next)
		if c.Good(fleet) && deployable(c, next, to) {
			return true
		}
	}
	return false
}

func TestPlansAreRightAtEveryClosedSet(t *testing.T) {
	r := rand.New(rand.NewSource(10))
	made, stuck, refused, kept := 0, 0, 0, 0
	for range 3000 {
		c := randomCatalog(t, r)
		var from, to []int
		for _, s := range c.Services {
			from = append(from, r.Intn(len(s.Releases)))
			to = append(to, r.Intn(len(s.Releases)))
		}
		p, e := Make(c, from, to)
		if e == api.ErrStuck {
			stuck++
			if deployable(c, from, to) {
				t.Fatal(c, from, to)
			}
		}
		if e != api.OK {
			continue
		}
		made++
		if Check(c, p) != api.OK || !allGood(t, c, p) || !deployable(c, from, to) {
			t.Fatal(c, p)
		}
		if len(p.Before) == 0 {
			continue
		}
		// Without one of the pairs it is right only if still every closed set is good, and each service's steps keep their order.
		less := p
		less.Before = slices.Delete(slices.Clone(p.Before), 0, 1)
		reach, _ := less.Graph().Reach()
		inOrder := true
		for i := range len(p.Steps) - 1 {
			if p.Steps[i].Service == p.Steps[i+1].Service && reach[i]>>(i+1)&1 == 0 {
				inOrder = false
			}
		}
		want := api.ErrPlan
		if inOrder && allGood(t, c, less) {
			want = api.OK
			kept++
		} else {
			refused++
		}
		if e := Check(c, less); e != want {
			t.Fatal(c, less, e)
		}
	}
	if made < 100 || stuck == 0 || refused == 0 {
		t.Error("no mixture", made, stuck, refused, kept)
	}
}
