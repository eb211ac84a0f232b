package yard

import (
	"math/rand"
	"reflect"
	"slices"
	"strconv"
	"testing"

	"slipway/api"
	"slipway/audit"
	"slipway/catalog"
	"slipway/engine"
	"slipway/manifest"
	"slipway/plan"
	"slipway/saga"
	"slipway/semver"
	"slipway/solve"
)

// randomText is a manifest of few services whose releases are a level up now and then.
func randomText(t *testing.T, r *rand.Rand) string {
	t.Helper()
	var c catalog.Catalog
	for i := range 1 + r.Intn(5) {
		s := catalog.Service{Name: "s" + strconv.Itoa(i)}
		level := r.Intn(3)
		for v := range 1 + r.Intn(4) {
			release := catalog.Release{Version: semver.Version{Major: v}, Level: level}
			level += r.Intn(2)
			for j := range i {
				if r.Intn(3) == 0 {
					sign := []string{"=", "<=", ">=", ">="}[r.Intn(4)]
					release.Needs = append(release.Needs, catalog.Need{Service: j, Range: span(t, sign+strconv.Itoa(r.Intn(4))+".0.0")})
				}
			}
			s.Releases = append(s.Releases, release)
		}
		c.Services = append(c.Services, s)
	}
	text, e := manifest.Text(c)
	if e != api.OK {
		t.Fatal(e)
	}
	return text
}

func randomSetup(t *testing.T, r *rand.Rand) (Setup, *Yard) {
	t.Helper()
	for {
		s := Setup{Text: randomText(t, r), Config: engine.Config{Limit: 1 + r.Intn(4), Tries: r.Intn(4), Base: r.Intn(4), Cap: r.Intn(20)}, Capacity: 200 + r.Intn(2000)}
		c, _, _ := manifest.Parse(s.Text)
		for _, service := range c.Services {
			s.Versions = append(s.Versions, r.Intn(len(service.Releases)))
		}
		if y, _, e := New(s); e == api.OK {
			return s, y
		}
	}
}

func randomRequest(t *testing.T, r *rand.Rand, c catalog.Catalog) solve.Request {
	var q solve.Request
	for i := range c.Services {
		q.Modes = append(q.Modes, []int{0, 0, 3, 1, 2}[r.Intn(5)])
		if r.Intn(6) == 0 {
			q.Pins = append(q.Pins, solve.Pin{Service: i, Range: span(t, []string{"*", ">=1.0.0", "<=2.0.0"}[r.Intn(3)])})
		}
	}
	return q
}

// randomOp is mostly work, and now and then a mishap.
func randomOp(t *testing.T, r *rand.Rand, y *Yard) Op {
	c := y.Catalog()
	switch n := r.Intn(100); {
	case n < 12:
		return Op{Kind: 1, N: 100000, Request: randomRequest(t, r, c)}
	case n < 65:
		fate := 0
		if r.Intn(3) == 0 {
			fate = r.Intn(7)
		}
		return Op{Kind: 2, N: r.Intn(20) - 10, Fate: fate}
	case n < 76:
		return Op{Kind: 3, N: r.Intn(30)}
	case n < 78:
		return Op{Kind: 4}
	case n < 86:
		return Op{Kind: 5, N: r.Intn(3)}
	case n < 89:
		return Op{Kind: 6, N: r.Intn(8)}
	case n < 96:
		return Op{Kind: 7, N: max(0, r.Intn(20)-12), Keep: []int{r.Intn(40) - 5, r.Intn(40) - 5}}
	}
	return Op{Kind: 8, N: r.Intn(1200)}
}

// watch holds what a yard tells against what may be told.
type watch struct {
	t       *testing.T
	y       *Yard
	c       catalog.Catalog
	last    saga.State
	settled []complex128
	pending bool
	ends    map[int]int
}

func (w *watch) fail(o Op, a Answer, why string) {
	w.t.Helper()
	w.t.Fatalf("%s: %+v, %+v\nahead: %+v\nnow: %+v\n%v", why, o, a, w.last, w.y.State(), w.y.Fleet().Places())
}

// play plays an op, and looks at all that P20.4 and P20.5 promise.
func (w *watch) play(o Op) Answer {
	w.t.Helper()
	changes := w.y.Fleet().Changes()
	a := w.y.Play(o)
	places := w.y.Fleet().Places()
	if !w.c.Good(places) {
		w.fail(o, a, "the fleet isn't good")
	}
	if w.y.engine == nil {
		return a
	}
	s := w.y.State()
	if o.Kind == 7 {
		w.crashed(o, a, s)
	} else if a.E == api.ErrDown {
		w.pending = true
	}
	w.ended(o, a, s, places)
	w.keys(o, a, s)
	if w.y.Fleet().Changes()-changes > 1 {
		w.fail(o, a, "more than one change")
	}
	w.last = s
	return a
}

// crashed asks for the state ahead of a crash, or the one behind the record that was being logged.
func (w *watch) crashed(o Op, a Answer, s saga.State) {
	w.t.Helper()
	bare := func(s saga.State) saga.State {
		if s.Phase >= 4 {
			s.Plan, s.Open, s.Done = plan.Plan{}, nil, nil
		}
		return s
	}
	if !same(bare(s), bare(w.last)) && !(w.pending && follows(w.last, s)) {
		w.fail(o, a, "another state behind a crash")
	}
	w.pending = false
}

func same(a, b saga.State) bool {
	return a.Number == b.Number && a.Phase == b.Phase && slices.Equal(a.Open, b.Open) && slices.Equal(a.Done, b.Done) && slices.Equal(a.Plan.Steps, b.Plan.Steps) && slices.Equal(a.Plan.Before, b.Plan.Before) && slices.Equal(a.Plan.From, b.Plan.From) && slices.Equal(a.Plan.To, b.Plan.To)
}

// follows tells whether one record leads from one state to another one.
func follows(from, to saga.State) bool {
	if to.Number == from.Number+1 {
		return to.Phase == 1 && len(to.Open)+len(to.Done) == 0
	}
	for kind := 2; kind <= 8; kind++ {
		for step := range 36 {
			if next, e := from.Take(saga.Record{Kind: kind, Step: step}); e == api.OK && (same(next, to) || next.Phase >= 4 && next.Phase == to.Phase && next.Number == to.Number) {
				return true
			}
		}
	}
	return false
}

// ended asks whether what was told of an ended saga holds, and stays.
func (w *watch) ended(o Op, a Answer, s saga.State, places []complex128) {
	w.t.Helper()
	if s.Phase == 1 && (w.last.Phase == 0 || w.last.Phase >= 4) {
		from, _ := w.c.Settled(s.Plan.From)
		if !slices.Equal(from, w.settled) {
			w.fail(o, a, "the plan doesn't begin where the fleet is")
		}
	}
	if s.Phase == 4 && w.last.Phase == 3 {
		w.settled, _ = w.c.Settled(w.last.Plan.To)
		w.ends[4]++
	}
	if s.Phase == 5 && w.last.Phase == 2 {
		w.ends[5]++
	}
	if s.Phase == 0 || s.Phase >= 4 {
		if !slices.Equal(places, w.settled) {
			w.fail(o, a, "the fleet isn't where it ended")
		}
	}
	if w.last.Phase >= 4 && (s.Number != w.last.Number || s.Phase != w.last.Phase) && !(o.Kind == 1 && a.E == api.OK) && o.Kind != 7 {
		w.fail(o, a, "what was told didn't stay")
	}
}

// keys asks whether each key of the saga that is used is behind its intent.
func (w *watch) keys(o Op, a Answer, s saga.State) {
	w.t.Helper()
	for step := range s.Plan.Steps {
		used, dead := w.y.Fleet().Key(64*s.Number + step)
		begun := slices.Contains(s.Open, step) || slices.Contains(s.Done, step)
		if used && !begun || dead && s.Phase != 2 && s.Phase != 5 || slices.Contains(s.Done, step) && !used && s.Phase != 2 {
			w.fail(o, a, "a key of step "+strconv.Itoa(step))
		}
	}
}

// finish lets no more faults come, and asks whether the saga ends in time.
func (w *watch) finish() {
	w.t.Helper()
	w.play(Op{Kind: 8, N: api.MaxDock})
	if a := w.play(Op{Kind: 7, Keep: []int{3}}); a.E != api.OK {
		w.t.Fatal(a)
	}
	phase := w.last.Phase
	most := 3*len(w.last.Plan.Steps) + 2
	for n := 0; w.last.Phase >= 1 && w.last.Phase <= 3; n++ {
		if n == most {
			w.t.Fatal("it doesn't end", w.last)
		}
		w.play(Op{Kind: 3, N: api.MaxWait})
		before := w.last
		if a := w.play(Op{Kind: 2, N: n}); a.E != api.OK || reflect.DeepEqual(before, w.last) {
			w.t.Fatal("it isn't brought on", a, before)
		}
	}
	if phase == 2 && w.last.Phase != 5 || phase == 3 && w.last.Phase != 4 {
		w.t.Fatal("the wrong end", phase, w.last)
	}
}

// P20.4, P20.5, P20.6, and the document's P3
func TestScripts(t *testing.T) {
	r := rand.New(rand.NewSource(20))
	ends := map[int]int{}
	for range 1500 {
		_, y := randomSetup(t, r)
		w := &watch{t: t, y: y, c: y.Catalog(), settled: y.Fleet().Places(), ends: ends}
		for range 20 + r.Intn(150) {
			w.play(randomOp(t, r, y))
		}
		w.finish()
		for range len(y.Fleet().Late()) {
			w.play(Op{Kind: 5})
		}
	}
	if ends[4] < 100 || ends[5] < 100 {
		t.Error("too few ends", ends)
	}
}

func TestRunAnswersAsPlayDoes(t *testing.T) {
	r := rand.New(rand.NewSource(21))
	for range 50 {
		s, y := randomSetup(t, r)
		var ops []Op
		var want []Answer
		for range 60 {
			ops = append(ops, randomOp(t, r, y))
			want = append(want, y.Play(ops[len(ops)-1]))
		}
		if answers, line, e := Run(s, ops); e != api.OK || line != 0 || !reflect.DeepEqual(answers, want) {
			t.Fatal(answers, want)
		}
	}
}

// TestAFleetThatIsAudited holds the events of scripts without crashes against layer 19.
func TestAFleetThatIsAudited(t *testing.T) {
	r := rand.New(rand.NewSource(22))
	long := 0
	for range 300 {
		_, y := randomSetup(t, r)
		start := y.Fleet().Places()
		var events []audit.Event
		for range 120 {
			before := y.State()
			o := randomOp(t, r, y)
			if o.Kind >= 6 {
				continue
			}
			events = append(events, changesOf(y, o)...)
			after := y.State()
			if record, ok := recordBetween(before, after); ok {
				events = append(events, audit.Event{Kind: 1, Record: record})
			} else if !same(before, after) {
				t.Fatal(before, after)
			}
		}
		at, e := audit.Check(y.Catalog(), start, events)
		if at != len(events) || e != api.OK || !slices.Equal(audit.Fleet(y.Catalog(), start, events), y.Fleet().Places()) {
			t.Fatal(at, e, events)
		}
		if s, at := audit.Last(events); at != len(events) || !same(s, y.State()) {
			t.Fatal(s, at)
		}
		long = max(long, len(events))
	}
	if long < 30 {
		t.Error("too few events", long)
	}
}

// changesOf plays an op, and tells which orders changed the fleet.
func changesOf(y *Yard, o Op) []audit.Event {
	f := y.Fleet()
	s := y.State()
	type key struct{ used, dead bool }
	before := map[int]key{}
	for number := range s.Number + 1 {
		for step := range 36 {
			used, dead := f.Key(64*number + step)
			before[64*number+step] = key{used, dead}
		}
	}
	y.Play(o)
	var events []audit.Event
	for n, was := range before {
		used, dead := f.Key(n)
		if used && !was.used {
			events = append(events, audit.Event{Kind: 2, Key: n})
		}
		if dead && was.used {
			events = append(events, audit.Event{Kind: 2, Key: n, Undo: true})
		}
	}
	return events
}

// recordBetween is the record that leads from one state to another one.
func recordBetween(from, to saga.State) (saga.Record, bool) {
	if to.Number > from.Number {
		return saga.Record{Kind: 1, Plan: to.Plan}, true
	}
	for kind := 2; kind <= 8; kind++ {
		for step := range 36 {
			record := saga.Record{Kind: kind, Step: step}
			if next, e := from.Take(record); e == api.OK && same(next, to) {
				return record, true
			}
		}
	}
	return saga.Record{}, false
}
