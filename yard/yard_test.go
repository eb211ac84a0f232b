package yard

import (
	"math"
	"reflect"
	"slices"
	"testing"

	"slipway/agent"
	"slipway/api"
	"slipway/engine"
	"slipway/plan"
	"slipway/ranges"
	"slipway/solve"
)

// text is the document's example: a's second release is one level up; b's first one bears a's first one alone.
const text = "service a\nrelease 1.0.0 level 0\nrelease 2.0.0 level 1\nservice b\nrelease 1.0.0 level 0\nneed a of ^1.0.0\nrelease 2.0.0 level 0\n"

var (
	usual  = engine.Config{Limit: 3, Tries: 2, Base: 3, Cap: 20}
	newest = solve.Request{Modes: []int{0, 0}}
	submit = Op{Kind: 1, N: 1000, Request: newest}
)

func setup() Setup {
	return Setup{text, []int{0, 0}, usual, 100000}
}

func newYard(t *testing.T) *Yard {
	t.Helper()
	y, line, e := New(setup())
	if e != api.OK || line != 0 {
		t.Fatal(line, e)
	}
	return y
}

func span(t *testing.T, s string) ranges.Range {
	t.Helper()
	r, e := ranges.Parse(s)
	if e != api.OK {
		t.Fatal(s, e)
	}
	return r
}

func (y *Yard) wants(t *testing.T, o Op, e api.Errno) {
	t.Helper()
	if a := y.Play(o); a.E != e || o.Kind != 2 && a.Action != (engine.Action{}) {
		t.Errorf("%+v: %+v", o, a)
	}
}

// does does the action, which must be one of those that may be done.
func (y *Yard) does(t *testing.T, kind int, step int, fate int) {
	t.Helper()
	pick := slices.Index(y.Actions(), engine.Action{Kind: kind, Step: step})
	if pick < 0 {
		t.Fatalf("%d of %d isn't among %v", kind, step, y.Actions())
	}
	if a := y.Play(Op{Kind: 2, N: pick, Fate: fate}); a.E != api.OK || a.Action != (engine.Action{Kind: kind, Step: step}) {
		t.Errorf("%d of %d: %+v", kind, step, a)
	}
}

func (y *Yard) stands(t *testing.T, number int, phase int, places ...complex128) {
	t.Helper()
	n, p := y.Status()
	s := y.State()
	if n != number || p != phase || s.Number != number || s.Phase != phase || !slices.Equal(y.Fleet().Places(), places) {
		t.Errorf("%d, %d: %v", n, p, y.Fleet().Places())
	}
}

// P20.1
func TestNew(t *testing.T) {
	for i, k := range []struct {
		change func(s *Setup)
		line   int
		e      api.Errno
	}{
		{func(s *Setup) {}, 0, api.OK}, {func(s *Setup) { s.Versions = []int{1, 1} }, 0, api.OK},
		{func(s *Setup) { s.Text += "x\n"; s.Versions = nil }, 8, api.ErrSyntax}, {func(s *Setup) { s.Text = "" }, 0, api.ErrCount}, {func(s *Setup) { s.Text += "service a\n" }, 8, api.ErrTwice}, {func(s *Setup) { s.Text += "release 3.0.0 level 0\nneed z of *\n" }, 8, api.ErrService},
		{func(s *Setup) { s.Versions = nil; s.Capacity = -1 }, 0, api.ErrMap}, {func(s *Setup) { s.Versions = []int{0, 2} }, 0, api.ErrMap}, {func(s *Setup) { s.Versions = []int{1, 0} }, 0, api.ErrMap},
		{func(s *Setup) { s.Capacity = -1; s.Config.Limit = 0 }, 0, api.ErrForm}, {func(s *Setup) { s.Capacity = api.MaxDock + 1 }, 0, api.ErrForm}, {func(s *Setup) { s.Config.Limit = 0 }, 0, api.ErrForm}, {func(s *Setup) { s.Capacity = 8 }, 0, api.ErrFull}, {func(s *Setup) { s.Capacity = 9 }, 0, api.OK},
	} {
		s := setup()
		k.change(&s)
		y, line, e := New(s)
		answers, line2, e2 := Run(s, []Op{{Kind: 9}, {Kind: 3}})
		if e != k.e || line != k.line || (y == nil) == (e == api.OK) || line2 != line || e2 != e {
			t.Error(i, line, e, line2, e2)
		}
		if want := []Answer{{E: api.ErrLine}, {}}; e == api.OK && !reflect.DeepEqual(answers, want) || e != api.OK && answers != nil {
			t.Error(i, answers)
		}
	}
}

// The document's ten examples, and P20.2.
func TestTheDocumentsExamples(t *testing.T) {
	y := newYard(t)
	y.wants(t, submit, api.OK)
	p := y.State().Plan
	if want := (plan.Plan{From: []int{0, 0}, To: []int{1, 1}, Steps: []plan.Step{{Service: 0, Kind: 1}, {Service: 0, Kind: 2}, {Service: 0, Kind: 3}, {Service: 1, Kind: 2}}, Before: [][2]int{{0, 1}, {1, 2}, {3, 1}}}); !reflect.DeepEqual(p, want) {
		t.Error(p)
	}
	if got := y.Actions(); !slices.Equal(got, []engine.Action{{Kind: 1, Step: 0}, {Kind: 1, Step: 3}}) {
		t.Error(got)
	}
	y.does(t, 1, 3, 0)
	y.does(t, 2, 3, 4)
	y.stands(t, 1, 1, 0, 1)
	y.wants(t, Op{Kind: 7}, api.OK)
	y.stands(t, 1, 1, 0, 1)
	if s := y.State(); !slices.Equal(s.Open, []int{3}) {
		t.Error(s)
	}
	y.does(t, 2, 3, 0)
	if y.Fleet().Changes() != 1 {
		t.Error(y.Fleet().Changes())
	}
	y.does(t, 1, 0, 0)
	y.does(t, 2, 0, 0)
	y.does(t, 1, 1, 0)
	y.does(t, 2, 1, 0)
	y.wants(t, submit, api.ErrState)
	y.wants(t, Op{Kind: 1}, api.ErrState)
	y.does(t, 3, 0, 0)
	y.wants(t, Op{Kind: 4}, api.ErrState)
	y.wants(t, submit, api.ErrState)
	y.wants(t, Op{Kind: 1}, api.ErrState)
	y.does(t, 1, 2, 0)
	y.does(t, 2, 2, 0)
	y.does(t, 5, 0, 0)
	y.stands(t, 1, 4, 1+2i, 1)
}

func TestAnAbort(t *testing.T) {
	y := newYard(t)
	y.wants(t, Op{Kind: 4}, api.ErrState)
	y.wants(t, submit, api.OK)
	y.does(t, 1, 3, 0)
	y.does(t, 2, 3, 6)
	y.wants(t, Op{Kind: 3, N: 3}, api.OK)
	y.does(t, 2, 3, 0)
	y.does(t, 1, 0, 0)
	y.does(t, 2, 0, 6)
	y.wants(t, Op{Kind: 4}, api.OK)
	y.wants(t, submit, api.ErrState)
	y.wants(t, Op{Kind: 1}, api.ErrState)
	y.does(t, 4, 0, 0)
	y.does(t, 4, 3, 0)
	y.does(t, 5, 0, 0)
	y.stands(t, 1, 5, 0, 0)
	for range 2 {
		y.wants(t, Op{Kind: 5}, api.ErrKey)
	}
	y.stands(t, 1, 5, 0, 0)
	y.wants(t, submit, api.OK)
	y.stands(t, 2, 1, 0, 0)
	y.does(t, 1, 3, 0)
	y.does(t, 2, 3, 2)
	y.stands(t, 2, 2, 0, 0)
}

func TestSubmitErrors(t *testing.T) {
	y := newYard(t)
	before := y.State()
	for i, k := range []struct {
		o Op
		e api.Errno
	}{
		{Op{Kind: 1, N: 1000, Request: solve.Request{Pins: []solve.Pin{{Service: 1, Range: span(t, "=9.0.0")}}, Modes: []int{0, 0}}}, api.ErrUnsat},
		{Op{Kind: 1, N: 1000, Request: solve.Request{Modes: []int{0}}}, api.ErrCount}, {Op{Kind: 1, N: 0, Request: newest}, api.ErrBig}, {Op{Kind: 1, N: 1000, Request: solve.Request{Modes: []int{0, 7}}}, api.ErrForm},
		{Op{Kind: 1, N: 1000, Request: solve.Request{Pins: []solve.Pin{{Service: 2, Range: span(t, "*")}}, Modes: []int{0, 0}}}, api.ErrService},
	} {
		if a := y.Play(k.o); a.E != k.e {
			t.Error(i, a)
		}
	}
	y.wants(t, Op{Kind: 8, N: 0}, api.OK)
	y.wants(t, submit, api.ErrFull)
	if !reflect.DeepEqual(y.State(), before) {
		t.Error(y.State())
	}
	y.wants(t, Op{Kind: 8, N: 1000}, api.OK)
	y.wants(t, submit, api.OK)
	leap := setup()
	leap.Text = "service a\nrelease 1.0.0 level 0\nrelease 2.0.0 level 2\n"
	leap.Versions = []int{0}
	answers, _, _ := Run(leap, []Op{{Kind: 1, N: 9, Request: solve.Request{Modes: []int{0}}}, {Kind: 1, N: 9, Request: solve.Request{Modes: []int{2}}}})
	if answers[0].E != api.ErrLeap || answers[1].E != api.OK {
		t.Error(answers)
	}
	stuck := setup()
	stuck.Text = "service a\nrelease 1.0.0 level 0\nrelease 2.0.0 level 0\nservice b\nrelease 1.0.0 level 0\nneed a of =1.0.0\nrelease 2.0.0 level 0\nneed a of =2.0.0\n"
	answers, _, _ = Run(stuck, []Op{submit})
	if answers[0].E != api.ErrStuck {
		t.Error(answers)
	}
}

func TestDoTickAndOthers(t *testing.T) {
	y := newYard(t)
	y.wants(t, Op{Kind: 2}, api.ErrState)
	y.wants(t, Op{Kind: 3, N: -1}, api.ErrForm)
	y.wants(t, Op{Kind: 3, N: 1 << 40}, api.OK)
	y.wants(t, Op{Kind: 5}, api.ErrKey)
	for _, kind := range []int{0, 9, -1, math.MaxInt, math.MinInt} {
		y.wants(t, Op{Kind: kind}, api.ErrLine)
	}
	y.wants(t, submit, api.OK)
	if a := y.Play(Op{Kind: 2, N: -1}); a.Action != (engine.Action{Kind: 1, Step: 3}) || a.E != api.OK {
		t.Error(a)
	}
	y.wants(t, Op{Kind: 8, N: 0}, api.OK)
	if a := y.Play(Op{Kind: 2, N: 1}); a.Action != (engine.Action{Kind: 2, Step: 3}) || a.E != api.ErrFull {
		t.Error(a)
	}
	y.stands(t, 1, 1, 0, 1)
}

func TestCrashes(t *testing.T) {
	y := newYard(t)
	y.wants(t, Op{Kind: 6, N: 0}, api.OK)
	y.wants(t, submit, api.ErrDown)
	y.wants(t, submit, api.ErrClosed)
	y.stands(t, 0, 0, 0, 0)
	y.wants(t, Op{Kind: 7, Keep: []int{1000}}, api.OK)
	y.stands(t, 1, 1, 0, 0)
	y.wants(t, Op{Kind: 7, N: 1}, api.ErrDown)
	for kind := 1; kind <= 4; kind++ {
		y.wants(t, Op{Kind: kind, N: -1}, api.ErrClosed)
	}
	y.stands(t, 0, 0, 0, 0)
	if y.Actions() != nil || !reflect.DeepEqual(y.Catalog(), newYard(t).Catalog()) {
		t.Error(y.Actions())
	}
	y.Fleet().Call(agent.Order{Key: 1, Step: 1i}, 6)
	y.wants(t, Op{Kind: 5, N: 1}, api.ErrKey)
	y.wants(t, Op{Kind: 5, N: 0}, api.OK)
	y.wants(t, Op{Kind: 6, N: 5}, api.OK)
	y.wants(t, Op{Kind: 8, N: 500}, api.OK)
	y.wants(t, Op{Kind: 10}, api.ErrLine)
	// Opening a log that is whole syncs its file; the next call of the dock goes down.
	y.wants(t, Op{Kind: 7, N: 2}, api.OK)
	y.stands(t, 1, 1, 1i, 0)
	y.wants(t, Op{Kind: 4}, api.ErrDown)
	y.stands(t, 1, 1, 1i, 0)
	y.wants(t, Op{Kind: 7}, api.OK)
	y.stands(t, 1, 1, 1i, 0)
}

func TestWhatIsToldIsNewMemory(t *testing.T) {
	y := newYard(t)
	c := y.Catalog()
	c.Services[0].Releases[0].Level = 5
	c.Services[1].Releases[0].Needs[0].Range.Any[0][0].Op = 0
	if !reflect.DeepEqual(y.Catalog(), newYard(t).Catalog()) {
		t.Error("the catalogue was changed")
	}
	s := setup()
	z, _, _ := New(s)
	s.Versions[0] = 1
	z.stands(t, 0, 0, 0, 0)
	z.wants(t, submit, api.OK)
	z.State().Plan.Steps[0].Kind = 9
	z.Actions()[0].Kind = 9
	if z.State().Plan.Steps[0].Kind != 1 || z.Actions()[0].Kind != 1 {
		t.Error(z.State())
	}
}
