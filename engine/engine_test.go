package engine

import (
	"math"
	"reflect"
	"slices"
	"testing"

	"slipway/agent"
	"slipway/api"
	"slipway/code"
	"slipway/dock"
	"slipway/plan"
	"slipway/saga"
	"slipway/wal"
	"slipway/words"
)

// sample is a's expand, deploy and contract, and b's deploy, which is ahead of a's.
func sample() plan.Plan {
	return plan.Plan{From: []int{0, 0}, To: []int{1, 1}, Steps: []plan.Step{{Service: 0, Kind: 1}, {Service: 0, Kind: 2}, {Service: 0, Kind: 3}, {Service: 1, Kind: 2}}, Before: [][2]int{{0, 1}, {1, 2}, {3, 1}}}
}

var usual = Config{Limit: 2, Tries: 2, Base: 3, Cap: 20}

// bench is an engine, and what it works on.
type bench struct {
	t *testing.T
	d *dock.Dock
	f *agent.Fleet
	x *Engine
}

func newBench(t *testing.T, c Config) *bench {
	t.Helper()
	b := &bench{t: t, d: dock.New(100000), f: agent.New([]complex128{0, 0})}
	b.open(c)
	return b
}

func (b *bench) open(c Config) {
	b.t.Helper()
	x, e := Open(b.d, b.f, c)
	if e != api.OK {
		b.t.Fatal(e)
	}
	b.x = x
}

func (b *bench) begin(p plan.Plan) {
	b.t.Helper()
	b.wantE(b.x.Begin(p), api.OK)
}

func (b *bench) wantE(got api.Errno, want api.Errno) {
	b.t.Helper()
	if got != want {
		b.t.Errorf("%d, not %d", got, want)
	}
}

// do does the action, which must be one of those that may be done.
func (b *bench) do(kind int, step int, fate int) api.Errno {
	b.t.Helper()
	pick := slices.Index(b.x.Actions(), Action{kind, step})
	if pick < 0 {
		b.t.Fatalf("%d of %d isn't among %v", kind, step, b.x.Actions())
	}
	a, e := b.x.Do(pick, fate)
	if a != (Action{kind, step}) {
		b.t.Errorf("%v", a)
	}
	return e
}

func (b *bench) well(kind int, step int, fate int) {
	b.t.Helper()
	b.wantE(b.do(kind, step, fate), api.OK)
}

func (b *bench) wantActions(want ...Action) {
	b.t.Helper()
	if got := b.x.Actions(); !slices.Equal(got, want) {
		b.t.Errorf("%v, not %v", got, want)
	}
}

func (b *bench) wantState(number int, phase int, open []int, done []int) {
	b.t.Helper()
	s := b.x.State()
	if s.Number != number || s.Phase != phase || !slices.Equal(s.Open, open) || !slices.Equal(s.Done, done) {
		b.t.Errorf("%+v", s)
	}
}

func (b *bench) wantPlaces(changes int, want ...complex128) {
	b.t.Helper()
	if got := b.f.Places(); !slices.Equal(got, want) || b.f.Changes() != changes {
		b.t.Errorf("%v, %d", got, b.f.Changes())
	}
}

// P18.1
func TestOpenAnswersTheConfig(t *testing.T) {
	f := agent.New([]complex128{0})
	down := dock.New(100)
	down.Arm(0)
	down.Append(0, nil)
	for _, c := range []Config{{}, {Limit: 0}, {Limit: 13}, {1, -1, 0, 0}, {1, 21, 0, 0}, {1, 0, -1, 0}, {1, 0, api.MaxWait + 1, 0}, {1, 0, 0, -1}, {1, 0, 0, api.MaxWait + 1}} {
		if x, e := Open(down, f, c); x != nil || e != api.ErrForm {
			t.Error(c, e)
		}
	}
	for _, c := range []Config{{1, 0, 0, 0}, {12, 20, api.MaxWait, api.MaxWait}} {
		if x, e := Open(dock.New(100), f, c); x == nil || e != api.OK {
			t.Error(c, e)
		}
	}
	if x, e := Open(down, f, usual); x != nil || e != api.ErrDown {
		t.Error(x, e)
	}
	if x, e := Open(dock.New(8), f, usual); x != nil || e != api.ErrFull {
		t.Error(x, e)
	}
}

// laid is a dock whose log has this base and these records.
func laid(t *testing.T, base []byte, records ...[]byte) *dock.Dock {
	t.Helper()
	d := dock.New(100000)
	l, _ := wal.Open(d)
	l.Rotate(base)
	for _, r := range records {
		l.Append(r)
	}
	return d
}

func encoded(t *testing.T, r saga.Record) []byte {
	t.Helper()
	b, e := saga.Encode(r)
	if e != api.OK {
		t.Fatal(r, e)
	}
	return b
}

func numbers(list ...int) []byte {
	b, _ := code.PutNumbers(list)
	return b
}

func TestOpenAnswersTheData(t *testing.T) {
	f := agent.New([]complex128{0, 0})
	begin := encoded(t, saga.Record{Kind: words.Begin, Plan: sample()})
	noVector := sample()
	noVector.To = nil
	noService := sample()
	noService.Steps = append(noService.Steps, plan.Step{Service: 2, Kind: 1})
	below := sample()
	below.From[0] = api.MaxPart + 1
	for i, d := range []*dock.Dock{
		laid(t, numbers(1)), laid(t, numbers(0, 4)), laid(t, numbers(1, 3)), laid(t, numbers(1, 6)), laid(t, numbers(1, 4, 0)), laid(t, numbers()), laid(t, []byte{2, 1}), laid(t, append(numbers(1, 4), 0)),
		laid(t, nil, []byte{9}), laid(t, nil, nil), laid(t, nil, begin[:5]), laid(t, nil, encoded(t, saga.Record{Kind: words.Abort})), laid(t, nil, begin, begin), laid(t, nil, begin, encoded(t, saga.Record{Kind: words.Intent, Step: 1})),
		laid(t, nil, encoded(t, saga.Record{Kind: words.Begin, Plan: noVector})), laid(t, nil, encoded(t, saga.Record{Kind: words.Begin, Plan: noService})), laid(t, nil, encoded(t, saga.Record{Kind: words.Begin, Plan: below})),
		laid(t, nil, begin, encoded(t, saga.Record{Kind: words.Abort}), encoded(t, saga.Record{Kind: words.End}), encoded(t, saga.Record{Kind: words.Begin, Plan: noService})),
	} {
		if x, e := Open(d, f, usual); x != nil || e != api.ErrData {
			t.Error(i, e)
		}
	}
	for i, k := range []struct {
		d    *dock.Dock
		want saga.State
	}{
		{laid(t, nil), saga.State{}}, {laid(t, numbers(1, 4)), saga.State{Number: 1, Phase: 4}}, {laid(t, numbers(7, 5)), saga.State{Number: 7, Phase: 5}},
		{laid(t, numbers(7, 5), begin, encoded(t, saga.Record{Kind: words.Intent, Step: 3})), saga.State{Number: 8, Phase: 1, Plan: sample(), Open: []int{3}}},
	} {
		x, e := Open(k.d, f, usual)
		if e != api.OK || !reflect.DeepEqual(x.State(), k.want) || x.Now() != 0 || x.Failed(3) != 0 {
			t.Error(i, e)
		}
	}
}

// P18.2
func TestBeginAndAbort(t *testing.T) {
	b := newBench(t, usual)
	b.wantE(b.x.Abort(), api.ErrState)
	wrong := func(change func(p *plan.Plan)) plan.Plan {
		p := sample()
		change(&p)
		return p
	}
	for i, k := range []struct {
		p plan.Plan
		e api.Errno
	}{
		{wrong(func(p *plan.Plan) { p.Before = append(p.Before, [2]int{2, 0}) }), api.ErrPlan}, {wrong(func(p *plan.Plan) { p.From = nil }), api.ErrPlan}, {wrong(func(p *plan.Plan) { p.To[0] = -1 }), api.ErrPlan},
		{wrong(func(p *plan.Plan) { p.Steps[0].Service = 2 }), api.ErrPlan}, {wrong(func(p *plan.Plan) { p.Steps[2].Service = -1 }), api.ErrPlan}, {wrong(func(p *plan.Plan) { p.From = append(p.From, -1) }), api.ErrForm},
		{wrong(func(p *plan.Plan) { p.From = append(p.From, make([]int, 70000)...) }), api.ErrBig},
	} {
		if e := b.x.Begin(k.p); e != k.e {
			t.Error(i, e)
		}
	}
	b.wantState(0, 0, nil, nil)
	b.begin(sample())
	b.wantState(1, 1, nil, nil)
	b.wantE(b.x.Begin(wrong(func(p *plan.Plan) { p.From = nil })), api.ErrState)
	b.wantE(b.x.Abort(), api.OK)
	b.wantState(1, 2, nil, nil)
	b.wantE(b.x.Abort(), api.ErrState)
	b.wantActions(Action{5, 0})
	b.well(5, 0, 0)
	b.wantState(1, 5, nil, nil)
	b.d.Grow(b.d.Size())
	b.wantE(b.x.Begin(sample()), api.ErrFull)
	b.wantState(1, 5, nil, nil)
	b.d.Grow(1000)
	b.begin(sample())
	b.wantState(2, 1, nil, nil)
	b.wantE(b.x.Tick(-1), api.ErrForm)
	b.wantE(b.x.Tick(5), api.OK)
	if b.x.Now() != 5 {
		t.Error(b.x.Now())
	}
}

// P18.3
func TestAllTheWay(t *testing.T) {
	b := newBench(t, usual)
	if a, e := b.x.Do(0, 0); a != (Action{}) || e != api.ErrState {
		t.Error(a, e)
	}
	b.begin(sample())
	b.wantActions(Action{1, 0}, Action{1, 3})
	b.well(1, 3, 0)
	b.wantActions(Action{1, 0}, Action{2, 3})
	b.well(1, 0, 0)
	b.wantActions(Action{2, 3}, Action{2, 0})
	b.well(2, 3, 0)
	b.wantPlaces(1, 0, 1)
	b.well(2, 0, 5)
	b.wantPlaces(2, 1i, 1)
	b.wantActions(Action{1, 1})
	b.well(1, 1, 0)
	b.well(2, 1, 0)
	b.wantState(1, 1, nil, []int{3, 0, 1})
	b.wantActions(Action{3, 0})
	b.well(3, 0, 0)
	b.wantState(1, 3, nil, []int{3, 0, 1})
	b.wantE(b.x.Abort(), api.ErrState)
	b.wantActions(Action{1, 2})
	b.well(1, 2, 0)
	b.well(2, 2, 0)
	b.wantActions(Action{5, 0})
	b.well(5, 0, 0)
	b.wantState(1, 4, nil, []int{3, 0, 1, 2})
	b.wantPlaces(4, 1+2i, 1)
	b.wantActions()
	if used, _ := b.f.Key(64*1 + 2); !used {
		t.Error("the key of the contract")
	}
	b.open(usual)
	b.wantState(1, 4, nil, nil)
	if len(b.x.State().Plan.Steps) != 0 {
		t.Error("the log wasn't rotated")
	}
}

func TestPicks(t *testing.T) {
	for _, k := range [][2]int{{0, 0}, {1, 3}, {2, 0}, {-1, 3}, {-2, 0}, {math.MaxInt, 3}, {math.MinInt, 0}} {
		b := newBench(t, usual)
		b.begin(sample())
		if a, e := b.x.Do(k[0], 0); a != (Action{1, k[1]}) || e != api.OK {
			t.Error(k, a, e)
		}
	}
}

func TestTheLimit(t *testing.T) {
	b := newBench(t, Config{1, 0, 0, 0})
	b.begin(sample())
	b.well(1, 3, 0)
	b.wantActions(Action{2, 3})
	b.well(2, 3, 0)
	b.wantActions(Action{1, 0})
}

func TestTriesThatFail(t *testing.T) {
	b := newBench(t, usual)
	b.begin(sample())
	b.well(1, 0, 0)
	b.well(1, 3, 0)
	b.well(2, 3, 4)
	b.wantPlaces(1, 0, 1)
	if b.x.Failed(3) != 1 || b.x.Failed(0) != 0 || b.x.Failed(-1) != 0 {
		t.Error(b.x.Failed(3))
	}
	b.wantActions(Action{2, 0})
	b.x.Tick(2)
	b.wantActions(Action{2, 0})
	b.x.Tick(1)
	b.wantActions(Action{2, 0}, Action{2, 3})
	b.well(2, 3, 1)
	b.x.Tick(5)
	b.wantActions(Action{2, 0})
	b.x.Tick(1)
	b.well(2, 3, 0)
	b.wantPlaces(1, 0, 1)
	if b.x.Failed(3) != 0 {
		t.Error(b.x.Failed(3))
	}
	b.wantState(1, 1, []int{0}, []int{3})
	for _, fate := range []int{3, 6} {
		b.well(2, 0, fate)
		b.x.Tick(100)
	}
	b.wantState(1, 1, []int{0}, []int{3})
	b.well(2, 0, 1)
	// More failed tries than Tries lead back; none is left then, nor an alarm.
	b.wantState(1, 2, []int{0}, []int{3})
	if b.x.Failed(0) != 0 {
		t.Error(b.x.Failed(0))
	}
	b.wantActions(Action{4, 0})
}

func TestAnswersThatFailAtOnce(t *testing.T) {
	b := newBench(t, usual)
	b.begin(sample())
	b.well(1, 0, 0)
	b.well(1, 3, 0)
	b.well(2, 3, 1)
	b.well(2, 0, 2)
	b.wantState(1, 2, []int{0, 3}, nil)
	if b.x.Failed(3) != 0 {
		t.Error(b.x.Failed(3))
	}
	b.wantActions(Action{4, 3})
	for i, spoil := range []func(b *bench){
		func(b *bench) { b.f.Call(agent.Order{Key: 64 + 3, Undo: true}, 0) },
		func(b *bench) { b.f.Call(agent.Order{Key: 9999, Service: 1, Step: api.MaxPart}, 0) },
	} {
		b := newBench(t, usual)
		b.begin(sample())
		spoil(b)
		b.well(1, 3, 0)
		b.well(2, 3, 0)
		if s := b.x.State(); s.Phase != words.Back {
			t.Error(i, s)
		}
	}
}

func TestTheWayBack(t *testing.T) {
	b := newBench(t, usual)
	b.begin(sample())
	b.well(1, 3, 0)
	b.well(2, 3, 0)
	b.well(1, 0, 0)
	b.well(2, 0, 4)
	b.wantE(b.x.Abort(), api.OK)
	b.wantActions(Action{4, 0})
	for i, fate := range []int{1, 2, 3, 4, 6} {
		b.well(4, 0, fate)
		if b.x.Failed(0) != i+1 {
			t.Error(fate, b.x.Failed(0))
		}
		b.wantActions()
		b.x.Tick(api.MaxWait)
	}
	b.wantState(1, 2, []int{0}, []int{3})
	b.wantPlaces(3, 0, 1)
	b.well(4, 0, 0)
	if b.x.Failed(0) != 0 {
		t.Error(b.x.Failed(0))
	}
	b.wantState(1, 2, nil, []int{3})
	b.wantActions(Action{4, 3})
	b.well(4, 3, 5)
	b.wantPlaces(4, 0, 0)
	b.wantActions(Action{5, 0})
	b.well(5, 0, 0)
	b.wantState(1, 5, nil, nil)
	// A late undo, and a late order of a dead key.
	b.wantE(b.f.Deliver(0), api.OK)
	b.wantE(b.f.Call(agent.Order{Key: 64 + 3, Service: 1, Step: 1}, 0), api.ErrKey)
	b.wantPlaces(4, 0, 0)
}

func TestBehindTheMarkNothingFails(t *testing.T) {
	b := newBench(t, Config{2, 0, 1, 1})
	b.begin(plan.Plan{From: []int{0}, To: []int{0}, Steps: []plan.Step{{Service: 0, Kind: 3}}})
	b.well(3, 0, 0)
	b.well(1, 0, 0)
	for i := range 30 {
		b.well(2, 0, 1+i%3)
		b.wantState(1, 3, []int{0}, nil)
		b.x.Tick(1)
	}
	if b.x.Failed(0) != 30 {
		t.Error(b.x.Failed(0))
	}
	b.well(2, 0, 0)
	b.well(5, 0, 0)
	b.wantState(1, 4, nil, []int{0})
}

func TestAtTheEndOfTime(t *testing.T) {
	b := newBench(t, Config{1, 20, 5, 5})
	for range 1024 {
		b.x.Tick(1 << 40)
	}
	b.wantE(b.x.Tick(1), api.ErrBig)
	b.begin(sample())
	b.well(1, 3, 0)
	b.well(2, 3, 1)
	b.well(2, 3, 0)
	b.wantState(1, 1, nil, []int{3})
}

// P18.4
func TestStateIsNewMemory(t *testing.T) {
	b := newBench(t, usual)
	b.begin(sample())
	b.well(1, 0, 0)
	b.well(1, 3, 0)
	b.well(2, 3, 0)
	s := b.x.State()
	s.Plan.From[0], s.Plan.To[0], s.Plan.Steps[0].Kind, s.Plan.Before[0][0], s.Open[0], s.Done[0] = 9, 9, 9, 9, 9, 9
	_ = append(s.Open, 9, 9)
	b.x.Actions()[0] = Action{}
	b.wantState(1, 1, []int{0}, []int{3})
	if !reflect.DeepEqual(b.x.State().Plan, sample()) {
		t.Error(b.x.State())
	}
}

// P18.5
func TestAFullDock(t *testing.T) {
	b := newBench(t, usual)
	b.begin(sample())
	b.d.Grow(0)
	b.wantE(b.do(1, 3, 0), api.ErrFull)
	b.wantE(b.x.Abort(), api.ErrFull)
	b.wantState(1, 1, nil, nil)
	b.d.Grow(1000)
	b.well(1, 3, 0)
	b.d.Grow(0)
	b.wantE(b.do(2, 3, 0), api.ErrFull)
	b.wantState(1, 1, []int{3}, nil)
	b.wantPlaces(1, 0, 1)
	b.wantE(b.do(2, 3, 2), api.ErrFull)
	b.wantState(1, 1, []int{3}, nil)
	b.well(2, 3, 1)
	if b.x.Failed(3) != 1 {
		t.Error(b.x.Failed(3))
	}
	b.d.Grow(1000)
	b.x.Tick(3)
	b.well(2, 3, 0)
	b.wantPlaces(1, 0, 1)
	b.wantState(1, 1, nil, []int{3})
}

func TestAnEndWithoutRoomForTheBase(t *testing.T) {
	b := newBench(t, usual)
	b.begin(plan.Plan{})
	b.well(3, 0, 0)
	// There is room for the end's frame, but not for a new file's.
	b.d.Grow(b.d.Size() + 10)
	b.wantE(b.do(5, 0, 0), api.ErrFull)
	b.wantState(1, 4, nil, nil)
	b.d.Grow(1000)
	b.begin(sample())
	b.wantState(2, 1, nil, nil)
	b.open(usual)
	b.wantState(2, 1, nil, nil)
}

func TestAClosedLog(t *testing.T) {
	b := newBench(t, usual)
	b.begin(sample())
	b.well(1, 3, 0)
	b.d.Arm(0)
	b.wantE(b.do(1, 0, 0), api.ErrDown)
	b.wantState(1, 1, []int{3}, nil)
	b.wantActions(Action{1, 0}, Action{2, 3})
	b.wantE(b.do(1, 0, 0), api.ErrClosed)
	b.wantE(b.x.Abort(), api.ErrClosed)
	b.wantE(b.do(2, 3, 0), api.ErrClosed)
	b.wantState(1, 1, []int{3}, nil)
	b.wantPlaces(1, 0, 1)
	b.wantE(b.x.Tick(5), api.OK)
	b.d.Crash([]int{1000})
	b.open(usual)
	b.wantState(1, 1, []int{3, 0}, nil)
	if b.x.Now() != 0 {
		t.Error(b.x.Now())
	}
	b.well(2, 3, 0)
	b.wantPlaces(1, 0, 1)
}

func TestACrashForgetsFailedTries(t *testing.T) {
	b := newBench(t, usual)
	b.begin(sample())
	b.well(1, 3, 0)
	b.well(2, 3, 4)
	b.wantActions(Action{1, 0})
	b.d.Crash(nil)
	b.open(usual)
	b.wantState(1, 1, []int{3}, nil)
	if b.x.Failed(3) != 0 {
		t.Error(b.x.Failed(3))
	}
	b.wantActions(Action{1, 0}, Action{2, 3})
	b.well(2, 3, 0)
	b.wantPlaces(1, 0, 1)
}

func TestGoesDownAtAnyCall(t *testing.T) {
	for n := range 40 {
		for keep := range 12 {
			b := newBench(t, usual)
			b.d.Arm(n)
			if e := b.x.Begin(sample()); e != api.OK {
				continue
			}
			before := b.x.State()
			var e api.Errno
			for e == api.OK && len(b.x.Actions()) > 0 {
				before = b.x.State()
				_, e = b.x.Do(n+keep, 0)
			}
			if e == api.OK {
				continue
			}
			b.wantE(e, api.ErrDown)
			b.d.Crash([]int{keep * 3, keep * 3})
			b.open(usual)
			after := b.x.State()
			if len(after.Open)+len(after.Done) < len(before.Open)+len(before.Done) && after.Phase != words.Ended || after.Number != 1 {
				t.Fatal(n, keep, before, after)
			}
			for len(b.x.Actions()) > 0 {
				if _, e := b.x.Do(keep, 0); e != api.OK {
					t.Fatal(e)
				}
			}
			b.wantPlaces(4, 1+2i, 1)
		}
	}
}
