package saga

import (
	"bytes"
	"math"
	"math/rand"
	"reflect"
	"slices"
	"testing"

	"slipway/api"
	"slipway/digraph"
	"slipway/plan"
)

const (
	begin = iota + 1
	intent
	done
	failed
	abort
	undone
	mark
	end
)

// sample is a's expand, deploy and contract, and b's deploy, which is ahead of a's.
func sample() plan.Plan {
	return plan.Plan{From: []int{0, 0}, To: []int{1, 1}, Steps: []plan.Step{{Service: 0, Kind: 1}, {Service: 0, Kind: 2}, {Service: 0, Kind: 3}, {Service: 1, Kind: 2}}, Before: [][2]int{{0, 1}, {1, 2}, {3, 1}}}
}

// behind is the state behind records, a begin of the sample first: pairs of a kind and a step.
func behind(t *testing.T, records ...[2]int) State {
	t.Helper()
	s, e := State{}.Take(Record{Kind: begin, Plan: sample()})
	for _, r := range records {
		if e == api.OK {
			s, e = s.Take(Record{Kind: r[0], Step: r[1]})
		}
	}
	if e != api.OK {
		t.Fatal(records, e)
	}
	return s
}

func want(t *testing.T, s State, number int, phase int, open []int, isDone []int) {
	t.Helper()
	if s.Number != number || s.Phase != phase || !slices.Equal(s.Open, open) || !slices.Equal(s.Done, isDone) {
		t.Errorf("%+v", s)
	}
}

var (
	firsts  = [][2]int{{intent, 0}, {intent, 3}, {done, 3}, {done, 0}, {intent, 1}, {done, 1}}
	marked  = slices.Concat(firsts, [][2]int{{mark, 0}})
	ended   = slices.Concat(marked, [][2]int{{intent, 2}, {done, 2}, {end, 0}})
	aborted = slices.Concat(firsts[:3], [][2]int{{abort, 0}})
	rolled  = slices.Concat(aborted, [][2]int{{undone, 0}, {undone, 3}, {end, 0}})
)

// P17.1
func TestTakeAllTheWay(t *testing.T) {
	want(t, behind(t), 1, 1, nil, nil)
	want(t, behind(t, firsts[:2]...), 1, 1, []int{0, 3}, nil)
	want(t, behind(t, firsts[:3]...), 1, 1, []int{0}, []int{3})
	want(t, behind(t, firsts...), 1, 1, nil, []int{3, 0, 1})
	want(t, behind(t, marked...), 1, 3, nil, []int{3, 0, 1})
	want(t, behind(t, ended...), 1, 4, nil, []int{3, 0, 1, 2})
	want(t, behind(t, aborted...), 1, 2, []int{0}, []int{3})
	want(t, behind(t, append(slices.Clone(firsts[:2]), [2]int{failed, 0})...), 1, 2, []int{0, 3}, nil)
	want(t, behind(t, rolled...), 1, 5, nil, nil)
	for _, records := range [][][2]int{ended, rolled} {
		s, e := behind(t, records...).Take(Record{Kind: begin})
		if e != api.OK || len(s.Plan.Steps) != 0 {
			t.Error(s, e)
		}
		want(t, s, 2, 1, nil, nil)
	}
	if s := behind(t, ended...); !reflect.DeepEqual(s.Plan, sample()) {
		t.Error(s)
	}
}

func TestTakeAnswersThePhase(t *testing.T) {
	heard := map[int][]int{begin: {0, 4, 5}, intent: {1, 3}, done: {1, 3}, failed: {1}, abort: {1}, undone: {2}, mark: {1}, end: {2, 3}}
	states := []State{{}, behind(t, firsts[:1]...), behind(t, aborted...), behind(t, marked...), behind(t, ended...), behind(t, rolled...)}
	for phase, s := range states {
		for kind, phases := range heard {
			next, e := s.Take(Record{Kind: kind, Step: map[bool]int{true: 99}[ofStep(kind)]})
			if (e == api.ErrState) == slices.Contains(phases, phase) || e != api.OK && !reflect.DeepEqual(next, State{}) {
				t.Error(phase, kind, e)
			}
		}
	}
}

func TestTakeAnswersTheForm(t *testing.T) {
	for _, s := range []State{{}, behind(t), behind(t, aborted...), behind(t, marked...)} {
		for _, r := range []Record{{}, {Kind: -1}, {Kind: 9}, {Kind: math.MaxInt}, {Kind: begin, Step: 1}, {Kind: abort, Step: -1}, {Kind: mark, Step: 1}, {Kind: end, Step: 1},
			{Kind: intent, Plan: sample()}, {Kind: done, Plan: plan.Plan{From: []int{0}}}, {Kind: failed, Plan: plan.Plan{To: []int{0}}}, {Kind: undone, Plan: plan.Plan{Steps: []plan.Step{{}}}}, {Kind: abort, Plan: plan.Plan{Before: [][2]int{{}}}}, {Kind: mark, Plan: sample()}, {Kind: end, Plan: sample()}} {
			if next, e := s.Take(r); e != api.ErrForm || !reflect.DeepEqual(next, State{}) {
				t.Error(s.Phase, r.Kind, e)
			}
		}
	}
}

func TestTakeAnswersThePlan(t *testing.T) {
	steps := slices.Repeat([]plan.Step{{Service: 0, Kind: 2}}, 37)
	for i, k := range []struct {
		p plan.Plan
		e api.Errno
	}{
		{plan.Plan{}, api.OK}, {plan.Plan{Steps: steps[:36]}, api.OK}, {plan.Plan{Steps: steps}, api.ErrPlan}, {plan.Plan{Steps: []plan.Step{{Service: 0, Kind: 0}}}, api.ErrPlan}, {plan.Plan{Steps: []plan.Step{{Service: 0, Kind: 4}}}, api.ErrPlan},
		{plan.Plan{Steps: steps[:2], Before: [][2]int{{0, 1}, {1, 0}}}, api.ErrPlan}, {plan.Plan{Steps: steps[:2], Before: [][2]int{{0, 2}}}, api.ErrPlan}, {plan.Plan{Steps: steps[:2], Before: [][2]int{{1, 1}}}, api.ErrPlan},
		{plan.Plan{Steps: steps[:2], Before: make([][2]int, 5000)}, api.ErrPlan}, {plan.Plan{From: []int{-5}, Steps: []plan.Step{{Service: -7, Kind: 1}}}, api.OK},
	} {
		if next, e := (State{}).Take(Record{Kind: begin, Plan: k.p}); e != k.e || e == api.OK && !reflect.DeepEqual(next.Plan, k.p) {
			t.Error(i, next, e)
		}
	}
}

func TestTakeAnswersTheStep(t *testing.T) {
	for i, k := range []struct {
		records [][2]int
		r       [2]int
	}{
		{nil, [2]int{intent, 1}}, {nil, [2]int{intent, 2}}, {nil, [2]int{intent, -1}}, {nil, [2]int{intent, 4}}, {nil, [2]int{intent, math.MinInt}}, {nil, [2]int{done, 0}}, {nil, [2]int{failed, 0}},
		{firsts[:1], [2]int{intent, 0}}, {firsts[:3], [2]int{intent, 3}}, {firsts[:3], [2]int{done, 3}}, {firsts[:3], [2]int{failed, 3}}, {firsts[:3], [2]int{intent, 1}}, {firsts, [2]int{intent, 2}},
		{marked, [2]int{intent, 0}}, {marked, [2]int{done, 2}}, {aborted, [2]int{undone, 3}}, {aborted, [2]int{undone, 9}}, {rolled[:6], [2]int{undone, 0}},
	} {
		if s, e := behind(t, k.records...).Take(Record{Kind: k.r[0], Step: k.r[1]}); e != api.ErrStep || !reflect.DeepEqual(s, State{}) {
			t.Error(i, s, e)
		}
	}
	for i, k := range []struct {
		records [][2]int
		kind    int
	}{{nil, mark}, {firsts[:5], mark}, {marked, end}, {aborted, end}, {slices.Concat(aborted, [][2]int{{undone, 0}}), end}, {slices.Concat(marked, [][2]int{{intent, 2}}), end}} {
		if s, e := behind(t, k.records...).Take(Record{Kind: k.kind}); e != api.ErrBusy || !reflect.DeepEqual(s, State{}) {
			t.Error(i, s, e)
		}
	}
}

func TestTakeSharesNothing(t *testing.T) {
	p := sample()
	s, _ := State{}.Take(Record{Kind: begin, Plan: p})
	p.From[0], p.To[0], p.Steps[0].Kind, p.Before[0][0] = 9, 9, 9, 9
	if !reflect.DeepEqual(s.Plan, sample()) {
		t.Error(s)
	}
	s, _ = s.Take(Record{Kind: intent, Step: 0})
	s, _ = s.Take(Record{Kind: intent, Step: 3})
	for _, r := range []Record{{Kind: intent, Step: 1}, {Kind: done, Step: 0}, {Kind: failed, Step: 0}, {Kind: abort}} {
		next, _ := s.Take(r)
		for _, list := range [][]int{next.Open, next.Done, next.Plan.From, next.Plan.To} {
			list = list[:cap(list)]
			for i := range list {
				list[i] = 9
			}
		}
		if len(next.Plan.Steps) > 0 {
			next.Plan.Steps[0].Kind, next.Plan.Before[0][0] = 9, 9
		}
		want(t, s, 1, 1, []int{0, 3}, nil)
		if !reflect.DeepEqual(s.Plan, sample()) {
			t.Error(s)
		}
	}
}

func TestUndoneLeavesTheStateAhead(t *testing.T) {
	s := behind(t, append(slices.Clone(firsts), [2]int{abort, 0})...)
	if _, e := s.Take(Record{Kind: undone, Step: 1}); e != api.OK {
		t.Error(e)
	}
	want(t, s, 1, 2, nil, []int{3, 0, 1})
	s = behind(t, [2]int{intent, 0}, [2]int{intent, 3}, [2]int{abort, 0})
	if _, e := s.Take(Record{Kind: undone, Step: 3}); e != api.OK {
		t.Error(e)
	}
	want(t, s, 1, 2, []int{0, 3}, nil)
}

// P17.2
func TestWhatAStateTells(t *testing.T) {
	for i, k := range []struct {
		records     [][2]int
		may         []int
		top         int
		hasTop      bool
		marks, ends bool
		reached     uint64
	}{
		{nil, []int{0, 3}, 0, false, false, false, 0},
		{firsts[:1], []int{3}, 0, false, false, false, 1},
		{firsts[:4], []int{1}, 0, false, false, false, 9},
		{firsts, nil, 0, false, true, false, 11},
		{marked, []int{2}, 0, false, false, false, 11},
		{ended[:9], nil, 0, false, false, true, 15},
		{ended, nil, 0, false, false, false, 15},
		{aborted, nil, 0, true, false, false, 9},
		{rolled[:5], nil, 3, true, false, false, 8},
		{rolled[:6], nil, 0, false, false, true, 0},
		{rolled, nil, 0, false, false, false, 0},
		{[][2]int{{intent, 3}, {intent, 0}, {abort, 0}}, nil, 0, true, false, false, 9},
		{[][2]int{{intent, 0}, {intent, 3}, {abort, 0}}, nil, 3, true, false, false, 9},
		{[][2]int{{intent, 0}, {done, 0}, {intent, 3}, {done, 3}, {abort, 0}}, nil, 3, true, false, false, 9},
	} {
		s := behind(t, k.records...)
		var may []int
		for step := -1; step < 6; step++ {
			if s.May(step) {
				may = append(may, step)
			}
		}
		top, ok := s.Top()
		if !slices.Equal(may, k.may) || top != k.top || ok != k.hasTop || s.Marks() != k.marks || s.Ends() != k.ends || s.Reached() != k.reached {
			t.Error(i, may, top, ok, s.Marks(), s.Ends(), s.Reached())
		}
	}
	idle := State{}
	if top, ok := idle.Top(); top != 0 || ok || idle.May(0) || idle.Marks() || idle.Ends() || idle.Reached() != 0 {
		t.Error("idle")
	}
}

// P17.3
func TestReplay(t *testing.T) {
	records := []Record{{Kind: begin, Plan: sample()}}
	for _, r := range rolled {
		records = append(records, Record{Kind: r[0], Step: r[1]})
	}
	s, at, e := Replay(records)
	if !reflect.DeepEqual(s, behind(t, rolled...)) || at != len(records) || e != api.OK {
		t.Error(s, at, e)
	}
	s, at, e = Replay(slices.Insert(slices.Clone(records), 4, Record{Kind: mark}))
	if !reflect.DeepEqual(s, behind(t, rolled[:3]...)) || at != 4 || e != api.ErrBusy {
		t.Error(s, at, e)
	}
	s, at, e = Replay(nil)
	if !reflect.DeepEqual(s, State{}) || at != 0 || e != api.OK {
		t.Error(s, at, e)
	}
	s, at, e = Replay([]Record{{Kind: abort}})
	if !reflect.DeepEqual(s, State{}) || at != 0 || e != api.ErrState {
		t.Error(s, at, e)
	}
}

// P17.4
func TestEncodeAndDecode(t *testing.T) {
	for _, k := range []struct {
		r Record
		b []byte
	}{
		{Record{Kind: begin, Plan: plan.Plan{From: []int{0}, To: []int{1}, Steps: []plan.Step{{Service: 0, Kind: 2}}, Before: [][2]int{{0, 200}}}}, []byte{1, 1, 0, 1, 1, 1, 0, 2, 1, 0, 200, 1}},
		{Record{Kind: begin}, []byte{1, 0, 0, 0, 0}}, {Record{Kind: intent, Step: 5}, []byte{2, 1, 5}}, {Record{Kind: done, Step: 0}, []byte{3, 1, 0}}, {Record{Kind: failed, Step: 300}, []byte{4, 1, 0xac, 2}}, {Record{Kind: undone, Step: 1 << 40}, []byte{6, 1, 0x80, 0x80, 0x80, 0x80, 0x80, 0x20}},
		{Record{Kind: abort}, []byte{5}}, {Record{Kind: mark}, []byte{7}}, {Record{Kind: end}, []byte{8}},
	} {
		b, e := Encode(k.r)
		r, e2 := Decode(k.b)
		if e != api.OK || !bytes.Equal(b, k.b) || e2 != api.OK || !reflect.DeepEqual(r, k.r) {
			t.Errorf("%v: %x, %d, %v, %d", k.r, b, e, r, e2)
		}
	}
	for _, r := range []Record{{}, {Kind: 9}, {Kind: -1}, {Kind: 256 + 5}, {Kind: intent, Step: -1}, {Kind: intent, Step: 1<<40 + 1}, {Kind: abort, Step: 1}, {Kind: begin, Step: 1}, {Kind: end, Plan: sample()}, {Kind: intent, Plan: sample()}, {Kind: begin, Plan: plan.Plan{From: []int{-1}}}} {
		if b, e := Encode(r); e != api.ErrForm || b != nil {
			t.Error(r, b, e)
		}
	}
	for _, k := range []struct {
		b []byte
		e api.Errno
	}{
		{nil, api.ErrEnd}, {[]byte{0}, api.ErrForm}, {[]byte{9, 1}, api.ErrForm}, {[]byte{255}, api.ErrForm}, {[]byte{2}, api.ErrEnd}, {[]byte{2, 0}, api.ErrForm}, {[]byte{3, 2, 1, 1}, api.ErrForm}, {[]byte{4, 1}, api.ErrEnd}, {[]byte{6, 1, 5, 5}, api.ErrForm}, {[]byte{6, 1, 0x80, 0}, api.ErrForm},
		{[]byte{5, 0}, api.ErrForm}, {[]byte{7, 1}, api.ErrForm}, {[]byte{8, 8}, api.ErrForm}, {[]byte{1, 0, 0, 0}, api.ErrEnd}, {[]byte{1, 0, 0, 0, 0, 0}, api.ErrForm}, {[]byte{1}, api.ErrEnd},
	} {
		if r, e := Decode(k.b); e != k.e || !reflect.DeepEqual(r, Record{}) {
			t.Error(k, r, e)
		}
	}
}

// P17.5
func TestDoneIsClosedInEveryState(t *testing.T) {
	r := rand.New(rand.NewSource(17))
	seen := map[int]int{}
	for range 200 {
		var s State
		var taken []Record
		for range 60 {
			record := Record{Kind: 1 + r.Intn(8)}
			if ofStep(record.Kind) {
				record.Step = r.Intn(6)
			}
			if record.Kind == begin {
				record.Plan = randomPlan(r)
			}
			next, e := s.Take(record)
			if e == api.OK {
				s = next
				taken = append(taken, record)
				checkClosed(t, s)
				seen[s.Phase]++
			}
		}
		again, at, e := Replay(taken)
		if !reflect.DeepEqual(again, s) || at != len(taken) || e != api.OK {
			t.Fatal(again, s)
		}
	}
	for phase := 1; phase <= 5; phase++ {
		if seen[phase] == 0 {
			t.Error(phase, "was never reached")
		}
	}
}

func randomPlan(r *rand.Rand) plan.Plan {
	var p plan.Plan
	for range r.Intn(5) {
		p.Steps = append(p.Steps, plan.Step{Service: r.Intn(3), Kind: 1 + r.Intn(3)})
	}
	for range r.Intn(6) {
		if a, b := r.Intn(6), r.Intn(6); a < b && b < len(p.Steps) && p.Steps[a].Kind <= p.Steps[b].Kind {
			p.Before = append(p.Before, [2]int{a, b})
		}
	}
	return p
}

func checkClosed(t *testing.T, s State) {
	t.Helper()
	g := digraph.Graph{N: len(s.Plan.Steps), Edges: s.Plan.Before}
	for some := range 1 << len(s.Open) {
		var set uint64
		for _, step := range s.Done {
			set |= 1 << step
		}
		for i, step := range s.Open {
			if some>>i&1 == 1 {
				set |= 1 << step
			}
		}
		if closed, e := g.Closed(set); !closed || e != api.OK {
			t.Fatalf("%+v", s)
		}
	}
}
