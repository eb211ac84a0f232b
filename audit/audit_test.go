package audit

import (
	"math"
	"reflect"
	"slices"
	"testing"

	"slipway/api"
	"slipway/catalog"
	"slipway/plan"
	"slipway/ranges"
	"slipway/saga"
	"slipway/semver"
	"slipway/words"
)

func span(t *testing.T, s string) ranges.Range {
	t.Helper()
	r, e := ranges.Parse(s)
	if e != api.OK {
		t.Fatal(s, e)
	}
	return r
}

// sample is a, whose second release is one level up, and b, whose first release bears a's first one alone.
func sample(t *testing.T) (catalog.Catalog, plan.Plan) {
	one, two := semver.Version{Major: 1}, semver.Version{Major: 2}
	c := catalog.Catalog{Services: []catalog.Service{
		{Name: "a", Releases: []catalog.Release{{Version: one, Level: 3}, {Version: two, Level: 4}}},
		{Name: "b", Releases: []catalog.Release{{Version: one, Needs: []catalog.Need{{Service: 0, Range: span(t, "^1.0.0")}}}, {Version: two}}},
	}}
	p, e := plan.Make(c, []int{0, 0}, []int{1, 1})
	if e != api.OK || len(p.Steps) != 4 {
		t.Fatal(p, e)
	}
	return c, p
}

var start = []complex128{6i, 0}

func begin(p plan.Plan) Event {
	return Event{Kind: 1, Record: saga.Record{Kind: words.Begin, Plan: p}}
}

func record(kind int, step int) Event {
	return Event{Kind: 1, Record: saga.Record{Kind: kind, Step: step}}
}

func change(key int) Event { return Event{Kind: 2, Key: key} }

func undo(key int) Event { return Event{Kind: 2, Key: key, Undo: true} }

// forward goes to the target: a's expand, deploy and contract are 0, 1 and 2, b's deploy is 3.
func forward(p plan.Plan) []Event {
	return []Event{
		begin(p), record(words.Intent, 0), record(words.Intent, 3), change(64), change(67), record(words.Done, 3), record(words.Done, 0),
		record(words.Intent, 1), change(65), record(words.Done, 1), record(words.Mark, 0), record(words.Intent, 2), change(66), record(words.Done, 2), record(words.End, 0),
	}
}

// back gives up, with b's deploy done, and a's expand begun.
func back(p plan.Plan) []Event {
	return []Event{
		begin(p), record(words.Intent, 3), change(67), record(words.Done, 3), record(words.Intent, 0), change(64), record(words.Abort, 0),
		undo(64), record(words.Undone, 0), undo(67), record(words.Undone, 3), record(words.End, 0),
	}
}

func wantCheck(t *testing.T, what string, c catalog.Catalog, events []Event, at int, e api.Errno) {
	t.Helper()
	if gotAt, got := Check(c, start, events); gotAt != at || got != e {
		t.Errorf("%s: %d, %d", what, gotAt, got)
	}
}

// P19.1
func TestWhatMayHaveHappened(t *testing.T) {
	c, p := sample(t)
	wantCheck(t, "nothing", c, nil, 0, api.OK)
	wantCheck(t, "forward", c, forward(p), 15, api.OK)
	wantCheck(t, "back", c, back(p), 12, api.OK)
	for n := range forward(p) {
		wantCheck(t, "a beginning", c, forward(p)[:n], n, api.OK)
	}
	// A saga that was taken back, and another one behind it, with keys of its own.
	again := forward(p)
	for i := range again {
		if again[i].Kind == 2 {
			again[i].Key += 64
		}
	}
	wantCheck(t, "twice", c, slices.Concat(back(p), again), 27, api.OK)
	wantCheck(t, "twice, with the keys of the first", c, slices.Concat(back(p), forward(p)), 15, api.ErrKey)
	failed := back(p)
	failed[6] = record(words.Failed, 0)
	wantCheck(t, "failed", c, failed, 12, api.OK)
	// An order that was late changes the fleet on the way back, ahead of its undo.
	late := slices.Concat(back(p)[:5], []Event{record(words.Abort, 0), change(64)}, back(p)[7:])
	wantCheck(t, "late", c, late, 12, api.OK)
	// An unknown key's undo changes nothing, and is no event.
	wantCheck(t, "unknown", c, slices.Concat(back(p)[:5], []Event{record(words.Abort, 0)}, back(p)[8:]), 10, api.OK)
}

func TestAStartThatIsntGood(t *testing.T) {
	c, p := sample(t)
	for _, fleet := range [][]complex128{nil, {6i}, {4i, 0}, {1 + 8i, 0}, {6i, 0, 0}, {complex(math.NaN(), 6), 0}} {
		at, e := Check(c, fleet, forward(p))
		if at != -1 || e != api.ErrMap || Fleet(c, fleet, forward(p)) != nil {
			t.Error(fleet, at, e)
		}
	}
}

func TestRecordsThatArentRight(t *testing.T) {
	c, p := sample(t)
	wrongPlan, wrongEnds, leap, notHere := p, p, p, p
	wrongPlan.Before = p.Before[1:]
	wrongEnds.To = []int{1, 2}
	leap.From, leap.To, leap.Steps, leap.Before = []int{1, 1}, []int{0, 1}, nil, nil
	notHere, e := plan.Make(c, []int{0, 1}, []int{1, 1})
	if e != api.OK {
		t.Fatal(e)
	}
	bad := p
	bad.From, bad.To = []int{1, 0}, []int{1, 1}
	cyclic := p
	cyclic.Before = append(slices.Clone(p.Before), [2]int{2, 0})
	for i, k := range []struct {
		event Event
		e     api.Errno
	}{
		{begin(wrongPlan), api.ErrPlan}, {begin(wrongEnds), api.ErrMap}, {begin(leap), api.ErrLeap}, {begin(bad), api.ErrState}, {begin(notHere), api.ErrMap}, {begin(cyclic), api.ErrPlan},
		{record(words.Abort, 0), api.ErrState}, {record(9, 0), api.ErrForm}, {Event{}, api.ErrForm}, {Event{Kind: 3}, api.ErrForm}, {Event{Kind: -1}, api.ErrForm},
	} {
		wantCheck(t, string(rune('a'+i)), c, []Event{k.event, {}}, 0, k.e)
	}
	events := forward(p)
	for i, k := range []struct {
		at    int
		event Event
		e     api.Errno
	}{
		{1, record(words.Intent, 1), api.ErrStep}, {1, begin(p), api.ErrState}, {6, record(words.Mark, 0), api.ErrBusy}, {6, record(words.Undone, 0), api.ErrState}, {6, Event{Kind: 4}, api.ErrForm},
	} {
		wantCheck(t, string(rune('a'+i)), c, slices.Insert(slices.Clone(events), k.at, k.event), k.at, k.e)
	}
	// An end with a step's change left out, ahead of its target and ahead of where it began.
	wantCheck(t, "short of the target", c, slices.Delete(slices.Clone(events), 12, 13), 13, api.ErrMap)
	wantCheck(t, "not back", c, slices.Delete(back(p), 9, 10), 10, api.ErrMap)
}

func TestChangesThatArentRight(t *testing.T) {
	c, p := sample(t)
	for i, k := range []struct {
		events []Event
		at     int
		event  Event
		e      api.Errno
	}{
		{forward(p), 0, change(64), api.ErrKey}, {forward(p), 0, change(0), api.ErrKey}, {forward(p), 1, change(64), api.ErrKey}, {forward(p), 2, change(67), api.ErrKey}, {forward(p), 3, change(65), api.ErrKey},
		{forward(p), 3, change(64 + 64), api.ErrKey}, {forward(p), 3, change(0), api.ErrKey}, {forward(p), 3, change(-64), api.ErrKey}, {forward(p), 3, change(math.MinInt), api.ErrKey}, {forward(p), 3, change(math.MaxInt), api.ErrKey}, {forward(p), 3, change(128 + 3), api.ErrKey},
		{forward(p), 4, change(64), api.ErrKey}, {forward(p), 7, change(67), api.ErrKey}, {forward(p), 4, undo(64), api.ErrKey}, {forward(p), 3, undo(64), api.ErrKey}, {forward(p), 15, change(66), api.ErrKey}, {forward(p), 15, undo(66), api.ErrKey},
		{back(p), 7, undo(67), api.ErrKey}, {back(p), 7, change(64), api.ErrKey}, {back(p), 8, undo(64), api.ErrKey}, {back(p), 8, change(64), api.ErrKey}, {back(p), 9, undo(64), api.ErrKey}, {back(p), 6, undo(64), api.ErrKey}, {back(p), 12, change(67), api.ErrKey},
	} {
		wantCheck(t, string(rune('a'+i)), c, slices.Insert(slices.Clone(k.events), k.at, k.event), k.at, k.e)
	}
	// A deploy ahead of its expand's change: the fleet isn't good.
	events := slices.Delete(forward(p), 3, 4)
	wantCheck(t, "deploy without the expand", c, events, 7, api.ErrMap)
	// The contract ahead of the deploy's change.
	events = slices.Delete(forward(p), 8, 9)
	wantCheck(t, "contract without the deploy", c, events, 11, api.ErrMap)
}

// P19.2
func TestFleetAndLast(t *testing.T) {
	c, p := sample(t)
	fleets := [][]complex128{{6i, 0}, {6i, 0}, {6i, 0}, {6i, 0}, {7i, 0}, {7i, 1}, {7i, 1}, {7i, 1}, {7i, 1}, {1 + 7i, 1}, {1 + 7i, 1}, {1 + 7i, 1}, {1 + 7i, 1}, {1 + 8i, 1}, {1 + 8i, 1}, {1 + 8i, 1}}
	events := forward(p)
	for n, want := range fleets {
		if fleet := Fleet(c, start, events[:n]); !slices.Equal(fleet, want) {
			t.Error(n, fleet)
		}
		if fleet := Fleet(c, start, slices.Concat(events[:n], []Event{{}}, events[n:])); !slices.Equal(fleet, want) {
			t.Error(n, fleet)
		}
	}
	// A deploy ahead of its expand's change isn't right, and changes nothing.
	if fleet := Fleet(c, start, slices.Delete(forward(p), 3, 4)); !slices.Equal(fleet, []complex128{6i, 1}) {
		t.Error(fleet)
	}
	Fleet(c, start, nil)[0] = 9
	if start[0] != 6i {
		t.Error(start)
	}
	state, at := Last(events)
	if state.Phase != words.Ended || at != 15 || !slices.Equal(state.Done, []int{3, 0, 1, 2}) {
		t.Error(state, at)
	}
	state, at = Last(slices.Insert(slices.Clone(events), 4, change(99), Event{Kind: 7}, undo(64)))
	if state.Phase != words.Ended || at != 18 {
		t.Error(state, at)
	}
	state, at = Last(slices.Insert(slices.Clone(events), 4, record(words.Intent, 1)))
	if at != 4 || !slices.Equal(state.Open, []int{0, 3}) || !reflect.DeepEqual(state.Plan, p) {
		t.Error(state, at)
	}
	if state, at := Last(nil); at != 0 || !reflect.DeepEqual(state, saga.State{}) {
		t.Error(state, at)
	}
}
