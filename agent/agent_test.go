package agent

import (
	"math"
	"math/rand"
	"slices"
	"testing"

	"slipway/api"
)

func wantE(t *testing.T, got api.Errno, want api.Errno) {
	t.Helper()
	if got != want {
		t.Errorf("%d, not %d", got, want)
	}
}

func want(t *testing.T, f *Fleet, changes int, places ...complex128) {
	t.Helper()
	if f.Changes() != changes || !slices.Equal(f.Places(), places) {
		t.Errorf("%d changes, %v", f.Changes(), f.Places())
	}
}

func wantKey(t *testing.T, f *Fleet, key int, used bool, dead bool) {
	t.Helper()
	if u, d := f.Key(key); u != used || d != dead {
		t.Errorf("%d: %t, %t", key, u, d)
	}
}

// P15.1
func TestNewAndPlaces(t *testing.T) {
	for _, places := range [][]complex128{make([]complex128, 13), {0, -1}, {0.5}, {complex(math.NaN(), 0)}, {1i * (api.MaxPart + 1)}} {
		if New(places) != nil {
			t.Error(places)
		}
	}
	want(t, New(nil), 0)
	places := append(make([]complex128, 0, 20), 2+1i, 3)
	f := New(places)
	places[0] = 9
	f.Places()[1] = 9
	want(t, f, 0, 2+1i, 3)
	if New(make([]complex128, 12)) == nil {
		t.Error("of twelve")
	}
}

// P15.2
func TestCallRefusesWhatIsNoOrder(t *testing.T) {
	f := New([]complex128{0, 0})
	for fate := -1; fate < 8; fate++ {
		for _, o := range []Order{{Service: 2}, {Service: -1}, {Service: math.MaxInt}, {Step: 0.5}, {Step: api.MaxPart + 1}, {Step: complex(math.NaN(), 0)}, {Undo: true, Service: 2}, {Undo: true, Step: 0.5i}} {
			wantE(t, f.Call(o, fate), api.ErrForm)
		}
	}
	want(t, f, 0, 0, 0)
	wantKey(t, f, 0, false, false)
	if len(f.Late()) != 0 {
		t.Error(f.Late())
	}
}

func TestOrdersAndUndos(t *testing.T) {
	f := New([]complex128{0, 5})
	wantKey(t, f, 7, false, false)
	wantE(t, f.Call(Order{Key: 7, Step: 1}, 5), api.OK)
	want(t, f, 1, 1, 5)
	wantKey(t, f, 7, true, false)
	// A used key's order does nothing, whatever it says.
	wantE(t, f.Call(Order{Key: 7, Service: 1, Step: -5}, 0), api.OK)
	want(t, f, 1, 1, 5)
	wantE(t, f.Call(Order{Key: 8, Service: 1, Step: -6}, 0), api.ErrBig)
	wantKey(t, f, 8, false, false)
	wantE(t, f.Call(Order{Key: 8, Service: 1, Step: 1i}, 0), api.OK)
	// The undo's own service and step don't matter.
	wantE(t, f.Call(Order{Key: 7, Service: 1, Step: 9, Undo: true}, 0), api.OK)
	want(t, f, 3, 0, 5+1i)
	wantKey(t, f, 7, false, true)
	wantE(t, f.Call(Order{Key: 7, Undo: true}, 0), api.OK)
	wantE(t, f.Call(Order{Key: 7, Step: 1}, 0), api.ErrKey)
	wantE(t, f.Call(Order{Key: 7, Step: 1}, 5), api.ErrKey)
	want(t, f, 3, 0, 5+1i)
	// An unknown key dies too.
	wantE(t, f.Call(Order{Key: -9, Undo: true}, 0), api.OK)
	wantKey(t, f, -9, false, true)
	wantE(t, f.Call(Order{Key: -9, Step: 1}, 0), api.ErrKey)
	want(t, f, 3, 0, 5+1i)
}

func TestUndoThatLeadsToNoPlace(t *testing.T) {
	f := New([]complex128{0})
	wantE(t, f.Call(Order{Key: 1, Step: 1}, 0), api.OK)
	wantE(t, f.Call(Order{Key: 2, Step: -1}, 0), api.OK)
	wantE(t, f.Call(Order{Key: 1, Undo: true}, 0), api.ErrBig)
	wantKey(t, f, 1, true, false)
	want(t, f, 2, 0)
	wantE(t, f.Call(Order{Key: 2, Undo: true}, 0), api.OK)
	wantE(t, f.Call(Order{Key: 1, Undo: true}, 5), api.OK)
	want(t, f, 4, 0)
	wantE(t, f.Call(Order{Key: 3}, 0), api.OK)
	want(t, f, 5, 0)
}

func TestFates(t *testing.T) {
	for _, k := range []struct {
		fate    int
		e       api.Errno
		changes int
		late    int
	}{
		{0, api.OK, 1, 0}, {1, api.ErrTransient, 0, 0}, {2, api.ErrPermanent, 0, 0}, {3, api.ErrSilent, 0, 0}, {4, api.ErrSilent, 1, 0}, {5, api.OK, 1, 0}, {6, api.ErrSilent, 0, 1},
		{7, api.OK, 1, 0}, {-1, api.OK, 1, 0}, {math.MinInt, api.OK, 1, 0},
	} {
		f := New([]complex128{0})
		wantE(t, f.Call(Order{Key: 1, Step: 1}, k.fate), k.e)
		want(t, f, k.changes, complex(float64(k.changes), 0))
		wantKey(t, f, 1, k.changes == 1, false)
		if len(f.Late()) != k.late {
			t.Error(k, f.Late())
		}
		g := New([]complex128{0})
		g.Call(Order{Key: 1, Step: 1}, 0)
		wantE(t, g.Call(Order{Key: 1, Undo: true}, k.fate), k.e)
		want(t, g, 1+k.changes, complex(float64(1-k.changes), 0))
	}
}

// P15.3
func TestLateAndDeliver(t *testing.T) {
	f := New([]complex128{0})
	orders := []Order{{Key: 1, Step: 1}, {Key: 2, Step: 1i}, {Key: 1, Undo: true}, {Key: 1, Step: 1}, {Key: 3, Step: -1}}
	for _, o := range orders {
		f.Call(o, 6)
	}
	late := f.Late()
	if !slices.Equal(late, orders) {
		t.Error(late)
	}
	late[0].Key = 99
	for _, i := range []int{-1, 5, math.MaxInt, math.MinInt} {
		wantE(t, f.Deliver(i), api.ErrKey)
	}
	wantE(t, f.Deliver(1), api.OK)
	want(t, f, 1, 1i)
	if !slices.Equal(f.Late(), []Order{orders[0], orders[2], orders[3], orders[4]}) {
		t.Error(f.Late())
	}
	wantE(t, f.Deliver(1), api.OK)
	wantE(t, f.Deliver(0), api.ErrKey)
	wantE(t, f.Deliver(0), api.ErrKey)
	wantE(t, f.Deliver(0), api.ErrBig)
	wantE(t, f.Deliver(0), api.ErrKey)
	want(t, f, 1, 1i)
	if len(f.Late()) != 0 || len(late) != 5 || late[4].Key != 3 {
		t.Error(f.Late(), late)
	}
}

// P15.4, P15.5
func TestEachStepIsAddedOnceAndTakenBackOnce(t *testing.T) {
	r := rand.New(rand.NewSource(15))
	for range 300 {
		f := New([]complex128{1000 + 1000i, 1000 + 1000i})
		added, taken := map[int]int{}, map[int]int{}
		steps := map[int]complex128{}
		for k := range 6 {
			steps[k] = complex(float64(1+k), float64(int(1)<<k))
		}
		note := func(act func(), at int) {
			before, dead := f.Places()[0], map[int]bool{}
			for k := range 6 {
				_, dead[k] = f.Key(k)
			}
			act()
			for k, z := range steps {
				switch f.Places()[0] - before {
				case z:
					added[k]++
					if dead[k] {
						t.Fatal("a dead key's step")
					}
				case -z:
					taken[k]++
				}
			}
		}
		for at := range 60 {
			k := r.Intn(6)
			if r.Intn(3) == 0 && len(f.Late()) > 0 {
				note(func() { f.Deliver(r.Intn(len(f.Late()))) }, at)
			} else {
				note(func() { f.Call(Order{k, 0, steps[k], r.Intn(4) == 0}, r.Intn(7)) }, at)
			}
		}
		total := 1000 + 1000i
		changes := 0
		for k, z := range steps {
			used, dead := f.Key(k)
			if added[k] > 1 || taken[k] > added[k] || used != (added[k] == 1 && taken[k] == 0) || used && dead {
				t.Fatal(added, taken, used, dead)
			}
			changes += added[k] + taken[k]
			if used {
				total += z
			}
		}
		want(t, f, changes, total, 1000+1000i)
	}
}
