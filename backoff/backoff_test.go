package backoff

import (
	"math"
	"math/rand"
	"slices"
	"testing"

	"slipway/api"
)

// P16.1
func TestWaitAndTotal(t *testing.T) {
	for _, k := range []struct {
		base, cap int
		waits     []int
	}{
		{3, 20, []int{3, 6, 12, 20, 20, 20}}, {0, 20, []int{0, 0, 0}}, {5, 0, []int{0, 0, 0}}, {30, 20, []int{20, 20}}, {1, 1, []int{1, 1}}, {1, 8, []int{1, 2, 4, 8, 8}},
		{api.MaxWait, api.MaxWait, []int{api.MaxWait, api.MaxWait}}, {1<<19 + 1, api.MaxWait, []int{1<<19 + 1, api.MaxWait, api.MaxWait}}, {20, 20, []int{20, 20}}, {7, 13, []int{7, 13}},
	} {
		total := 0
		for i, want := range k.waits {
			wait, e := Wait(k.base, k.cap, i+1)
			before, e2 := Total(k.base, k.cap, i)
			if wait != want || e != api.OK || before != total || e2 != api.OK {
				t.Error(k, i, wait, e, before, e2)
			}
			total += want
		}
		last := k.waits[len(k.waits)-1]
		for _, n := range []int{100, 1 << 40, math.MaxInt} {
			if wait, e := Wait(k.base, k.cap, n); wait != last || e != api.OK {
				t.Error(k, n, wait, e)
			}
		}
		all, e := Total(k.base, k.cap, 1000000)
		if want := total + (1000000-len(k.waits))*last; all != want || e != api.OK {
			t.Error(k, all, want, e)
		}
	}
	for _, k := range [][3]int{{-1, 0, 1}, {0, -1, 1}, {api.MaxWait + 1, 0, 1}, {0, api.MaxWait + 1, 1}, {math.MaxInt, 0, 1}, {0, math.MinInt, 1}, {1, 1, -1}, {1, 1, math.MinInt}} {
		wait, e := Wait(k[0], k[1], k[2])
		total, e2 := Total(k[0], k[1], k[2])
		if e != api.ErrForm || e2 != api.ErrForm || wait != 0 || total != 0 {
			t.Error(k, wait, e, total, e2)
		}
	}
	if wait, e := Wait(1, 1, 0); wait != 0 || e != api.ErrForm {
		t.Error(wait, e)
	}
	for _, n := range []int{1000001, math.MaxInt} {
		if total, e := Total(1, 1, n); total != 0 || e != api.ErrForm {
			t.Error(total, e)
		}
	}
}

// P16.2
func TestTick(t *testing.T) {
	c := New()
	if at, ok := c.Next(); c.Now() != 0 || len(c.Due()) != 0 || at != 0 || ok {
		t.Error(c)
	}
	for _, k := range []struct {
		n, now int
		e      api.Errno
	}{{0, 0, api.OK}, {5, 5, api.OK}, {-1, 5, api.ErrForm}, {1<<40 + 1, 5, api.ErrForm}, {math.MaxInt, 5, api.ErrForm}, {math.MinInt, 5, api.ErrForm}, {1 << 40, 1<<40 + 5, api.OK}} {
		if e := c.Tick(k.n); e != k.e || c.Now() != k.now {
			t.Error(k, e, c.Now())
		}
	}
	for range 1022 {
		c.Tick(1 << 40)
	}
	if e := c.Tick(1<<40 - 4); e != api.ErrBig || c.Now() != 1023<<40+5 {
		t.Error(e, c.Now())
	}
	if e := c.Tick(1<<40 - 5); e != api.OK || c.Now() != 1<<50 {
		t.Error(e, c.Now())
	}
	if e := c.Tick(1); e != api.ErrBig || c.Now() != 1<<50 {
		t.Error(e, c.Now())
	}
}

// P16.3
func TestSetClearReady(t *testing.T) {
	c := New()
	for _, k := range [][2]int{{-1, 0}, {1000000, 0}, {0, -1}, {0, 1<<50 + 1}, {math.MinInt, 0}, {0, math.MaxInt}} {
		if e := c.Set(k[0], k[1]); e != api.ErrForm {
			t.Error(k, e)
		}
		if !c.Ready(k[0]) || c.Clear(k[0]) {
			t.Error(k)
		}
	}
	for _, k := range [][2]int{{0, 1 << 50}, {999999, 0}, {3, 10}} {
		if e := c.Set(k[0], k[1]); e != api.OK {
			t.Error(k, e)
		}
	}
	if c.Ready(0) || !c.Ready(999999) || c.Ready(3) {
		t.Error(c)
	}
	c.Tick(9)
	if c.Ready(3) {
		t.Error(c)
	}
	c.Tick(1)
	if !c.Ready(3) {
		t.Error(c)
	}
	c.Set(3, 11)
	if c.Ready(3) || !c.Clear(3) || !c.Ready(3) || c.Clear(3) {
		t.Error(c)
	}
	if e := c.Set(0, 1<<50+1); e != api.ErrForm || c.Ready(0) {
		t.Error(e)
	}
}

// P16.4
func TestDueAndNext(t *testing.T) {
	c := New()
	for _, k := range [][2]int{{5, 3}, {2, 3}, {9, 1}, {1, 4}, {7, 8}, {0, 9}, {4, 0}} {
		c.Set(k[0], k[1])
	}
	for _, k := range []struct {
		tick, next int
		ok         bool
		due        []int
	}{{0, 1, true, []int{4}}, {1, 3, true, []int{4, 9}}, {2, 4, true, []int{4, 9, 2, 5}}, {1, 8, true, []int{4, 9, 2, 5, 1}}, {5, 0, false, []int{4, 9, 2, 5, 1, 7, 0}}} {
		c.Tick(k.tick)
		for range 2 {
			at, ok := c.Next()
			if due := c.Due(); !slices.Equal(due, k.due) || at != k.next || ok != k.ok {
				t.Error(k, due, at, ok)
			}
		}
	}
	c.Due()[0] = 77
	if !slices.Equal(c.Due(), []int{4, 9, 2, 5, 1, 7, 0}) {
		t.Error(c.Due())
	}
}

func TestAgainstALongWay(t *testing.T) {
	r := rand.New(rand.NewSource(16))
	c := New()
	alarms := map[int]int{}
	for range 5000 {
		id := r.Intn(20)
		switch r.Intn(4) {
		case 0:
			at := c.Now() + r.Intn(30)
			c.Set(id, at)
			alarms[id] = at
		case 1:
			_, had := alarms[id]
			if c.Clear(id) != had {
				t.Fatal(id)
			}
			delete(alarms, id)
		case 2:
			c.Tick(r.Intn(5))
		}
		at, has := alarms[id]
		if c.Ready(id) != (!has || at <= c.Now()) || slices.Contains(c.Due(), id) != (has && at <= c.Now()) {
			t.Fatal(id)
		}
	}
}
