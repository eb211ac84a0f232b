package rank

import (
	"math"
	"slices"
	"testing"

	"slipway/api"
)

// P5.1
func TestOrder(t *testing.T) {
	for _, c := range []struct {
		mode, count, current int
		want                 []int
	}{
		{0, 5, 2, []int{4, 3, 2, 1, 0}}, {1, 5, 2, []int{0, 1, 2, 3, 4}}, {2, 5, 2, []int{2, 4, 3, 1, 0}}, {3, 5, 2, []int{2, 3, 1, 4, 0}},
		{2, 3, 0, []int{0, 2, 1}}, {2, 3, 2, []int{2, 1, 0}}, {3, 4, 0, []int{0, 1, 2, 3}}, {3, 4, 3, []int{3, 2, 1, 0}}, {3, 5, 1, []int{1, 2, 0, 3, 4}},
		{0, 1, 0, []int{0}}, {1, 1, 0, []int{0}}, {2, 1, 0, []int{0}}, {3, 1, 0, []int{0}},
		{3, 12, 8, []int{8, 9, 7, 10, 6, 11, 5, 4, 3, 2, 1, 0}},
	} {
		if order, e := Order(c.mode, c.count, c.current); e != api.OK || !slices.Equal(order, c.want) {
			t.Error(c, order, e)
		}
	}
	for _, c := range []struct {
		mode, count, current int
		want                 api.Errno
	}{
		{-1, 0, -1, api.ErrForm}, {4, 13, 9, api.ErrForm}, {math.MaxInt, 1, 0, api.ErrForm},
		{0, 0, -1, api.ErrCount}, {1, 13, 0, api.ErrCount}, {2, -1, 0, api.ErrCount}, {3, math.MaxInt, 0, api.ErrCount},
		{0, 3, 3, api.ErrVersion}, {1, 3, -1, api.ErrVersion}, {2, 12, 12, api.ErrVersion}, {3, 1, 1, api.ErrVersion},
	} {
		if order, e := Order(c.mode, c.count, c.current); e != c.want || order != nil {
			t.Error(c, order, e)
		}
	}
}

// P5.2
func TestRanks(t *testing.T) {
	for _, c := range []struct {
		order, want []int
		e           api.Errno
	}{
		{nil, nil, api.OK}, {[]int{0}, []int{0}, api.OK}, {[]int{2, 0, 1}, []int{1, 2, 0}, api.OK}, {[]int{2, 3, 1, 4, 0}, []int{4, 2, 0, 1, 3}, api.OK},
		{[]int{1}, nil, api.ErrForm}, {[]int{0, 0}, nil, api.ErrForm}, {[]int{-1, 0}, nil, api.ErrForm}, {[]int{0, 2}, nil, api.ErrForm}, {[]int{math.MinInt}, nil, api.ErrForm},
	} {
		kept := slices.Clone(c.order)
		if ranks, e := Ranks(c.order); e != c.e || !slices.Equal(ranks, c.want) || !slices.Equal(kept, c.order) {
			t.Error(c, ranks, e)
		}
	}
}

// P5.3
func TestCompare(t *testing.T) {
	list := [][]int{nil, {0}, {0, 0}, {0, 1}, {0, 1, 5}, {0, 2}, {1}, {1, 0}, {10}}
	for i, a := range list {
		for j, b := range list {
			want := 0
			if i < j {
				want = -1
			} else if i > j {
				want = 1
			}
			if c := Compare(a, b); c != want {
				t.Error(a, b, c)
			}
		}
	}
	if c := Compare([]int{-5}, []int{math.MaxInt}); c != -1 {
		t.Error(c)
	}
}

// P5.4
func TestChoicesStandInTheirOrder(t *testing.T) {
	for _, limits := range [][]int{nil, {1}, {3}, {2, 3}, {3, 1, 2, 4}, {12, 12}} {
		count, e := Count(limits)
		if e != api.OK {
			t.Fatal(limits, e)
		}
		var last []int
		for index := range count {
			choice, e := Nth(limits, index)
			back, e2 := Index(limits, choice)
			if e != api.OK || e2 != api.OK || back != index || len(choice) != len(limits) {
				t.Fatal(limits, index, choice, e, e2)
			}
			if index > 0 && Compare(last, choice) != -1 {
				t.Fatal(limits, last, choice)
			}
			next, ok := Next(limits, choice)
			if index == count-1 {
				if ok || next != nil {
					t.Fatal(limits, choice, next)
				}
			} else if after, _ := Nth(limits, index+1); !ok || !slices.Equal(next, after) {
				t.Fatal(limits, choice, next)
			}
			last = choice
		}
		for _, index := range []int{-1, count, math.MaxInt, math.MinInt} {
			if choice, e := Nth(limits, index); e != api.ErrBig || choice != nil {
				t.Error(limits, index, choice, e)
			}
		}
	}
	if choice, _ := Nth([]int{2, 3}, 4); !slices.Equal(choice, []int{1, 1}) {
		t.Error(choice)
	}
	if n, e := Count(slices.Repeat([]int{12}, 12)); n != 8916100448256 || e != api.OK {
		t.Error(n, e)
	}
	if n, e := Count(nil); n != 1 || e != api.OK {
		t.Error(n, e)
	}
}

func TestWrongLimitsAndChoices(t *testing.T) {
	for _, limits := range [][]int{{0}, {13}, {-1, 2}, {2, math.MinInt}, slices.Repeat([]int{1}, 13)} {
		choice := make([]int, len(limits))
		n, e := Count(limits)
		nth, e2 := Nth(limits, -1)
		index, e3 := Index(limits, choice)
		next, ok := Next(limits, choice)
		if e != api.ErrForm || e2 != api.ErrForm || e3 != api.ErrForm || ok || n != 0 || nth != nil || index != 0 || next != nil {
			t.Error(limits, n, e, nth, e2, index, e3, next, ok)
		}
	}
	for _, choice := range [][]int{nil, {0}, {0, 3}, {2, 0}, {-1, 0}, {0, 0, 0}} {
		index, e := Index([]int{2, 3}, choice)
		next, ok := Next([]int{2, 3}, choice)
		if e != api.ErrForm || ok || index != 0 || next != nil {
			t.Error(choice, index, e, next, ok)
		}
	}
}

func TestNextLeavesItsArguments(t *testing.T) {
	limits, choice := []int{2, 3, 4}, append(make([]int, 0, 8), 0, 2, 3)
	next, ok := Next(limits, choice)
	if !ok || !slices.Equal(next, []int{1, 0, 0}) || !slices.Equal(choice, []int{0, 2, 3}) || !slices.Equal(limits, []int{2, 3, 4}) {
		t.Error(next, choice, limits)
	}
}
