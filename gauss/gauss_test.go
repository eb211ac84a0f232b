package gauss

import (
	"math"
	"math/rand"
	"slices"
	"testing"

	"slipway/api"
)

const top = api.MaxPart

var negative = math.Copysign(0, -1)

// neither are places nor steps.
var neither = []complex128{
	0.5, 0.5i, complex(math.NaN(), 0), complex(0, math.NaN()), complex(math.Inf(1), 0), complex(0, math.Inf(-1)), complex(math.Inf(-1), math.Inf(1)),
	top + 1, (top + 1) * 1i, complex(0, 1e300), complex(1e-300, 0), complex(-top-1, 0), complex(0, -top-1), complex(1, math.Nextafter(2, 3)),
}

func signed(list []complex128) bool {
	for _, z := range list {
		if real(z) == 0 && math.Signbit(real(z)) || imag(z) == 0 && math.Signbit(imag(z)) {
			return true
		}
	}
	return false
}

// P4.1
func TestAtAndParts(t *testing.T) {
	for _, c := range [][2]int{{0, 0}, {2, 3}, {top, 0}, {0, top}, {top, top}} {
		z, e := At(c[0], c[1])
		v, p, e2 := Parts(z)
		if e != api.OK || e2 != api.OK || v != c[0] || p != c[1] || z != complex(float64(c[0]), float64(c[1])) {
			t.Error(c, z, e, v, p, e2)
		}
	}
	for _, c := range [][2]int{{-1, 0}, {0, -1}, {top + 1, 0}, {0, top + 1}, {math.MinInt, 0}, {0, math.MaxInt}} {
		if z, e := At(c[0], c[1]); e != api.ErrBig || z != 0 {
			t.Error(c, z, e)
		}
	}
	for _, z := range append([]complex128{-1, -1i, 1 - 1i}, neither...) {
		if v, p, e := Parts(z); e != api.ErrForm || v != 0 || p != 0 {
			t.Error(z, v, p, e)
		}
	}
	if v, p, e := Parts(complex(negative, negative)); e != api.OK || v != 0 || p != 0 {
		t.Error(v, p, e)
	}
}

// P4.2
func TestStep(t *testing.T) {
	for _, c := range []struct {
		kind, from, to int
		want           complex128
		e              api.Errno
	}{
		{1, 0, 0, 1i, api.OK}, {1, -1, top + 1, 1i, api.OK}, {3, math.MinInt, math.MaxInt, 1i, api.OK},
		{2, 0, 5, 5, api.OK}, {2, 5, 0, -5, api.OK}, {2, 3, 3, 0, api.OK}, {2, 0, top, top, api.OK}, {2, top, 0, -top, api.OK},
		{2, -1, 0, 0, api.ErrBig}, {2, 0, -1, 0, api.ErrBig}, {2, top + 1, 0, 0, api.ErrBig}, {2, 0, top + 1, 0, api.ErrBig}, {2, math.MinInt, math.MaxInt, 0, api.ErrBig},
		{0, 0, 0, 0, api.ErrForm}, {4, -1, 0, 0, api.ErrForm}, {-1, 0, 0, 0, api.ErrForm}, {math.MaxInt, 0, 0, 0, api.ErrForm},
	} {
		if z, e := Step(c.kind, c.from, c.to); z != c.want || e != c.e || signed([]complex128{z}) {
			t.Error(c, z, e)
		}
	}
}

// P4.3
func TestWalk(t *testing.T) {
	for _, c := range []struct {
		start       complex128
		steps, want []complex128
		e           api.Errno
	}{
		{2 + 3i, []complex128{1i, -1, 1i}, []complex128{2 + 3i, 2 + 4i, 1 + 4i, 1 + 5i}, api.OK},
		{0, nil, []complex128{0}, api.OK},
		{0, []complex128{top, -top, top * 1i}, []complex128{0, top, 0, top * 1i}, api.OK},
		{0, []complex128{-1, 1}, nil, api.ErrBig},
		{top, []complex128{1, -1}, nil, api.ErrBig},
		{0, []complex128{-1, 0.5}, nil, api.ErrForm},
		{-1, []complex128{1}, nil, api.ErrForm},
		{0.5, nil, nil, api.ErrForm},
		{complex(negative, negative), []complex128{complex(negative, negative)}, []complex128{0, 0}, api.OK},
	} {
		kept := slices.Clone(c.steps)
		places, e := Walk(c.start, c.steps)
		if e != c.e || !slices.Equal(places, c.want) || signed(places) {
			t.Error(c, places, e)
		}
		if !slices.Equal(kept, c.steps) {
			t.Error("steps were changed")
		}
	}
	for _, z := range neither {
		if places, e := Walk(0, []complex128{0, z}); e != api.ErrForm || places != nil {
			t.Error(z, places, e)
		}
		if places, e := Walk(z, nil); e != api.ErrForm || places != nil {
			t.Error(z, places, e)
		}
	}
}

func TestSum(t *testing.T) {
	for _, c := range []struct {
		steps []complex128
		want  complex128
		e     api.Errno
	}{
		{nil, 0, api.OK},
		{[]complex128{1, 1i, -3}, -2 + 1i, api.OK},
		{[]complex128{top, top, top, -top, -top}, top, api.OK},
		{[]complex128{-top * 1i, -1i, 1i}, -top * 1i, api.OK},
		{[]complex128{top, 1}, 0, api.ErrBig},
		{[]complex128{-top * 1i, -1i}, 0, api.ErrBig},
		{[]complex128{top, top, 0.5}, 0, api.ErrForm},
		{[]complex128{complex(negative, negative)}, 0, api.OK},
	} {
		if z, e := Sum(c.steps...); z != c.want || e != c.e || signed([]complex128{z}) {
			t.Error(c, z, e)
		}
	}
	for _, z := range neither {
		if s, e := Sum(1, z); e != api.ErrForm || s != 0 {
			t.Error(z, s, e)
		}
	}
}

// P4.4
func TestBack(t *testing.T) {
	back, e := Back([]complex128{1i, -1, 1i, 0, complex(negative, top)})
	if e != api.OK || !slices.Equal(back, []complex128{-top * 1i, 0, -1i, 1, -1i}) || signed(back) {
		t.Error(back, e)
	}
	if back, e := Back(nil); e != api.OK || len(back) != 0 {
		t.Error(back, e)
	}
	for _, z := range neither {
		if back, e := Back([]complex128{z, 1}); e != api.ErrForm || back != nil {
			t.Error(z, back, e)
		}
	}
}

func TestBackLeadsOverTheSamePlaces(t *testing.T) {
	r := rand.New(rand.NewSource(4))
	for range 200 {
		start := complex(float64(r.Intn(9)), float64(r.Intn(9)))
		steps := make([]complex128, r.Intn(6))
		for i := range steps {
			steps[i] = complex(float64(r.Intn(5)-2), float64(r.Intn(5)-2))
		}
		places, e := Walk(start, steps)
		if e != api.OK {
			continue
		}
		back, _ := Back(steps)
		again, e := Walk(places[len(places)-1], back)
		slices.Reverse(again)
		sum, _ := Sum(steps...)
		if e != api.OK || !slices.Equal(again, places) || start+sum != places[len(places)-1] {
			t.Fatal(start, steps, places, again)
		}
	}
}

// P4.5
func TestApart(t *testing.T) {
	for _, c := range []struct {
		a, b complex128
		want int
	}{{0, 0, 0}, {2 + 3i, 1 + 5i, 3}, {1 + 5i, 2 + 3i, 3}, {0, complex(top, top), 2 * top}, {complex(negative, 1), 0, 1}} {
		if n, e := Apart(c.a, c.b); n != c.want || e != api.OK {
			t.Error(c, n, e)
		}
	}
	for _, z := range append([]complex128{-1, -1i}, neither...) {
		if n, e := Apart(z, 0); n != 0 || e != api.ErrForm {
			t.Error(z, n, e)
		}
		if n, e := Apart(0, z); n != 0 || e != api.ErrForm {
			t.Error(z, n, e)
		}
	}
}
