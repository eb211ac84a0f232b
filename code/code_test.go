package code

import (
	"bytes"
	"math"
	"math/rand"
	"reflect"
	"slices"
	"strings"
	"testing"

	"slipway/api"
	"slipway/catalog"
	"slipway/plan"
	"slipway/ranges"
	"slipway/semver"
	"slipway/solve"
)

var (
	someRange   = ranges.Range{Any: [][]ranges.Comp{{{Op: 0}, {Op: 6, V: semver.Version{Major: 1, Pre: "a"}}}, {{Op: 2, V: semver.Version{Patch: 300}}}}}
	someCatalog = catalog.Catalog{Services: []catalog.Service{
		{Name: "a", Releases: []catalog.Release{{Version: semver.Version{Major: 1}, Level: 200}, {Version: semver.Version{Major: 2, Pre: "b.1"}, Level: 201}}},
		{Name: "bc", Releases: []catalog.Release{{Version: semver.Version{Minor: 1}, Needs: []catalog.Need{{Service: 0, Range: someRange}}}}},
	}}
	someRequest = solve.Request{Pins: []solve.Pin{{Service: 1, Range: someRange}}, Modes: []int{0, 3}}
	somePlan    = plan.Plan{From: []int{0, 1}, To: []int{1, 2}, Steps: []plan.Step{{Service: 0, Kind: 2}, {Service: 1, Kind: 1}}, Before: [][2]int{{0, 1}, {1, 300}}}
)

// forms are things, their bytes written by hand, and how they are read and written.
type form struct {
	name string
	b    []byte
	put  func() ([]byte, api.Errno)
	get  func(b []byte) (any, any, api.Errno)
}

var rangeBytes = []byte{2, 2, 0, 6, 1, 0, 0, 1, 'a', 1, 2, 0, 0, 0xac, 2, 0}

func forms() []form {
	catalogBytes := slices.Concat([]byte{2, 1, 'a', 2, 1, 0, 0, 0, 0xc8, 1, 0, 2, 0, 0, 3, 'b', '.', '1', 0xc9, 1, 0, 2, 'b', 'c', 1, 0, 1, 0, 0, 0, 1, 0}, rangeBytes)
	requestBytes := slices.Concat([]byte{1, 1}, rangeBytes, []byte{2, 0, 3})
	planBytes := []byte{2, 0, 1, 2, 1, 2, 2, 0, 2, 1, 1, 2, 0, 1, 1, 0xac, 2}
	return []form{
		{"numbers", []byte{4, 1, 0x80, 1, 0, 0x80, 0x80, 0x80, 0x80, 0x80, 0x20}, func() ([]byte, api.Errno) { return PutNumbers([]int{1, 128, 0, 1 << 40}) },
			func(b []byte) (any, any, api.Errno) {
				l, e := GetNumbers(b)
				return l, []int{1, 128, 0, 1 << 40}, e
			}},
		{"catalogue", catalogBytes, func() ([]byte, api.Errno) { return PutCatalog(someCatalog) },
			func(b []byte) (any, any, api.Errno) { c, e := GetCatalog(b); return c, someCatalog, e }},
		{"request", requestBytes, func() ([]byte, api.Errno) { return PutRequest(someRequest) },
			func(b []byte) (any, any, api.Errno) { q, e := GetRequest(b); return q, someRequest, e }},
		{"plan", planBytes, func() ([]byte, api.Errno) { return PutPlan(somePlan) },
			func(b []byte) (any, any, api.Errno) { p, e := GetPlan(b); return p, somePlan, e }},
	}
}

// P12.1
func TestPutWritesTheForm(t *testing.T) {
	for _, f := range forms() {
		if b, e := f.put(); e != api.OK || !bytes.Equal(b, f.b) {
			t.Errorf("%s: %x, %d", f.name, b, e)
		}
	}
	if b, e := PutNumbers(nil); e != api.OK || !bytes.Equal(b, []byte{0}) {
		t.Error(b, e)
	}
	if b, e := PutPlan(plan.Plan{}); e != api.OK || !bytes.Equal(b, []byte{0, 0, 0, 0}) {
		t.Error(b, e)
	}
}

func TestPutRefusesWhatHasNoForm(t *testing.T) {
	for _, n := range []int{-1, 1<<40 + 1, math.MinInt, math.MaxInt} {
		var results []api.Errno
		note := func(b []byte, e api.Errno) {
			if b != nil {
				t.Error(b)
			}
			results = append(results, e)
		}
		note(PutNumbers([]int{0, n}))
		for k := range 6 {
			c := someCatalog.Clone()
			s := &c.Services[1].Releases[0]
			for i, p := range []*int{&s.Version.Major, &s.Version.Minor, &s.Version.Patch, &s.Level, &s.Needs[0].Service, &s.Needs[0].Range.Any[0][1].Op} {
				if i == k {
					*p = n
				}
			}
			note(PutCatalog(c))
		}
		note(PutRequest(solve.Request{Pins: []solve.Pin{{Service: n}}}))
		note(PutRequest(solve.Request{Modes: []int{n}}))
		note(PutPlan(plan.Plan{From: []int{n}}))
		note(PutPlan(plan.Plan{To: []int{n}}))
		note(PutPlan(plan.Plan{Steps: []plan.Step{{Service: n}}}))
		note(PutPlan(plan.Plan{Steps: []plan.Step{{Kind: n}}}))
		note(PutPlan(plan.Plan{Before: [][2]int{{n, 0}}}))
		note(PutPlan(plan.Plan{Before: [][2]int{{0, n}}}))
		for i, e := range results {
			if e != api.ErrForm {
				t.Error(n, i, e)
			}
		}
	}
	for _, v := range []semver.Version{{Major: 1}, {Minor: 1}, {Patch: -1}, {Pre: "a"}} {
		r := ranges.Range{Any: [][]ranges.Comp{{{Op: 0, V: v}}}}
		if b, e := PutRequest(solve.Request{Pins: []solve.Pin{{Range: r}}}); e != api.ErrForm || b != nil {
			t.Error(v, b, e)
		}
	}
	odd := solve.Request{Pins: []solve.Pin{{Service: 99, Range: ranges.Range{Any: [][]ranges.Comp{nil, {{Op: 77, V: semver.Version{Pre: "\xff\x00"}}}}}}}}
	b, e := PutRequest(odd)
	back, e2 := GetRequest(b)
	if e != api.OK || e2 != api.OK || !reflect.DeepEqual(back, odd) {
		t.Error(b, e, back, e2)
	}
}

// P12.2
func TestGetReadsTheForm(t *testing.T) {
	for _, f := range forms() {
		got, want, e := f.get(f.b)
		if e != api.OK || !reflect.DeepEqual(got, want) {
			t.Errorf("%s: %v, %d", f.name, got, e)
		}
		for cut := range f.b {
			if got, _, e := f.get(f.b[:cut]); e != api.ErrEnd || !reflect.ValueOf(got).IsZero() {
				t.Errorf("%s up to %d: %v, %d", f.name, cut, got, e)
			}
		}
		if got, _, e := f.get(append(bytes.Clone(f.b), 0)); e != api.ErrForm || !reflect.ValueOf(got).IsZero() {
			t.Errorf("%s and more: %v, %d", f.name, got, e)
		}
	}
}

func TestGetErrorsAsTheyAreRead(t *testing.T) {
	for _, k := range []struct {
		b []byte
		e api.Errno
	}{
		{nil, api.ErrEnd}, {[]byte{1}, api.ErrEnd}, {[]byte{1, 0x80, 0}, api.ErrForm}, {[]byte{1, 0x81, 0}, api.ErrForm}, {[]byte{0x80, 0}, api.ErrForm}, {[]byte{0x80}, api.ErrEnd},
		{[]byte{1, 0x80, 0x80, 0x80, 0x80, 0x80, 0x20}, api.OK}, {[]byte{1, 0x81, 0x80, 0x80, 0x80, 0x80, 0x20}, api.ErrForm}, {[]byte{1, 0x80, 0x80, 0x80, 0x80, 0x80, 0x21}, api.ErrForm}, {[]byte{1, 0xff, 0xff, 0xff, 0xff, 0xff, 0x1f}, api.OK},
		{[]byte{1, 0x80, 0x80, 0x80, 0x80, 0x80, 0x7f}, api.ErrForm}, {[]byte{1, 0x80, 0x80, 0x80, 0x80, 0x80, 0x80}, api.ErrForm}, {[]byte{1, 0x80, 0x80, 0x80, 0x80, 0x80}, api.ErrEnd}, {[]byte{1, 0x80, 0x80, 0x80, 0x80, 0x80, 0x80, 1}, api.ErrForm},
		{[]byte{2, 0x80, 0}, api.ErrForm}, {[]byte{3, 0x80, 0}, api.ErrEnd}, {[]byte{0, 0x80}, api.ErrForm}, {[]byte{0x80, 0x80, 0x80, 0x80, 0x80, 0x20, 1}, api.ErrEnd},
		{[]byte{1, 1, 0x80, 0}, api.ErrForm},
	} {
		l, e := GetNumbers(k.b)
		if e != k.e || e != api.OK && l != nil {
			t.Errorf("%x: %v, %d", k.b, l, e)
		}
		if e != api.OK {
			continue
		}
		if b, e := PutNumbers(l); e != api.OK || !bytes.Equal(b, k.b) {
			t.Errorf("%x: %x, %d", k.b, b, e)
		}
	}
	if _, e := GetCatalog([]byte{1, 3, 'a', 0}); e != api.ErrEnd {
		t.Error(e)
	}
	if _, e := GetCatalog([]byte{1, 0x80, 0, 0}); e != api.ErrForm {
		t.Error(e)
	}
}

func TestWhatIsReadIsWrittenAsTheSameBytes(t *testing.T) {
	r := rand.New(rand.NewSource(12))
	read := 0
	for _, f := range forms() {
		for range 20000 {
			b := bytes.Clone(f.b)
			for range 1 + r.Intn(3) {
				b[r.Intn(len(b))] = byte([]int{0, 1, 2, 3, 6, 0x80, 0xff}[r.Intn(7)])
			}
			b = b[:len(b)-r.Intn(2)*r.Intn(len(b))]
			again, ok := rewrite(f.name, b)
			if ok {
				read++
				if !bytes.Equal(again, b) {
					t.Fatalf("%s: %x, %x", f.name, b, again)
				}
			}
		}
	}
	if read == 0 {
		t.Error("nothing was read")
	}
}

func rewrite(name string, b []byte) ([]byte, bool) {
	var again []byte
	var e, e2 api.Errno
	switch name {
	case "numbers":
		var l []int
		l, e = GetNumbers(b)
		again, e2 = PutNumbers(l)
	case "catalogue":
		var c catalog.Catalog
		c, e = GetCatalog(b)
		again, e2 = PutCatalog(c)
	case "request":
		var q solve.Request
		q, e = GetRequest(b)
		again, e2 = PutRequest(q)
	case "plan":
		var p plan.Plan
		p, e = GetPlan(b)
		again, e2 = PutPlan(p)
	}
	return again, e == api.OK && e2 == api.OK
}

func TestLongTextsEnd(t *testing.T) {
	name := strings.Repeat("n", 1<<20)
	c := catalog.Catalog{Services: []catalog.Service{{Name: name}}}
	b, e := PutCatalog(c)
	back, e2 := GetCatalog(b)
	if e != api.OK || e2 != api.OK || back.Services[0].Name != name {
		t.Error(e, e2)
	}
	if _, e := GetCatalog(bytes.Repeat([]byte{0x7f}, 1<<16)); e == api.OK {
		t.Error(e)
	}
}
