package catalog

import (
	"math"
	"reflect"
	"slices"
	"strings"
	"testing"

	"slipway/api"
	"slipway/digraph"
	"slipway/ranges"
	"slipway/semver"
)

func span(t *testing.T, s string) ranges.Range {
	t.Helper()
	r, e := ranges.Parse(s)
	if e != api.OK {
		t.Fatal(s, e)
	}
	return r
}

func release(t *testing.T, version string, level int, needs ...Need) Release {
	t.Helper()
	v, e := semver.Parse(version)
	if e != api.OK {
		t.Fatal(version, e)
	}
	return Release{v, level, needs}
}

// sample is a chain of three services: c needs b, b needs a; d stands alone.
func sample(t *testing.T) Catalog {
	return Catalog{[]Service{
		{"a", []Release{release(t, "1.0.0", 0), release(t, "1.5.0", 0), release(t, "2.0.0", 1)}},
		{"b", []Release{release(t, "1.0.0", 1, Need{0, span(t, "^1.0.0")}), release(t, "2.0.0", 3, Need{0, span(t, "*")})}},
		{"c-9", []Release{release(t, "1.0.0-a", 0), release(t, "1.0.0", 0, Need{1, span(t, "=2.0.0")}, Need{0, span(t, ">=1.5.0")})}},
		{"d", []Release{release(t, "0.0.1", 1000)}},
	}}
}

func wantCheck(t *testing.T, what string, c Catalog, service int, release int, e api.Errno) {
	t.Helper()
	if s, r, err := c.Check(); s != service || r != release || err != e {
		t.Errorf("%s: %d, %d, %d", what, s, r, err)
	}
}

// P6.1
func TestCheckCounts(t *testing.T) {
	wantCheck(t, "sample", sample(t), 0, 0, api.OK)
	wantCheck(t, "none", Catalog{}, 0, 0, api.ErrCount)
	var c Catalog
	for i := range 13 {
		c.Services = append(c.Services, Service{"s" + string(rune('a'+i)), []Release{release(t, "1.0.0", 0)}})
		if i < 12 {
			wantCheck(t, "up to twelve", c, 0, 0, api.OK)
		}
	}
	wantCheck(t, "thirteen", c, 0, 0, api.ErrCount)
	c.Services[0].Name = ""
	wantCheck(t, "thirteen, one without a name", c, 0, 0, api.ErrCount)
}

func TestCheckServices(t *testing.T) {
	for _, name := range []string{"", "A", "aB", "1a", "-a", "a_b", "a b", "a\n", "\xc3\xa9", strings.Repeat("a", 21)} {
		c := sample(t)
		c.Services[1].Name = name
		c.Services[1].Releases = nil
		wantCheck(t, name, c, 1, -1, api.ErrName)
	}
	for _, name := range []string{"z", "z-", "z9", "z--0", strings.Repeat("z", 20)} {
		c := sample(t)
		c.Services[1].Name = name
		wantCheck(t, name, c, 0, 0, api.OK)
	}
	c := sample(t)
	c.Services[2].Name, c.Services[2].Releases = "b", nil
	wantCheck(t, "twice", c, 2, -1, api.ErrTwice)
	c.Services[2].Name = "e"
	wantCheck(t, "no release", c, 2, -1, api.ErrCount)
	c = sample(t)
	c.Services[3].Releases = nil
	for i := range 13 {
		c.Services[3].Releases = append(c.Services[3].Releases, Release{Version: semver.Version{Patch: i}})
		if i < 12 {
			wantCheck(t, "up to twelve releases", c, 0, 0, api.OK)
		}
	}
	wantCheck(t, "thirteen releases", c, 3, -1, api.ErrCount)
}

func TestCheckReleases(t *testing.T) {
	for _, k := range []struct {
		what   string
		change func(c Catalog)
		v      int
		e      api.Errno
	}{
		{"no version", func(c Catalog) { c.Services[1].Releases[1].Version.Pre = "A"; c.Services[1].Releases[1].Level = -1 }, 1, api.ErrVersion},
		{"no version ahead", func(c Catalog) { c.Services[1].Releases[0].Version.Major = -1 }, 0, api.ErrVersion},
		{"same version", func(c Catalog) {
			c.Services[1].Releases[1].Version = c.Services[1].Releases[0].Version
			c.Services[1].Releases[1].Level = -1
		}, 1, api.ErrOrder},
		{"less", func(c Catalog) { c.Services[1].Releases[1].Version = semver.Version{Major: 1, Pre: "a"} }, 1, api.ErrOrder},
		{"level below 0", func(c Catalog) {
			c.Services[1].Releases[0].Level = -1
			c.Services[1].Releases[0].Needs = make([]Need, 9)
		}, 0, api.ErrLevel},
		{"level above", func(c Catalog) { c.Services[1].Releases[1].Level = 1001 }, 1, api.ErrLevel},
		{"level falls", func(c Catalog) { c.Services[1].Releases[1].Level = 0 }, 1, api.ErrLevel},
		{"nine needs", func(c Catalog) { c.Services[1].Releases[1].Needs = make([]Need, 9) }, 1, api.ErrCount},
		{"need of none", func(c Catalog) { c.Services[1].Releases[0].Needs[0] = Need{Service: 4} }, 0, api.ErrService},
		{"need below 0", func(c Catalog) { c.Services[1].Releases[0].Needs[0].Service = -1 }, 0, api.ErrService},
		{"need of itself", func(c Catalog) { c.Services[1].Releases[1].Needs[0].Service = 1 }, 1, api.ErrService},
		{"need of no range", func(c Catalog) { c.Services[1].Releases[1].Needs[0].Range = ranges.Range{} }, 1, api.ErrForm},
		{"need twice", func(c Catalog) {
			r := &c.Services[1].Releases[1]
			r.Needs = append(r.Needs, Need{Service: 0})
		}, 1, api.ErrTwice},
		{"first need first", func(c Catalog) {
			r := &c.Services[1].Releases[1]
			r.Needs = []Need{{Service: 0}, {Service: 0}, {Service: 9}}
		}, 1, api.ErrForm},
	} {
		c := sample(t)
		k.change(c)
		c.Services[2].Name = ""
		wantCheck(t, k.what, c, 1, k.v, k.e)
	}
	c := sample(t)
	c.Services[3].Releases[0].Level = 0
	for i := range 8 {
		c.Services = append(c.Services, Service{"n" + string(rune('a'+i)), []Release{release(t, "1.0.0", 0)}})
		c.Services[3].Releases[0].Needs = append(c.Services[3].Releases[0].Needs, Need{4 + i, span(t, "*")})
	}
	wantCheck(t, "eight needs", c, 0, 0, api.OK)
}

func TestCheckCircles(t *testing.T) {
	c := sample(t)
	c.Services[0].Releases[1].Needs = []Need{{2, span(t, "*")}}
	wantCheck(t, "circle", c, 0, 0, api.ErrCycle)
	c.Services[3].Releases[0].Level = 1001
	wantCheck(t, "circle, and a level", c, 3, 0, api.ErrLevel)
}

// P6.2
func TestGraphLinkedFits(t *testing.T) {
	c := sample(t)
	if g := c.Graph(); !reflect.DeepEqual(g, digraph.Graph{N: 4, Edges: [][2]int{{0, 1}, {0, 2}, {1, 2}}}) {
		t.Error(g)
	}
	for i := -1; i <= 4; i++ {
		for j := -1; j <= 4; j++ {
			if want := i != j && min(i, j) >= 0 && max(i, j) <= 2; c.Linked(i, j) != want {
				t.Error(i, j, c.Linked(i, j))
			}
		}
	}
	for _, k := range [][4]int{{0, 2, 1, 0}, {1, 0, 2, 1}, {0, 0, 2, 1}, {0, 0, 0, 0}, {0, 0, 0, 1}, {-1, 0, 0, 0}, {4, 0, 0, 0}, {0, 3, 3, 0}, {0, -1, 3, 0}, {3, 1, 0, 0}, {math.MaxInt, 0, math.MinInt, 0}} {
		if c.Fits(k[0], k[1], k[2], k[3]) || c.Fits(k[2], k[3], k[0], k[1]) {
			t.Error(k)
		}
	}
	for _, k := range [][4]int{{0, 0, 1, 0}, {0, 1, 1, 0}, {0, 2, 1, 1}, {0, 0, 1, 1}, {1, 0, 2, 0}, {1, 1, 2, 1}, {0, 1, 2, 1}, {0, 2, 2, 1}, {3, 0, 0, 2}} {
		if !c.Fits(k[0], k[1], k[2], k[3]) || !c.Fits(k[2], k[3], k[0], k[1]) {
			t.Error(k)
		}
	}
}

// P6.3
func TestStands(t *testing.T) {
	c := sample(t)
	for _, k := range []struct {
		i     int
		z     complex128
		wants bool
	}{
		{0, 0, true}, {0, 1i, true}, {0, 2i, false}, {0, 2 + 2i, true}, {0, 2 + 1i, true}, {0, 2 + 3i, true}, {0, 2, false}, {0, 2 + 4i, false}, {0, 3, false}, {0, -1, false}, {0, -1i, false}, {0, 0.5, false},
		{1, 1 + 5i, true}, {1, 1 + 7i, true}, {1, 1 + 4i, false}, {1, 1 + 8i, false}, {3, 2001i, true}, {3, 1999i, true}, {3, 2002i, false}, {4, 0, false}, {-1, 0, false}, {0, complex(math.NaN(), 0), false},
	} {
		if c.Stands(k.i, k.z) != k.wants {
			t.Error(k)
		}
	}
}

func TestGood(t *testing.T) {
	c := sample(t)
	for _, k := range []struct {
		fleet []complex128
		wants bool
	}{
		{[]complex128{0, 2i, 0, 2000i}, true}, {[]complex128{1i, 3i, 1i, 1999i}, true}, {[]complex128{2 + 2i, 1 + 6i, 1, 2000i}, true}, {[]complex128{1, 1 + 6i, 1, 2000i}, true},
		{[]complex128{2 + 2i, 2i, 0, 2000i}, false}, {[]complex128{0, 1 + 6i, 1, 2000i}, false}, {[]complex128{1, 2i, 1, 2000i}, false}, {[]complex128{0, 2i, 0, 2002i}, false},
		{[]complex128{0, 2i, 0}, false}, {[]complex128{0, 2i, 0, 2000i, 0}, false}, {nil, false}, {[]complex128{0, 2i, 0, complex(math.NaN(), 2000)}, false},
	} {
		if c.Good(k.fleet) != k.wants {
			t.Error(k)
		}
	}
}

func TestSettled(t *testing.T) {
	c := sample(t)
	fleet, e := c.Settled([]int{2, 0, 1, 0})
	if e != api.OK || !slices.Equal(fleet, []complex128{2 + 2i, 2i, 1, 2000i}) {
		t.Error(fleet, e)
	}
	for _, versions := range [][]int{nil, {0, 0, 0}, {0, 0, 0, 0, 0}, {3, 0, 0, 0}, {0, -1, 0, 0}, {0, 0, 0, 1}, {0, math.MaxInt, 0, 0}} {
		if fleet, e := c.Settled(versions); e != api.ErrMap || fleet != nil {
			t.Error(versions, fleet, e)
		}
	}
}

// P6.4
func TestCloneSharesNothing(t *testing.T) {
	c := sample(t)
	clone := c.Clone()
	if !reflect.DeepEqual(clone, c) {
		t.Fatal(clone)
	}
	clone.Services[2].Releases[1].Needs[0].Range.Any[0][0].Op = 0
	clone.Services[2].Releases[1].Needs[0].Range.Any[0] = nil
	clone.Services[2].Releases[1].Needs[1].Service = 3
	clone.Services[1].Releases[0].Level = 7
	clone.Services[0].Name = "x"
	if !reflect.DeepEqual(c, sample(t)) {
		t.Error(c)
	}
	odd := Catalog{[]Service{{"", []Release{{Level: -1, Needs: []Need{{Service: -5}}}}}, {}}}
	if !reflect.DeepEqual(odd.Clone(), odd) {
		t.Error(odd.Clone())
	}
	if len((Catalog{}).Clone().Services) != 0 {
		t.Error("something of nothing")
	}
}

func TestWrongCataloguesEnd(t *testing.T) {
	c := Catalog{[]Service{{"", []Release{{Level: math.MaxInt, Needs: []Need{{Service: -5}, {Service: 0}, {Service: 99}}}}}, {}}}
	c.Check()
	c.Graph()
	c.Linked(0, 1)
	c.Fits(0, 0, 1, 0)
	c.Good([]complex128{0, 0})
	c.Settled([]int{0, 0})
}
