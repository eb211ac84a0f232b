package manifest

import (
	"reflect"
	"strings"
	"testing"

	"slipway/api"
	"slipway/catalog"
	"slipway/ranges"
	"slipway/semver"
)

const example = "service a\nrelease 1.0.0 level 0\nrelease 2.0.0-a.1 level 7\nservice b\nrelease 1.0.0 level 3\nneed a of ^1.0.0 || =3.0.0\nservice of\nrelease 0.0.1 level 1000\nneed b of >=1.0.0 <2.0.0\nneed a of *\n"

// P8.1
func TestParse(t *testing.T) {
	c, line, e := Parse(example)
	if e != api.OK || line != 0 {
		t.Fatal(line, e)
	}
	first, _ := ranges.Parse("^1.0.0 || =3.0.0")
	second, _ := ranges.Parse(">=1.0.0 <2.0.0")
	third, _ := ranges.Parse("*")
	want := catalog.Catalog{Services: []catalog.Service{
		{Name: "a", Releases: []catalog.Release{{Version: semver.Version{Major: 1}}, {Version: semver.Version{Major: 2, Pre: "a.1"}, Level: 7}}},
		{Name: "b", Releases: []catalog.Release{{Version: semver.Version{Major: 1}, Level: 3, Needs: []catalog.Need{{Service: 0, Range: first}}}}},
		{Name: "of", Releases: []catalog.Release{{Version: semver.Version{Patch: 1}, Level: 1000, Needs: []catalog.Need{{Service: 1, Range: second}, {Service: 0, Range: third}}}}},
	}}
	if !reflect.DeepEqual(c, want) {
		t.Error(c)
	}
	needsOf, line, e := Parse("service of\nrelease 1.0.0 level 0\nservice z\nrelease 1.0.0 level 0\nneed of of *\n")
	if e != api.OK || line != 0 || needsOf.Services[1].Releases[0].Needs[0].Service != 0 {
		t.Error(needsOf, line, e)
	}
}

func TestParseRefusesWrongLines(t *testing.T) {
	for _, wrong := range []string{
		"", " ", "service", "service ", "service a b", "service  a", " service a", "service a ", "Service a", "services a", "service\ta",
		"release", "release 1.0.0", "release 1.0.0 level", "release 1.0.0 level ", "release 1.0.0 level 00", "release 1.0.0 level 01", "release 1.0.0 level 12345", "release 1.0.0 level -1", "release 1.0.0 level +1", "release 1.0.0 level 1 ", "release 1.0.0  level 1", "release 1.0 level 1", "release 1.0.0 Level 1", "release 1.0.0 lvl 1", "release  level 1", "release 1.0.0 level a", "release level 1",
		"need", "need a", "need a of", "need a of ", "need  of *", "need a  of *", "need a of  *", "need a of * ", "need a of ^1.0", "need a off *", "need of *", "need a b of *", "need a of *\r",
		"# remark", "a", "\r",
	} {
		if c, line, e := Parse(example + wrong + "\n" + "wrong too\n"); e != api.ErrSyntax || line != 11 || c.Services != nil {
			t.Errorf("%q: %d, %d", wrong, line, e)
		}
	}
	for text, want := range map[string]int{
		"release 1.0.0 level 0\n": 1, "need a of *\n": 1, "service a\nneed a of *\n": 2, "service a\nrelease 1.0.0 level 0\nservice b\nneed a of *\n": 4,
		"service a": 1, "service a\nrelease 1.0.0 level 0": 2, "service a\n ": 2, "\n": 1, "service a\n\n": 2, "service a\n\nneed": 2,
	} {
		if c, line, e := Parse(text); e != api.ErrSyntax || line != want || c.Services != nil {
			t.Errorf("%q: %d, %d", text, line, e)
		}
	}
}

func TestParseTellsTheCataloguesErrors(t *testing.T) {
	many := strings.Repeat("service a\n", 13)
	for _, k := range []struct {
		text string
		line int
		e    api.Errno
	}{
		{"", 0, api.ErrCount}, {many, 0, api.ErrCount},
		{"service A\n", 1, api.ErrName}, {"service \t\n", 1, api.ErrName}, {"service a\n", 1, api.ErrCount},
		{"service a\nrelease 1.0.0 level 0\nservice a\n", 3, api.ErrTwice},
		{"service a\nrelease 1.0.0 level 0\nrelease 1.0.0 level 0\n", 3, api.ErrOrder},
		{"service a\nrelease 1.0.0 level 1001\n", 2, api.ErrLevel}, {"service a\nrelease 1.0.0 level 9999\n", 2, api.ErrLevel},
		{"service a\nrelease 1.0.0 level 5\nrelease 2.0.0 level 4\n", 3, api.ErrLevel},
		{"service a\nrelease 1.0.0 level 0\n" + strings.Repeat("need b of *\n", 9), 2, api.ErrCount},
		{"service a\nrelease 1.0.0 level 0\nservice b\nrelease 1.0.0 level 3\nneed z of *\n", 4, api.ErrService},
		{"service a\nrelease 1.0.0 level 0\nneed a of *\n", 2, api.ErrService},
		{"service a\nrelease 1.0.0 level 0\nneed b of *\nservice b\nrelease 1.0.0 level 0\n", 2, api.ErrService},
		{"service a\nrelease 1.0.0 level 0\nservice b\nrelease 0.1.0 level 0\nrelease 1.0.0 level 0\nneed a of *\nneed a of =1.0.0\n", 5, api.ErrTwice},
		{"service a\nrelease 1.0.0 level 0\nservice b\nrelease 1.0.0 level 0\nservice a\nrelease 1.0.0 level 0\nneed a of *\n", 5, api.ErrTwice},
	} {
		if c, line, e := Parse(k.text); e != k.e || line != k.line || c.Services != nil {
			t.Errorf("%q: %d, %d", k.text, line, e)
		}
	}
}

// P8.2
func TestText(t *testing.T) {
	c, _, _ := Parse(example)
	s, e := Text(c)
	if e != api.OK || s != example {
		t.Error(s, e)
	}
	if s, e := Text(catalog.Catalog{}); e != api.ErrForm || s != "" {
		t.Error(s, e)
	}
	c.Services[2].Releases[0].Level = 1001
	if s, e := Text(c); e != api.ErrForm || s != "" {
		t.Error(s, e)
	}
	ahead := c.Clone()
	ahead.Services = []catalog.Service{c.Services[1], c.Services[0]}
	ahead.Services[0].Releases[0].Needs[0].Service = 1
	if _, _, e := ahead.Check(); e != api.OK {
		t.Fatal(e)
	}
	if s, e := Text(ahead); e != api.ErrOrder || s != "" {
		t.Error(s, e)
	}
}

func TestLongTextsEnd(t *testing.T) {
	for text, want := range map[string]api.Errno{
		strings.Repeat("service a\n", 1<<16):                                                       api.ErrCount,
		"service a\n" + strings.Repeat("release 1.0.0 level 0\n", 1<<16):                           api.ErrCount,
		"service a\nrelease 1.0.0 level 0\n" + strings.Repeat("need a of *\n", 1<<16):              api.ErrCount,
		strings.Repeat("service a\nrelease 1.0.0 level 0\n", 1<<15) + "need a of * || * || * ||\n": api.ErrSyntax,
		strings.Repeat("a", 1<<20):                                                                 api.ErrSyntax,
	} {
		if _, _, e := Parse(text); e != want {
			t.Errorf("%.20q: %d", text, e)
		}
	}
}
