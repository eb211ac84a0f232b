package ranges

import (
	"reflect"
	"strings"
	"testing"

	"slipway/api"
	"slipway/semver"
)

func version(t *testing.T, s string) semver.Version {
	t.Helper()
	v, e := semver.Parse(s)
	if e != api.OK {
		t.Fatalf("%q: %d", s, e)
	}
	return v
}

func parsed(t *testing.T, s string) Range {
	t.Helper()
	r, e := Parse(s)
	if e != api.OK {
		t.Fatalf("%q: %d", s, e)
	}
	return r
}

var rightTexts = []string{
	"*", "=1.0.0", "<1.0.0", "<=1.0.0", ">1.0.0", ">=1.0.0", "^1.0.0", "~1.0.0", "* *", "* || *",
	">=1.0.0 <2.0.0 || =3.0.0", "^0.2.3-a.1 || ~1.2.3", "^999999.0.0", "~0.999999.0", "^0.0.999999", "^0.999999.0", "^0.0.3-a", "^0.0.0",
	strings.Repeat("* ", 7) + "*", strings.Repeat("* || ", 7) + "*", "<1.0.0 || >2.0.0", ">1.0.0 <1.0.0",
}

var someVersions = []string{
	"0.0.0-0", "0.0.0", "0.0.1-a", "0.0.1", "0.0.3-a", "0.0.3", "0.0.4-a", "0.0.4", "0.0.999999", "0.1.0-a", "0.1.0", "0.2.3-a", "0.2.3-a.1", "0.2.3", "0.2.9", "0.3.0-a", "0.3.0",
	"0.999999.0", "0.999999.5", "1.0.0-a", "1.0.0", "1.0.1", "1.1.0-a", "1.1.0", "1.2.3", "1.2.9", "1.3.0", "1.5.0", "2.0.0-a", "2.0.0", "3.0.0", "999999.0.0", "999999.999999.999999",
}

// P2.1
func TestParseAndTextAgree(t *testing.T) {
	for _, s := range rightTexts {
		r := parsed(t, s)
		u, e := r.Text()
		if e != api.OK || u != s || !r.Right() {
			t.Errorf("%q: %q, %d", s, u, e)
		}
	}
	r := parsed(t, ">=1.0.0 <2.0.0-a || *")
	want := Range{[][]Comp{{{5, version(t, "1.0.0")}, {2, version(t, "2.0.0-a")}}, {{}}}}
	if !reflect.DeepEqual(r, want) {
		t.Error(r)
	}
}

func TestParseRefusesWrongTexts(t *testing.T) {
	for _, s := range []string{
		"", " ", "||", " || ", "* ||", "|| *", "* || ", " || *", "*||*", "* ||  *", "*  *", " *", "* ", "**", "*1.0.0", "=", "1.0.0", "==1.0.0", "=>1.0.0", "><1.0.0", "!1.0.0",
		"= 1.0.0", "=1.0", "=01.0.0", "<=", "<<1.0.0", "^^1.0.0", "^*", "=1.0.0,=2.0.0", "=1.0.0|=2.0.0", "* | *", "* || || *", "*\n", "=1.0.0\t=1.0.0",
		strings.Repeat("* ", 8) + "*", strings.Repeat("* || ", 8) + "*", strings.Repeat("* ", 1<<20), strings.Repeat("* || ", 1<<20),
	} {
		if r, e := Parse(s); e != api.ErrSyntax || r.Any != nil {
			t.Errorf("%.30q: %v, %d", s, r, e)
		}
	}
}

// wrongRanges are none: too few or too many lists or comparisons, or one of these isn't right.
func wrongRanges() []Range {
	one := semver.Version{Major: 1}
	return []Range{
		{}, {[][]Comp{}}, {[][]Comp{{}}}, {[][]Comp{nil}}, {[][]Comp{{{}}, {}}},
		{make([][]Comp, 9)}, {[][]Comp{make([]Comp, 9)}}, {[][]Comp{{{}}, {{}}, {{}}, {{}}, {{}}, {{}}, {{}}, {{}}, {{}}}},
		{[][]Comp{{{0, one}}}}, {[][]Comp{{{0, semver.Version{Pre: "a"}}}}}, {[][]Comp{{{-1, one}}}}, {[][]Comp{{{8, one}}}}, {[][]Comp{{{-1, semver.Version{}}}}},
		{[][]Comp{{{1, semver.Version{Major: -1}}}}}, {[][]Comp{{{6, semver.Version{Pre: "A"}}}}}, {[][]Comp{{{}, {7, semver.Version{Patch: 1000000}}}}},
	}
}

func TestWhatIsNoRange(t *testing.T) {
	for i, r := range wrongRanges() {
		if r.Right() || r.Has(semver.Version{Major: 1}) || r.Has(semver.Version{}) {
			t.Error(i, r)
		}
		if s, e := r.Text(); s != "" || e != api.ErrForm {
			t.Error(i, s, e)
		}
		if p, e := r.Plain(); p.Any != nil || e != api.ErrForm {
			t.Error(i, p, e)
		}
		right := parsed(t, rightTexts[len(rightTexts)-3])
		for _, f := range []func(Range, Range) (Range, api.Errno){And, Or} {
			if p, e := f(r, right); p.Any != nil || e != api.ErrForm {
				t.Error(i, p, e)
			}
			if p, e := f(right, r); p.Any != nil || e != api.ErrForm {
				t.Error(i, p, e)
			}
		}
	}
}

// P2.2
func TestHas(t *testing.T) {
	for _, c := range []struct{ r, has, hasnt string }{
		{"*", "0.0.0 0.0.0-0 1.0.0-a 999999.999999.999999", ""},
		{"=1.0.0", "1.0.0", "1.0.0-a 1.0.1 0.0.0"},
		{"<1.0.0", "0.9.9 1.0.0-a", "1.0.0 1.0.1"},
		{"<=1.0.0", "0.9.9 1.0.0-a 1.0.0", "1.0.1-a 1.0.1"},
		{">1.0.0", "1.0.1-a 2.0.0", "1.0.0 1.0.0-z"},
		{">=1.0.0", "1.0.0 1.0.1-a 2.0.0", "1.0.0-z 0.9.9"},
		{"^0.2.3", "0.2.3 0.2.9 0.3.0-a", "0.3.0 0.2.3-a 1.0.0 0.2.2"},
		{"^1.2.3", "1.2.3 1.9.0 2.0.0-a", "2.0.0 1.2.2 1.2.3-a"},
		{"^0.0.3", "0.0.3 0.0.4-a", "0.0.4 0.0.2 0.0.3-a"},
		{"^0.0.3-a", "0.0.3-a 0.0.3 0.0.4-0", "0.0.4 0.0.3-0"},
		{"^0.0.0", "0.0.0 0.0.1-a", "0.0.1 0.0.0-a"},
		{"^0.1.0-a", "0.1.0-a 0.1.9", "0.2.0 0.1.0-0"},
		{"~1.2.3", "1.2.3 1.2.9 1.3.0-a", "1.3.0 1.2.2 2.0.0"},
		{"~0.0.3", "0.0.3 0.0.9 0.1.0-a", "0.1.0 0.0.2"},
		{"~1.2.3-b", "1.2.3-b 1.2.3 1.2.4", "1.2.3-a 1.3.0"},
		{"^999999.0.0", "999999.0.0 999999.999999.999999", "999998.0.0"},
		{"^0.999999.0", "0.999999.0 1.0.0 5.0.0", "0.999998.0"},
		{"^0.0.999999", "0.0.999999 0.1.0 5.0.0", "0.0.999998"},
		{"~5.999999.0", "5.999999.7 6.0.0 999999.0.0", "5.999998.0"},
		{">=1.0.0 <2.0.0 || =3.0.0", "1.5.0 3.0.0", "2.0.0 0.9.0 3.0.1"},
	} {
		r := parsed(t, c.r)
		for _, s := range strings.Fields(c.has) {
			if !r.Has(version(t, s)) {
				t.Error(c.r, "has not", s)
			}
		}
		for _, s := range strings.Fields(c.hasnt) {
			if r.Has(version(t, s)) {
				t.Error(c.r, "has", s)
			}
		}
		for _, v := range []semver.Version{{Major: -1}, {Pre: "A"}, {Major: 1000000}} {
			if r.Has(v) {
				t.Error(c.r, v)
			}
		}
	}
}

// P2.3
func TestPlain(t *testing.T) {
	for s, want := range map[string]string{
		"*": "*", "^1.2.3": ">=1.2.3 <2.0.0", "~1.2.3-a": ">=1.2.3-a <1.3.0", "^0.0.3-a": ">=0.0.3-a <0.0.4", "^0.1.0": ">=0.1.0 <0.2.0",
		"^999999.0.0": ">=999999.0.0", "=1.0.0 ^2.0.0 <3.0.0 || ~4.0.0": "=1.0.0 >=2.0.0 <3.0.0 <3.0.0 || >=4.0.0 <4.1.0",
		"^1.0.0 ^1.0.0 ^1.0.0 ~1.0.0":                                     ">=1.0.0 <2.0.0 >=1.0.0 <2.0.0 >=1.0.0 <2.0.0 >=1.0.0 <1.1.0",
		"^999999.0.0 ~1.999999.0 ^0.0.999999 ^0.999999.0 * * ^1.0.0":      ">=999999.0.0 >=1.999999.0 >=0.0.999999 >=0.999999.0 * * >=1.0.0 <2.0.0",
		"* || * || * || * || * || * || * || * * * * * * ^1.0.0":           "* || * || * || * || * || * || * || * * * * * * >=1.0.0 <2.0.0",
		"=1.0.0 =1.0.0 =1.0.0 =1.0.0 =1.0.0 =1.0.0 =1.0.0 =1.0.0 || *":    "=1.0.0 =1.0.0 =1.0.0 =1.0.0 =1.0.0 =1.0.0 =1.0.0 =1.0.0 || *",
		"^999999.0.0 ^999999.0.0 ^999999.0.0 ^999999.0.0 ^999999.0.0 * *": ">=999999.0.0 >=999999.0.0 >=999999.0.0 >=999999.0.0 >=999999.0.0 * *",
	} {
		p, e := parsed(t, s).Plain()
		if u, _ := p.Text(); e != api.OK || u != want {
			t.Errorf("%s: %s, %d", s, u, e)
		}
	}
	for _, s := range []string{"* * * * * * * ^1.0.0", "^1.0.0 ^1.0.0 ^1.0.0 ^1.0.0 *", "* || ~1.0.0 ~1.0.0 ~1.0.0 ~1.0.0 ~1.0.0"} {
		if p, e := parsed(t, s).Plain(); e != api.ErrBig || p.Any != nil {
			t.Error(s, p, e)
		}
	}
}

func TestPlainHasTheSameVersions(t *testing.T) {
	for _, s := range rightTexts {
		r := parsed(t, s)
		p, e := r.Plain()
		if e != api.OK {
			t.Fatal(s, e)
		}
		for _, vs := range someVersions {
			v := version(t, vs)
			if r.Has(v) != p.Has(v) {
				t.Error(s, vs)
			}
		}
	}
}

// P2.4
func TestAndOr(t *testing.T) {
	for _, c := range []struct {
		a, b, and, or   string
		andErr, orError api.Errno
	}{
		{a: "*", b: "=1.0.0", and: "* =1.0.0", or: "* || =1.0.0"},
		{a: "=1.0.0 || =2.0.0", b: "=3.0.0 || =4.0.0 || =5.0.0",
			and: "=1.0.0 =3.0.0 || =1.0.0 =4.0.0 || =1.0.0 =5.0.0 || =2.0.0 =3.0.0 || =2.0.0 =4.0.0 || =2.0.0 =5.0.0",
			or:  "=1.0.0 || =2.0.0 || =3.0.0 || =4.0.0 || =5.0.0"},
		{a: "* || * || *", b: "* || * || *", andErr: api.ErrBig, or: "* || * || * || * || * || *"},
		{a: "* || *", b: "* || * || * || *", and: "* * || * * || * * || * * || * * || * * || * * || * *", or: "* || * || * || * || * || *"},
		{a: "* || * || * || *", b: "* || * || * || * || *", andErr: api.ErrBig, orError: api.ErrBig},
		{a: "* || * || * || *", b: "* || * || * || *", andErr: api.ErrBig, or: "* || * || * || * || * || * || * || *"},
		{a: "* * * *", b: "* * * * *", andErr: api.ErrBig, or: "* * * * || * * * * *"},
		{a: "* * * *", b: "* || * * * * *", andErr: api.ErrBig, or: "* * * * || * || * * * * *"},
		{a: "* * * *", b: "* * * *", and: "* * * * * * * *", or: "* * * * || * * * *"},
	} {
		a, b := parsed(t, c.a), parsed(t, c.b)
		and, e := And(a, b)
		if s, _ := and.Text(); e != c.andErr || s != c.and {
			t.Errorf("%s and %s: %s, %d", c.a, c.b, s, e)
		}
		or, e := Or(a, b)
		if s, _ := or.Text(); e != c.orError || s != c.or {
			t.Errorf("%s or %s: %s, %d", c.a, c.b, s, e)
		}
	}
}

func TestAndOrHaveWhatTheySay(t *testing.T) {
	for _, s := range rightTexts {
		for _, u := range rightTexts {
			a, b := parsed(t, s), parsed(t, u)
			and, andErr := And(a, b)
			or, orErr := Or(a, b)
			for _, vs := range someVersions {
				v := version(t, vs)
				if andErr == api.OK && and.Has(v) != (a.Has(v) && b.Has(v)) {
					t.Error(s, "and", u, vs)
				}
				if orErr == api.OK && or.Has(v) != (a.Has(v) || b.Has(v)) {
					t.Error(s, "or", u, vs)
				}
			}
		}
	}
}

func TestAnswersAreNewMemory(t *testing.T) {
	a, b := parsed(t, "=1.0.0 || =2.0.0"), parsed(t, "=3.0.0")
	a.Any[0] = append(make([]Comp, 0, 9), a.Any[0]...)
	and, _ := And(a, b)
	or, _ := Or(a, b)
	plain, _ := a.Plain()
	for _, r := range []Range{and, or, plain} {
		for _, list := range r.Any {
			for i := range list[:cap(list)] {
				list[:cap(list)][i] = Comp{Op: 9}
			}
		}
	}
	if s, _ := a.Text(); s != "=1.0.0 || =2.0.0" || a.Any[0][:2][1].Op != 0 {
		t.Error(a)
	}
	if s, _ := b.Text(); s != "=3.0.0" {
		t.Error(b)
	}
	and, _ = And(parsed(t, "*"), parsed(t, "=1.0.0 || =2.0.0 || =3.0.0"))
	_ = append(and.Any[0], Comp{Op: 9})
	if s, _ := and.Text(); s != "* =1.0.0 || * =2.0.0 || * =3.0.0" {
		t.Error(s)
	}
}
