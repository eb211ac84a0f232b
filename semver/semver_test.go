package semver

import (
	"strings"
	"testing"

	"slipway/api"
)

// texts stand in their order, the least first.
var texts = []string{
	"0.0.0-0", "0.0.0", "0.0.1", "0.9.9", "0.10.0",
	"1.0.0-0", "1.0.0-0.0", "1.0.0-0.0.0.0", "1.0.0-0.a", "1.0.0-1", "1.0.0-2", "1.0.0-9", "1.0.0-10", "1.0.0-999999",
	"1.0.0-0a", "1.0.0-10a", "1.0.0-1a", "1.0.0-a", "1.0.0-a.2", "1.0.0-a.2.3.4", "1.0.0-a.10", "1.0.0-a.b", "1.0.0-a0", "1.0.0-a9", "1.0.0-a9z", "1.0.0-ab", "1.0.0-b", "1.0.0-zzzzzzzzzz",
	"1.0.0", "1.0.1-a", "1.0.1", "1.1.0", "2.0.0-a", "2.0.0", "10.0.0", "999999.999999.999999-z", "999999.999999.999999",
}

var wrongTexts = []string{
	"", ".", "..", "1", "1.", "1.2", "1.2.", "1..3", ".1.2", "1.2.3.4", "1.2.3.", "01.0.0", "1.00.0", "1.0.00", "1.0.01",
	"1.0.0-", "1.0.0-.", "1.0.0-a.", "1.0.0-.a", "1.0.0-a..b", "1.0.0-A", "1.0.0-a-b", "1.0.0--", "1.0.0-01", "1.0.0-00", "1.0.0-a.b.c.d.e",
	"1.0.0-abcdefghijk", "1.0.0-1234567", "1000000.0.0", "0.1000000.0", "0.0.1000000", "-1.0.0", "+1.0.0", "1.0.0 ", " 1.0.0", "1.0.0\n",
	"1.0.0-\xc3\xa9", "1.0.0+a", "1.0.0-a_b", "a.b.c", "1,0,0", "99999999999999999999.0.0", "1.0.0-a\x00", "0x1.0.0", "1.0.0-`", "1.0.0-{", "1.0.0-/", "1.0.0-:",
}

func mustParse(t *testing.T, s string) Version {
	t.Helper()
	v, e := Parse(s)
	if e != api.OK {
		t.Fatalf("%q: %d", s, e)
	}
	return v
}

// P1.1
func TestParseAndTextAgree(t *testing.T) {
	for _, s := range texts {
		v := mustParse(t, s)
		u, e := v.Text()
		if e != api.OK || u != s || !v.Right() {
			t.Errorf("%q: %q, %d, %t", s, u, e, v.Right())
		}
	}
	if v := mustParse(t, "1.2.3-a.0.b1"); v != (Version{1, 2, 3, "a.0.b1"}) {
		t.Error(v)
	}
}

func TestParseRefusesWrongTexts(t *testing.T) {
	for _, s := range append(wrongTexts, strings.Repeat("1", 1<<20), strings.Repeat("1.", 1<<20), "1.0.0-"+strings.Repeat("a.", 1<<20)) {
		if v, e := Parse(s); e != api.ErrSyntax || v != (Version{}) {
			t.Errorf("%.20q: %v, %d", s, v, e)
		}
	}
}

func TestWhatIsNoVersionHasNoText(t *testing.T) {
	for _, v := range []Version{
		{Major: -1}, {Minor: -1}, {Patch: -1}, {Major: 1000000}, {Minor: 1000000}, {Patch: 1000000},
		{Pre: "A"}, {Pre: "."}, {Pre: "a."}, {Pre: "a.b.c.d.e"}, {Pre: "01"}, {Pre: "1234567"}, {Pre: "abcdefghijk"}, {Pre: "a-b"}, {Pre: " "},
	} {
		if s, e := v.Text(); v.Right() || e != api.ErrForm || s != "" {
			t.Errorf("%v: %t, %q, %d", v, v.Right(), s, e)
		}
		if w, e := v.Bump(0); e != api.ErrForm || w != (Version{}) {
			t.Errorf("%v: %v, %d", v, w, e)
		}
	}
	for _, v := range []Version{{}, {999999, 999999, 999999, ""}, {Pre: "0"}, {Pre: "a.b.c.d"}, {Pre: "abcdefghij"}, {Pre: "123456"}, {Pre: "0123456a"}} {
		if !v.Right() {
			t.Error(v)
		}
	}
}

// P1.2
func TestCompareKeepsTheOrder(t *testing.T) {
	for i, a := range texts {
		for j, b := range texts {
			want := 0
			if i < j {
				want = -1
			} else if i > j {
				want = 1
			}
			if c := Compare(mustParse(t, a), mustParse(t, b)); c != want {
				t.Errorf("%s, %s: %d", a, b, c)
			}
		}
	}
}

func TestCompareEndsAtAnything(t *testing.T) {
	odd := []Version{{Major: -1 << 63}, {Pre: "."}, {Pre: ".."}, {Pre: "a..b"}, {Pre: "\xff"}, {Pre: "00"}, {Pre: "0"}}
	for _, a := range odd {
		for _, b := range odd {
			Compare(a, b)
		}
	}
}

// P1.3
func TestBump(t *testing.T) {
	for _, c := range []struct {
		from string
		part int
		want string
	}{
		{"1.2.3", 0, "2.0.0"}, {"1.2.3", 1, "1.3.0"}, {"1.2.3", 2, "1.2.4"},
		{"1.2.3-a", 0, "2.0.0"}, {"1.2.3-a", 1, "1.3.0"}, {"1.2.3-a", 2, "1.2.3"},
		{"0.0.999999-a", 2, "0.0.999999"}, {"999999.0.999999", 1, "999999.1.0"}, {"0.999999.999999", 0, "1.0.0"}, {"999998.0.0", 0, "999999.0.0"},
	} {
		v, e := mustParse(t, c.from).Bump(c.part)
		if e != api.OK || v != mustParse(t, c.want) {
			t.Errorf("%v: %v, %d", c, v, e)
		}
	}
	top := Version{999999, 999999, 999999, ""}
	for part := range 3 {
		if v, e := top.Bump(part); e != api.ErrBig || v != (Version{}) {
			t.Error(part, v, e)
		}
	}
	if v, e := (Version{999999, 999999, 999999, "a"}).Bump(1); e != api.ErrBig || v != (Version{}) {
		t.Error(v, e)
	}
	for _, part := range []int{-1, 3, -1 << 63, 1<<63 - 1} {
		if v, e := top.Bump(part); e != api.ErrForm || v != (Version{}) {
			t.Error(part, v, e)
		}
	}
}

func TestBumpedIsGreater(t *testing.T) {
	for _, s := range texts {
		v := mustParse(t, s)
		for part := range 3 {
			if w, e := v.Bump(part); e == api.OK && Compare(v, w) != -1 {
				t.Error(v, part, w)
			}
		}
	}
}
