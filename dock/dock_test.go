package dock

import (
	"math"
	"slices"
	"testing"

	"slipway/api"
)

func want(t *testing.T, d *Dock, name int, text string, safe int) {
	t.Helper()
	b, e := d.Read(name)
	if e != api.OK || string(b) != text || d.Safe(name) != safe {
		t.Errorf("%d: %q, %d, %d safe", name, b, e, d.Safe(name))
	}
}

func wantNames(t *testing.T, d *Dock, names ...int) {
	t.Helper()
	got, e := d.Names()
	if e != api.OK || !slices.Equal(got, names) {
		t.Error(got, e)
	}
}

func wantE(t *testing.T, got api.Errno, want api.Errno) {
	t.Helper()
	if got != want {
		t.Errorf("%d, not %d", got, want)
	}
}

// P13.1
func TestNewAndGrow(t *testing.T) {
	for _, capacity := range []int{-1, api.MaxDock + 1, math.MinInt, math.MaxInt} {
		if New(capacity) != nil {
			t.Error(capacity)
		}
	}
	if New(api.MaxDock) == nil {
		t.Error("of the most there may be")
	}
	d := New(0)
	wantNames(t, d)
	wantE(t, d.Append(1, []byte("a")), api.ErrFull)
	wantE(t, d.Append(1, nil), api.OK)
	d.Grow(3)
	wantE(t, d.Append(1, []byte("abc")), api.OK)
	d.Grow(-5)
	want(t, d, 1, "abc", 0)
	empty := New(9)
	empty.Grow(-1)
	wantE(t, empty.Append(1, []byte("a")), api.ErrFull)
	wantE(t, d.Append(1, nil), api.ErrFull)
	d.Grow(math.MaxInt)
	wantE(t, d.Append(1, make([]byte, api.MaxDock-3)), api.OK)
	wantE(t, d.Append(2, []byte("a")), api.ErrFull)
	if d.Size() != api.MaxDock || d.Down() {
		t.Error(d.Size())
	}
}

// P13.2, P13.3
func TestFiles(t *testing.T) {
	d := New(10)
	wantE(t, d.Append(-1, make([]byte, 99)), api.ErrFile)
	wantE(t, d.Append(1000000, nil), api.ErrFile)
	wantE(t, d.Append(999999, []byte("ab")), api.OK)
	wantE(t, d.Append(0, []byte("cde")), api.OK)
	wantE(t, d.Append(5, nil), api.OK)
	wantE(t, d.Append(999999, []byte("fghij")), api.OK)
	wantE(t, d.Append(0, []byte("k")), api.ErrFull)
	wantE(t, d.Append(7, []byte("k")), api.ErrFull)
	wantNames(t, d, 0, 5, 999999)
	want(t, d, 999999, "abfghij", 0)
	wantE(t, d.Sync(999999), api.OK)
	want(t, d, 999999, "abfghij", 7)
	want(t, d, 0, "cde", 0)
	want(t, d, 5, "", 0)
	for _, name := range []int{1, -1, 1000000} {
		b, e := d.Read(name)
		wantE(t, e, api.ErrFile)
		wantE(t, d.Sync(name), api.ErrFile)
		wantE(t, d.Remove(name), api.ErrFile)
		wantE(t, d.Cut(name, -1), api.ErrFile)
		if b != nil || d.Safe(name) != 0 {
			t.Error(b, d.Safe(name))
		}
	}
	wantE(t, d.Cut(999999, -1), api.ErrBig)
	wantE(t, d.Cut(999999, 8), api.ErrBig)
	wantE(t, d.Cut(999999, 7), api.OK)
	wantE(t, d.Cut(999999, 4), api.OK)
	want(t, d, 999999, "abfg", 4)
	wantE(t, d.Append(999999, []byte("xy")), api.OK)
	wantE(t, d.Cut(999999, 5), api.OK)
	want(t, d, 999999, "abfgx", 4)
	if d.Size() != 8 {
		t.Error(d.Size())
	}
	wantE(t, d.Remove(0), api.OK)
	wantE(t, d.Remove(0), api.ErrFile)
	wantNames(t, d, 5, 999999)
	wantE(t, d.Append(0, []byte("12345")), api.OK)
	wantE(t, d.Append(0, []byte("6")), api.ErrFull)
	want(t, d, 0, "12345", 0)
}

func TestMemoryIsItsOwn(t *testing.T) {
	d := New(100)
	b := append(make([]byte, 0, 50), "abc"...)
	d.Append(1, b)
	b[0] = 'x'
	d.Append(1, []byte("de"))
	read, _ := d.Read(1)
	read[1] = 'x'
	_ = append(read, 'z')
	if string(b[:5]) != "xbc\x00\x00" {
		t.Error(b[:5])
	}
	want(t, d, 1, "abcde", 0)
	// Behind a cut new bytes don't reach what was read ahead of it.
	read, _ = d.Read(1)
	d.Cut(1, 1)
	d.Append(1, []byte("ZZ"))
	if string(read) != "abcde" {
		t.Error(read)
	}
}

// P13.4
func TestArm(t *testing.T) {
	d := New(10)
	d.Arm(3)
	wantE(t, d.Append(1, []byte("abc")), api.OK)
	wantE(t, d.Append(1, make([]byte, 20)), api.ErrFull)
	wantE(t, d.Sync(2), api.ErrFile)
	wantE(t, d.Cut(1, 9), api.ErrBig)
	wantE(t, d.Sync(1), api.OK)
	wantE(t, d.Append(2, []byte("d")), api.OK)
	d.Read(1)
	d.Names()
	wantE(t, d.Append(1, []byte("ef")), api.ErrDown)
	if !d.Down() || d.Size() != 6 || d.Safe(1) != 3 {
		t.Error(d.Down(), d.Size(), d.Safe(1))
	}
	b, e := d.Read(1)
	names, e2 := d.Names()
	for _, got := range []api.Errno{e, e2, d.Append(-1, make([]byte, 99)), d.Sync(9), d.Remove(9), d.Cut(9, -1), d.Append(1, nil)} {
		wantE(t, got, api.ErrDown)
	}
	if b != nil || names != nil {
		t.Error(b, names)
	}
	d.Crash([]int{1})
	want(t, d, 1, "abce", 4)
	want(t, d, 2, "", 0)
	wantE(t, d.Append(2, []byte("d")), api.OK)
}

func TestArmedCallsThatArentDone(t *testing.T) {
	for i, call := range []func(d *Dock) api.Errno{
		func(d *Dock) api.Errno { return d.Sync(1) }, func(d *Dock) api.Errno { return d.Remove(1) }, func(d *Dock) api.Errno { return d.Cut(1, 0) },
	} {
		d := New(10)
		d.Append(1, []byte("ab"))
		d.Arm(0)
		wantE(t, call(d), api.ErrDown)
		if d.Size() != 2 || d.Safe(1) != 0 || !d.Down() {
			t.Error(i, d.Size(), d.Safe(1))
		}
		d.Crash([]int{2})
		want(t, d, 1, "ab", 2)
		wantE(t, call(d), api.OK)
	}
	d := New(10)
	d.Arm(0)
	wantE(t, d.Append(4, nil), api.ErrDown)
	d.Crash(nil)
	wantNames(t, d, 4)
	d.Arm(0)
	d.Arm(-7)
	wantE(t, d.Append(4, nil), api.OK)
	d.Arm(math.MinInt)
	wantE(t, d.Append(4, nil), api.OK)
	d.Arm(0)
	d.Crash(nil)
	wantE(t, d.Append(4, nil), api.OK)
}

// P13.5
func TestCrash(t *testing.T) {
	d := New(10)
	d.Append(3, []byte("abc"))
	d.Sync(3)
	d.Append(3, []byte("de"))
	d.Append(1, []byte("f"))
	d.Crash([]int{0, 1})
	want(t, d, 1, "", 0)
	want(t, d, 3, "abcd", 4)
	if d.Size() != 4 {
		t.Error(d.Size())
	}
	for _, k := range []struct {
		keep  []int
		first string
		last  string
	}{{nil, "", "s"}, {[]int{1}, "a", "s"}, {[]int{-1, 2}, "", "stu"}, {[]int{9, 9, 9}, "ab", "stu"}, {[]int{math.MaxInt, math.MinInt}, "ab", "s"}, {[]int{2, 1}, "ab", "st"}} {
		d := New(10)
		d.Append(9, []byte("s"))
		d.Sync(9)
		d.Append(9, []byte("tu"))
		d.Append(2, []byte("ab"))
		d.Append(5, []byte("c"))
		d.Sync(5)
		d.Crash(k.keep)
		want(t, d, 2, k.first, len(k.first))
		want(t, d, 5, "c", 1)
		want(t, d, 9, k.last, len(k.last))
	}
}
