package wal

import (
	"bytes"
	"slices"
	"testing"

	"slipway/api"
	"slipway/dock"
	"slipway/sum"
)

func open(t *testing.T, d *dock.Dock) *Log {
	t.Helper()
	l, e := Open(d)
	if e != api.OK {
		t.Fatal(e)
	}
	return l
}

func wantE(t *testing.T, got api.Errno, want api.Errno) {
	t.Helper()
	if got != want {
		t.Errorf("%d, not %d", got, want)
	}
}

// want holds a log against what it should tell.
func want(t *testing.T, l *Log, name int, size int, base string, records ...string) {
	t.Helper()
	var texts []string
	for _, r := range l.Records() {
		texts = append(texts, string(r))
	}
	if l.Name() != name || l.Size() != size || string(l.Base()) != base || !slices.Equal(texts, records) {
		t.Errorf("%d, %d bytes: %q, %q", l.Name(), l.Size(), l.Base(), texts)
	}
}

func frame(payload string) []byte {
	f, _ := sum.Frame([]byte(payload))
	return f
}

// P14.1
func TestOpenANewDock(t *testing.T) {
	d := dock.New(100)
	l := open(t, d)
	want(t, l, 0, 9, "")
	b, _ := d.Read(0)
	if !bytes.Equal(b, frame("\x00")) || !bytes.Equal(b[:5], []byte{1, 0, 0, 0, 0}) || d.Safe(0) != 9 {
		t.Errorf("%x, %d safe", b, d.Safe(0))
	}
	if l, e := Open(dock.New(8)); e != api.ErrFull || l != nil {
		t.Error(l, e)
	}
}

func TestOpenLeavesTheNewestWholeFile(t *testing.T) {
	d := dock.New(1000)
	d.Append(3, slices.Concat(frame("\x00old"), frame("\x01x")))
	d.Append(5, slices.Concat(frame("\x00base"), frame("\x01one"), frame("\x01"), frame("\x01three"), frame("\x02no"), frame("\x01behind")))
	d.Append(6, frame("\x01no base"))
	d.Append(7, frame("\x00torn")[:11])
	d.Append(8, nil)
	d.Append(9, frame(""))
	l := open(t, d)
	size := len(frame("\x00base")) + len(frame("\x01one")) + len(frame("\x01")) + len(frame("\x01three"))
	want(t, l, 5, size, "base", "one", "", "three")
	if names, _ := d.Names(); !slices.Equal(names, []int{5}) || d.Size() != size || d.Safe(5) != size {
		t.Error(names, d.Size(), d.Safe(5))
	}
	wantE(t, l.Append([]byte("four")), api.OK)
	want(t, open(t, d), 5, size+13, "base", "one", "", "three", "four")
}

func TestOpenEndsAtASecondBase(t *testing.T) {
	d := dock.New(1000)
	d.Append(2, slices.Concat(frame("\x00b"), frame("\x00c"), frame("\x01r")))
	want(t, open(t, d), 2, 10, "b")
	d = dock.New(1000)
	d.Append(2, slices.Concat(frame("\x00b"), frame("\x01r"), frame("")))
	want(t, open(t, d), 2, 20, "b", "r")
}

func TestOpenADockWithoutAWholeFile(t *testing.T) {
	d := dock.New(25)
	d.Append(1, frame("\x01a"))
	d.Append(4, frame("\x01bcdef"))
	want(t, open(t, d), 0, 9, "")
	if names, _ := d.Names(); !slices.Equal(names, []int{0}) || d.Size() != 9 {
		t.Error(names, d.Size())
	}
}

func TestOpenOfAWholeLogOnlySyncs(t *testing.T) {
	d := dock.New(100)
	open(t, d).Append([]byte("a"))
	d.Arm(1)
	l := open(t, d)
	wantE(t, l.Sync(), api.ErrDown)
}

func TestOpenAnswersTheDocksFirstError(t *testing.T) {
	lay := func() *dock.Dock {
		d := dock.New(1000)
		d.Append(3, frame("\x00old"))
		d.Append(4, frame("\x00older"))
		d.Append(5, slices.Concat(frame("\x00base"), []byte{1}))
		d.Append(6, nil)
		d.Sync(5)
		return d
	}
	// Three files are removed, the lowest name first; then the rest is cut off, and the file synced.
	left := [][]int{{3, 4, 5, 6}, {4, 5, 6}, {5, 6}, {5}, {5}, {5}}
	for n, names := range left {
		d := lay()
		d.Arm(n)
		l, e := Open(d)
		if n == 5 {
			wantE(t, e, api.OK)
			continue
		}
		if e != api.ErrDown || l != nil || !d.Down() {
			t.Error(n, l, e)
		}
		if l, e := Open(d); e != api.ErrDown || l != nil {
			t.Error(l, e)
		}
		sizes := d.Size()
		d.Crash([]int{1000, 1000, 1000, 1000})
		if got, _ := d.Names(); !slices.Equal(got, names) || d.Size() != sizes {
			t.Error(n, got)
		}
		want(t, open(t, d), 5, 13, "base")
	}
}

// P14.2
func TestAppendAndSync(t *testing.T) {
	d := dock.New(1 << 20)
	l := open(t, d)
	wantE(t, l.Append([]byte("a")), api.OK)
	want(t, l, 0, 19, "", "a")
	wantE(t, l.Append(make([]byte, api.MaxRecord)), api.ErrBig)
	wantE(t, l.Rotate(make([]byte, api.MaxRecord)), api.ErrBig)
	want(t, l, 0, 19, "", "a")
	if d.Safe(0) != 9 {
		t.Error(d.Safe(0))
	}
	wantE(t, l.Sync(), api.OK)
	if d.Safe(0) != 19 {
		t.Error(d.Safe(0))
	}
	wantE(t, l.Append(make([]byte, api.MaxRecord-1)), api.OK)
	wantE(t, l.Rotate(make([]byte, api.MaxRecord-1)), api.OK)
	if len(l.Base()) != api.MaxRecord-1 || len(open(t, d).Base()) != api.MaxRecord-1 {
		t.Error(len(l.Base()))
	}
}

func TestAFullDock(t *testing.T) {
	d := dock.New(20)
	l := open(t, d)
	wantE(t, l.Append([]byte("abc")), api.ErrFull)
	wantE(t, l.Append([]byte("ab")), api.OK)
	wantE(t, l.Rotate(nil), api.ErrFull)
	want(t, l, 0, 20, "", "ab")
	d.Grow(29)
	wantE(t, l.Rotate(nil), api.OK)
	want(t, l, 1, 9, "")
}

func TestTheLastName(t *testing.T) {
	d := dock.New(100)
	d.Append(999999, frame("\x00z"))
	l := open(t, d)
	wantE(t, l.Rotate(nil), api.ErrFile)
	wantE(t, l.Append([]byte("r")), api.OK)
	want(t, l, 999999, 20, "z", "r")
}

func TestAClosedLog(t *testing.T) {
	for n, call := range []func(l *Log) api.Errno{
		func(l *Log) api.Errno { return l.Append([]byte("b")) }, func(l *Log) api.Errno { return l.Sync() }, func(l *Log) api.Errno { return l.Rotate([]byte("b")) },
	} {
		d := dock.New(100)
		l := open(t, d)
		l.Append([]byte("a"))
		d.Arm(0)
		wantE(t, call(l), api.ErrDown)
		d.Crash(nil)
		wantE(t, l.Append(make([]byte, api.MaxRecord)), api.ErrClosed)
		wantE(t, l.Append(nil), api.ErrClosed)
		wantE(t, l.Sync(), api.ErrClosed)
		wantE(t, l.Rotate(make([]byte, api.MaxRecord)), api.ErrClosed)
		want(t, l, 0, 19, "", "a")
		if n < 2 && d.Size() != 9 {
			t.Error(n, d.Size())
		}
	}
}

// P14.3
func TestRotate(t *testing.T) {
	d := dock.New(100)
	l := open(t, d)
	l.Append([]byte("a"))
	wantE(t, l.Rotate([]byte("base")), api.OK)
	want(t, l, 1, 13, "base")
	if names, _ := d.Names(); !slices.Equal(names, []int{1}) || d.Safe(1) != 13 || d.Size() != 13 {
		t.Error(names, d.Safe(1))
	}
	l.Append([]byte("b"))
	want(t, open(t, d), 1, 23, "base", "b")
	for n, kept := range []int{1, 2, 2} {
		d := dock.New(100)
		l := open(t, d)
		l.Append([]byte("a"))
		d.Arm(n)
		wantE(t, l.Rotate([]byte("base")), api.ErrDown)
		want(t, l, 0, 19, "", "a")
		d.Crash([]int{99, 0})
		if names, _ := d.Names(); len(names) != 2 {
			t.Error(names, kept)
		}
	}
}

// P14.4
func TestWhatIsToldIsNewMemory(t *testing.T) {
	d := dock.New(1000)
	l := open(t, d)
	base, record := []byte("base"), append(make([]byte, 0, 20), "record"...)
	l.Rotate(base)
	l.Append(record)
	l.Append([]byte("next"))
	base[0], record[0] = 'x', 'x'
	for range 2 {
		b, list := l.Base(), l.Records()
		want(t, l, 1, 13+15+13, "base", "record", "next")
		b[0] = 'x'
		_ = append(b, 'y')
		for i := range list {
			list[i][0] = 'x'
			_ = append(list[i], "yyyyyyyyyyyyyyyyyyyyyyyyyyyyyyyyyyyyyyyyy"...)
		}
	}
	if string(record[:7]) != "xecord\x00" {
		t.Error(record[:7])
	}
	again := open(t, d)
	_ = append(again.Records()[0], "yyyyyyyyyyyyyyyyyyyyy"...)
	want(t, again, 1, 13+15+13, "base", "record", "next")
}

// script is what is done to a log: an append, a sync or a rotation.
var script = []string{"+one", "+two", "sync", "+three", "sync", "=first", "+four", "+five", "sync", "+six", "=second", "=third", "+seven"}

// model is what may be found behind a crash.
type model struct {
	base    string
	next    string
	rotates bool
	written []string
	safe    int
}

func (m *model) play(l *Log, op string) api.Errno {
	switch op[0] {
	case '+':
		m.written = append(m.written, op[1:])
		return l.Append([]byte(op[1:]))
	case '=':
		m.next, m.rotates = op[1:], true
		e := l.Rotate([]byte(op[1:]))
		if e == api.OK {
			*m = model{base: op[1:]}
		}
		return e
	}
	e := l.Sync()
	if e == api.OK {
		m.safe = len(m.written)
	}
	return e
}

func (m *model) allows(l *Log) bool {
	records := l.Records()
	if m.rotates && string(l.Base()) == m.next {
		return len(records) == 0
	}
	if string(l.Base()) != m.base || len(records) < m.safe || len(records) > len(m.written) {
		return false
	}
	for i, r := range records {
		if string(r) != m.written[i] {
			return false
		}
	}
	return true
}

// P14.5
func TestBehindACrash(t *testing.T) {
	for n := range 30 {
		for keep := range 80 {
			d := dock.New(1000)
			l := open(t, d)
			m := model{}
			d.Arm(n)
			for _, op := range script {
				if e := m.play(l, op); e != api.OK {
					wantE(t, e, api.ErrDown)
					break
				}
			}
			d.Crash([]int{keep % 40, keep / 2})
			recoverTwice(t, d, &m, keep%6)
		}
	}
}

// recoverTwice opens a log behind a crash, with another crash on the way.
func recoverTwice(t *testing.T, d *dock.Dock, m *model, n int) {
	t.Helper()
	d.Arm(n)
	l, e := Open(d)
	if e != api.OK {
		wantE(t, e, api.ErrDown)
		d.Crash([]int{3, 3})
		l = open(t, d)
	}
	d.Arm(-1)
	if !m.allows(l) {
		t.Fatal(m, string(l.Base()), l.Records())
	}
	d.Crash(nil)
	again := open(t, d)
	if !bytes.Equal(l.Base(), again.Base()) || !slices.EqualFunc(l.Records(), again.Records(), bytes.Equal) || l.Name() != again.Name() || l.Size() != again.Size() {
		t.Fatal(m, l, again)
	}
}
