package sum

import (
	"bytes"
	"hash/crc32"
	"math/rand"
	"testing"

	"slipway/api"
)

func randomBytes(r *rand.Rand, n int) []byte {
	b := make([]byte, n)
	r.Read(b)
	return b
}

// P11.1
func TestOfAndMore(t *testing.T) {
	if s := Of([]byte("123456789")); s != 0xe3069283 {
		t.Errorf("%x", s)
	}
	if Of() != 0 || Of(nil, nil) != 0 || More(0, nil) != 0 || More(1<<32-1, nil) != 1<<32-1 {
		t.Error("of nothing")
	}
	r := rand.New(rand.NewSource(11))
	table := crc32.MakeTable(crc32.Castagnoli)
	for n := range 300 {
		b := randomBytes(r, n)
		i := r.Intn(n + 1)
		j := i + r.Intn(n-i+1)
		want := int(crc32.Checksum(b, table))
		if Of(b) != want || Of(b[:i], b[i:j], b[j:]) != want || More(Of(b[:i]), b[i:]) != want || More(0, b) != want {
			t.Fatal(n, i, j)
		}
		if sum := r.Uint32(); More(int(sum), b) != int(crc32.Update(sum, table, b)) {
			t.Fatal(n, sum)
		}
	}
	More(-1, []byte{1})
	More(1<<63-1, []byte{1})
}

// P11.2
func TestFrameAndOpen(t *testing.T) {
	if f, e := Frame(nil); e != api.OK || !bytes.Equal(f, []byte{0, 0, 0, 0, 0xc7, 0x4b, 0x67, 0x48}) {
		t.Errorf("%x, %d", f, e)
	}
	r := rand.New(rand.NewSource(12))
	for _, n := range []int{0, 1, 2, 3, 4, 255, 256, 257, 65535, 65536} {
		payload := randomBytes(r, n)
		f, e := Frame(payload)
		if e != api.OK || len(f) != n+8 || !bytes.Equal(f[4:n+4], payload) || f[0] != byte(n) || f[1] != byte(n>>8) || f[2] != byte(n>>16) || f[3] != 0 {
			t.Fatal(n, e)
		}
		p, size, e := Open(append(bytes.Clone(f), 1, 2, 3))
		if e != api.OK || size != n+8 || !bytes.Equal(p, payload) {
			t.Fatal(n, size, e)
		}
		for range 20 {
			cut := r.Intn(len(f))
			if p, size, e := Open(f[:cut]); e != api.ErrEnd || size != 0 || p != nil {
				t.Fatal(n, cut, size, e)
			}
			turned := bytes.Clone(f)
			turned[4+r.Intn(len(f)-4)] ^= 1 << r.Intn(8)
			if p, size, e := Open(turned); e != api.ErrForm || size != 0 || p != nil {
				t.Fatal(n, size, e)
			}
		}
	}
	if f, e := Frame(make([]byte, 65537)); e != api.ErrBig || f != nil {
		t.Error(e)
	}
}

func TestOpenErrorsInTheirOrder(t *testing.T) {
	for _, k := range []struct {
		b []byte
		e api.Errno
	}{
		{nil, api.ErrEnd}, {[]byte{255, 255, 255}, api.ErrEnd}, {[]byte{1, 0, 1, 0}, api.ErrBig}, {[]byte{255, 255, 255, 255}, api.ErrBig}, {[]byte{0, 0, 0, 128}, api.ErrBig},
		{[]byte{0, 0, 1, 0}, api.ErrEnd}, {[]byte{0, 0, 0, 0, 0xc7, 0x4b, 0x67}, api.ErrEnd}, {[]byte{0, 0, 0, 0, 0xc7, 0x4b, 0x67, 0x49}, api.ErrForm},
	} {
		if p, size, e := Open(k.b); e != k.e || p != nil || size != 0 {
			t.Error(k, p, size, e)
		}
	}
}

// P11.3
func TestSplit(t *testing.T) {
	var b []byte
	payloads := [][]byte{[]byte("a"), nil, []byte("some more"), {0}}
	ends := []int{0}
	for _, p := range payloads {
		f, _ := Frame(p)
		b = append(b, f...)
		ends = append(ends, len(b))
	}
	for cut := range len(b) + 1 {
		got, end := Split(b[:cut])
		whole := 0
		for whole+1 < len(ends) && ends[whole+1] <= cut {
			whole++
		}
		if len(got) != whole || end != ends[whole] {
			t.Fatal(cut, got, end)
		}
		for i := range got {
			if !bytes.Equal(got[i], payloads[i]) {
				t.Fatal(cut, got)
			}
		}
	}
	turned := bytes.Clone(b)
	turned[ends[2]+5] ^= 1
	if got, end := Split(turned); len(got) != 2 || end != ends[2] {
		t.Error(got, end)
	}
	if got, end := Split(append(bytes.Clone(b), 0, 0, 1, 1)); len(got) != 4 || end != len(b) {
		t.Error(got, end)
	}
}

func TestAnswersAreNewMemory(t *testing.T) {
	payload := append(make([]byte, 0, 64), "abc"...)
	f, _ := Frame(payload)
	double := append(bytes.Clone(f), f...)
	p, _, _ := Open(double)
	list, _ := Split(double)
	for _, b := range [][]byte{p, list[0], list[1], f} {
		b = b[:cap(b)]
		for i := range b {
			b[i] = 'x'
		}
	}
	if string(payload[:4]) != "abc\x00" || string(double[4:7]) != "abc" || string(list[1]) != "xxx" {
		t.Error(payload, double)
	}
	list, _ = Split(double)
	_ = append(list[0], 'y', 'y', 'y', 'y', 'y', 'y', 'y', 'y', 'y', 'y', 'y', 'y')
	if string(list[1]) != "abc" {
		t.Error(list)
	}
}
