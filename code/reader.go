package code

import (
	"slipway/api"
	"slipway/catalog"
	"slipway/plan"
	"slipway/ranges"
	"slipway/semver"
	"slipway/solve"
)

const maxNumberBytes = 6

// reader has what isn't read yet, and the first error.
type reader struct {
	rest []byte
	e    api.Errno
}

// fail keeps the first error alone, for it is the one that is answered.
func (r *reader) fail(e api.Errno) {
	if r.e == api.OK {
		r.e = e
	}
}

// ended is the first error, that of a rest behind all included.
func (r *reader) ended() api.Errno {
	if len(r.rest) > 0 {
		r.fail(api.ErrForm)
	}
	return r.e
}

// take reads n bytes; none, if there was an error, or they lack.
func (r *reader) take(n int) []byte {
	if n > len(r.rest) {
		r.fail(api.ErrEnd)
	}
	if r.e != api.OK {
		return nil
	}
	taken := r.rest[:n]
	r.rest = r.rest[n:]
	return taken
}

func (r *reader) number() int {
	n := 0
	for i := range maxNumberBytes {
		taken := r.take(1)
		if len(taken) == 0 {
			return 0
		}
		group := int(taken[0])
		n |= group &^ moreBit << (groupBits * i)
		if group >= moreBit {
			continue
		}
		if group == 0 && i > 0 || n > maxNumber {
			break
		}
		return n
	}
	r.fail(api.ErrForm)
	return 0
}

// count reads how many things there are: each has a byte at least, so there can't be more than bytes are left.
func (r *reader) count() int {
	n := r.number()
	if n > len(r.rest) {
		r.fail(api.ErrEnd)
		return 0
	}
	return n
}

func (r *reader) text() string {
	return string(r.take(r.count()))
}

// getList reads how many things there are, and each by get.
func getList[T any](r *reader, get func() T) []T {
	var list []T
	for range r.count() {
		thing := get()
		if r.e != api.OK {
			return nil
		}
		list = append(list, thing)
	}
	return list
}

func (r *reader) numbers() []int {
	return getList(r, r.number)
}

func (r *reader) version() semver.Version {
	var v semver.Version
	v.Major = r.number()
	v.Minor = r.number()
	v.Patch = r.number()
	v.Pre = r.text()
	return v
}

func (r *reader) comp() ranges.Comp {
	c := ranges.Comp{Op: r.number()}
	if c.Op != opAny {
		c.V = r.version()
	}
	return c
}

func (r *reader) comps() []ranges.Comp {
	return getList(r, r.comp)
}

func (r *reader) span() ranges.Range {
	return ranges.Range{Any: getList(r, r.comps)}
}

func (r *reader) need() catalog.Need {
	n := catalog.Need{Service: r.number()}
	n.Range = r.span()
	return n
}

func (r *reader) release() catalog.Release {
	release := catalog.Release{Version: r.version()}
	release.Level = r.number()
	release.Needs = getList(r, r.need)
	return release
}

func (r *reader) service() catalog.Service {
	s := catalog.Service{Name: r.text()}
	s.Releases = getList(r, r.release)
	return s
}

func (r *reader) pin() solve.Pin {
	p := solve.Pin{Service: r.number()}
	p.Range = r.span()
	return p
}

func (r *reader) step() plan.Step {
	s := plan.Step{Service: r.number()}
	s.Kind = r.number()
	return s
}

func (r *reader) pair() [2]int {
	var p [2]int
	p[0] = r.number()
	p[1] = r.number()
	return p
}
