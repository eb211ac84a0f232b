package code

import (
	"slipway/api"
	"slipway/catalog"
	"slipway/plan"
	"slipway/ranges"
	"slipway/semver"
	"slipway/solve"
)

const (
	maxNumber = 1 << 40
	groupBits = 7
	moreBit   = 1 << groupBits
	opAny     = 0
)

// writer has the bytes so far, and whether something had no form.
type writer struct {
	bytes    []byte
	formless bool
}

// written is what was written, if all of it has a form.
func (w *writer) written() ([]byte, api.Errno) {
	if w.formless {
		return nil, api.ErrForm
	}
	return w.bytes, api.OK
}

func (w *writer) number(n int) {
	if n < 0 || n > maxNumber {
		w.formless = true
		return
	}
	for n >= moreBit {
		w.bytes = append(w.bytes, byte(n)|moreBit)
		n >>= groupBits
	}
	w.bytes = append(w.bytes, byte(n))
}

func (w *writer) text(s string) {
	w.number(len(s))
	w.bytes = append(w.bytes, s...)
}

// putList writes how many things there are, and each by put.
func putList[T any](w *writer, list []T, put func(T)) {
	w.number(len(list))
	for _, thing := range list {
		put(thing)
	}
}

func (w *writer) numbers(list []int) {
	putList(w, list, w.number)
}

func (w *writer) version(v semver.Version) {
	w.number(v.Major)
	w.number(v.Minor)
	w.number(v.Patch)
	w.text(v.Pre)
}

func (w *writer) comp(c ranges.Comp) {
	w.number(c.Op)
	if c.Op != opAny {
		w.version(c.V)
	} else if c != (ranges.Comp{}) {
		w.formless = true
	}
}

func (w *writer) comps(list []ranges.Comp) {
	putList(w, list, w.comp)
}

func (w *writer) span(r ranges.Range) {
	putList(w, r.Any, w.comps)
}

func (w *writer) need(n catalog.Need) {
	w.number(n.Service)
	w.span(n.Range)
}

func (w *writer) release(r catalog.Release) {
	w.version(r.Version)
	w.number(r.Level)
	putList(w, r.Needs, w.need)
}

func (w *writer) service(s catalog.Service) {
	w.text(s.Name)
	putList(w, s.Releases, w.release)
}

func (w *writer) pin(p solve.Pin) {
	w.number(p.Service)
	w.span(p.Range)
}

func (w *writer) step(s plan.Step) {
	w.number(s.Service)
	w.number(s.Kind)
}

func (w *writer) pair(p [2]int) {
	w.number(p[0])
	w.number(p[1])
}
