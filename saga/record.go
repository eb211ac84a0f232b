package saga

import (
	"slipway/api"
	"slipway/code"
	"slipway/words"
)

// ofStep tells whether records of a kind have a Step.
func ofStep(kind int) bool {
	return kind == words.Intent || kind == words.Done || kind == words.Failed || kind == words.Undone
}

func rightKind(kind int) bool {
	return kind >= words.Begin && kind <= words.End
}

// formed tells whether a record has a kind, and neither a Step nor a Plan that this kind hasn't.
func (r Record) formed() bool {
	bare := len(r.Plan.From) == 0 && len(r.Plan.To) == 0 && len(r.Plan.Steps) == 0 && len(r.Plan.Before) == 0
	return rightKind(r.Kind) && (bare || r.Kind == words.Begin) && (r.Step == 0 || ofStep(r.Kind))
}

// Encode writes a record.
func Encode(r Record) ([]byte, api.Errno) {
	if !r.formed() {
		return nil, api.ErrForm
	}
	var rest []byte
	var e api.Errno
	switch {
	case r.Kind == words.Begin:
		rest, e = code.PutPlan(r.Plan)
	case ofStep(r.Kind):
		rest, e = code.PutNumbers([]int{r.Step})
	}
	if e != api.OK {
		return nil, e
	}
	return append([]byte{byte(r.Kind)}, rest...), api.OK
}

// Decode reads a record.
func Decode(b []byte) (Record, api.Errno) {
	if len(b) == 0 {
		return Record{}, api.ErrEnd
	}
	r := Record{Kind: int(b[0])}
	rest := b[1:]
	var e api.Errno
	switch {
	case !rightKind(r.Kind):
		e = api.ErrForm
	case r.Kind == words.Begin:
		r.Plan, e = code.GetPlan(rest)
	case ofStep(r.Kind):
		r.Step, e = oneNumber(rest)
	case len(rest) > 0:
		e = api.ErrForm
	}
	if e != api.OK {
		return Record{}, e
	}
	return r, api.OK
}

// oneNumber reads a list that has just one number.
func oneNumber(b []byte) (int, api.Errno) {
	list, e := code.GetNumbers(b)
	if e != api.OK {
		return 0, e
	}
	if len(list) != 1 {
		return 0, api.ErrForm
	}
	return list[0], api.OK
}
