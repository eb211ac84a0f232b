package yard_test

import (
	"math"
	"math/rand"
	"reflect"
	"testing"

	"slipway/agent"
	"slipway/audit"
	"slipway/backoff"
	"slipway/catalog"
	"slipway/code"
	"slipway/digraph"
	"slipway/dock"
	"slipway/engine"
	"slipway/gauss"
	"slipway/lattice"
	"slipway/manifest"
	"slipway/plan"
	"slipway/ranges"
	"slipway/rank"
	"slipway/saga"
	"slipway/semver"
	"slipway/solve"
	"slipway/sum"
	"slipway/wal"
	"slipway/yard"
)

var (
	someInts   = []int{math.MinInt, -65, -2, -1, 0, 0, 0, 1, 1, 2, 3, 4, 5, 6, 7, 8, 9, 12, 13, 36, 63, 64, 65, 67, 1 << 20, 1<<20 + 1, 1<<40 + 1, 1 << 50, math.MaxInt}
	someFloats = []float64{0, 1, 2, -1, 0.5, 1 << 20, 1<<20 + 1, math.NaN(), math.Inf(1), math.Inf(-1), math.Copysign(0, -1)}
	someTexts  = []string{"", "a", "b-1", "A", "1", "a.b", "1.0.0", "2.0.0-a", "*", "^1.0.0 || =2.0.0", "service a\nrelease 1.0.0 level 0\n", "need a of *\n", "\xff\n", " || "}
)

// anything is a value of a type, with small, large and odd numbers and texts in it.
func anything(r *rand.Rand, t reflect.Type) reflect.Value {
	v := reflect.New(t).Elem()
	switch t.Kind() {
	case reflect.Int:
		v.SetInt(int64(someInts[r.Intn(len(someInts))]))
	case reflect.Uint64:
		v.SetUint(r.Uint64() >> r.Intn(64))
	case reflect.Uint8:
		v.SetUint(uint64([]byte{0, 1, 2, 3, 0x80, 0xff}[r.Intn(6)]))
	case reflect.Bool:
		v.SetBool(r.Intn(2) == 0)
	case reflect.String:
		v.SetString(someTexts[r.Intn(len(someTexts))])
	case reflect.Complex128:
		v.SetComplex(complex(someFloats[r.Intn(len(someFloats))], someFloats[r.Intn(len(someFloats))]))
	case reflect.Slice:
		for range r.Intn(4) {
			v = reflect.Append(v, anything(r, t.Elem()))
		}
	case reflect.Array:
		for i := range v.Len() {
			v.Index(i).Set(anything(r, t.Elem()))
		}
	case reflect.Struct:
		for i := range t.NumField() {
			v.Field(i).Set(anything(r, t.Field(i).Type))
		}
	}
	return v
}

// call calls a function with anything; it fails by a panic, or by no end.
func call(r *rand.Rand, f reflect.Value) {
	t := f.Type()
	var args []reflect.Value
	for i := range t.NumIn() {
		args = append(args, anything(r, t.In(i)))
	}
	if t.IsVariadic() {
		f.CallSlice(args)
	} else {
		f.Call(args)
	}
}

// P1
func TestCallsOfAnythingEnd(t *testing.T) {
	functions := []any{
		semver.Parse, semver.Compare, ranges.Parse, ranges.And, ranges.Or, gauss.At, gauss.Parts, gauss.Step, gauss.Walk, gauss.Back, gauss.Sum, gauss.Apart,
		rank.Order, rank.Ranks, rank.Compare, rank.Count, rank.Nth, rank.Index, rank.Next, solve.Check, solve.Solve, solve.Meets, manifest.Parse, manifest.Text,
		lattice.All, lattice.Ways, lattice.Down, lattice.Up, lattice.Border, lattice.Way, plan.Make, plan.Check, plan.Fleet, plan.Vector, plan.Compensate,
		sum.Of, sum.More, sum.Frame, sum.Open, sum.Split, code.PutNumbers, code.GetNumbers, code.PutCatalog, code.GetCatalog, code.PutRequest, code.GetRequest, code.PutPlan, code.GetPlan,
		backoff.Wait, backoff.Total, dock.New, agent.New, saga.Replay, saga.Encode, saga.Decode, audit.Check, audit.Fleet, audit.Last, yard.New, yard.Run,
	}
	values := []any{semver.Version{}, ranges.Range{}, digraph.Graph{}, catalog.Catalog{}, plan.Plan{}, saga.State{}}
	r := rand.New(rand.NewSource(1))
	for range 1000 {
		for _, f := range functions {
			call(r, reflect.ValueOf(f))
		}
		for _, v := range values {
			some := anything(r, reflect.TypeOf(v))
			for i := range some.NumMethod() {
				call(r, some.Method(i))
			}
		}
	}
}

func TestObjectsBearAnything(t *testing.T) {
	r := rand.New(rand.NewSource(2))
	config := engine.Config{Limit: 2, Tries: 1, Base: 1, Cap: 2}
	for range 300 {
		d := dock.New(300)
		l, _ := wal.Open(d)
		d2 := dock.New(300)
		f := agent.New([]complex128{0, 1i})
		x, _ := engine.Open(d2, f, config)
		y, _, _ := yard.New(yard.Setup{Text: "service a\nrelease 1.0.0 level 0\nrelease 2.0.0 level 1\n", Versions: []int{0}, Config: config, Capacity: 300})
		for range 60 {
			for _, object := range []any{d, l, d2, f, x, y, backoff.New()} {
				v := reflect.ValueOf(object)
				call(r, v.Method(r.Intn(v.NumMethod())))
			}
		}
	}
}
