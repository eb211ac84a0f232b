package copies

import (
	"reflect"
	"testing"

	"slipway/plan"
)

func TestPlan(t *testing.T) {
	sample := func() plan.Plan {
		return plan.Plan{From: []int{1}, To: []int{2}, Steps: []plan.Step{{Service: 3, Kind: 1}}, Before: [][2]int{{0, 4}}}
	}
	p := sample()
	c := Plan(p)
	if !reflect.DeepEqual(c, p) {
		t.Error(c)
	}
	c.From[0], c.To[0], c.Steps[0].Kind, c.Before[0][1] = 9, 9, 9, 9
	if !reflect.DeepEqual(p, sample()) {
		t.Error(p)
	}
}
