// Package copies makes copies that share no memory with what they are copies of.
package copies

import (
	"slices"

	"slipway/plan"
)

// Plan is the same plan.
func Plan(p plan.Plan) plan.Plan {
	return plan.Plan{
		From:   slices.Clone(p.From),
		To:     slices.Clone(p.To),
		Steps:  slices.Clone(p.Steps),
		Before: slices.Clone(p.Before),
	}
}
