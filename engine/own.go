package engine

import (
	"slices"

	"heddle/api"
)

// ownModel is a model in memory of its own.
func ownModel(m api.Model) api.Model {
	m.Packs = slices.Clone(m.Packs)
	for i, p := range m.Packs {
		p.Rows = slices.Clone(p.Rows)
		for k, r := range p.Rows {
			r.Sign.Words = slices.Clone(r.Sign.Words)
			r.Some.Words = slices.Clone(r.Some.Words)
			p.Rows[k] = r
		}
		p.Threshes = slices.Clone(p.Threshes)
		p.Biases = slices.Clone(p.Biases)
		m.Packs[i] = p
	}
	return m
}

// ownPlan is a plan in memory of its own.
func ownPlan(p api.Plan) api.Plan {
	p.Ways = slices.Clone(p.Ways)
	p.Slots = slices.Clone(p.Slots)
	return p
}
