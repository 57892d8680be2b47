package sat

import (
	"slices"

	"surety/api"
)

// Check: do chains show that some clauses have no model?
func Check(clauses [][]int, proof []api.Chain) api.Errno {
	for _, c := range clauses {
		if !within(c, api.MaxVars) {
			return api.ErrLit
		}
	}
	places := make([][]int, 0, len(clauses)+len(proof))
	for _, c := range clauses {
		places = append(places, Set(c))
	}
	for _, chain := range proof {
		clause, ok := outcome(places, chain)
		if !ok || !slices.Equal(clause, Set(chain.Clause)) {
			return api.ErrProof
		}
		places = append(places, clause)
	}
	if len(proof) == 0 || len(places[len(places)-1]) > 0 {
		return api.ErrProof
	}
	return api.OK
}

// outcome: what comes out of a chain, if all that it names is there and can be resolved. The clauses are sets.
func outcome(places [][]int, chain api.Chain) ([]int, bool) {
	if !isPlace(places, chain.First) {
		return nil, false
	}
	now := slices.Clone(places[chain.First])
	var spare []int // two lists in turn: a long chain needs no more memory than a short one
	for _, step := range chain.Steps {
		if !isPlace(places, step.Clause) {
			return nil, false
		}
		next, ok := resolved(spare[:0], now, places[step.Clause], step.Var)
		if !ok {
			return nil, false
		}
		now, spare = next, now
	}
	return now, true
}

func isPlace(places [][]int, place int) bool { return place >= 0 && place < len(places) }
