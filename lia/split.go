package lia

import (
	"surety/api"
	"surety/arith"
	"surety/linear"
	"surety/simplex"
)

// split says that a variable is at most a number, or at least one more.
type split struct {
	of int
	at arith.Int
	up bool // is one more nearer to what the variable was?
}

// fraction: a split at the value of a variable that isn't whole, if there is one. Where the divisor is least, the fewest splits are needed, as a rule.
func fraction(system *simplex.System) (split, bool) {
	var found split
	var least arith.Int
	for _, v := range system.Vars() {
		x := system.Value(v)
		if x.IsWhole() || least.Sign() > 0 && arith.Cmp(x.Den(), least) >= 0 {
			continue
		}
		least = x.Den()
		found = split{of: v, at: x.Floor(), up: isPastHalf(x.Num(), x.Den())}
	}
	return found, least.Sign() > 0
}

// isPastHalf: is a, divided by b, nearer to the whole number above than to the one below?
func isPastHalf(a, b arith.Int) bool {
	_, rest, _ := arith.Div(a, b)
	left, _ := arith.Sub(b, rest)
	return arith.Cmp(rest, left) > 0
}

// sides: what it says in its first kid, and in its second; ErrBig, if one more has too many bits.
func (s split) sides() ([2]linear.Row, api.Errno) {
	sum, err := linear.Var(s.of)
	if err != api.OK {
		return [2]linear.Row{}, err
	}
	first := linear.Row{Sum: sum, Most: s.at}
	second, err := first.Not()
	if err != api.OK {
		return [2]linear.Row{}, err
	}
	return [2]linear.Row{first, second}, api.OK
}

// order: the kids, the one where the variable has less far to go first.
func (s split) order() [2]int {
	if s.up {
		return [2]int{1, 0}
	}
	return [2]int{0, 1}
}

// joined: what was found of both kids, neither of them Sat.
func (s split) joined(kids [2]finding) finding {
	for _, kid := range kids {
		if kid.verdict != api.Unsat {
			return finding{}
		}
	}
	cert := api.Branch{Var: s.of, Split: s.at.Text(), Kids: []api.Branch{kids[0].cert, kids[1].cert}}
	return finding{verdict: api.Unsat, cert: cert}
}
