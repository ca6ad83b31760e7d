package formula

import "octavo/api"

const (
	minus   = "-"
	percent = "%"
	open    = "("
	closed  = ")"
	comma   = ","
	colon   = ":"
)

// How strongly parts of a formula hold together, the weakest first.
const (
	unbound = iota
	compares
	joins
	adds
	multiplies
	raises
	negates
	percents
	stands
)

// strength: how strongly an operator binds the two that it stands between; unbound, if there is no such operator.
func strength(op string) int {
	switch op {
	case "=", "<>", "<", "<=", ">", ">=":
		return compares
	case "&":
		return joins
	case "+", minus:
		return adds
	case "*", "/":
		return multiplies
	case "^":
		return raises
	}
	return unbound
}

// hold: how strongly a good node's text holds together where it stands beside an operator.
func hold(n api.Node) int {
	switch {
	case n.Kind == api.NodeBin:
		return strength(n.S)
	case n.Kind == api.NodeUnary && n.S == minus:
		return negates
	case n.Kind == api.NodeUnary:
		return percents
	}
	return stands
}
