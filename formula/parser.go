package formula

import (
	"octavo/api"
	"octavo/token"
	"octavo/value"
)

// parser has the tokens that are not parsed yet. Each of its methods down to percented is for one strength of binding, and takes its parts from the method of the next one. Tokens that are no formula are a panic, wherever that is seen.
type parser struct {
	left []token.Token
}

// whole: the tree of all that is left. Brackets are no nodes, so its depth is known only when it stands.
func (p *parser) whole() api.Node {
	n := p.compared()
	if len(p.left) > 0 || Depth(n) > api.MaxDepth {
		panic(api.ErrForm)
	}
	return n
}

func (p *parser) compared() api.Node { return p.row(compares, (*parser).joined) }

func (p *parser) joined() api.Node { return p.row(joins, (*parser).added) }

func (p *parser) added() api.Node { return p.row(adds, (*parser).multiplied) }

func (p *parser) multiplied() api.Node { return p.row(multiplies, (*parser).raised) }

func (p *parser) raised() api.Node { return p.row(raises, (*parser).negated) }

// row: parts with operators of one strength between, put together from the left.
func (p *parser) row(binds int, part func(*parser) api.Node) api.Node {
	n := part(p)
	for strength(p.op()) == binds {
		op := p.take().S
		n = api.Node{Kind: api.NodeBin, S: op, Args: []api.Node{n, part(p)}}
	}
	return n
}

func (p *parser) negated() api.Node {
	if p.skip(minus) {
		return unary(minus, p.negated())
	}
	return p.percented()
}

func (p *parser) percented() api.Node {
	n := p.single()
	for p.skip(percent) {
		n = unary(percent, n)
	}
	return n
}

// single: what no operator is needed for.
func (p *parser) single() api.Node {
	if p.skip(open) {
		n := p.compared()
		p.must(closed)
		return n
	}
	t := p.take()
	switch t.Kind {
	case token.Num:
		return constant(value.Of(t.N, true))
	case token.Str:
		return constant(value.Str(t.S))
	case token.Bad:
		return constant(value.Bad(t.N))
	case token.Ref:
		return p.cells(t.Ref)
	case token.Word:
		return p.word(t)
	}
	panic(api.ErrForm)
}

// cells: one cell, or an area from it on. A ref that has no sheet has no book.
func (p *parser) cells(from api.Ref) api.Node {
	if !p.skip(colon) {
		return api.Node{Kind: api.NodeRef, Ref: from}
	}
	to := p.take()
	if to.Kind != token.Ref || to.Ref.Sheet != "" {
		panic(api.ErrForm)
	}
	return api.Node{Kind: api.NodeArea, Ref: from, To: to.Ref}
}

// word: a call, a truth or a name. A call is looked for first, since there are functions TRUE and FALSE too.
func (p *parser) word(t token.Token) api.Node {
	book := t.Ref.Book
	if book == "" && p.skip(open) {
		return api.Node{Kind: api.NodeCall, S: value.Upper(t.S), Args: p.args()}
	}
	if v := value.Typed(t.S); v.Kind == api.Bool {
		return constant(v)
	}
	return api.Node{Kind: api.NodeName, S: t.S, Ref: api.Ref{Book: book}}
}

// args: a call's arguments, up to its closing bracket.
func (p *parser) args() []api.Node {
	if p.skip(closed) {
		return nil
	}
	l := []api.Node{p.compared()}
	for !p.skip(closed) {
		p.must(comma)
		l = append(l, p.compared())
	}
	if len(l) > api.MaxArgs {
		panic(api.ErrForm)
	}
	return l
}

// op: the operator that is left first; nothing, if that is none.
func (p *parser) op() string {
	if len(p.left) == 0 || p.left[0].Kind != token.Op {
		return ""
	}
	return p.left[0].S
}

// take: the token that is left first, taken off.
func (p *parser) take() token.Token {
	if len(p.left) == 0 {
		panic(api.ErrForm)
	}
	t := p.left[0]
	p.left = p.left[1:]
	return t
}

// skip: is that operator left first? It is taken off, if so.
func (p *parser) skip(op string) bool {
	if p.op() != op {
		return false
	}
	p.take()
	return true
}

// must: that operator is left first, and taken off.
func (p *parser) must(op string) {
	if !p.skip(op) {
		panic(api.ErrForm)
	}
}

func constant(v api.Value) api.Node {
	return api.Node{Kind: api.NodeValue, Value: v}
}

func unary(op string, n api.Node) api.Node {
	return api.Node{Kind: api.NodeUnary, S: op, Args: []api.Node{n}}
}
