package formula

import (
	"octavo/api"
	"octavo/token"
	"octavo/value"
)

// writer has the tokens of what is written so far. It is given good nodes alone.
type writer struct {
	tokens []token.Token
}

func (w *writer) put(l ...token.Token) {
	w.tokens = append(w.tokens, l...)
}

func (w *writer) node(n api.Node) {
	switch n.Kind {
	case api.NodeValue:
		w.put(constantToken(n.Value))
	case api.NodeRef:
		w.put(refToken(n.Ref))
	case api.NodeArea:
		w.put(refToken(n.Ref), opToken(colon), refToken(n.To))
	case api.NodeName:
		w.put(wordToken(n.Ref.Book, n.S))
	case api.NodeUnary:
		w.unary(n)
	case api.NodeBin:
		w.binary(n)
	case api.NodeCall:
		w.call(n)
	}
}

// unary: a - stands ahead, a % behind.
func (w *writer) unary(n api.Node) {
	if n.S == minus {
		w.put(opToken(minus))
		w.holding(n.Args[0], negates)
		return
	}
	w.holding(n.Args[0], percents)
	w.put(opToken(percent))
}

// binary: the right side must hold more strongly than the operator binds, since a row of one strength is put together from the left.
func (w *writer) binary(n api.Node) {
	binds := strength(n.S)
	w.holding(n.Args[0], binds)
	w.put(opToken(n.S))
	w.holding(n.Args[1], binds+1)
}

func (w *writer) call(n api.Node) {
	w.put(wordToken("", n.S), opToken(open))
	for i, a := range n.Args {
		if i > 0 {
			w.put(opToken(comma))
		}
		w.node(a)
	}
	w.put(opToken(closed))
}

// holding: a node, in brackets if it holds together less than it must.
func (w *writer) holding(n api.Node, least int) {
	if hold(n) >= least {
		w.node(n)
		return
	}
	w.put(opToken(open))
	w.node(n)
	w.put(opToken(closed))
}

func constantToken(v api.Value) token.Token {
	switch v.Kind {
	case api.Num:
		return token.Token{Kind: token.Num, N: v.N}
	case api.Str:
		return token.Token{Kind: token.Str, S: v.S}
	case api.Bool:
		return wordToken("", value.Text(v))
	}
	return token.Token{Kind: token.Bad, N: v.N}
}

func refToken(r api.Ref) token.Token {
	return token.Token{Kind: token.Ref, Ref: r}
}

func wordToken(book, s string) token.Token {
	return token.Token{Kind: token.Word, S: s, Ref: api.Ref{Book: book}}
}

func opToken(s string) token.Token {
	return token.Token{Kind: token.Op, S: s}
}
