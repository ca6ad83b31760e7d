package token_test

import (
	"fmt"
	"slices"
	"strings"
	"testing"

	"octavo/api"
	"octavo/token"
)

// all: what every call answers, told to see.
func all(see func(what, answer string)) {
	l := append(append(some(20000, 8), goods(5000, 9)...), wrong()...)
	l = append(l, strings.Repeat("a", 1<<20), strings.Repeat(`"`, 1<<20), strings.Repeat("[", 255), strings.Repeat("]", 255), strings.Repeat("!", 255), strings.Repeat("$", 255), strings.Repeat(".", 255), strings.Repeat("#", 255), strings.Repeat(`"`, 254), strings.Repeat(`"`, 255), strings.Repeat("1.", 127), strings.Repeat("\xff", 255), strings.Repeat("é", 127), strings.Repeat("[a]", 85))
	for i, s := range l {
		tokens, e := token.Lex(s)
		see(fmt.Sprint("texts ", i), fmt.Sprintf("%#v %d %q", tokens, e, token.Print(tokens)))
	}
	odd := strangers()
	for i, x := range odd {
		see(fmt.Sprint("tokens ", i), token.Print(list(x, odd[i*31%len(odd)], x)))
	}
	see("all tokens", token.Print(odd))
}

// R1, R4: nothing panics, and the same arguments are answered the same.

func TestCallsAnswerTheSameAgain(t *testing.T) {
	was := map[string]string{}
	all(func(what, answer string) { was[what] = answer })
	all(func(what, answer string) {
		if was[what] != answer {
			t.Fatalf("%.100s: %.100s, then %.100s", what, was[what], answer)
		}
	})
	if len(was) < 20000 {
		t.Fatalf("only %d calls", len(was))
	}
}

// R2: beside an error there are no tokens, not even those ahead of the wrong place.

func TestBesideAnErrorIsNothing(t *testing.T) {
	refused := 0
	for _, s := range append(some(50000, 10), "1 2 3 !", "A1+tax+_", strings.Repeat("1 ", 200)) {
		if l, e := token.Lex(s); e != api.OK {
			same(t, len(l), 0, "tokens beside an error", s)
			refused++
		}
	}
	if refused < 10000 {
		t.Fatalf("only %d were refused", refused)
	}
}

// R3: what is handed in is not changed, nor what lies behind its end.

func TestPrintChangesNothing(t *testing.T) {
	room := strangers()
	was := slices.Clone(room)
	for n := range len(room) {
		token.Print(room[:n:len(room)])
	}
	if !slices.Equal(room, was) {
		t.Fatal("Print has changed its tokens, or those behind them")
	}
}

// R3: an answer is new memory, with its spare room.

func TestLexAnswersNewMemory(t *testing.T) {
	for _, s := range goods(2000, 11) {
		one, _ := token.Lex(s)
		was := slices.Clone(one)
		two, _ := token.Lex(s)
		for i := range two[:cap(two)] {
			two[:cap(two)][i] = token.Token{Kind: 9, S: "changed"}
		}
		three, _ := token.Lex(s)
		if !slices.Equal(one, was) || !slices.Equal(three, was) {
			t.Fatalf("Lex(%q) hangs on what was done with another answer", s)
		}
	}
}

// R7: what a kind does not name is zero.

func TestLexLeavesTheRestZero(t *testing.T) {
	seen := map[int]int{}
	for _, s := range append(goods(20000, 12), some(50000, 13)...) {
		l, _ := token.Lex(s)
		for _, x := range l {
			named := x
			switch x.Kind {
			case token.Num, token.Bad:
				named.N = 0
			case token.Str, token.Op:
				named.S = ""
			case token.Ref:
				named.Ref = api.Ref{}
			case token.Word:
				named.S, named.Ref.Book = "", ""
			}
			same(t, named, token.Token{Kind: x.Kind}, "what is not named of", x)
			seen[x.Kind]++
		}
	}
	for k := token.Num; k <= token.Bad; k++ {
		if seen[k] < 1000 {
			t.Fatalf("only %d tokens of kind %d", seen[k], k)
		}
	}
	same(t, len(seen), 6, "kinds")
}
