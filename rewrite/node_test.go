package rewrite_test

import (
	"math"
	"math/rand"
	"testing"

	"octavo/api"
	"octavo/rewrite"
	"octavo/shift"
)

// P14.1

// At home in sheet S refs without a sheet are of it.

func TestNodeOfRefsByRows(t *testing.T) {
	for _, x := range []struct{ was, is string }{
		{"A1", "A1"}, {"A2", "A2"}, {"A3", "A5"}, {"A4", "A6"}, {"Z62", "Z64"}, {"A63", "#REF!"}, {"A64", "#REF!"},
		{"$A$3", "$A$5"}, {"$A3", "$A5"}, {"A$3", "A$5"}, {"S!A3", "S!A5"}, {"[b]S!A3", "[b]S!A5"}, {"[b]S!$A$63", "#REF!"},
		{"T!A3", "T!A3"}, {"[b]T!A3", "[b]T!A3"}, {"[c]S!A3", "[c]S!A3"}, {"s!A3", "s!A3"}, {"[B]S!A3", "[B]S!A3"},
	} {
		becomes(t, x.was, inS, rows(3, 2), x.is)
	}
	for _, x := range []struct{ was, is string }{
		{"A1", "A1"}, {"A2", "A2"}, {"A3", "#REF!"}, {"A4", "#REF!"}, {"A5", "A3"}, {"A64", "A62"}, {"$C$5", "$C$3"}, {"S!$A$3", "#REF!"}, {"[b]S!A5", "[b]S!A3"}, {"T!A3", "T!A3"},
	} {
		becomes(t, x.was, inS, rows(3, -2), x.is)
	}
}

func TestNodeOfRefsByColumns(t *testing.T) {
	for _, x := range []struct{ was, is string }{
		{"A1", "A1"}, {"B64", "B64"}, {"C3", "E3"}, {"$C3", "$E3"}, {"C$3", "E$3"}, {"X1", "Z1"}, {"Y1", "#REF!"}, {"Z1", "#REF!"}, {"S!C3", "S!E3"}, {"[b]S!C3", "[b]S!E3"}, {"T!C3", "T!C3"}, {"[c]S!C3", "[c]S!C3"},
	} {
		becomes(t, x.was, inS, cols(3, 2), x.is)
	}
	for _, x := range []struct{ was, is string }{
		{"B1", "B1"}, {"C1", "#REF!"}, {"D1", "#REF!"}, {"E1", "C1"}, {"$Z$9", "$X$9"}, {"S!D1", "#REF!"}, {"T!D1", "T!D1"},
	} {
		becomes(t, x.was, inS, cols(3, -2), x.is)
	}
}

// Of a formula that stands elsewhere only what names the sheet is turned.
func TestNodeOfHomes(t *testing.T) {
	for _, x := range []struct {
		home          api.Place
		was, is, left string
	}{
		{inT, "A3+S!A3+T!A3+[b]S!A3+[c]S!A3", "A3+S!A4+T!A3+[b]S!A4+[c]S!A3", "A3+#REF!+T!A3+#REF!+[c]S!A3"},
		{inOther, "A3+S!A3+T!A3+[b]S!A3+[c]S!A3", "A3+S!A3+T!A3+[b]S!A4+[c]S!A3", "A3+S!A3+T!A3+#REF!+[c]S!A3"},
		{inS, "A3+S!A3+T!A3+[b]S!A3+[c]S!A3", "A4+S!A4+T!A3+[b]S!A4+[c]S!A3", "#REF!+#REF!+T!A3+#REF!+[c]S!A3"},
		{api.Place{Book: "b"}, "A3+S!A3+[b]S!A3", "A3+S!A4+[b]S!A4", "A3+#REF!+#REF!"},
		{api.Place{Sheet: "S"}, "A3+S!A3+[b]S!A3", "A3+S!A3+[b]S!A4", "A3+S!A3+#REF!"},
		{api.Place{}, "A3+S!A3+[b]S!A3", "A3+S!A3+[b]S!A4", "A3+S!A3+#REF!"},
		{inT, "SUM(A1:A3,S!A1:A3,[b]S!A1:A3,[c]S!A1:A3)", "SUM(A1:A3,S!A1:A4,[b]S!A1:A4,[c]S!A1:A3)", "SUM(A1:A3,#REF!,#REF!,[c]S!A1:A3)"},
		{inOther, "SUM(A1:A3,S!A1:A3,[b]S!A1:A3,[b]T!A1:A3)", "SUM(A1:A3,S!A1:A3,[b]S!A1:A4,[b]T!A1:A3)", "SUM(A1:A3,S!A1:A3,#REF!,[b]T!A1:A3)"},
		{inS, "SUM(A1:A3,T!A1:A3,[c]S!A1:A3)", "SUM(A1:A4,T!A1:A3,[c]S!A1:A3)", "SUM(#REF!,T!A1:A3,[c]S!A1:A3)"},
	} {
		becomes(t, x.was, x.home, rows(3, 1), x.is)
		becomes(t, x.was, x.home, drop(), x.left)
	}
}

// What a sheet that goes has beside Drop is not looked at.
func TestNodeOfDrop(t *testing.T) {
	for _, c := range []rewrite.Change{drop(), {Book: "b", Sheet: "S", Drop: true, Cols: true}, {Book: "b", Sheet: "S", Drop: true, Shift: shift.Shift{At: 3, N: 1, Most: 64}}, {Book: "b", Sheet: "S", Drop: true, Cols: true, Shift: shift.Shift{At: 3, N: 1, Most: 26}}, {Book: "b", Sheet: "S", Drop: true, Cols: true, Shift: shift.Shift{At: -3, N: 1, Most: 64}}} {
		becomes(t, "A1", inS, c, "#REF!")
		becomes(t, "$Z$64", inS, c, "#REF!")
		becomes(t, "A1:B2", inS, c, "#REF!")
		becomes(t, "-S!A1%+SUM(A1:A1,T!A1)", inS, c, "-#REF!%+SUM(#REF!,T!A1)")
		stays(t, "T!A1", inS, c)
		stays(t, "T!B2:A1", inS, c)
		stays(t, "A1", inT, c)
		stays(t, "B2:A1", inOther, c)
	}
}

func TestNodeOfAreasByRows(t *testing.T) {
	for _, x := range []struct{ was, is string }{
		// Wholly ahead, around, wholly behind; of one line.
		{"A1:B2", "A1:B2"}, {"A1:B3", "A1:B5"}, {"A2:B9", "A2:B11"}, {"A3:B3", "A5:B5"}, {"A3:B4", "A5:B6"}, {"A9:B9", "A11:B11"}, {"C2:C2", "C2:C2"}, {"C3:C3", "C5:C5"},
		// The upper end is pushed beyond the last line; so are both.
		{"A1:A62", "A1:A64"}, {"A1:A63", "A1:A64"}, {"A1:A64", "A1:A64"}, {"A62:A64", "A64:A64"}, {"A63:A64", "#REF!"}, {"A64:A64", "#REF!"},
		{"S!A1:B3", "S!A1:B5"}, {"[b]S!A1:B3", "[b]S!A1:B5"}, {"[b]S!A63:B64", "#REF!"}, {"[c]S!A1:B3", "[c]S!A1:B3"}, {"T!A63:B64", "T!A63:B64"},
	} {
		becomes(t, x.was, inS, rows(3, 2), x.is)
	}
	for _, x := range []struct{ was, is string }{
		// Ahead; around; among those that go; beginning and ending there; behind.
		{"A1:A2", "A1:A2"}, {"A1:A5", "A1:A3"}, {"A1:A64", "A1:A62"}, {"A3:A4", "#REF!"}, {"A3:A3", "#REF!"}, {"A4:A4", "#REF!"}, {"A3:A9", "A3:A7"}, {"A4:A9", "A3:A7"}, {"A4:A5", "A3:A3"}, {"A1:A3", "A1:A2"}, {"A1:A4", "A1:A2"}, {"A2:A4", "A2:A2"}, {"A5:A5", "A3:A3"}, {"A5:A64", "A3:A62"},
		{"S!A1:A4", "S!A1:A2"}, {"[b]S!A3:A4", "#REF!"}, {"T!A3:A4", "T!A3:A4"},
	} {
		becomes(t, x.was, inS, rows(3, -2), x.is)
	}
}

func TestNodeOfAreasByColumns(t *testing.T) {
	for _, x := range []struct{ was, is string }{
		{"A1:B2", "A1:B2"}, {"A1:C2", "A1:E2"}, {"C1:C64", "E1:E64"}, {"A1:X1", "A1:Z1"}, {"A1:Y1", "A1:Z1"}, {"X1:Z1", "Z1:Z1"}, {"Y1:Z1", "#REF!"}, {"S!A1:C2", "S!A1:E2"}, {"T!A1:C2", "T!A1:C2"},
	} {
		becomes(t, x.was, inS, cols(3, 2), x.is)
	}
	for _, x := range []struct{ was, is string }{
		{"A1:B1", "A1:B1"}, {"A1:E1", "A1:C1"}, {"C1:D9", "#REF!"}, {"D1:D1", "#REF!"}, {"C1:Z1", "C1:X1"}, {"D1:F1", "C1:D1"}, {"A1:C1", "A1:B1"}, {"B1:D1", "B1:B1"}, {"E1:F1", "C1:D1"},
	} {
		becomes(t, x.was, inS, cols(3, -2), x.is)
	}
}

// Turned round in rows, in columns and in both: the least corner comes first, the names stay ahead, and each row and each column keeps its $; that is another one, even if no line moves.
func TestNodeTurnsCorners(t *testing.T) {
	for _, x := range []struct{ was, is string }{
		{"A1:B2", "A1:B2"}, {"A2:B1", "A1:B2"}, {"B1:A2", "A1:B2"}, {"B2:A1", "A1:B2"},
		{"$B2:A1", "A1:$B2"}, {"B$2:A1", "A1:B$2"}, {"$B$2:A1", "A1:$B$2"}, {"B2:$A$1", "$A$1:B2"},
		{"$A$2:B1", "$A1:B$2"}, {"A$2:$B1", "A1:$B$2"}, {"$B$1:A2", "A$1:$B2"}, {"B$1:$A2", "$A$1:B2"},
		{"S!B$2:A1", "S!A1:B$2"}, {"[b]S!$B2:A1", "[b]S!A1:$B2"}, {"SUM(B2:A1,A1:B2)", "SUM(A1:B2,A1:B2)"},
		{"T!B2:A1", "T!B2:A1"}, {"[c]S!B2:A1", "[c]S!B2:A1"},
	} {
		becomes(t, x.was, inS, rows(9, 1), x.is)
		becomes(t, x.was, inS, rows(9, -1), x.is)
		becomes(t, x.was, inS, cols(9, 1), x.is)
		becomes(t, x.was, inS, cols(9, -1), x.is)
	}
	becomes(t, "$B4:A$2", inS, rows(3, 2), "A$2:$B6")
	becomes(t, "D$4:$B2", inS, cols(3, -1), "$B2:C$4")
}

// Two rows (columns) alike are not turned: Ref keeps the fixing that stood with Ref's, To that with To's. So do rows that only the change makes one.
func TestNodeOfCornersAlike(t *testing.T) {
	for _, x := range []struct{ was, is string }{
		{"A$1:B1", "A$1:B1"}, {"A1:B$1", "A1:B$1"}, {"B$1:A1", "A$1:B1"}, {"B1:A$1", "A1:B$1"}, {"A$1:B$1", "A$1:B$1"}, {"$B$1:A1", "A$1:$B1"}, {"$B1:A$1", "A1:$B$1"}, {"B1:$A$1", "$A1:B$1"},
		{"$A1:A2", "$A1:A2"}, {"A1:$A2", "A1:$A2"}, {"$A2:A1", "$A1:A2"}, {"A2:$A1", "A1:$A2"}, {"$A$2:A1", "$A1:A$2"}, {"A$2:$A1", "A1:$A$2"}, {"$A2:A$1", "$A$1:A2"},
		{"$A1:A1", "$A1:A1"}, {"A1:$A$1", "A1:$A$1"}, {"A$1:$A1", "A$1:$A1"}, {"$A$1:A1", "$A$1:A1"}, {"$A2:A$2", "$A2:A$2"},
	} {
		becomes(t, x.was, inS, rows(9, 1), x.is)
		becomes(t, x.was, inS, cols(9, -1), x.is)
		stays(t, x.was, inT, rows(9, 1))
	}
	becomes(t, "A$1:B3", inS, rows(2, -2), "A$1:B1")
	becomes(t, "A1:B$3", inS, rows(2, -2), "A1:B$1")
	becomes(t, "B$3:A1", inS, rows(2, -2), "A1:B$1")
	becomes(t, "$A1:C2", inS, cols(2, -2), "$A1:A2")
	becomes(t, "A62:A$64", inS, rows(3, 2), "A64:A$64")
	becomes(t, "S!B1:A$1", inT, rows(9, 1), "S!A1:B$1")
	stays(t, "[b]S!A$1:B1", inOther, rows(9, 1))
	becomes(t, "S!$A5:A5+2", inS, rows(1, -1), "S!$A4:A4+2")
	becomes(t, "B5:A$5", inS, rows(1, -1), "A4:B$4")
	becomes(t, "B$5:B2", inS, cols(1, -1), "A2:A$5")
}

// Within calls, signs and operators, and several in one formula.
func TestNodeGoesDown(t *testing.T) {
	for _, x := range []struct{ was, is string }{
		{"-A3", "-A4"}, {"A3%", "A4%"}, {"-(A3+1)", "-(A4+1)"}, {"A3+A4*A1^A5", "A4+A5*A1^A6"}, {"(A3+A4)*2", "(A4+A5)*2"}, {"A3=A4", "A4=A5"}, {"A3&\"A3\"", "A4&\"A3\""},
		{"SUM(A3,B3:B4,SUM(A3),tax,[b]S,S,F())", "SUM(A4,B4:B5,SUM(A4),tax,[b]S,S,F())"}, {"IF(A1>A3,-A3%,SUM(A1:A3,T!A3))", "IF(A1>A4,-A4%,SUM(A1:A4,T!A3))"},
		{"A63+A64", "A64+#REF!"}, {"SUM(A64,A64:B64,1)", "SUM(#REF!,#REF!,1)"}, {"-A64", "-#REF!"}, {"#REF!+A3", "#REF!+A4"},
	} {
		becomes(t, x.was, inS, rows(3, 1), x.is)
	}
	for _, s := range []string{"1", "\"A3\"", "TRUE", "#REF!", "#DIV/0!", "tax", "S", "[b]S", "[b]tax", "F()", "A1+A2", "SUM(A1:B2,T!A3)", "-A1%"} {
		stays(t, s, inS, rows(3, 1))
	}
}

// besides: n, with one more of what a node may have, for each that its kind does not name.
func besides(n api.Node) []api.Node {
	var l []api.Node
	for i := range 6 {
		x := twin(n)
		switch {
		case i == 0:
			x.S = "x"
		case i == 1:
			x.Value = api.Value{Kind: 1, N: 5}
		case i == 2:
			x.Args = []api.Node{ref(at(3, 1))}
		case i == 3:
			x.S, x.Value, x.Args = "-", api.Value{S: "S"}, []api.Node{call(ref(at(9, 9)), num(1)), {}}
		case n.Kind == 3:
			continue
		case i == 4:
			x.To = api.Ref{FixRow: true}
		case i == 5:
			x.To = of("c", "T", at(4, 4))
		}
		l = append(l, x)
	}
	return l
}

// R7: of the refs and areas of the sheet what their kinds do not name is zero in the answer, and not looked at: it is neither turned nor another one.
func TestNodeOfWhatAKindDoesNotName(t *testing.T) {
	for _, x := range []struct {
		was, is api.Node
		c       rewrite.Change
		other   bool
	}{
		{ref(at(3, 1)), ref(at(4, 1)), rows(1, 1), true}, {ref(at(3, 1)), ref(at(3, 1)), rows(5, 1), false}, {ref(at(3, 1)), gone(), rows(3, -1), true}, {ref(at(3, 1)), gone(), drop(), true},
		{ref(at(3, 1)), ref(at(3, 3)), cols(1, 2), true}, {ref(of("b", "S", at(3, 1))), ref(of("b", "S", at(3, 1))), cols(2, -2), false},
		{area(at(3, 1), at(4, 2)), area(at(4, 1), at(5, 2)), rows(1, 1), true}, {area(at(3, 1), at(4, 2)), area(at(3, 1), at(4, 2)), rows(5, 1), false}, {area(at(4, 2), at(3, 1)), area(at(3, 1), at(4, 2)), rows(5, 1), true},
		{area(at(3, 1), at(4, 2)), gone(), rows(3, -2), true}, {area(at(3, 1), at(4, 2)), gone(), drop(), true}, {area(of("", "S", at(3, 1)), at(4, 2)), area(of("", "S", at(3, 1)), at(4, 4)), cols(2, 2), true},
	} {
		for _, n := range append(besides(x.was), x.was) {
			turns(t, n, inS, x.c, x.is)
			got, other := rewrite.Node(call(n, num(1)), inS, x.c)
			same(t, equal(got, call(x.is, num(1))), true, "Node of a call of it", shown(n), x.c, shown(got))
			same(t, other, x.other, "Node of a call of it", shown(n), x.c)
			same(t, rewrite.Names(n, inS, x.c), true, "Names", shown(n))
		}
	}
	// Beside one that is another one.
	got, other := rewrite.Node(call(besides(ref(at(1, 1)))[2], ref(at(3, 1)), besides(ref(at(1, 1)))[4]), inS, rows(2, 1))
	same(t, equal(got, call(ref(at(1, 1)), ref(at(4, 1)), ref(at(1, 1)))), true, "Node", shown(got))
	same(t, other, true, "Node", shown(got))
}

// All others stay as they are, with all that they have; their arguments alone are gone through.
func TestNodeOfOthersWithMore(t *testing.T) {
	more := api.Node{S: "x", Value: api.Value{Kind: 1, N: 5}, Ref: at(3, 1), To: of("", "S", at(4, 2))}
	for kind := -1; kind <= 9; kind++ {
		n := more
		n.Kind = kind
		if kind == 2 || kind == 3 {
			n.Ref.Sheet = "T"
		}
		turns(t, n, inS, rows(1, 1), n)
		turns(t, n, inS, drop(), n)
		n.Args = []api.Node{ref(at(1, 1)), num(1)}
		turns(t, n, inS, rows(5, 1), n)
		want := n
		want.Args = []api.Node{ref(at(2, 1)), num(1)}
		turns(t, n, inS, rows(1, 1), want)
		want.Args = []api.Node{gone(), num(1)}
		turns(t, n, inS, drop(), want)
		same(t, rewrite.Names(n, inS, drop()), true, "Names", shown(n))
	}
}

// A kind that there is not stays; what is below it is gone through.
func TestNodeOfNobodysKind(t *testing.T) {
	for _, kind := range []int{math.MinInt, -2, 0, 8, 9, 1<<32 + 2, math.MaxInt} {
		for _, c := range []rewrite.Change{drop(), rows(1, 1), cols(1, -1)} {
			n := api.Node{Kind: kind, S: "x", Value: api.Value{Kind: 9, N: -1, S: "y"}, Ref: at(3, 3), To: at(1, 1)}
			turns(t, n, inS, c, n)
			turns(t, call(n, n), inS, c, call(n, n))
			same(t, rewrite.Names(call(n), inS, c), false, "Names", shown(n))
		}
		n := api.Node{Kind: kind, Args: []api.Node{ref(at(3, 3)), num(1)}}
		turns(t, n, inS, drop(), api.Node{Kind: kind, Args: []api.Node{gone(), num(1)}})
		same(t, rewrite.Names(n, inS, drop()), true, "Names", shown(n))
	}
	turns(t, api.Node{}, inS, drop(), api.Node{})
	turns(t, api.Node{}, api.Place{}, rewrite.Change{}, api.Node{})
}

// Cells that lie in no sheet have no place behind a change.
func TestNodeOfRefsThatAreNone(t *testing.T) {
	for _, p := range []int{math.MinInt, -1, 0, 65, 66, math.MaxInt} {
		for _, c := range []rewrite.Change{rows(1, 1), rows(64, -1), rows(1, -64)} {
			turns(t, ref(at(p, 1)), inS, c, gone())
			turns(t, area(at(p, 1), at(3, 1)), inS, c, gone())
			turns(t, area(at(3, 1), at(p, 1)), inS, c, gone())
			turns(t, ref(at(p, 1)), inT, c, ref(at(p, 1)))
			turns(t, area(at(p, 1), at(3, 1)), inT, c, area(at(p, 1), at(3, 1)))
		}
		// The other number is not looked at.
		turns(t, ref(at(5, p)), inS, rows(3, 1), ref(at(6, p)))
		turns(t, ref(at(p, 5)), inS, cols(3, 1), ref(at(p, 6)))
		turns(t, area(at(5, p), at(5, p)), inS, rows(3, -1), area(at(4, p), at(4, p)))
	}
	// A name without a sheet is not good, and means home's sheet of that book.
	turns(t, ref(of("b", "", at(3, 1))), inS, rows(3, 1), ref(of("b", "", at(4, 1))))
	turns(t, ref(of("b", "", at(3, 1))), inT, rows(3, 1), ref(of("b", "", at(3, 1))))
	turns(t, ref(of("b", "", at(3, 1))), inOther, rows(3, 1), ref(of("b", "", at(4, 1))))
	// Names that may not be are names like others.
	odd := rewrite.Change{Book: "!", Sheet: "", Shift: shift.Shift{At: 1, N: 1, Most: 64}}
	turns(t, ref(at(3, 1)), api.Place{Book: "!"}, odd, ref(at(4, 1)))
	turns(t, ref(of("!", "", at(3, 1))), api.Place{}, odd, ref(of("!", "", at(4, 1))))
	turns(t, ref(at(3, 1)), api.Place{}, rewrite.Change{Shift: odd.Shift}, ref(at(4, 1)))
	turns(t, ref(at(3, 1)), api.Place{}, odd, ref(at(3, 1)))
}

// By a shift that is not good no line has a place: what names the sheet is #REF!, and nothing else.
func TestNodeOfShiftsThatAreNone(t *testing.T) {
	for _, s := range []shift.Shift{{}, {At: 3, Most: 64}, {N: 1, Most: 64}, {At: 65, N: 1, Most: 64}, {At: -1, N: 1, Most: 64}, {At: 3, N: 63, Most: 64}, {At: 3, N: -63, Most: 64}, {At: 1, N: 1}, {At: 1, N: 1, Most: 1001}, {At: 1, N: 1, Most: -64}, {At: math.MaxInt, N: math.MaxInt, Most: math.MaxInt}, {At: math.MinInt, N: math.MinInt, Most: math.MinInt}, {At: 1, N: math.MinInt, Most: 64}} {
		for _, columns := range []bool{false, true} {
			c := rewrite.Change{Book: "b", Sheet: "S", Cols: columns, Shift: s}
			becomes(t, "A1+T!A1+SUM(A1:B2,T!B2:A1)", inS, c, "#REF!+T!A1+SUM(#REF!,T!B2:A1)")
			stays(t, "A1+SUM(B2:A1)", inT, c)
		}
	}
}

// A shift may have more lines than a sheet has, or fewer; Node goes by the shift alone.
func TestNodeOfOtherCountsOfLines(t *testing.T) {
	c := rows(1, 900)
	c.Shift.Most = 1000
	turns(t, ref(at(64, 1)), inS, c, ref(at(964, 1)))
	turns(t, ref(at(101, 1)), inS, c, gone())
	turns(t, area(at(1, 2), at(64, 1)), inS, c, area(at(901, 1), at(964, 2)))
	same(t, asked(rewrite.Text("=A64", inS, c)), texts{"=", true, api.OK}, "Text of a ref that has no text then")
	c = cols(1, 1)
	c.Shift.Most = 3
	becomes(t, "A1+B1+C1+D1+A1:C1+B1:D1", inS, c, "B1+C1+#REF!+#REF!+B1:C1+#REF!")
}

// TestNodeByTheModel: every place of a ref and every kind of area, behind changes at all edges, as the second way tells.
func TestNodeByTheModel(t *testing.T) {
	r := rand.New(rand.NewSource(1))
	others := 0
	for range 60000 {
		n, home, c := anyTree(r, 1+r.Intn(5)), anyHome(r), anyChange(r)
		m := modelOf(home, c)
		want := m.node(n)
		turns(t, n, home, c, want)
		same(t, rewrite.Names(n, home, c), m.names(n), "Names", shown(n), home, c)
		if !equal(n, want) {
			others++
		}
	}
	if others < 10000 {
		t.Fatalf("only %d became other ones", others)
	}
}

// TestNodeOfAllAreas: all ways to stand and to be fixed near the lines that come or go.
func TestNodeOfAllAreas(t *testing.T) {
	for _, c := range []rewrite.Change{rows(3, 2), rows(3, -2), cols(3, 2), cols(3, -2), rows(1, 1), cols(1, -1)} {
		m := modelOf(inS, c)
		for code := range 6 * 6 * 3 * 3 {
			a, b := at(1+code%6, 1+code/36%3), at(1+code/6%6, 1+code/108%3)
			if c.Cols {
				a.Row, a.Col, b.Row, b.Col = a.Col, a.Row, b.Col, b.Row
			}
			for fix := range 16 {
				a.FixRow, a.FixCol, b.FixRow, b.FixCol = fix&1 > 0, fix&2 > 0, fix&4 > 0, fix&8 > 0
				turns(t, area(a, b), inS, c, m.node(area(a, b)))
			}
		}
	}
}
