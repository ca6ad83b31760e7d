package deps_test

import (
	"math"
	"math/rand"
	"slices"
	"testing"

	"octavo/deps"
)

// P16.3

func TestOrder(t *testing.T) {
	orders(t, 3, edges("0>1 1>2"), []int{2, 1, 0})
	orders(t, 3, edges("2>1 1>0"), []int{0, 1, 2})
	orders(t, 3, nil, []int{0, 1, 2})
	orders(t, 1, nil, []int{0})
	orders(t, 4, edges("0>3"), []int{1, 2, 3, 0})
	orders(t, 4, edges("1>3 2>0"), []int{0, 2, 3, 1})
	orders(t, 5, edges("0>4 1>4 2>1"), []int{3, 4, 0, 1, 2})
	orders(t, 4, edges("0>1 0>2 1>3 2>3"), []int{3, 1, 2, 0})
}

func TestOrderOfOddCounts(t *testing.T) {
	for _, n := range []int{math.MinInt, -4097, -1, 0} {
		orders(t, n, nil, nil)
		orders(t, n, edges("0>0 0>1 -1>-1"), nil)
	}
	for _, n := range []int{4095, 4096, 4097, 4098, 1 << 32, math.MaxInt} {
		want := make([]int, min(n, 4096))
		for i := range want {
			want[i] = i
		}
		orders(t, n, nil, want)
		l, ring := deps.Order(n, edges("4096>4096 4095>4096 4096>0 0>4097 4097>1"))
		alike(t, l, want, "Order of", n)
		same(t, slices.Contains(ring, true), false, "the rings of Order of", n)
		l, _ = deps.Order(n, edges("0>4095"))
		same(t, l[len(l)-1], map[bool]int{true: 0, false: 4094}[n > 4095], "the last one of Order of", n)
	}
}

func TestOrderPassesOtherEdgesOver(t *testing.T) {
	for _, x := range []int{math.MinInt, -4, -3, -2, -1, 3, 4, 5, 4096, 1 << 32, 1<<32 + 1, math.MaxInt} {
		for a := range 3 {
			orders(t, 3, [][2]int{{a, x}}, []int{0, 1, 2})
			orders(t, 3, [][2]int{{x, a}}, []int{0, 1, 2})
			orders(t, 3, [][2]int{{x, a}, {a, x}, {x, x}}, []int{0, 1, 2})
			orders(t, 3, [][2]int{{x, a}, {0, 2}, {a, x}}, []int{1, 2, 0})
		}
	}
}

func TestOrderOfTheSameEdgeTwice(t *testing.T) {
	orders(t, 3, edges("0>1 0>1 1>2 0>1 1>2"), []int{2, 1, 0})
	orders(t, 3, edges("0>1 1>0 0>1 1>0"), []int{0, 1, 2}, 0, 1)
	orders(t, 3, edges("0>2 0>2 2>1 2>1 1>2"), []int{1, 2, 0}, 1, 2)
}

func TestOrderOfRings(t *testing.T) {
	orders(t, 3, edges("0>1 1>2 2>0"), []int{0, 1, 2}, 0, 1, 2)
	orders(t, 3, edges("0>2 2>1 1>0"), []int{0, 1, 2}, 0, 1, 2)
	orders(t, 1, edges("0>0"), []int{0}, 0)
	orders(t, 3, edges("1>1"), []int{0, 1, 2}, 1)
	orders(t, 3, edges("0>1 1>1 1>2"), []int{2, 1, 0}, 1)
	orders(t, 4, edges("0>3 3>0"), []int{0, 3, 1, 2}, 0, 3)
	orders(t, 5, edges("4>2 2>4 3>1 1>3"), []int{0, 1, 3, 2, 4}, 1, 2, 3, 4)
}

// TestOrderOfRingsInRings: they make one group, in whichever way they hold together.
func TestOrderOfRingsInRings(t *testing.T) {
	orders(t, 5, edges("0>1 1>0 1>2 2>1 2>3 3>2 3>4"), []int{4, 0, 1, 2, 3}, 0, 1, 2, 3)
	orders(t, 6, edges("5>3 3>1 1>5 1>4 4>1 0>2"), []int{1, 3, 4, 5, 2, 0}, 1, 3, 4, 5)
	orders(t, 6, edges("0>1 1>2 2>3 3>4 4>5 5>0 2>0 5>3"), []int{0, 1, 2, 3, 4, 5}, 0, 1, 2, 3, 4, 5)
	orders(t, 4, edges("0>0 0>1 1>1 1>0 3>3"), []int{0, 1, 2, 3}, 0, 1, 3)
}

// TestOrderOfWaysBetweenRings: a number between two rings lies on none.
func TestOrderOfWaysBetweenRings(t *testing.T) {
	orders(t, 5, edges("0>1 1>0 1>2 2>3 3>4 4>3"), []int{3, 4, 2, 0, 1}, 0, 1, 3, 4)
	orders(t, 4, edges("0>1 1>0 2>3 3>2 1>2"), []int{2, 3, 0, 1}, 0, 1, 2, 3)
	orders(t, 4, edges("0>1 1>0 2>3 3>2 2>1"), []int{0, 1, 2, 3}, 0, 1, 2, 3)
	orders(t, 4, edges("0>3 3>0 1>2 2>1 0>2 3>1"), []int{1, 2, 0, 3}, 0, 1, 2, 3)
}

// TestOrderOfGroupsThatWait: for what one of their members alone reads outside.
func TestOrderOfGroupsThatWait(t *testing.T) {
	orders(t, 5, edges("0>1 1>0 1>4"), []int{2, 3, 4, 0, 1}, 0, 1)
	orders(t, 5, edges("0>1 1>0 0>4"), []int{2, 3, 4, 0, 1}, 0, 1)
	orders(t, 5, edges("0>3 3>0 3>2 2>1"), []int{1, 2, 0, 3, 4}, 0, 3)
	orders(t, 6, edges("0>1 1>0 0>2 1>3 2>5"), []int{3, 4, 5, 2, 0, 1}, 0, 1)
}

// TestOrderByTheLeastOfAGroup: it stands for the group, whether that is less or greater than what else may come.
func TestOrderByTheLeastOfAGroup(t *testing.T) {
	orders(t, 5, edges("1>4 4>1"), []int{0, 1, 4, 2, 3}, 1, 4)
	orders(t, 5, edges("3>4 4>3"), []int{0, 1, 2, 3, 4}, 3, 4)
	orders(t, 5, edges("2>4 4>2 0>3"), []int{1, 2, 4, 3, 0}, 2, 4)
	orders(t, 5, edges("0>2 2>4 4>2"), []int{1, 2, 4, 0, 3}, 2, 4)
	orders(t, 6, edges("0>4 4>0 4>3 3>5 5>3"), []int{1, 2, 3, 5, 0, 4}, 0, 3, 4, 5)
}

// TestOrderOfAllSmallGraphs: by the words.
func TestOrderOfAllSmallGraphs(t *testing.T) {
	for n := range 5 {
		for set := range 1 << (n * n) {
			var l [][2]int
			for i := range n * n {
				if set>>i&1 == 1 {
					l = append(l, [2]int{i / n, i % n})
				}
			}
			order, ring := modelOf(n, l).order()
			ordered(t, n, l, order, ring)
		}
	}
}

func TestOrderByTheModel(t *testing.T) {
	r := rand.New(rand.NewSource(3))
	some, all := 0, 0
	for range 40000 {
		n := 5 + r.Intn(8)
		l := anyEdges(r, n, r.Intn(2*n))
		order, ring := modelOf(n, l).order()
		ordered(t, n, l, order, ring)
		switch {
		case !slices.Contains(ring, false):
			all++
		case slices.Contains(ring, true):
			some++
		}
	}
	if some < 5000 || all < 10 {
		t.Fatalf("only %d had a ring, and %d were rings alone", some, all)
	}
}

// TestOrderOfMiddlingGraphs: of some tens of numbers, in rings that are joined.
func TestOrderOfMiddlingGraphs(t *testing.T) {
	r := rand.New(rand.NewSource(4))
	for range 300 {
		n := 40 + r.Intn(30)
		l := anyEdges(r, n, n/2+r.Intn(n))
		order, ring := modelOf(n, l).order()
		ordered(t, n, l, order, ring)
	}
}

// TestOrderHangsNotOnTheEdgesOrder: nor on how often one is there.
func TestOrderHangsNotOnTheEdgesOrder(t *testing.T) {
	r := rand.New(rand.NewSource(5))
	for range 5000 {
		n := 2 + r.Intn(20)
		l := anyEdges(r, n, r.Intn(2*n))
		order, ring := deps.Order(n, l)
		for range 3 {
			r.Shuffle(len(l), func(i, j int) { l[i], l[j] = l[j], l[i] })
			ordered(t, n, l, order, ring)
			ordered(t, n, append(l, l[:len(l)/2]...), order, ring)
		}
	}
}

// Long ones, of as many numbers as may be.

// upTo: 0 to n - 1.
func upTo(n int) []int {
	l := make([]int, n)
	for i := range l {
		l[i] = i
	}
	return l
}

func TestOrderOfLongChains(t *testing.T) {
	const n = 4096
	var up, down [][2]int
	for i := range n - 1 {
		up, down = append(up, [2]int{i + 1, i}), append(down, [2]int{i, i + 1})
	}
	back := upTo(n)
	slices.Reverse(back)
	orders(t, n, up, upTo(n))
	orders(t, n, down, back)
	// One edge more, and all of it is a ring.
	orders(t, n, append(up, [2]int{0, n - 1}), upTo(n), upTo(n)...)
	orders(t, n, append(down, [2]int{n - 1, 0}), upTo(n), upTo(n)...)
	// A ring of the upper half, and one of the lower half, which reads it.
	halves := append(slices.Clone(down), [2]int{n/2 - 1, 0}, [2]int{n - 1, n / 2})
	orders(t, n, halves, append(upTo(n)[n/2:], upTo(n/2)...), upTo(n)...)
}

// TestOrderOfManyRings: pairs, each of which reads the next one.
func TestOrderOfManyRings(t *testing.T) {
	const n = 4096
	var l [][2]int
	var want []int
	for i := 0; i < n; i += 2 {
		l = append(l, [2]int{i, i + 1}, [2]int{i + 1, i}, [2]int{i + 1, i + 2})
		want = append(want, n-2-i, n-1-i)
	}
	orders(t, n, l, want, upTo(n)...)
}

// TestOrderOfAStar: all but the last one read it, and it stands ahead of them all; or it reads all others.
func TestOrderOfAStar(t *testing.T) {
	const n = 4096
	var in, out [][2]int
	for range 50 {
		for i := range n - 1 {
			in, out = append(in, [2]int{i, n - 1}), append(out, [2]int{n - 1, i})
		}
	}
	orders(t, n, in, append([]int{n - 1}, upTo(n-1)...))
	orders(t, n, out, upTo(n))
	orders(t, n, append(in, out...), upTo(n), upTo(n)...)
}
