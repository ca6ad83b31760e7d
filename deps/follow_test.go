package deps_test

import (
	"math/rand"
	"slices"
	"testing"

	"octavo/deps"
)

// P16.4

// onceEach: each number is told once, and each has a truth of its own.
func onceEach(t *testing.T, n int, l [][2]int) {
	t.Helper()
	order, ring := deps.Order(n, l)
	n = min(max(n, 0), 4096)
	same(t, len(ring), n, "how many truths Order has", n)
	rising := slices.Sorted(slices.Values(order))
	alike(t, rising, upTo(n), "Order, sorted", n)
}

func TestEachNumberIsToldOnce(t *testing.T) {
	r := rand.New(rand.NewSource(6))
	for range 5000 {
		n := 1 + r.Intn(200)
		onceEach(t, n, anyEdges(r, n, r.Intn(3*n)))
	}
	for _, n := range []int{-1 << 63, -1, 0, 1, 4096, 5000, 1<<63 - 1} {
		onceEach(t, n, anyEdges(r, 5000, 5000))
	}
}

// TestWhatIsReadStandsAhead: without rings; with them, but between those of one group, whose numbers stand together.
func TestWhatIsReadStandsAhead(t *testing.T) {
	r := rand.New(rand.NewSource(7))
	for _, count := range []int{1, 2, 3, 10, 100, 1000, 4096} {
		for range 20 {
			names := r.Perm(count)
			var l [][2]int
			for range r.Intn(3 * count) {
				a, b := r.Intn(count), r.Intn(count)
				if a != b {
					l = append(l, [2]int{names[max(a, b)], names[min(a, b)]}) // no way leads back
				}
			}
			order, ring := deps.Order(count, l)
			same(t, slices.Contains(ring, true), false, "is there a ring", l)
			place := make([]int, count)
			for i, a := range order {
				place[a] = i
			}
			for _, e := range l {
				same(t, place[e[1]] < place[e[0]], true, "does what is read stand ahead", e)
			}
		}
	}
}

// TestRingsComeOfEdgesThatLeadBack: each edge of a chain turned back makes a ring of just those between.
func TestRingsComeOfEdgesThatLeadBack(t *testing.T) {
	const n = 60
	var chain [][2]int
	for i := range n - 1 {
		chain = append(chain, [2]int{i, i + 1})
	}
	for a := range n {
		for b := range a + 1 {
			_, ring := deps.Order(n, append(slices.Clone(chain), [2]int{a, b}))
			for i := range n {
				same(t, ring[i], i >= b && i <= a, "does it lie on a ring", i, a, b)
			}
		}
	}
}
