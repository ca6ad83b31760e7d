package deps

import "slices"

// most: how many numbers Order takes.
const most = 4096

// Order: what is reckoned when, and what lies on a ring.
func Order(n int, edges [][2]int) ([]int, []bool) {
	reads := readings(min(max(n, 0), most), edges)
	group := groups(reads)
	return queue(reads, group), onRing(reads, group)
}

// readings: what each of n numbers reads.
func readings(n int, edges [][2]int) [][]int {
	inside := func(a int) bool { return 0 <= a && a < n }
	reads := make([][]int, n)
	for _, e := range edges {
		if a, b := e[0], e[1]; inside(a) && inside(b) {
			reads[a] = append(reads[a], b)
		}
	}
	return reads
}

// groups: of each number the least one of its ring group; itself, if it is alone.
//
// The search goes from a number to those that it reads, and comes back as soon as it meets one that it has seen. A number from which it never comes to one that was seen ahead of it, and is of no group yet, ends a group: all numbers seen since, and of none yet, are of it.
func groups(reads [][]int) []int {
	group := make([]int, len(reads))
	seen := map[int]int{} // when a number was seen; when all had been, if it is of a group
	var open []int        // seen, and of no group yet
	var search func(a int) int
	search = func(a int) int {
		when, ahead := len(seen), len(open)
		seen[a] = when
		open = append(open, a)
		earliest := when
		for _, b := range reads[a] {
			then, met := seen[b]
			if !met {
				then = search(b)
			}
			earliest = min(earliest, then)
		}
		if earliest == when {
			least := slices.Min(open[ahead:])
			for _, b := range open[ahead:] {
				group[b], seen[b] = least, len(reads)
			}
			open = open[:ahead]
		}
		return earliest
	}
	for a := range reads {
		if _, met := seen[a]; !met {
			search(a)
		}
	}
	return group
}

// onRing: does each number lie on a ring? It does, if it reads one of its group, which may be itself: from there a way leads back.
func onRing(reads [][]int, group []int) []bool {
	on := make([]bool, len(reads))
	for a, l := range reads {
		on[a] = slices.ContainsFunc(l, func(b int) bool { return group[b] == group[a] })
	}
	return on
}

// queue: the numbers, each group behind those that it reads; of those that may come next the one of the least number.
func queue(reads [][]int, group []int) []int {
	members := make([][]int, len(reads)) // of a group, which stands at its least number
	readers := make([][]int, len(reads)) // the groups that read a group, once for each edge
	waits := make([]int, len(reads))     // for how many edges a group waits
	for a, l := range reads {
		g := group[a]
		members[g] = append(members[g], a)
		for _, b := range l {
			if h := group[b]; h != g {
				readers[h] = append(readers[h], g)
				waits[g]++
			}
		}
	}
	var ready, order []int // ready rises
	for a, g := range group {
		if a == g && waits[g] == 0 {
			ready = append(ready, g)
		}
	}
	for len(ready) > 0 {
		next := ready[0]
		ready = ready[1:]
		order = append(order, members[next]...)
		for _, g := range readers[next] {
			if waits[g]--; waits[g] == 0 {
				at, _ := slices.BinarySearch(ready, g)
				ready = slices.Insert(ready, at, g)
			}
		}
	}
	return order
}
