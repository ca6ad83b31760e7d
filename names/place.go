package names

// place: where the first one stands that compares as x, and true; else where x would stand in a list that rises, and false. It does not halve the list, since lists that do not rise are asked too.
func place[T any](l []T, x T, compare func(a, b T) int) (int, bool) {
	at := len(l)
	for i, y := range l {
		switch c := compare(y, x); {
		case c == 0:
			return i, true
		case c > 0:
			at = min(at, i)
		}
	}
	return at, false
}
