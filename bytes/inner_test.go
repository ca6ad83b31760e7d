package bytes

import (
	"testing"

	"octavo/api"
)

// Bytes that are none are caught; a fault of the program's own is not taken for them.
func TestOtherPanicsAreNotCaught(t *testing.T) {
	x, e := readWhole(nil, func(*reader) int { panic(none{}) })
	if x != 0 || e != api.ErrCorrupt {
		t.Fatalf("none: %d %v, want 0 and %v", x, e, api.ErrCorrupt)
	}
	defer func() {
		if p := recover(); p != "other" {
			t.Fatalf("another panic: %v, want it to come through", p)
		}
	}()
	readWhole(nil, func(*reader) int { panic("other") })
}
