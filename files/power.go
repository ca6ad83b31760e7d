package files

import "octavo/api"

// Cut: the n-th operation from here on fails, in the place of any cut that was planned; n 0: none does.
func (w *World) Cut(n, keep int) api.Errno {
	if e := w.refusal(); e != api.OK {
		return e
	}
	if n < 0 || keep < 0 {
		return api.ErrArg
	}
	w.left, w.keep = n, keep
	return api.OK
}

// Power: it is on.
func (w *World) Power() {
	if w.made() {
		w.off = false
	}
}

// On: is the power on?
func (w *World) On() bool {
	return w.made() && !w.off
}

// operate counts an operation in which nothing is wrong, and does it. At the planned cut the power fails instead, and
// do is called only if evenCut: bytes on their way to a file may get there, all else is there wholly or not at all.
func (w *World) operate(evenCut bool, do func()) api.Errno {
	w.ops++
	cut := w.left == 1
	if w.left > 0 {
		w.left--
	}
	if evenCut || !cut {
		do()
	}
	if cut {
		w.fail()
		return api.ErrPower
	}
	return api.OK
}

// fail: the power goes, and with it what no file has synced but for the planned beginning.
func (w *World) fail() {
	for _, f := range w.files {
		f.synced += min(w.keep, len(f.data)-f.synced)
		f.data = f.data[:f.synced]
	}
	w.off, w.keep = true, 0
}
