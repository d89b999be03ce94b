package pages_test

import (
	"testing"

	"counterproof/pages"
)

func TestArray(t *testing.T) {
	for _, length := range []int{1, 511, 512, 513, 1 << 20} {
		a := pages.New(length)
		for _, at := range []int{-1, -1 << 63, length, length + 1, 1<<63 - 1} {
			if _, ok := a.Load(at); ok || a.Store(at, 5) {
				t.Error("no such place:", length, at)
			}
		}
		for at := range min(length, 2000) {
			if n, ok := a.Load(at); n != 0 || !ok || !a.Store(at, at+1) {
				t.Error("0 at first:", length, at, n)
			}
		}
		for at := range min(length, 2000) {
			if n, ok := a.Load(at); n != at+1 || !ok {
				t.Error("what was stored:", length, at, n)
			}
		}
		a.Store(length-1, 7)
		if n, ok := a.Load(length - 1); n != 7 || !ok {
			t.Error("the last one:", length, n)
		}
	}
}
