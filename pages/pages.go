// Package pages keeps the numbers of a program's arrays, for the layers that run one.
package pages

// size is how many numbers are laid at once.
const size = 512

// Array is so many numbers, all 0 at first. Pages are laid where a number is stored first, because a program may have arrays that no memory holds.
type Array struct {
	length int
	laid   [][]int
}

// New is an array of so many numbers.
func New(length int) *Array { return &Array{length: length} }

// Load is the number at a place; false: there is no such place.
func (a *Array) Load(at int) (int, bool) {
	if at < 0 || at >= a.length {
		return 0, false
	}
	if a.laid == nil || a.laid[at/size] == nil {
		return 0, true
	}
	return a.laid[at/size][at%size], true
}

// Store puts a number at a place; false: there is no such place.
func (a *Array) Store(at, n int) bool {
	if at < 0 || at >= a.length {
		return false
	}
	if a.laid == nil {
		a.laid = make([][]int, (a.length+size-1)/size)
	}
	if a.laid[at/size] == nil {
		a.laid[at/size] = make([]int, size)
	}
	a.laid[at/size][at%size] = n
	return true
}
