package eval

// pageSize is how many numbers are laid at once.
const pageSize = 512

// array is so many numbers. Pages are laid where one is stored first, because a program may have arrays that no memory holds.
type array struct {
	size  int
	pages [][]int
}

// load is the number at a place; false: there is no such place.
func (a *array) load(at int) (int, bool) {
	if at < 0 || at >= a.size {
		return 0, false
	}
	if a.pages == nil || a.pages[at/pageSize] == nil {
		return 0, true
	}
	return a.pages[at/pageSize][at%pageSize], true
}

// store puts a number at a place; false: there is no such place.
func (a *array) store(at, n int) bool {
	if at < 0 || at >= a.size {
		return false
	}
	if a.pages == nil {
		a.pages = make([][]int, (a.size+pageSize-1)/pageSize)
	}
	if a.pages[at/pageSize] == nil {
		a.pages[at/pageSize] = make([]int, pageSize)
	}
	a.pages[at/pageSize][at%pageSize] = n
	return true
}
