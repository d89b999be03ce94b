// Package sample makes expressions, programs, units and code to try the layers on. What it makes hangs on a seed alone, so that a test that fails fails again.
package sample

// Dice tells one number after another one, the same ones for the same seed.
type Dice struct{ state uint64 }

// New is dice of a seed.
func New(seed int) *Dice {
	d := &Dice{state: uint64(seed)*0x9e3779b97f4a7c15 + 0x1234567}
	d.next()
	return d
}

func (d *Dice) next() uint64 {
	d.state += 0x9e3779b97f4a7c15
	z := d.state
	z = (z ^ z>>30) * 0xbf58476d1ce4e5b9
	z = (z ^ z>>27) * 0x94d049bb133111eb
	return z ^ z>>31
}

// Roll is a number from 0 to below n.
func (d *Dice) Roll(n int) int { return int(d.next() % uint64(n)) }

// Once tells true one time in n.
func (d *Dice) Once(n int) bool { return d.Roll(n) == 0 }

// Number is a number of any length, mostly a small one, and often one at which something turns.
func (d *Dice) Number() int {
	switch d.Roll(8) {
	case 0:
		return int(d.next()) >> d.Roll(64)
	case 1:
		return 1<<63 - 1 - d.Roll(2)
	case 2:
		return -1<<63 + d.Roll(2)
	case 3:
		return 1<<d.Roll(63) - d.Roll(2)
	}
	return d.Roll(12) - 3
}

// Numbers are up to n numbers.
func (d *Dice) Numbers(n int) []int {
	var out []int
	for range d.Roll(n + 1) {
		out = append(out, d.Number())
	}
	return out
}

// Pick is one of what there is.
func Pick[T any](d *Dice, list []T) T { return list[d.Roll(len(list))] }
