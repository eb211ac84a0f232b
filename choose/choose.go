// Package choose chooses among things by numbers of any size and sign.
package choose

// Place is the place, of count ones, that a pick says: its size without its sign, modulo count. Of none it is 0.
func Place(count int, pick int) int {
	if count < 1 {
		return 0
	}
	size := uint64(pick)
	if pick < 0 {
		// The least int has no partner above 0, but its size is a uint64.
		size = -size
	}
	return int(size % uint64(count))
}
