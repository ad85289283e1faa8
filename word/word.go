// Package word is layer 1: words of 32 bits.
package word

// size is how many bytes a word has.
const size = 4

// Of answers the number's lowest 32 bits.
func Of(n int) uint32 { return uint32(n) }

// Int answers the word as a number from -2^31 to 2^31 - 1.
func Int(w uint32) int { return int(int32(w)) }

// Put answers b with the four bytes of w behind it, the lowest first.
func Put(b []byte, w uint32) []byte {
	// An append to b itself could write into the caller's spare room.
	out := make([]byte, 0, len(b)+size)
	out = append(out, b...)
	return append(out, byte(w), byte(w>>8), byte(w>>16), byte(w>>24))
}

// Get answers the word of the four bytes of b from at on; false: they are not all there.
func Get(b []byte, at int) (uint32, bool) {
	// Taken from the length, not added to at, so that no place wraps round.
	if at < 0 || at > len(b)-size {
		return 0, false
	}
	four := b[at : at+size]
	return uint32(four[0]) | uint32(four[1])<<8 | uint32(four[2])<<16 | uint32(four[3])<<24, true
}
