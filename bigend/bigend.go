// Package bigend writes and reads numbers with the most significant byte
// first, which is how every layer stores them.
package bigend

// Append writes the lowest size bytes of n behind b.
func Append(b []byte, n uint64, size int) []byte {
	for i := size - 1; i >= 0; i-- {
		b = append(b, byte(n>>(8*i)))
	}
	return b
}

// Number reads all of b, of which the last 8 bytes count.
func Number(b []byte) uint64 {
	var n uint64
	for _, c := range b {
		n = n<<8 | uint64(c)
	}
	return n
}
