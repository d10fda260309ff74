// Package numbers: numbers as bytes, the highest byte first, and texts made of them.
package numbers

// Append lays a number behind a text, in so many bytes.
func Append(text []byte, n uint64, size int) []byte {
	for shift := 8 * (size - 1); shift >= 0; shift -= 8 {
		text = append(text, byte(n>>shift))
	}
	return text
}

// Read is the number that a text of at most eight bytes is.
func Read(text string) uint64 {
	n := uint64(0)
	for i := range len(text) {
		n = n<<8 | uint64(text[i])
	}
	return n
}
