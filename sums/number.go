package sums

import "daybook/api"

const (
	seed    = 5381
	modulus = 4294967291
	turner  = 3988292384
)

// fourSteps is what a check's lowest four bits turn in it while they fall out. Four bits at a time keep the table short.
var fourSteps [16]uint32

func init() {
	for low := range fourSteps {
		c := uint32(low)
		for range 4 {
			fell := c & 1
			c >>= 1
			if fell == 1 {
				c ^= turner
			}
		}
		fourSteps[low] = c
	}
}

// add goes on with a sum, so that a text can be summed in pieces without being laid together.
func add(h uint64, text []byte) uint64 {
	for _, c := range text {
		h = (33*h + uint64(c) + 1) % modulus
	}
	return h
}

func hash(h uint64) api.Hash {
	return api.Hash{byte(h >> 24), byte(h >> 16), byte(h >> 8), byte(h)}
}
