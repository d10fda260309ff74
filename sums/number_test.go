package sums_test

import (
	"hash/crc32"
	"math/big"
	"strings"
	"testing"

	"daybook/api"
	"daybook/sums"
)

// bySumWords is P3's Sum by its own words, in numbers of any size.
func bySumWords(text []byte) api.Hash {
	h := big.NewInt(5381)
	for _, c := range text {
		h.Mul(h, big.NewInt(33))
		h.Add(h, big.NewInt(int64(c)))
		h.Add(h, big.NewInt(1))
		h.Mod(h, big.NewInt(4294967291))
	}
	var out api.Hash
	h.FillBytes(out[:])
	return out
}

// byCheckWords is P3's Check by its own words, bit by bit.
func byCheckWords(text []byte) uint32 {
	c := uint32(4294967295)
	for _, b := range text {
		c ^= uint32(b)
		for range 8 {
			fell := c % 2
			c /= 2
			if fell == 1 {
				c ^= 3988292384
			}
		}
	}
	return 4294967295 - c
}

func allBytes() []byte {
	var l []byte
	for i := range 256 {
		l = append(l, byte(i))
	}
	return l
}

func TestSumOfKnownTexts(t *testing.T) {
	for _, x := range []struct {
		text string
		want api.Hash
	}{
		{"", api.Hash{0, 0, 21, 5}},
		{"\x00", api.Hash{0, 2, 181, 166}},
		{"daybook", api.Hash{79, 239, 24, 239}},
		{string(allBytes()), api.Hash{104, 217, 143, 174}},
		{strings.Repeat("\xff", 1000), api.Hash{216, 100, 198, 78}},
		{"\x69\x0b\x07\x1d\x00\x1d", api.Hash{255, 255, 255, 250}}, // the greatest that there is
		{"\x69\x0b\x07\x1d\x00\x1e", api.Hash{0, 0, 0, 0}},         // the modulus itself
		{"\x69\x0b\x07\x1d\x00\x1f", api.Hash{0, 0, 0, 1}},
	} {
		if h := sums.Sum([]byte(x.text)); h != x.want {
			t.Errorf("P3: Sum(%q) = %v, want %v", x.text, h, x.want)
		}
	}
}

func TestCheckOfKnownTexts(t *testing.T) {
	for _, x := range []struct {
		text string
		want uint32
	}{
		{"", 0},
		{"\x00", 3523407757},
		{"\xff", 4278190080},
		{"123456789", 3421780262},
		{"daybook", 1063163364},
		{string(allBytes()), 688229491},
		{strings.Repeat("a", 1000), 2587417091},
	} {
		if c := sums.Check([]byte(x.text)); c != x.want {
			t.Errorf("P3: Check(%q) = %d, want %d", x.text, c, x.want)
		}
	}
}

func sameAsWords(t *testing.T, text []byte) {
	t.Helper()
	if h, want := sums.Sum(text), bySumWords(text); h != want {
		t.Errorf("P3: Sum(%v) = %v, want %v", text, h, want)
	}
	c, want := sums.Check(text), byCheckWords(text)
	if c != want || c != crc32.ChecksumIEEE(text) {
		t.Errorf("P3: Check(%v) = %d, want %d", text, c, want)
	}
}

func TestSumAndCheckOfEachByte(t *testing.T) {
	for _, b := range allBytes() {
		sameAsWords(t, []byte{b})
		sameAsWords(t, []byte{255, b, 0})
	}
}

func TestSumAndCheckOfEachLength(t *testing.T) {
	text := append(allBytes(), allBytes()...)
	for n := range len(text) + 1 {
		sameAsWords(t, text[:n])
	}
}

func FuzzSumAndCheck(f *testing.F) {
	f.Add([]byte("123456789"))
	f.Fuzz(func(t *testing.T, text []byte) { sameAsWords(t, text) })
}
