// Package bits is layer 1: see shared/doc/01-bits.md.
package bits

import (
	"strings"

	"bastion/api"
)

const (
	byteBits    = 8
	numberBits  = 64
	numberBytes = numberBits / byteBits
	mostBytes   = 64 // more than these Number doesn't put
	digits      = "0123456789abcdef"
)

// Number puts the n bytes of v of the least weight behind out, in new memory.
func Number(out []byte, v uint64, n int) []byte {
	all := append([]byte(nil), out...)
	for range min(n, mostBytes) {
		all = append(all, byte(v))
		v >>= byteBits
	}
	return all
}

// Read gives the number that the first 8 bytes are.
func Read(b []byte) uint64 {
	var v uint64
	for i := range min(len(b), numberBytes) {
		v |= uint64(b[i]) << (byteBits * i)
	}
	return v
}

// Put makes the n bits of b at a place those of v.
func Put(b []byte, at, n int, v uint64) api.Errno {
	if !within(b, at, n) {
		return api.ErrRange
	}
	if v>>n != 0 {
		return api.ErrArg
	}
	for i := range n {
		putBit(b, at+i, byte(v>>i&1))
	}
	return api.OK
}

// Get gives the number that the n bits of b at a place are.
func Get(b []byte, at, n int) (uint64, api.Errno) {
	if !within(b, at, n) {
		return 0, api.ErrRange
	}
	var v uint64
	for i := range n {
		v |= uint64(bit(b, at+i)) << i
	}
	return v, api.OK
}

// Xor gives the bits in which two rows of bytes are unlike.
func Xor(a, b []byte) []byte {
	out := make([]byte, min(len(a), len(b)))
	for i := range out {
		out[i] = a[i] ^ b[i]
	}
	return out
}

// Hex gives bytes as a text.
func Hex(b []byte) string {
	out := make([]byte, 0, 2*len(b))
	for _, x := range b {
		out = append(out, digits[x>>4], digits[x&15])
	}
	return string(out)
}

// Unhex gives the bytes of a text that Hex gives.
func Unhex(s string) ([]byte, api.Errno) {
	if len(s)%2 != 0 {
		return nil, api.ErrForm
	}
	out := make([]byte, len(s)/2)
	for i := range out {
		high := strings.IndexByte(digits, s[2*i])
		low := strings.IndexByte(digits, s[2*i+1])
		if high < 0 || low < 0 {
			return nil, api.ErrForm
		}
		out[i] = byte(high<<4 | low)
	}
	return out, api.OK
}

// within tells whether n bits at a place are a number's, and b has them.
func within(b []byte, at, n int) bool {
	if at < 0 || n < 0 || n > numberBits {
		return false
	}
	return at <= byteBits*len(b)-n // at + n might go round
}

func bit(b []byte, k int) byte {
	return b[k/byteBits] >> (k % byteBits) & 1
}

func putBit(b []byte, k int, v byte) {
	b[k/byteBits] &^= 1 << (k % byteBits)
	b[k/byteBits] |= v << (k % byteBits)
}
