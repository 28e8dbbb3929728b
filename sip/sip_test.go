package sip_test

import (
	"bytes"
	"encoding/binary"
	"math"
	"math/bits"
	"testing"

	"bastion/api"
	"bastion/sip"
)

// rising gives the bytes 0, 1, 2 and on.
func rising(n int) []byte {
	out := make([]byte, n)
	for i := range out {
		out[i] = byte(i)
	}
	return out
}

// mixed gives n bytes that hang on a seed alone.
func mixed(n int, seed uint64) []byte {
	out := make([]byte, n)
	state := seed*0x9e3779b97f4a7c15 | 1
	for i := range out {
		state ^= state << 13
		state ^= state >> 7
		state ^= state << 17
		out[i] = byte(state >> 32)
	}
	return out
}

// someKeys gives keys of all kinds: of equal bytes, of one bit, rising, and mixed ones.
func someKeys() []api.Block {
	out := []api.Block{{}, api.Block(bytes.Repeat([]byte{255}, 16)), api.Block(rising(16))}
	for k := range 8 * api.BlockBytes {
		var key api.Block
		key[k/8] = 1 << (k % 8)
		out = append(out, key)
	}
	for seed := range 20 {
		out = append(out, api.Block(mixed(api.BlockBytes, uint64(seed))))
	}
	return out
}

// round makes a round line by line as the document tells it.
func round(v0, v1, v2, v3 uint64) (uint64, uint64, uint64, uint64) {
	v0 = v0 + v1
	v1 = bits.RotateLeft64(v1, 13)
	v1 = v1 ^ v0
	v0 = bits.RotateLeft64(v0, 32)
	v2 = v2 + v3
	v3 = bits.RotateLeft64(v3, 16)
	v3 = v3 ^ v2
	v0 = v0 + v3
	v3 = bits.RotateLeft64(v3, 21)
	v3 = v3 ^ v0
	v2 = v2 + v1
	v1 = bits.RotateLeft64(v1, 17)
	v1 = v1 ^ v2
	v2 = bits.RotateLeft64(v2, 32)
	return v0, v1, v2, v3
}

// sum gives the number of b, which is made full first: all its numbers are then gone through at once.
func sum(key api.Block, b []byte) uint64 {
	full := append(bytes.Clone(b), make([]byte, 7-len(b)%8)...)
	full = append(full, byte(len(b)))
	k0, k1 := binary.LittleEndian.Uint64(key[:]), binary.LittleEndian.Uint64(key[8:])
	v0, v1 := k0^0x736f6d6570736575, k1^0x646f72616e646f6d
	v2, v3 := k0^0x6c7967656e657261, k1^0x7465646279746573
	for ; len(full) > 0; full = full[8:] {
		m := binary.LittleEndian.Uint64(full)
		v3 ^= m
		v0, v1, v2, v3 = round(v0, v1, v2, v3)
		v0, v1, v2, v3 = round(v0, v1, v2, v3)
		v0 ^= m
	}
	v2 ^= 255
	for range 4 {
		v0, v1, v2, v3 = round(v0, v1, v2, v3)
	}
	return v0 ^ v1 ^ v2 ^ v3
}

// P3.1: the rounds that appendix A of SipHash's paper tells.
func TestRoundOfThePaper(t *testing.T) {
	v := [4]uint64{0x7469686173716475, 0x6b617f6d656e6665, 0x6b7f62616d677361, 0x7b6b696e727e6c7b}
	v[3] ^= 0x0706050403020100
	v = sip.Round(sip.Round(v))
	v[0] ^= 0x0706050403020100
	if want := [4]uint64{0x4a017198de0a59e0, 0x0d52f6f62a4f59a4, 0x634cb3577b01fd3d, 0xa5224d6f55c7d9c8}; v != want {
		t.Errorf("%x, want %x", v, want)
	}
}

// P3.1: a round of any numbers; sums go round.
func TestRound(t *testing.T) {
	all := [][4]uint64{{}, {math.MaxUint64, 1, 1, math.MaxUint64}, {math.MaxUint64, math.MaxUint64, math.MaxUint64, math.MaxUint64}}
	for k := range 256 {
		var v [4]uint64
		v[k/64] = 1 << (k % 64)
		all = append(all, v)
	}
	for seed := range 500 {
		var v [4]uint64
		b := mixed(32, uint64(seed))
		for i := range v {
			v[i] = binary.LittleEndian.Uint64(b[8*i:])
		}
		all = append(all, v)
	}
	for _, v := range all {
		given := v
		var want [4]uint64
		want[0], want[1], want[2], want[3] = round(v[0], v[1], v[2], v[3])
		if got := sip.Round(v); got != want || v != given {
			t.Fatalf("Round(%x): %x, want %x", given, got, want)
		}
	}
}

// P3.1: the numbers of SipHash's own test vectors: the key 00 to 0f, and the bytes from 00 on, none to 63 of them.
func TestSumOfTheVectors(t *testing.T) {
	key := api.Block(rising(16))
	for n, want := range []uint64{
		0x726fdb47dd0e0e31, 0x74f839c593dc67fd, 0x0d6c8009d9a94f5a, 0x85676696d7fb7e2d,
		0xcf2794e0277187b7, 0x18765564cd99a68d, 0xcbc9466e58fee3ce, 0xab0200f58b01d137,
		0x93f5f5799a932462, 0x9e0082df0ba9e4b0, 0x7a5dbbc594ddb9f3, 0xf4b32f46226bada7,
		0x751e8fbc860ee5fb, 0x14ea5627c0843d90, 0xf723ca908e7af2ee, 0xa129ca6149be45e5,
		0x3f2acc7f57c29bdb, 0x699ae9f52cbe4794, 0x4bc1b3f0968dd39c, 0xbb6dc91da77961bd,
		0xbed65cf21aa2ee98, 0xd0f2cbb02e3b67c7, 0x93536795e3a33e88, 0xa80c038ccd5ccec8,
		0xb8ad50c6f649af94, 0xbce192de8a85b8ea, 0x17d835b85bbb15f3, 0x2f2e6163076bcfad,
		0xde4daaaca71dc9a5, 0xa6a2506687956571, 0xad87a3535c49ef28, 0x32d892fad841c342,
		0x7127512f72f27cce, 0xa7f32346f95978e3, 0x12e0b01abb051238, 0x15e034d40fa197ae,
		0x314dffbe0815a3b4, 0x027990f029623981, 0xcadcd4e59ef40c4d, 0x9abfd8766a33735c,
		0x0e3ea96b5304a7d0, 0xad0c42d6fc585992, 0x187306c89bc215a9, 0xd4a60abcf3792b95,
		0xf935451de4f21df2, 0xa9538f0419755787, 0xdb9acddff56ca510, 0xd06c98cd5c0975eb,
		0xe612a3cb9ecba951, 0xc766e62cfcadaf96, 0xee64435a9752fe72, 0xa192d576b245165a,
		0x0a8787bf8ecb74b2, 0x81b3e73d20b49b6f, 0x7fa8220ba3b2ecea, 0x245731c13ca42499,
		0xb78dbfaf3a8d83bd, 0xea1ad565322a1a0b, 0x60e61c23a3795013, 0x6606d7e446282b93,
		0x6ca4ecb15c5f91e1, 0x9f626da15c9625f3, 0xe51b38608ef25f57, 0x958a324ceb064572,
	} {
		if got := sip.Sum(key, rising(n)); got != want {
			t.Errorf("%d bytes: %x, want %x", n, got, want)
		}
	}
	if sip.Sum(key, nil) != sip.Sum(key, []byte{}) {
		t.Error("nil and no bytes are one")
	}
}

// P3.1: how many bytes there are counts modulo 256; the numbers are those of another program.
func TestSumOfManyBytes(t *testing.T) {
	key := api.Block(rising(16))
	for n, want := range map[int]uint64{
		255: 0xa9c169fec74db21a, 256: 0x999d0526d2a7bfd7, 257: 0x8a817b8d55b29748,
		263: 0x86d801b865760792, 264: 0xe76e0db3fa0ee85c, 511: 0x969303d05e5af242,
		512: 0x883b57c3e55ada0e, 513: 0x90b6017f2031622b, 1000: 0xdb9b3ed69e31c9a6,
	} {
		if got := sip.Sum(key, rising(n)); got != want {
			t.Errorf("%d bytes: %x, want %x", n, got, want)
		}
	}
}

// P3.1: the numbers of any bytes by any key.
func TestSumOfAnyBytes(t *testing.T) {
	for i, key := range someKeys() {
		for _, n := range []int{0, 1, 7, 8, 9, 15, 16, 31, 32, 33, 100 + i, 250 + i} {
			for _, b := range [][]byte{mixed(n, uint64(n+i)), make([]byte, n), bytes.Repeat([]byte{255}, n)} {
				given := bytes.Clone(b)
				if got, want := sip.Sum(key, b), sum(key, given); got != want {
					t.Fatalf("the key %x, the bytes %x: %x, want %x", key, b, got, want)
				}
				if !bytes.Equal(b, given) {
					t.Fatal("what was handed in is changed")
				}
			}
		}
	}
}

// P3.1: bytes that are taken in pieces have the number of all of them, and Sum changes nothing, asked between any two pieces.
func TestHashInPieces(t *testing.T) {
	key := api.Block(mixed(16, 7))
	for n := range 40 {
		all := mixed(n, uint64(n))
		for i := range n + 1 {
			for j := i; j <= n; j++ {
				quiet, asked := sip.New(key), sip.New(key)
				for k, piece := range [][]byte{all[:i], all[i:j], nil, {}, all[j:]} {
					quiet.Write(piece)
					asked.Write(piece)
					end := []int{i, j, j, j, n}[k]
					if once, again, want := asked.Sum(), asked.Sum(), sum(key, all[:end]); once != want || again != want {
						t.Fatalf("%d bytes of %d: %x, then %x, want %x", end, n, once, again, want)
					}
				}
				if quiet.Sum() != asked.Sum() {
					t.Fatalf("%d bytes, cut at %d and %d: asking changed it", n, i, j)
				}
			}
		}
	}
}

// P3.1: byte by byte, far beyond 256 of them.
func TestHashByteByByte(t *testing.T) {
	for _, key := range someKeys()[:5] {
		h := sip.New(key)
		all := mixed(1100, 3)
		for n := range len(all) + 1 {
			if got, want := h.Sum(), sum(key, all[:n]); got != want {
				t.Fatalf("%d bytes: %x, want %x", n, got, want)
			}
			if n < len(all) {
				h.Write(all[n : n+1])
			}
		}
	}
}

// P3.1, rule 4: what was handed in isn't kept, and isn't changed.
func TestHashKeepsNothing(t *testing.T) {
	key := api.Block(rising(16))
	for n := range 20 {
		b := mixed(n, 1)
		h := sip.New(key)
		h.Write(b)
		if !bytes.Equal(b, mixed(n, 1)) {
			t.Fatalf("%d bytes: they are changed", n)
		}
		for i := range b {
			b[i]++
		}
		h.Write([]byte{5})
		if h.Sum() != sum(key, append(mixed(n, 1), 5)) {
			t.Errorf("%d bytes: they are kept", n)
		}
	}
}

// P2: one Hash hangs on no other one.
func TestSameAnswers(t *testing.T) {
	key, other := api.Block(mixed(16, 1)), api.Block(mixed(16, 2))
	one, two, three := sip.New(key), sip.New(key), sip.New(other)
	one.Write([]byte("abc"))
	three.Write([]byte("xyz"))
	sip.Sum(other, []byte("more"))
	two.Write([]byte("abc"))
	if one.Sum() != two.Sum() || one.Sum() != sum(key, []byte("abc")) || three.Sum() != sum(other, []byte("xyz")) {
		t.Error("what one takes, another one tells")
	}
	if sip.New(key).Sum() != sum(key, nil) {
		t.Error("a new one has taken something")
	}
}
