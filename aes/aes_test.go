package aes_test

import (
	standard "crypto/aes"
	"encoding/hex"
	"testing"

	"bastion/aes"
	"bastion/api"
)

// block gives the block of a text of 32 digits.
func block(t *testing.T, s string) (out api.Block) {
	t.Helper()
	b, err := hex.DecodeString(s)
	if err != nil || len(b) != len(out) {
		t.Fatalf("%q is no block", s)
	}
	copy(out[:], b)
	return out
}

// product multiplies two bytes as polynomials by long hand: all powers first, then the rest by x^8 + x^4 + x^3 + x + 1.
func product(a, b byte) byte {
	sum := 0
	for i := range 8 {
		for j := range 8 {
			if a>>i&1 == 1 && b>>j&1 == 1 {
				sum ^= 1 << (i + j)
			}
		}
	}
	for k := 14; k >= 8; k-- {
		if sum>>k&1 == 1 {
			sum ^= 0x11b << (k - 8)
		}
	}
	return byte(sum)
}

// stand gives the byte that stands for x, bit by bit as the document tells it.
func stand(x byte) byte {
	b := byte(0)
	for k := range 256 {
		if product(x, byte(k)) == 1 {
			b = byte(k)
		}
	}
	out := byte(0)
	for i := range 8 {
		one := b >> i & 1
		for _, further := range []int{4, 5, 6, 7} {
			one ^= b >> ((i + further) % 8) & 1
		}
		one ^= 99 >> i & 1
		out |= one << i
	}
	return out
}

// P2.1: Times of all pairs of bytes.
func TestTimes(t *testing.T) {
	for a := range 256 {
		for b := range 256 {
			if got, want := aes.Times(byte(a), byte(b)), product(byte(a), byte(b)); got != want {
				t.Fatalf("Times(%d, %d): %d, want %d", a, b, got, want)
			}
		}
	}
	if aes.Times(0x57, 0x83) != 0xc1 || aes.Times(0x57, 0x13) != 0xfe {
		t.Error("the products that FIPS-197 tells")
	}
}

// P2.1: Sub of all bytes.
func TestSub(t *testing.T) {
	for x := range 256 {
		if got, want := aes.Sub(byte(x)), stand(byte(x)); got != want {
			t.Errorf("Sub(%d): %d, want %d", x, got, want)
		}
	}
	if aes.Sub(0) != 99 || aes.Sub(83) != 237 {
		t.Error("the document's examples")
	}
}

// P2.1: the keys of the rounds of FIPS-197, appendix A.1.
func TestRoundsOfTheStandard(t *testing.T) {
	got := aes.New(block(t, "2b7e151628aed2a6abf7158809cf4f3c")).Rounds()
	for i, want := range []string{
		"2b7e151628aed2a6abf7158809cf4f3c",
		"a0fafe1788542cb123a339392a6c7605",
		"f2c295f27a96b9435935807a7359f67f",
		"3d80477d4716fe3e1e237e446d7a883b",
		"ef44a541a8525b7fb671253bdb0bad00",
		"d4d1c6f87c839d87caf2b8bc11f915bc",
		"6d88a37a110b3efddbf98641ca0093fd",
		"4e54f70e5f5fc9f384a64fb24ea6dc4f",
		"ead27321b58dbad2312bf5607f8d292f",
		"ac7766f319fadc2128d12941575c006e",
		"d014f9a8c9ee2589e13f0cc8b6630ca6",
	} {
		if got[i] != block(t, want) {
			t.Errorf("round %d: %x, want %s", i, got[i], want)
		}
	}
}

// someBlocks gives blocks of all kinds: of equal bytes, of one bit, and mixed ones.
func someBlocks() []api.Block {
	var out []api.Block
	for _, x := range []byte{0, 1, 99, 128, 255} {
		var b api.Block
		for i := range b {
			b[i] = x
		}
		out = append(out, b)
	}
	for k := range 8 * api.BlockBytes {
		var b api.Block
		b[k/8] = 1 << (k % 8)
		out = append(out, b)
	}
	state := uint64(88172645463325252)
	for range 100 {
		var b api.Block
		for i := range b {
			state ^= state << 13
			state ^= state >> 7
			state ^= state << 17
			b[i] = byte(state >> 32)
		}
		out = append(out, b)
	}
	return out
}

// P2.1: of any key, each word of the keys is made of those ahead of it.
func TestRoundsOfAnyKey(t *testing.T) {
	for _, key := range someBlocks() {
		keys := aes.New(key).Rounds()
		if keys[0] != key {
			t.Fatalf("the key %x: the round 0's is %x", key, keys[0])
		}
		var all []byte
		for _, k := range keys {
			all = append(all, k[:]...)
		}
		power := byte(1)
		for i := 4; i < 44; i++ {
			last := [4]byte(all[4*i-4 : 4*i])
			if i%4 == 0 {
				last = [4]byte{stand(last[1]) ^ power, stand(last[2]), stand(last[3]), stand(last[0])}
				power = product(power, 2)
			}
			for r := range 4 {
				if all[4*i+r] != all[4*i-16+r]^last[r] {
					t.Fatalf("the key %x: the byte %d of the word %d: %d", key, r, i, all[4*i+r])
				}
			}
		}
	}
}

// P2.1: the blocks that FIPS-197 and SP 800-38A tell.
func TestEncryptOfTheStandard(t *testing.T) {
	for _, c := range []struct{ key, in, out string }{
		{"000102030405060708090a0b0c0d0e0f", "00112233445566778899aabbccddeeff", "69c4e0d86a7b0430d8cdb78070b4c55a"},
		{"2b7e151628aed2a6abf7158809cf4f3c", "3243f6a8885a308d313198a2e0370734", "3925841d02dc09fbdc118597196a0b32"},
		{"2b7e151628aed2a6abf7158809cf4f3c", "6bc1bee22e409f96e93d7e117393172a", "3ad77bb40d7a3660a89ecaf32466ef97"},
		{"2b7e151628aed2a6abf7158809cf4f3c", "ae2d8a571e03ac9c9eb76fac45af8e51", "f5d3d58503b9699de785895a96fdbaaf"},
		{"2b7e151628aed2a6abf7158809cf4f3c", "30c81c46a35ce411e5fbc1191a0a52ef", "43b1cd7f598ece23881b00e3ed030688"},
		{"2b7e151628aed2a6abf7158809cf4f3c", "f69f2445df4f9b17ad2b417be66c3710", "7b0c785e27e8ad3f8223207104725dd4"},
		{"00000000000000000000000000000000", "00000000000000000000000000000000", "66e94bd4ef8a2c3b884cfa59ca342b2e"},
	} {
		if got := aes.New(block(t, c.key)).Encrypt(block(t, c.in)); got != block(t, c.out) {
			t.Errorf("the key %s, the block %s: %x, want %s", c.key, c.in, got, c.out)
		}
	}
}

// P2.1: of many keys and blocks, what the library's own cipher gives.
func TestEncryptOfAnyKey(t *testing.T) {
	blocks := someBlocks()
	for i, key := range blocks {
		c := aes.New(key)
		other, err := standard.NewCipher(key[:])
		if err != nil {
			t.Fatal(err)
		}
		for j := range 12 {
			in := blocks[(i+17*j)%len(blocks)]
			var want api.Block
			other.Encrypt(want[:], in[:])
			if got := c.Encrypt(in); got != want {
				t.Fatalf("the key %x, the block %x: %x, want %x", key, in, got, want)
			}
		}
	}
}

// P2: a cipher answers the same, whatever it, or another one, was asked between; what it gave is not its own any more.
func TestSameAnswers(t *testing.T) {
	blocks := someBlocks()
	one, other := aes.New(blocks[140]), aes.New(blocks[141])
	first, keys := one.Encrypt(blocks[150]), one.Rounds()
	given := one.Rounds()
	given[0][0]++
	given[10] = api.Block{}
	for _, b := range blocks {
		one.Encrypt(b)
		other.Encrypt(b)
	}
	if one.Encrypt(blocks[150]) != first || one.Rounds() != keys {
		t.Error("the second answer is another one")
	}
	if again := aes.New(blocks[140]); again.Encrypt(blocks[150]) != first || again.Rounds() != keys {
		t.Error("the same key's cipher answers another thing")
	}
	if other.Encrypt(blocks[150]) == first || other.Rounds() == keys {
		t.Error("another key's cipher answers the same")
	}
}
