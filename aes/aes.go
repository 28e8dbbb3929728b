// Package aes is layer 2: see shared/doc/02-aes.md.
package aes

import (
	"math/bits"

	"bastion/api"
)

const (
	rounds   = 10 // behind the round 0
	rows     = 4
	columns  = 4
	keyWords = (rounds + 1) * columns
	modulus  = 1<<4 | 1<<3 | 1<<1 | 1 // x^8 is x^4 + x^3 + x + 1
	constant = 99                     // what Sub adds
)

type word [rows]byte

// Cipher enciphers blocks by a key. It keeps the bytes that stand for others, since making them costs far more than a block does.
type Cipher struct {
	keys   [rounds + 1]api.Block
	stands [256]byte
}

// New gives the cipher of a key.
func New(key api.Block) *Cipher {
	c := &Cipher{stands: standing()}
	c.expand(key)
	return c
}

// Encrypt enciphers a block.
func (c *Cipher) Encrypt(b api.Block) api.Block {
	b = add(b, c.keys[0])
	for before := range rounds - 1 {
		b = add(mix(shift(c.sub(b))), c.keys[before+1])
	}
	return add(shift(c.sub(b)), c.keys[rounds])
}

// Rounds gives the keys of the rounds.
func (c *Cipher) Rounds() [11]api.Block { return c.keys }

// Times multiplies two bytes as polynomials.
func Times(a, b byte) byte {
	var product byte
	for k := range 8 {
		if b>>k&1 == 1 {
			product ^= a
		}
		a = double(a)
	}
	return product
}

// Sub gives the byte that stands for another one.
func Sub(x byte) byte {
	b := inverse(x)
	sum := b ^ constant
	for k := range 4 {
		sum ^= bits.RotateLeft8(b, k+1) // brings the bit i+7-k to i
	}
	return sum
}

// standing gives for each byte that which stands for it.
func standing() [256]byte {
	var out [256]byte
	for x := range 256 {
		out[x] = Sub(byte(x))
	}
	return out
}

// inverse gives the byte b with x • b = 1, and 0 for 0: it is x to the 254, for x to the 255 is 1 for all but 0.
func inverse(x byte) byte {
	out := byte(1)
	for range 7 {
		x = Times(x, x)
		out = Times(out, x)
	}
	return out
}

// double multiplies a byte by x.
func double(a byte) byte {
	if a>>7 == 1 {
		return a<<1 ^ modulus
	}
	return a << 1
}

// expand makes the keys of the rounds.
func (c *Cipher) expand(key api.Block) {
	var words [keyWords]word
	for i := range columns {
		copy(words[i][:], key[rows*i:])
	}
	power := byte(1)
	for before := range keyWords - columns {
		i := before + columns
		last := words[i-1]
		if i%columns == 0 {
			last = c.turn(last, power)
			power = double(power)
		}
		words[i] = addWords(words[before], last)
	}
	for i, w := range words {
		copy(c.keys[i/columns][rows*(i%columns):], w[:])
	}
}

// turn turns a word one place to the left, puts for its bytes those that stand for them, and adds a power of x to the first.
func (c *Cipher) turn(w word, power byte) word {
	var out word
	for r := range rows {
		out[r] = c.stands[w[(r+1)%rows]]
	}
	out[0] ^= power
	return out
}

func addWords(a, b word) word {
	for r := range rows {
		a[r] ^= b[r]
	}
	return a
}

func add(a, b api.Block) api.Block {
	for i := range api.BlockBytes {
		a[i] ^= b[i]
	}
	return a
}

func (c *Cipher) sub(b api.Block) api.Block {
	for i, x := range b {
		b[i] = c.stands[x]
	}
	return b
}

func shift(b api.Block) api.Block {
	var out api.Block
	for column := range columns {
		for row := range rows {
			out[row+rows*column] = b[row+rows*((column+row)%columns)]
		}
	}
	return out
}

func mix(b api.Block) api.Block {
	var out api.Block
	for column := range columns {
		var a word
		copy(a[:], b[rows*column:])
		for row := range rows {
			next := a[(row+1)%rows]
			out[row+rows*column] = double(a[row]) ^ double(next) ^ next ^ a[(row+2)%rows] ^ a[(row+3)%rows]
		}
	}
	return out
}
