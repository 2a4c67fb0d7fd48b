// Package sha is layer 1: see shared/doc/01-sha.md.
package sha

import (
	"math/bits"
	"strings"

	"spinney/api"
)

// chunkSize is how many bytes change a state at a time.
const chunkSize = 64

// lengthSize is how many bytes of the padding tell how long a text is.
const lengthSize = 8

// digits stand in names; the index of each is its value.
const digits = "0123456789abcdef"

// initial holds the fractions of the square roots of the primes 2 to 19.
var initial = [8]uint32{
	0x6a09e667, 0xbb67ae85, 0x3c6ef372, 0xa54ff53a, 0x510e527f, 0x9b05688c, 0x1f83d9ab, 0x5be0cd19,
}

// constants holds the fractions of the cube roots of the primes 2 to 311.
var constants = [64]uint32{
	0x428a2f98, 0x71374491, 0xb5c0fbcf, 0xe9b5dba5, 0x3956c25b, 0x59f111f1, 0x923f82a4, 0xab1c5ed5,
	0xd807aa98, 0x12835b01, 0x243185be, 0x550c7dc3, 0x72be5d74, 0x80deb1fe, 0x9bdc06a7, 0xc19bf174,
	0xe49b69c1, 0xefbe4786, 0x0fc19dc6, 0x240ca1cc, 0x2de92c6f, 0x4a7484aa, 0x5cb0a9dc, 0x76f988da,
	0x983e5152, 0xa831c66d, 0xb00327c8, 0xbf597fc7, 0xc6e00bf3, 0xd5a79147, 0x06ca6351, 0x14292967,
	0x27b70a85, 0x2e1b2138, 0x4d2c6dfc, 0x53380d13, 0x650a7354, 0x766a0abb, 0x81c2c92e, 0x92722c85,
	0xa2bfe8a1, 0xa81a664b, 0xc24b8b70, 0xc76c51a3, 0xd192e819, 0xd6990624, 0xf40e3585, 0x106aa070,
	0x19a4c116, 0x1e376c08, 0x2748774c, 0x34b0bcb5, 0x391c0cb3, 0x4ed8aa4a, 0x5b9cca4f, 0x682e6ff3,
	0x748f82ee, 0x78a5636f, 0x84c87814, 0x8cc70208, 0x90befffa, 0xa4506ceb, 0xbef9a3f7, 0xc67178f2,
}

// state is the letters A to H.
type state [8]uint32

// Middle is a state to which one chunk has changed the initial one.
type Middle struct {
	after state
	// made tells a middle from the zero value: no state is ruled out, not even one of zeros alone.
	made bool
}

// Halfway returns the middle of a chunk.
func Halfway(chunk [64]byte) Middle {
	return Middle{after: changed(initial, chunk), made: true}
}

// Twice returns the double digest of the middle's chunk followed by rest.
func (m Middle) Twice(rest []byte) api.Hash {
	if !m.made {
		return api.Hash{}
	}
	first := finished(m.after, chunkSize, rest)
	return Sum(first[:])
}

// Sum returns the digest of b.
func Sum(b []byte) api.Hash {
	return finished(initial, 0, b)
}

// Twice returns the double digest of b.
func Twice(b []byte) api.Hash {
	first := Sum(b)
	return Sum(first[:])
}

// Text returns the name of a digest.
func Text(h api.Hash) string {
	var name [2 * len(h)]byte
	for i, b := range h {
		name[2*i], name[2*i+1] = digits[b>>4], digits[b&15]
	}
	return string(name[:])
}

// Of returns the digest that has the name s.
func Of(s string) (api.Hash, bool) {
	var h api.Hash
	if len(s) != 2*len(h) {
		return api.Hash{}, false
	}
	for i := range h {
		high, low := strings.IndexByte(digits, s[2*i]), strings.IndexByte(digits, s[2*i+1])
		if high < 0 || low < 0 {
			return api.Hash{}, false
		}
		h[i] = byte(high<<4 | low)
	}
	return h, true
}

// finished returns the digest of a text: done bytes of it have led to s, rest is what follows them.
func finished(s state, done uint64, rest []byte) api.Hash {
	length := done + uint64(len(rest))
	for len(rest) >= chunkSize {
		s = changed(s, [chunkSize]byte(rest))
		rest = rest[chunkSize:]
	}
	end, many := padded(rest, length)
	for i := range many {
		s = changed(s, [chunkSize]byte(end[chunkSize*i:]))
	}
	return joined(s)
}

// padded returns the last bytes of a text of that length, with its padding, and how many chunks they are.
// They are copied, because appending to rest could write into what lies behind it.
func padded(rest []byte, length uint64) (end [2 * chunkSize]byte, many int) {
	many = 1
	if len(rest)+1+lengthSize > chunkSize {
		many = 2
	}
	copy(end[:], rest)
	end[len(rest)] = 0x80
	last := chunkSize*many - 1
	for i := range lengthSize {
		end[last-i] = byte(8 * length >> (8 * i))
	}
	return end, many
}

// changed returns the state to which a chunk changes s.
func changed(s state, chunk [chunkSize]byte) state {
	var last [16]uint32
	for i := range last {
		last[i] = number(chunk[4*i:])
	}
	// Sixteen places are enough: each further number takes that of the one sixteen before it.
	next := func(i int) uint32 {
		if i >= len(last) {
			far, near := last[(i-15)&15], last[(i-2)&15]
			last[i&15] += (turned(far, 7, 18) ^ far>>3) + last[(i-7)&15] + (turned(near, 17, 19) ^ near>>10)
		}
		return last[i&15]
	}
	a, b, c, d, e, f, g, h := s[0], s[1], s[2], s[3], s[4], s[5], s[6], s[7]
	for i := range constants {
		t := h + turned(e, 6, 11, 25) + (e&f | ^e&g) + constants[i] + next(i)
		u := turned(a, 2, 13, 22) + (a&b | a&c | b&c)
		a, b, c, d, e, f, g, h = t+u, a, b, c, d+t, e, f, g
	}
	return state{s[0] + a, s[1] + b, s[2] + c, s[3] + d, s[4] + e, s[5] + f, s[6] + g, s[7] + h}
}

// turned returns the xor of x rotated right by each of the numbers of positions.
func turned(x uint32, positions ...int) uint32 {
	var all uint32
	for _, n := range positions {
		all ^= bits.RotateLeft32(x, -n)
	}
	return all
}

// number returns the number that the first four bytes form.
func number(b []byte) uint32 {
	return uint32(b[0])<<24 | uint32(b[1])<<16 | uint32(b[2])<<8 | uint32(b[3])
}

// joined returns the bytes of the letters.
func joined(s state) api.Hash {
	var h api.Hash
	for i, letter := range s {
		h[4*i], h[4*i+1], h[4*i+2], h[4*i+3] = byte(letter>>24), byte(letter>>16), byte(letter>>8), byte(letter)
	}
	return h
}
