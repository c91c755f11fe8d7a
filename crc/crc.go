// Package crc is layer 1: see shared/doc/01-crc.md.
package crc

import (
	"strings"

	"souk/api"
)

// poly is what a checksum is combined with where the bit that leaves it is 1.
const poly uint32 = 0xEDB88320

// size is how many bytes of a sealed text are its checksum.
const size = 4

// bytestring is what a checksum is made of: a text, or bytes.
type bytestring interface{ string | []byte }

// shift tells what c becomes by one bit of 0.
func shift(c uint32) uint32 {
	if c&1 == 1 {
		return c>>1 ^ poly
	}
	return c >> 1
}

// Table tells what each number becomes, shifted down eight times.
func Table() [256]uint32 {
	var table [256]uint32
	// What a number becomes is what its bits become, combined; of those each
	// becomes what the next higher one does, shifted once more.
	c := uint32(1)
	for bit := 128; bit > 0; bit /= 2 {
		c = shift(c)
		for n := 0; n < 256; n += 2 * bit {
			table[n+bit] = table[n] ^ c
		}
	}
	return table
}

// byTop tells which number's word of the table has each highest byte: no two
// words have the same one, so that a step can be taken back.
func byTop(table [256]uint32) [256]byte {
	var numbers [256]byte
	for n, word := range table {
		numbers[word>>24] = byte(n)
	}
	return numbers
}

// forward tells the checksum c becomes by all of s.
func forward[T bytestring](table [256]uint32, c uint32, s T) uint32 {
	c = ^c
	for i := range len(s) {
		c = c>>8 ^ table[byte(c)^s[i]]
	}
	return ^c
}

// backward tells the checksum that becomes c by all of s.
func backward[T bytestring](table [256]uint32, c uint32, s T) uint32 {
	numbers := byTop(table)
	c = ^c
	for i := len(s) - 1; i >= 0; i-- {
		n := numbers[c>>24]
		c = (c^table[n])<<8 | uint32(n^s[i])
	}
	return ^c
}

// low tells the four bytes of c, the lowest first.
func low(c uint32) [size]byte {
	return [size]byte{byte(c), byte(c >> 8), byte(c >> 16), byte(c >> 24)}
}

// Of tells the checksum of s.
func Of(s string) uint32 { return Add(0, s) }

// Add tells the checksum of a text whose checksum is c, with s behind it.
func Add(c uint32, s string) uint32 { return forward(Table(), c, s) }

// Back tells the checksum from which Add, by s, comes to c.
func Back(c uint32, s string) uint32 { return backward(Table(), c, s) }

// product multiplies two polynomials of bits, modulo the checksum's: the
// highest bit is that of x to the 0, and a shift multiplies by x.
func product(a, b uint32) uint32 {
	var sum uint32
	for ; a != 0; a <<= 1 {
		if a>>31 == 1 {
			sum ^= b
		}
		b = shift(b)
	}
	return sum
}

// Both tells the checksum of two texts, of which the second one has n bytes.
func Both(a, b uint32, n int) uint32 {
	if n < 0 {
		return 0
	}
	// A byte behind multiplies by x to the 8, so n bytes by its n-th power:
	// squared bit by bit of n, that ends soon for the greatest n too.
	for power := uint32(1) << 23; n > 0; n /= 2 {
		if n%2 == 1 {
			a = product(a, power)
		}
		power = product(power, power)
	}
	return a ^ b
}

// Forge tells s with four other bytes from at on, so that its checksum is want.
func Forge(s string, at int, want uint32) (string, api.Errno) {
	if at < 0 || at > len(s)-size {
		return "", api.ErrShort
	}
	table := Table()
	forged := []byte(s)
	clear(forged[at : at+size])
	// Four bytes act as four bytes of 0 do on a checksum that is combined with
	// them: what lacks between the two ways to the place is the bytes.
	word := low(forward(table, 0, forged[:at]) ^ backward(table, want, forged[at:]))
	copy(forged[at:], word[:])
	return string(forged), api.OK
}

// Seal tells s with its checksum behind it.
func Seal(s string) string {
	sum := low(Of(s))
	return s + string(sum[:])
}

// Open tells the text that was sealed.
func Open(s string) (string, api.Errno) {
	at := len(s) - size
	if at < 0 {
		return "", api.ErrShort
	}
	sum := low(Of(s[:at]))
	if s[at:] != string(sum[:]) {
		return "", api.ErrSum
	}
	return strings.Clone(s[:at]), api.OK
}
