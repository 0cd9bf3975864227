// Package pack is layer 1: it encodes numbers and byte strings one after the other, and decodes them again.
package pack

import (
	"bytes"
	"math"
	"math/bits"
	"slices"

	"quayside/api"
)

const (
	// negative is what the head byte of a number below 0 has more than that of its absolute value.
	negative = 16
	// widest is the greatest number of bytes that follow a head byte.
	widest = 8
	// longest is the greatest length of a byte string.
	longest = 1<<31 - 1
)

// Int returns b followed by the encoding of n.
func Int(b []byte, n int) []byte {
	return slices.Concat(b, encode(n))
}

// Blob returns b followed by the encoding of the byte string x.
func Blob(b, x []byte) []byte {
	return slices.Concat(b, encode(len(x)), x)
}

// encode returns the encoding of n.
func encode(n int) []byte {
	head, abs := 0, uint64(n)
	if n < 0 {
		// In 64 bits without a sign the least int has an absolute value, too.
		head, abs = negative, -abs
	}
	size := (bits.Len64(abs) + 7) / 8
	code := []byte{byte(head + size)}
	for i := size - 1; i >= 0; i-- {
		code = append(code, byte(abs>>(8*i)))
	}
	return code
}

// Reader decodes what Int and Blob encoded.
type Reader struct {
	rest   []byte    // what has not been read, of a copy that is the reader's own
	failed api.Errno // the error of the first read method that failed
}

// From returns a reader that is positioned at the beginning of b.
func From(b []byte) *Reader {
	return &Reader{rest: bytes.Clone(b)}
}

// Int decodes a number.
func (r *Reader) Int() int {
	return attempt(r, r.number)
}

// Count decodes a number from 0 to most.
func (r *Reader) Count(most int) int {
	return attempt(r, func() int { return r.count(most) })
}

// Blob decodes a byte string.
func (r *Reader) Blob() []byte {
	return attempt(r, r.blob)
}

// Done returns the error with which a read method failed; if none did, ErrLong if a byte is left.
func (r *Reader) Done() api.Errno {
	if r.failed == api.OK && len(r.rest) > 0 {
		return api.ErrLong
	}
	return r.failed
}

// attempt returns what read decodes. A read that fails panics with its error, however deep it is; here the panic ends, and the reader is put back to where it was.
func attempt[T any](r *Reader, read func() T) (got T) {
	if r.failed != api.OK {
		return got
	}
	start := r.rest
	defer func() {
		if p := recover(); p != nil {
			r.rest, r.failed = start, p.(api.Errno)
		}
	}()
	return read()
}

// take moves past the next n bytes and returns them; they are still the reader's own.
func (r *Reader) take(n int) []byte {
	if n > len(r.rest) {
		panic(api.ErrShort)
	}
	taken := r.rest[:n]
	r.rest = r.rest[n:]
	return taken
}

// number decodes a number, or panics.
func (r *Reader) number() int {
	size := int(r.take(1)[0])
	// There is no negative 0: the head 16 is not reduced, and so it is too great.
	below := size > negative
	if below {
		size -= negative
	}
	if size > widest {
		panic(api.ErrLong)
	}
	abs := magnitude(r.take(size))
	if below {
		if abs > math.MaxInt+1 {
			panic(api.ErrLong)
		}
		return int(-abs)
	}
	if abs > math.MaxInt {
		panic(api.ErrLong)
	}
	return int(abs)
}

// magnitude returns the absolute value that at most eight bytes say; it panics if the first one is 00, as there is a shorter encoding then.
func magnitude(b []byte) uint64 {
	if len(b) > 0 && b[0] == 0 {
		panic(api.ErrLong)
	}
	abs := uint64(0)
	for _, x := range b {
		abs = abs<<8 | uint64(x)
	}
	return abs
}

// count decodes a number from 0 to most, or panics.
func (r *Reader) count(most int) int {
	n := r.number()
	if n < 0 || n > most {
		panic(api.ErrMany)
	}
	return n
}

// blob decodes a byte string, or panics.
func (r *Reader) blob() []byte {
	return bytes.Clone(r.take(r.count(longest)))
}
