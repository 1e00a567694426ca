// Package wire is layer 1, numbers and texts as bytes: see shared/doc/01-wire.md.
package wire

import "outrider/api"

// How many bytes hold a byte, a number, and the length of a text.
const (
	byteSize   = 1
	numberSize = 8
	lengthSize = 4
)

// Byte answers b with v behind it.
func Byte(b []byte, v uint8) []byte {
	return putNumber(withRoom(b, byteSize), uint64(v), byteSize)
}

// Uint answers b with the number v behind it.
func Uint(b []byte, v uint64) []byte {
	return putNumber(withRoom(b, numberSize), v, numberSize)
}

// Int answers b with the number v behind it, modulo 2^64.
func Int(b []byte, v int64) []byte {
	return Uint(b, uint64(v))
}

// Text answers b with the text s behind it.
func Text(b []byte, s []byte) []byte {
	out := withRoom(b, lengthSize+len(s))
	out = putNumber(out, uint64(len(s)), lengthSize)
	return append(out, s...)
}

// withRoom copies b, since the room behind a caller's list is the caller's too: it may not be appended to in place.
func withRoom(b []byte, more int) []byte {
	out := make([]byte, len(b), len(b)+more)
	copy(out, b)
	return out
}

func putNumber(b []byte, v uint64, size int) []byte {
	for left := size - 1; left >= 0; left-- {
		b = append(b, byte(v>>(8*left)))
	}
	return b
}

// Reader reads bytes, one thing behind the other.
type Reader struct {
	rest []byte
	bad  bool
}

// New answers a reader of a copy of b: what the caller does to b later is not to be seen.
func New(b []byte) *Reader {
	return &Reader{rest: withRoom(b, 0)}
}

// Byte reads the next byte.
func (r *Reader) Byte() uint8 {
	return uint8(r.number(byteSize))
}

// Uint reads the next number.
func (r *Reader) Uint() uint64 {
	return r.number(numberSize)
}

// Int reads the next number as one that may be below 0.
func (r *Reader) Int() int64 {
	return int64(r.number(numberSize))
}

// Text reads the next text's bytes.
func (r *Reader) Text() []byte {
	size := r.number(lengthSize)
	return read(r, size, func(b []byte) []byte {
		return withRoom(b, 0)
	})
}

// Count reads the next number, which may be no more than most. It is held against most as one that is never below 0, so that a count that was read can't be below 0 either.
func (r *Reader) Count(most int) int {
	n := r.number(numberSize)
	if most < 0 || n > uint64(most) {
		r.Bad()
		return 0
	}
	return int(n)
}

// Bad makes the reader bad.
func (r *Reader) Bad() {
	if r != nil {
		r.bad = true
	}
}

// Done tells whether all was read, and all that was asked for was there.
func (r *Reader) Done() api.Errno {
	switch {
	case r == nil:
		return api.ErrNil
	case r.bad || len(r.rest) > 0:
		return api.ErrForm
	}
	return api.OK
}

func (r *Reader) number(size uint64) uint64 {
	return read(r, size, func(b []byte) uint64 {
		var v uint64
		for _, next := range b {
			v = v<<8 | uint64(next)
		}
		return v
	})
}

// read answers what tell makes of the next size bytes. All reading goes through it, so that here alone a reader is held against nil, goes bad, or moves on. The size is held against the bytes as it was read, unsigned, so that none is too great for it.
func read[T any](r *Reader, size uint64, tell func(b []byte) T) T {
	var nothing T
	if r == nil || r.bad {
		return nothing
	}
	if size > uint64(len(r.rest)) {
		r.bad = true
		return nothing
	}
	told := tell(r.rest[:size])
	r.rest = r.rest[size:]
	return told
}
