// Package octet is layer 1: numbers as bytes, the highest first (see 01-octet.md).
package octet

import (
	"bytes"

	"mainsheet/api"
)

// How many bytes the numbers have.
const (
	width8  = 1
	width16 = 2
	width32 = 4
	width64 = 8
)

// Reader walks over bytes, from the first one on, and never back.
type Reader struct {
	road
}

// road is what lies ahead, and why there is no walking on.
type road struct {
	ahead []byte
	stop  api.Errno
}

// Put16 answers the two bytes of x behind a copy of b.
func Put16(b []byte, x uint16) []byte {
	return put(b, uint64(x), width16)
}

// Put32 answers the four bytes of x behind a copy of b.
func Put32(b []byte, x uint32) []byte {
	return put(b, uint64(x), width32)
}

// Put64 answers the eight bytes of x behind a copy of b.
func Put64(b []byte, x uint64) []byte {
	return put(b, x, width64)
}

// Read answers a reader that keeps a copy: who handed b in may go on changing it.
func Read(b []byte) *Reader {
	return &Reader{road{ahead: bytes.Clone(b)}}
}

// U8 walks over a number of one byte.
func (r *Reader) U8() byte {
	return byte(r.number(width8))
}

// U16 walks over a number of two bytes.
func (r *Reader) U16() uint16 {
	return uint16(r.number(width16))
}

// U32 walks over a number of four bytes.
func (r *Reader) U32() uint32 {
	return uint32(r.number(width32))
}

// U64 walks over a number of eight bytes.
func (r *Reader) U64() uint64 {
	return r.number(width64)
}

// Raw walks over n bytes. They are answered as a copy: appending to them must not write over those ahead.
func (r *Reader) Raw(n int) []byte {
	if r == nil {
		return nil
	}
	var raw []byte
	r.walk(n, func(passed []byte) {
		raw = bytes.Clone(passed)
	})
	return raw
}

// Left answers how many bytes are ahead; those at which the reader stopped still are.
func (r *Reader) Left() int {
	if r == nil {
		return 0
	}
	return len(r.ahead)
}

// Err answers why the reader stopped, if it did.
func (r *Reader) Err() api.Errno {
	if r == nil {
		return api.ErrNil
	}
	return r.stop
}

// Whole tells whether all was read, and nothing asked for besides.
func (r *Reader) Whole() bool {
	return r != nil && r.stop == api.OK && len(r.ahead) == 0
}

// Lead answers how many noughts stand ahead in b.
func Lead(b []byte) int {
	for i, x := range b {
		if x != 0 {
			return i
		}
	}
	return len(b)
}

// number walks over a number of that width; it stays 0 where nothing is walked over.
func (r *Reader) number(width int) uint64 {
	if r == nil {
		return 0
	}
	var x uint64
	r.walk(width, func(passed []byte) {
		for place := range width {
			x |= uint64(passed[place]) << shift(place, width)
		}
	})
	return x
}

// walk tells the next n bytes. The first reason to stop is the one that stays: a road that has stopped is asked nothing more.
func (w *road) walk(n int, tell func(passed []byte)) {
	switch {
	case w.stop != api.OK:
	case n < 0:
		w.stop = api.ErrArg
	case n > len(w.ahead):
		w.stop = api.ErrShort
	default:
		tell(w.ahead[:n])
		w.ahead = w.ahead[n:]
	}
}

// put lays a number behind a copy of b: b may have room behind its end that is somebody else's.
func put(b []byte, x uint64, width int) []byte {
	out := make([]byte, len(b), len(b)+width)
	copy(out, b)
	for place := range width {
		out = append(out, byte(x>>shift(place, width)))
	}
	return out
}

// shift answers by how many bits the power at a place stands above the lowest one.
func shift(place, width int) int {
	return 8 * (width - 1 - place)
}
