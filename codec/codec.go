// Package codec is layer 1: see shared/doc/01-codec.md.
package codec

import (
	"strings"

	"latchkey/api"
)

const (
	digitBits = 7
	more      = 1 << digitBits                      // stands on every digit but the last
	maxDigits = (64 + digitBits - 1) / digitBits    // of a number of 64 bits
	topDigit  = 1<<(64-(maxDigits-1)*digitBits) - 1 // the most that 64 bits leave for digit maxDigits
)

// Writer holds the bytes that were written so far.
type Writer struct {
	written []byte
}

// Reader holds the bytes that are still to be read; a bad one holds none.
type Reader struct {
	rest string
	bad  bool
}

// New gives a writer to which nothing was written.
func New() *Writer { return &Writer{} }

// Int writes n as a signed number.
func (w *Writer) Int(n int) { w.U64(fold(n)) }

// U64 writes n as a number from 0 on.
func (w *Writer) U64(n uint64) {
	if w == nil {
		return
	}
	for range digits(n) - 1 {
		w.written = append(w.written, byte(n%more)|more)
		n >>= digitBits
	}
	w.written = append(w.written, byte(n))
}

// Text writes s, of any length: it is the reader that minds MaxText.
func (w *Writer) Text(s string) {
	if w == nil {
		return
	}
	w.U64(uint64(len(s)))
	w.written = append(w.written, s...)
}

// String gives all bytes so far.
func (w *Writer) String() string {
	if w == nil {
		return ""
	}
	return string(w.written)
}

// Of gives a reader of s.
func Of(s string) *Reader { return &Reader{rest: s} }

// Int reads a signed number.
func (r *Reader) Int() int { return unfold(r.U64()) }

// U64 reads a number from 0 on.
func (r *Reader) U64() uint64 {
	if r == nil {
		return 0
	}
	n, size := number(r.rest)
	if size == 0 {
		r.spoil()
		return 0
	}
	r.rest = r.rest[size:]
	return n
}

// Text reads a text.
func (r *Reader) Text() string {
	if r == nil {
		return ""
	}
	size := r.U64()
	// Held against both bounds as uint64: a length of 2^63 and more is no int.
	if size > api.MaxText || size > uint64(len(r.rest)) {
		r.spoil()
		return ""
	}
	s := strings.Clone(r.rest[:size]) // the answer keeps none of what was handed in
	r.rest = r.rest[size:]
	return s
}

// Done tells whether all was read, and well.
func (r *Reader) Done() api.Errno {
	if r == nil || r.bad || r.rest != "" {
		return api.ErrFormat
	}
	return api.OK
}

// spoil also drops the rest, so that every later read finds no number and answers 0 and "".
func (r *Reader) spoil() { *r = Reader{bad: true} }

// fold lays the signed numbers among those from 0 on, so that small ones either side of 0 stay short.
func fold(n int) uint64 {
	if n < 0 {
		return 2*uint64(-(n+1)) + 1 // -2 n - 1, where -2 n alone may be no int
	}
	return 2 * uint64(n)
}

// unfold is fold's way back.
func unfold(n uint64) int {
	if n%2 == 1 {
		return -int(n/2) - 1
	}
	return int(n / 2)
}

// digits counts the digits that n needs.
func digits(n uint64) int {
	for i := range maxDigits - 1 {
		if n < more {
			return i + 1
		}
		n >>= digitBits
	}
	return maxDigits
}

// number gives the number at the front of s and how many bytes it has: 0 bytes, if there is none.
func number(s string) (uint64, int) {
	n := uint64(0)
	for i := range len(s) {
		digit := s[i]
		if i == maxDigits-1 && digit > topDigit { // more than 64 bits, or more digits to come
			return 0, 0
		}
		n += uint64(digit%more) << (digitBits * i)
		if digit >= more {
			continue
		}
		if digit == 0 && i > 0 { // a highest digit 0 is one more than the number needs
			return 0, 0
		}
		return n, i + 1
	}
	return 0, 0
}
