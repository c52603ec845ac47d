// Package octet is layer 1: numbers, words and blocks laid down as bytes, and read within bounds.
package octet

import (
	"math/bits"

	"tallyman/api"
)

// longest is how many bytes the greatest number has.
const longest = 10

// Number answers b's bytes, and n as a number behind them.
func Number(b []byte, n uint64) []byte {
	number := make([]byte, 0, longest)
	for ; n >= 0x80; n >>= 7 {
		number = append(number, byte(n)|0x80)
	}
	return behind(b, append(number, byte(n))...)
}

// Word answers b's bytes, and n's low bytes behind them; of another width than a word's b's bytes alone.
func Word(b []byte, n uint64, bytes int) []byte {
	if !isWidth(bytes) {
		return behind(b)
	}
	word := make([]byte, 0, bytes)
	for shift := 0; shift < 8*bytes; shift += 8 {
		word = append(word, byte(n>>shift))
	}
	return behind(b, word...)
}

// Block answers b's bytes, and x as a block behind them.
func Block(b, x []byte) []byte {
	return behind(Number(b, uint64(len(x))), x...)
}

// Size tells how many bytes n has as a number.
func Size(n uint64) int {
	// 0 has a byte too, as if it had a bit.
	return (bits.Len64(n|1) + 6) / 7
}

// behind takes new memory even where b has spare room, which is the caller's.
func behind(b []byte, more ...byte) []byte {
	return append(append(make([]byte, 0, len(b)+len(more)), b...), more...)
}

func isWidth(bytes int) bool {
	return bytes == 2 || bytes == 4 || bytes == 8
}

// Reader reads bytes within their bounds; its first error stays. Only New makes one.
type Reader struct {
	made bool
	rest []byte // what stands behind the place
	err  api.Errno
}

// New answers a reader of b's bytes as they are now.
func New(b []byte) *Reader {
	return &Reader{made: true, rest: behind(b)}
}

// Number reads a number.
func (r *Reader) Number() uint64 {
	return r.Upto(1<<64 - 1)
}

// Upto reads a number; one above most is passed over, and is an error.
func (r *Reader) Upto(most uint64) uint64 {
	if r.Err() != api.OK {
		return 0
	}
	n, size, err := first(r.rest)
	if err != api.OK {
		r.err = err
		return 0
	}
	r.rest = r.rest[size:]
	if n > most {
		r.err = api.ErrLong
		return 0
	}
	return n
}

// Word reads a word.
func (r *Reader) Word(bytes int) uint64 {
	if r.Err() != api.OK {
		return 0
	}
	if !isWidth(bytes) {
		r.err = api.ErrBad
		return 0
	}
	n := uint64(0)
	for i, x := range r.take(0, uint64(bytes)) {
		n |= uint64(x) << (8 * i)
	}
	return n
}

// Block reads a block.
func (r *Reader) Block() []byte {
	if r.Err() != api.OK {
		return nil
	}
	n, size, err := first(r.rest)
	if err != api.OK {
		r.err = err
		return nil
	}
	return r.take(size, n)
}

// Fixed reads n bytes.
func (r *Reader) Fixed(n int) []byte {
	if r.Err() != api.OK {
		return nil
	}
	return r.take(0, uint64(max(n, 0)))
}

// Left tells how many bytes stand behind the place.
func (r *Reader) Left() int {
	if r == nil {
		return 0
	}
	return len(r.rest)
}

// End tells the error; bytes that are left are one.
func (r *Reader) End() api.Errno {
	if r.Err() == api.OK && r.Left() > 0 {
		r.err = api.ErrBad
	}
	return r.Err()
}

// Err tells the error.
func (r *Reader) Err() api.Errno {
	if r == nil || !r.made {
		return api.ErrNil
	}
	return r.err
}

// take answers the n bytes behind the first skip ones, of which there are at least that many,
// and goes behind both; n stays unsigned, since a block may claim more bytes than an int tells.
func (r *Reader) take(skip int, n uint64) []byte {
	body := r.rest[skip:]
	if n > uint64(len(body)) {
		r.err = api.ErrMore
		return nil
	}
	r.rest = body[n:]
	return behind(body[:n])
}

// first tells the number that b begins with, and how many bytes it has.
func first(b []byte) (n uint64, size int, err api.Errno) {
	for i, x := range b {
		tooGreat := i == longest-1 && x > 1
		tooLong := i > 0 && x == 0
		if tooGreat || tooLong {
			return 0, 0, api.ErrBad
		}
		n |= uint64(x&0x7f) << (7 * i)
		if x < 0x80 {
			return n, i + 1, api.OK
		}
	}
	return 0, 0, api.ErrMore
}
