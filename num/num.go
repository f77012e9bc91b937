// Package num is layer 1: numbers as bytes, short and long. See shared/doc/01-num.md.
package num

import (
	"bytes"
	"iter"
	"math/bits"

	"moult/api"
)

const (
	shortWidth = 7               // bits of a short digit
	longWidth  = 8               // bits of a long digit
	more       = 1 << shortWidth // put to each short digit behind which another one stands
	most       = 5               // how many bytes a number has: long ones just so many, short ones no more
)

// Is tells whether all of them are numbers: P1.1.
func Is(l ...int) bool {
	for _, n := range l {
		if n < 0 || n > api.MaxNumber {
			return false
		}
	}
	return true
}

// Short is the short bytes of each, in order: P1.1.
func Short(l ...int) ([]byte, api.Errno) {
	if !Is(l...) {
		return nil, api.ErrArg
	}
	b := make([]byte, 0, len(l))
	for _, n := range l {
		for left, digit := range digits(n, shortWidth, 1) {
			if left > 0 {
				digit += more
			}
			b = append(b, digit)
		}
	}
	return b, api.OK
}

// Long is the long bytes of each, in order: P1.1.
func Long(l ...int) ([]byte, api.Errno) {
	if !Is(l...) {
		return nil, api.ErrArg
	}
	b := make([]byte, 0, most*len(l))
	for _, n := range l {
		for _, digit := range digits(n, longWidth, most) {
			b = append(b, digit)
		}
	}
	return b, api.OK
}

// Take is the number of the short bytes that b begins with, and what stands behind: P1.2.
func Take(b []byte) (n int, rest []byte, e api.Errno) {
	n, used, e := take(b)
	if e != api.OK {
		return 0, nil, e
	}
	return n, bytes.Clone(b[used:]), api.OK
}

// TakeLong is the number of the long bytes that b begins with, and what stands behind: P1.3.
func TakeLong(b []byte) (n int, rest []byte, e api.Errno) {
	if len(b) < most {
		return 0, nil, api.ErrShort
	}
	var sum int64
	for _, digit := range b[:most] {
		sum = sum<<longWidth + int64(digit)
	}
	if sum > api.MaxNumber {
		return 0, nil, api.ErrForm
	}
	return int(sum), bytes.Clone(b[most:]), api.OK
}

// Takes is so many numbers of short bytes, one behind the other, and what stands behind the last one: P1.4.
func Takes(b []byte, many int) (l []int, rest []byte, e api.Errno) {
	at := 0
next:
	// No room is made ahead: many may be far above what b holds.
	if len(l) >= many {
		return l, bytes.Clone(b[at:]), api.OK
	}
	n, used, e := take(b[at:])
	if e != api.OK {
		return nil, nil, e
	}
	l = append(l, n)
	at += used
	goto next
}

// digits goes over n's digits of so many bits, the highest first, at least so many of them; with each, how many are left behind it.
func digits(n, width, least int) iter.Seq2[int, byte] {
	many := max(least, (bits.Len(uint(n))+width-1)/width)
	return func(yield func(int, byte) bool) {
		for left := many - 1; left >= 0; left-- {
			digit := n >> (left * width) & (1<<width - 1)
			if !yield(left, byte(digit)) {
				return
			}
		}
	}
}

// take is the number of the short bytes that b begins with, and how many bytes these are.
func take(b []byte) (n, used int, e api.Errno) {
	// A nought ahead of other digits is not as few digits as can be, whatever comes behind it.
	if len(b) > 0 && b[0] == more {
		return 0, 0, api.ErrForm
	}
	var sum int64 // five digits are more than 32 bits hold
next:
	if used == most {
		return 0, 0, api.ErrForm
	}
	if used == len(b) {
		return 0, 0, api.ErrShort
	}
	digit := b[used]
	used++
	sum = sum<<shortWidth + int64(digit%more)
	if digit >= more {
		goto next
	}
	if sum > api.MaxNumber {
		return 0, 0, api.ErrForm
	}
	return int(sum), used, api.OK
}
