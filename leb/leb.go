// Package leb is layer 1: see shared/doc/01-leb.md.
package leb

import (
	"scarf/api"
)

// greatest is the greatest number without a sign that is taken.
const greatest = 1<<32 - 1

// PutU lays a number from 0 on.
func PutU(n int) string { return string(appendU(nil, n)) }

// appendU stands apart from PutU so that a list of any length is laid in one buffer.
func appendU(b []byte, n int) []byte {
	if n < 0 {
		return b
	}
	for n > 127 {
		b = append(b, byte(n&127)|128)
		n >>= 7
	}
	return append(b, byte(n))
}

// PutS lays any number.
func PutS(n int) string {
	var b []byte
	// From -64 to 63 all that is left are copies of bit 6.
	for n < -64 || n > 63 {
		b = append(b, byte(n&127)|128)
		n >>= 7
	}
	return string(append(b, byte(n&127)))
}

// TakeU takes a number from 0 to 2^32 - 1, and tells what is behind it.
func TakeU(s string) (int, string, api.Errno) {
	n, used := takeSevens(s, 5)
	if used == 0 || n > greatest {
		return 0, "", api.ErrForm
	}
	return n, s[used:], api.OK
}

// TakeS takes a number of so many bits, with a sign.
func TakeS(s string, bits int) (int, string, api.Errno) {
	if bits != 32 && bits != 33 && bits != 64 {
		return 0, "", api.ErrArg
	}
	n, used := takeSevens(s, (bits+6)/7)
	if used == 0 || !tenthFits(s, used) {
		return 0, "", api.ErrForm
	}
	n = withSign(n, used)
	if !fits(n, bits) {
		return 0, "", api.ErrForm
	}
	return n, s[used:], api.OK
}

// takeSevens takes bytes up to the first below 128, of so many at most: their bits, and how many bytes they are (0: there is no such byte).
func takeSevens(s string, most int) (int, int) {
	n, used := 0, 0
next:
	if used == most || used == len(s) {
		return 0, 0
	}
	c := s[used]
	n |= int(c&127) << (7 * used)
	used++
	if c >= 128 {
		goto next
	}
	return n, used
}

// tenthFits looks at the byte itself: of a tenth one all bits but the lowest are lost in 64.
func tenthFits(s string, used int) bool {
	return used < 10 || s[9] == 0 || s[9] == 127
}

// withSign makes the bits behind the last byte's bit 6 copies of it; behind ten bytes there are none.
func withSign(n, used int) int {
	free := max(0, 64-7*used)
	return n << free >> free
}

// fits tells whether a number has no more than so many bits, its sign among them.
func fits(n, bits int) bool {
	above := n >> (bits - 1)
	return above == 0 || above == -1
}

// PutBytes lays bytes: how many there are, and they.
func PutBytes(s string) string { return PutU(len(s)) + s }

// TakeBytes takes bytes.
func TakeBytes(s string) (string, string, api.Errno) {
	n, rest, e := TakeU(s)
	if e != api.OK || n > len(rest) {
		return "", "", api.ErrForm
	}
	return rest[:n], rest[n:], api.OK
}

// PutAll lays numbers from 0 on: how many there are, and they.
func PutAll(l ...int) string {
	b := appendU(nil, len(l))
	for _, n := range l {
		b = appendU(b, n)
	}
	return string(b)
}

// TakeAll takes numbers from 0 on, so many at most.
func TakeAll(s string, most int) ([]int, string, api.Errno) {
	count, rest, e := TakeU(s)
	if e != api.OK {
		return nil, "", e
	}
	if count > most {
		return nil, "", api.ErrFull
	}
	// No room is made ahead: a count may be told of far more numbers than there are.
	var l []int
	for range count {
		n, behind, e := TakeU(rest)
		if e != api.OK {
			return nil, "", e
		}
		l, rest = append(l, n), behind
	}
	return l, rest, api.OK
}
