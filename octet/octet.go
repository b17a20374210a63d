// Package octet is layer 1: see shared/doc/01-octet.md.
package octet

import (
	"math"
	"unicode/utf8"

	"roost/api"
)

const (
	groupBits = 7
	more      = 1 << groupBits // added to each group but the last

	lastByte = 9 // where the tenth byte of a number stands: 63 bits are below it
	lastMost = 1

	floatSize = 8
	nanForm   = 0x7ff8000000000000
)

// PutUint writes a number behind bytes.
func PutUint(b []byte, n uint64) []byte { return behind(b, numberForm(n)) }

// Uint reads one.
func Uint(b []byte) (n uint64, rest []byte, e api.Errno) {
	n, size, e := number(b)
	if e != api.OK {
		return 0, nil, e
	}
	return n, behind(b[size:]), api.OK
}

// PutInt writes a number with a sign.
func PutInt(b []byte, n int) []byte { return behind(b, numberForm(folded(n))) }

// Int reads one.
func Int(b []byte) (n int, rest []byte, e api.Errno) {
	u, size, e := number(b)
	if e != api.OK {
		return 0, nil, e
	}
	return unfolded(u), behind(b[size:]), api.OK
}

// PutFloat writes a float.
func PutFloat(b []byte, f float64) []byte { return behind(b, floatForm(f)) }

// Float reads one.
func Float(b []byte) (f float64, rest []byte, e api.Errno) {
	if len(b) < floatSize {
		return 0, nil, api.ErrForm
	}
	var bits uint64
	for _, c := range b[:floatSize] {
		bits = bits<<8 | uint64(c)
	}
	f = math.Float64frombits(bits)
	if math.IsNaN(f) && bits != nanForm {
		return 0, nil, api.ErrForm
	}
	return f, behind(b[floatSize:]), api.OK
}

// PutText writes a text.
func PutText(b []byte, s string) []byte {
	return behind(b, numberForm(uint64(len(s))), []byte(s))
}

// Text reads one.
func Text(b []byte, most int) (s string, rest []byte, e api.Errno) {
	n, size, e := number(b)
	if e != api.OK {
		return "", nil, e
	}
	if n > uint64(max(most, 0)) {
		return "", nil, api.ErrBig
	}
	left := b[size:]
	if n > uint64(len(left)) {
		return "", nil, api.ErrForm
	}
	if !utf8.Valid(left[:n]) {
		return "", nil, api.ErrName
	}
	return string(left[:n]), behind(left[n:]), api.OK
}

// Order tells how two floats stand to each other.
func Order(a, b float64) int {
	switch {
	case math.IsNaN(a) || math.IsNaN(b):
		return held(math.IsNaN(a), math.IsNaN(b))
	case a < b:
		return -1
	case a > b:
		return 1
	}
	// Only 0 and -0 are neither less nor more and yet two.
	return held(math.Signbit(b), math.Signbit(a))
}

// behind is the one place where bytes are laid: always in new memory, with no room to spare that two answers could share.
func behind(b []byte, forms ...[]byte) []byte {
	size := len(b)
	for _, form := range forms {
		size += len(form)
	}
	out := make([]byte, 0, size)
	out = append(out, b...)
	for _, form := range forms {
		out = append(out, form...)
	}
	return out
}

func numberForm(n uint64) []byte {
	var form []byte
	for n >= more {
		form = append(form, byte(n%more)+more)
		n >>= groupBits
	}
	return append(form, byte(n))
}

// number tells the number at the beginning of b, and how many bytes its form has.
func number(b []byte) (n uint64, size int, e api.Errno) {
	for i, c := range b {
		if i == lastByte && c > lastMost {
			return 0, 0, api.ErrRange
		}
		n |= uint64(c%more) << (groupBits * i)
		if c >= more {
			continue
		}
		if c == 0 && i > 0 {
			return 0, 0, api.ErrForm
		}
		return n, i + 1, api.OK
	}
	return 0, 0, api.ErrForm
}

// folded lays the numbers below 0 between the others; ^n, which is -n - 1, has no number for which it overflows.
func folded(n int) uint64 {
	if n < 0 {
		return uint64(^n)<<1 + 1
	}
	return uint64(n) << 1
}

func unfolded(u uint64) int {
	if u%2 == 1 {
		return ^int(u >> 1)
	}
	return int(u >> 1)
}

func floatForm(f float64) []byte {
	bits := math.Float64bits(f)
	if math.IsNaN(f) {
		bits = nanForm
	}
	form := make([]byte, floatSize)
	for i := range form {
		form[i] = byte(bits >> (8 * (floatSize - 1 - i)))
	}
	return form
}

// held tells how a stands to b, where false comes ahead of true.
func held(a, b bool) int {
	switch {
	case a == b:
		return 0
	case b:
		return -1
	}
	return 1
}
