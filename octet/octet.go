// Package octet is layer 1: see shared/doc/01-octet.md.
package octet

import "crossroads/api"

// Put returns b followed by n in many bytes, the highest byte first.
func Put(b []byte, n uint32, many int) ([]byte, api.Errno) {
	if !isWidth(many) {
		return nil, api.ErrArg
	}
	if !fits(n, many) {
		return nil, api.ErrLarge
	}
	// Appending to b itself could write beyond its length into the caller's memory.
	out := make([]byte, len(b), len(b)+many)
	copy(out, b)
	return appendNumber(out, n, many), api.OK
}

// Take returns the number in the first many bytes of b, and the remaining bytes.
func Take(b []byte, many int) (uint32, []byte, api.Errno) {
	if !isWidth(many) {
		return 0, nil, api.ErrArg
	}
	if len(b) < many {
		return 0, nil, api.ErrShort
	}
	return number(b[:many]), fresh(b[many:]), api.OK
}

// Cut returns the first n bytes of b, and the remaining bytes.
func Cut(b []byte, n int) ([]byte, []byte, api.Errno) {
	if n < 0 {
		return nil, nil, api.ErrArg
	}
	if len(b) < n {
		return nil, nil, api.ErrShort
	}
	return fresh(b[:n]), fresh(b[n:]), api.OK
}

// Row returns the numbers of l one behind the other, each in many bytes.
func Row(l []uint32, many int) ([]byte, api.Errno) {
	if !isWidth(many) {
		return nil, api.ErrArg
	}
	// Put would copy all that stands before each number, so the numbers are appended in place.
	out := make([]byte, 0, len(l)*many)
	for _, n := range l {
		if !fits(n, many) {
			return nil, api.ErrLarge
		}
		out = appendNumber(out, n, many)
	}
	return out, api.OK
}

// Rows returns the numbers of many bytes each of which b consists.
func Rows(b []byte, many int) ([]uint32, api.Errno) {
	if !isWidth(many) {
		return nil, api.ErrArg
	}
	if len(b)%many != 0 {
		return nil, api.ErrShort
	}
	out := make([]uint32, 0, len(b)/many)
	for i := 0; i < len(b); i += many {
		out = append(out, number(b[i:i+many]))
	}
	return out, api.OK
}

// isWidth tells whether a number may be many bytes long.
func isWidth(many int) bool {
	return many >= 1 && many <= 4
}

// fits tells whether n can be written in many bytes; many must be a width.
func fits(n uint32, many int) bool {
	return n>>(8*many) == 0
}

// appendNumber appends n in many bytes to b, in the memory of b if there is room.
func appendNumber(b []byte, n uint32, many int) []byte {
	for i := many - 1; i >= 0; i-- {
		b = append(b, byte(n>>(8*i)))
	}
	return b
}

// number is what all the bytes of b say, the highest byte first.
func number(b []byte) uint32 {
	var n uint32
	for _, x := range b {
		n = n<<8 | uint32(x)
	}
	return n
}

// fresh returns the bytes of b in memory of their own.
func fresh(b []byte) []byte {
	out := make([]byte, len(b))
	copy(out, b)
	return out
}
