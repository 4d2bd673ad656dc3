package lsa_test

import (
	"bytes"
	"math"
	"slices"
	"testing"

	"crossroads/api"
	"crossroads/lsa"
)

const (
	mostBody = 1380 // how many bytes a body has at most
	most     = 1400 // how many bytes an encoding has at most
	maxAge   = 3600 // the greatest Age
)

// numbers are 32-bit numbers that differ in each of their bytes, or lie at a bound.
var numbers = []uint32{0, 1, 255, 256, 65535, 65536, 0x01020304, 0x7ffffffe, 0x7fffffff, 0x80000000, 0x80000001, 0xfffefdfc, math.MaxUint32}

// far are numbers that are in no field of a valid header, most of them with a valid one in their lowest 8, 16 or 32 bits.
var far = []int{math.MinInt, math.MinInt + 1, math.MinInt + 20, -1 << 32, 1 - 1<<32, 20 - 1<<32, -65536, -65535, 20 - 65536, -256, -255, -20, -2, -1, 65536, 65537, 65536 + 20, 65536 + 255, 1 << 20, 1 << 31, 1<<32 - 1, 1 << 32, 1<<32 + 1, 1<<32 + 20, math.MaxInt - 1, math.MaxInt}

// types are the valid Types.
var types = []int{1, 2, 3, 4, 5, 7}

// drawer returns a source of numbers from 0 to below-1 that is the same for the same seed.
func drawer(seed uint64) func(below int) int {
	return func(below int) int {
		seed = seed*6364136223846793005 + 1442695040888963407
		return int(seed>>33) % below
	}
}

// drawNumber returns a 32-bit number, in some draws a small one or one at a bound.
func drawNumber(draw func(int) int) uint32 {
	if draw(4) == 0 {
		return numbers[draw(len(numbers))]
	}
	return (uint32(draw(1<<16))<<16 | uint32(draw(1<<16))) >> draw(32)
}

// drawBytes returns n bytes, in some draws with many that are 0 or 255.
func drawBytes(draw func(int) int, n int) []byte {
	plain := draw(2) == 0
	out := make([]byte, n)
	for i := range out {
		out[i] = byte(draw(256))
		if !plain && draw(2) == 0 {
			out[i] = byte(255 * draw(2))
		}
	}
	return out
}

// drawAge returns an Age from 0 to 3600, often one at a bound.
func drawAge(draw func(int) int) int {
	switch draw(6) {
	case 0:
		return maxAge
	case 1:
		return []int{0, 1, 899, 900, 901, 2699, 2700, 2701, 3599}[draw(9)]
	}
	return draw(maxAge + 1)
}

// drawHeader returns a valid header.
func drawHeader(draw func(int) int) api.Header {
	return api.Header{
		Age:     drawAge(draw),
		Options: draw(256) >> draw(9),
		Type:    types[draw(len(types))],
		ID:      drawNumber(draw),
		Adv:     drawNumber(draw),
		Seq:     drawNumber(draw),
		Sum:     draw(65536) >> draw(17),
		Long:    20 + draw(mostBody+1)>>draw(12),
	}
}

// drawLong returns how many bytes a body has: seldom many, and often enough the most.
func drawLong(draw func(int) int) int {
	switch draw(24) {
	case 0:
		return mostBody - draw(3)
	case 1:
		return draw(mostBody)
	case 2:
		return 0
	}
	return draw(60)
}

// drawAd returns an advertisement that can be sealed; what is in Sum and Long is seldom right.
func drawAd(draw func(int) int) api.Ad {
	h := drawHeader(draw)
	if draw(4) == 0 {
		h.Sum, h.Long = far[draw(len(far))], far[draw(len(far))]
	}
	return api.Ad{H: h, B: drawBytes(draw, drawLong(draw))}
}

func four(n uint32) []byte {
	return []byte{byte(n >> 24), byte(n >> 16), byte(n >> 8), byte(n)}
}

// valid goes by the words of the chapter.
func valid(h api.Header) bool {
	return h.Age >= 0 && h.Age <= 3600 && h.Options >= 0 && h.Options <= 255 &&
		slices.Contains(types, h.Type) && h.Sum >= 0 && h.Sum <= 65535 && h.Long >= 20 && h.Long <= 1400
}

// encodedHead goes by the words of the chapter.
func encodedHead(h api.Header) []byte {
	out := []byte{byte(h.Age / 256), byte(h.Age % 256), byte(h.Options), byte(h.Type)}
	for _, n := range []uint32{h.ID, h.Adv, h.Seq} {
		out = append(out, four(n)...)
	}
	return append(out, byte(h.Sum/256), byte(h.Sum%256), byte(h.Long/256), byte(h.Long%256))
}

func encoded(a api.Ad) []byte {
	return append(encodedHead(a.H), a.B...)
}

// fits is the Fletcher checksum of layer 2, with the second sum by the places of the bytes.
func fits(b []byte) bool {
	c0, c1 := 0, 0
	for i, x := range b {
		c0 += int(x)
		c1 += (len(b) - i) * int(x)
	}
	return c0%255 == 0 && c1%255 == 0
}

// summed returns the encoding b with the one checksum without a zero byte that is right, in place of the one it has: both sums are solved for the two bytes.
func summed(b []byte) []byte {
	out := slices.Clone(b)
	out[16], out[17] = 0, 0
	c0, c1 := 0, 0
	for i := 2; i < len(out); i++ {
		c0 += int(out[i])
		c1 += (len(out) - i) * int(out[i])
	}
	// The first byte x counts n times in the second sum, the second one y n-1 times: x + y = -c0 and n*x + (n-1)*y = -c1.
	n := len(out) - 16
	x := (n-1)*c0 - c1
	y := -c0 - x
	out[16], out[17] = nonzero(x), nonzero(y)
	return out
}

// nonzero returns the byte from 1 to 255 that is n modulo 255.
func nonzero(n int) byte {
	return byte(((n-1)%255+255)%255 + 1)
}

// sealed returns the advertisement that Seal should return for a.
func sealed(a api.Ad) api.Ad {
	a.B = slices.Clone(a.B)
	a.H.Long, a.H.Sum = 20+len(a.B), 0
	b := summed(encoded(a))
	a.H.Sum = int(b[16])*256 + int(b[17])
	return a
}

// sample returns an intact advertisement with a body of n bytes.
func sample(n int) api.Ad {
	h := api.Header{Age: 0x0102, Options: 0x22, Type: 1, ID: 0x0a0b0c0d, Adv: 0x11121314, Seq: 0x80000001}
	return sealed(api.Ad{H: h, B: filled(n)})
}

// filled returns n bytes that differ from their neighbors.
func filled(n int) []byte {
	out := make([]byte, n)
	for i := range out {
		out[i] = byte(i*7 + i/256 + 1)
	}
	return out
}

// with returns b with one byte replaced.
func with(b []byte, at int, x byte) []byte {
	out := slices.Clone(b)
	out[at] = x
	return out
}

// with16 returns b with the two bytes from offset at on replaced.
func with16(b []byte, at int, n int) []byte {
	return with(with(b, at, byte(n>>8)), at+1, byte(n))
}

// same tells whether two advertisements are equal; a body of nil and an empty one are.
func same(a, b api.Ad) bool {
	return a.H == b.H && bytes.Equal(a.B, b.B)
}

func mustSeal(t *testing.T, a api.Ad) api.Ad {
	t.Helper()
	s, e := lsa.Seal(a)
	if e != api.OK {
		t.Fatalf("Seal of %v: error %d", a, e)
	}
	return s
}

func mustEncode(t *testing.T, a api.Ad) []byte {
	t.Helper()
	b, e := lsa.Encode(a)
	if e != api.OK {
		t.Fatalf("Encode of %v: error %d", a, e)
	}
	return b
}

// K1: May, and ErrArg of Head for all that is not valid.

// mayBe fails if h is valid and should not be, or the other way round, or if Head, Encode or ReadHead does otherwise.
func mayBe(t *testing.T, h api.Header, want bool) {
	t.Helper()
	if lsa.May(h) != want {
		t.Errorf("May of %v: %t", h, !want)
	}
	b, e := lsa.Head(h)
	if want && (e != api.OK || !bytes.Equal(b, encodedHead(h))) {
		t.Errorf("Head of %v: %x, error %d", h, b, e)
	}
	if !want && (e != api.ErrArg || len(b) > 0) {
		t.Errorf("Head of %v: %x, error %d", h, b, e)
	}
	if want {
		if k, rest, e := lsa.ReadHead(b); k != h || len(rest) > 0 || e != api.OK {
			t.Errorf("ReadHead of Head of %v: %v, %x, error %d", h, k, rest, e)
		}
		return
	}
	// The body has the length that Long says, where there can be one.
	if h.Long >= 20 && h.Long <= 1<<17 {
		refuseAd(t, api.Ad{H: h, B: make([]byte, h.Long-20)})
	}
	refuseAd(t, api.Ad{H: h})
	refuseAd(t, api.Ad{H: h, B: filled(9)})
}

// refuseAd fails if Encode or Whole takes an advertisement that is not valid.
func refuseAd(t *testing.T, a api.Ad) {
	t.Helper()
	if b, e := lsa.Encode(a); e != api.ErrArg || len(b) > 0 {
		t.Errorf("Encode of %v with %d bytes: %x, error %d", a.H, len(a.B), b, e)
	}
	if lsa.Whole(a) {
		t.Errorf("Whole of %v with %d bytes", a.H, len(a.B))
	}
}

// Each bound alone and with each bound of the others.
func TestMay(t *testing.T) {
	ages := map[int]bool{-1: false, 0: true, 1: true, 3599: true, 3600: true, 3601: false}
	options := map[int]bool{-1: false, 0: true, 255: true, 256: false}
	kinds := map[int]bool{-1: false, 0: false, 1: true, 2: true, 3: true, 4: true, 5: true, 6: false, 7: true, 8: false}
	sums := map[int]bool{-1: false, 0: true, 65535: true, 65536: false}
	longs := map[int]bool{-1: false, 0: false, 19: false, 20: true, 21: true, 1399: true, 1400: true, 1401: false}
	for age, a := range ages {
		for option, b := range options {
			for kind, c := range kinds {
				for check, d := range sums {
					for long, f := range longs {
						h := api.Header{Age: age, Options: option, Type: kind, Sum: check, Long: long}
						mayBe(t, h, a && b && c && d && f)
					}
				}
			}
		}
	}
}

func TestMayWithinTheBounds(t *testing.T) {
	for n := -70; n < 66000; n++ {
		h := api.Header{Type: 1, Long: 20}
		g := h
		g.Age = n
		mayBe(t, g, n >= 0 && n <= 3600)
		g = h
		g.Sum = n
		mayBe(t, g, n >= 0 && n <= 65535)
		g = h
		g.Long = n
		mayBe(t, g, n >= 20 && n <= 1400)
	}
	for n := -300; n < 600; n++ {
		mayBe(t, api.Header{Options: n, Type: 7, Long: 30}, n >= 0 && n <= 255)
		mayBe(t, api.Header{Type: n, Long: 30}, n >= 1 && n <= 5 || n == 7)
	}
}

func TestMayFarBeyond(t *testing.T) {
	for _, n := range far {
		mayBe(t, api.Header{Age: n, Type: 1, Long: 20}, false)
		mayBe(t, api.Header{Options: n, Type: 1, Long: 20}, false)
		mayBe(t, api.Header{Type: n, Long: 20}, false)
		mayBe(t, api.Header{Type: 1, Sum: n, Long: 20}, false)
		mayBe(t, api.Header{Type: 1, Long: n}, false)
		mayBe(t, api.Header{Age: n, Options: n, Type: n, Sum: n, Long: n}, false)
	}
	mayBe(t, api.Header{}, false)
}

// What is in the other fields does not make a header invalid.
func TestMayWithAnyNumbers(t *testing.T) {
	for _, n := range numbers {
		for _, kind := range types {
			mayBe(t, api.Header{Type: kind, ID: n, Long: 20}, true)
			mayBe(t, api.Header{Type: kind, Adv: n, Long: 20}, true)
			mayBe(t, api.Header{Type: kind, Seq: n, Long: 20}, true)
			mayBe(t, api.Header{Type: kind, ID: n, Adv: n, Seq: n, Long: 20}, true)
			mayBe(t, api.Header{Type: 6, ID: n, Adv: n, Seq: n, Long: 20}, false)
		}
	}
}

// K1: Head, ReadHead and Encode, byte for byte.

func TestHeadAndEncode(t *testing.T) {
	table := []struct {
		h    api.Header
		want []byte
	}{
		{api.Header{Type: 1, Long: 20}, []byte{0, 0, 0, 1, 0, 0, 0, 0, 0, 0, 0, 0, 0, 0, 0, 0, 0, 0, 0, 20}},
		{
			api.Header{Age: 0x0102, Options: 3, Type: 4, ID: 0x05060708, Adv: 0x090a0b0c, Seq: 0x0d0e0f10, Sum: 0x1112, Long: 0x0314},
			[]byte{1, 2, 3, 4, 5, 6, 7, 8, 9, 10, 11, 12, 13, 14, 15, 16, 17, 18, 3, 20},
		},
		{
			api.Header{Age: 3600, Options: 255, Type: 7, ID: math.MaxUint32, Adv: math.MaxUint32, Seq: math.MaxUint32, Sum: 65535, Long: 1400},
			[]byte{14, 16, 255, 7, 255, 255, 255, 255, 255, 255, 255, 255, 255, 255, 255, 255, 255, 255, 5, 120},
		},
		{
			api.Header{Age: 256, Options: 2, Type: 5, ID: 1 << 31, Adv: 1 << 24, Seq: 0x80000001, Sum: 256, Long: 256},
			[]byte{1, 0, 2, 5, 128, 0, 0, 0, 1, 0, 0, 0, 128, 0, 0, 1, 1, 0, 1, 0},
		},
	}
	for _, x := range table {
		if b, e := lsa.Head(x.h); e != api.OK || !bytes.Equal(b, x.want) {
			t.Errorf("Head of %v: %x, error %d, want %x", x.h, b, e, x.want)
		}
		if h, rest, e := lsa.ReadHead(x.want); e != api.OK || h != x.h || len(rest) > 0 {
			t.Errorf("ReadHead of %x: %v, %x, error %d, want %v", x.want, h, rest, e, x.h)
		}
		body := filled(x.h.Long - 20)
		if b := mustEncode(t, api.Ad{H: x.h, B: body}); !bytes.Equal(b, append(slices.Clone(x.want), body...)) {
			t.Errorf("Encode of %v: %x", x.h, b)
		}
	}
}

// setBit returns h with this bit of its field set; bit 0 is the lowest one.
func setBit(h api.Header, field, bit int) api.Header {
	one := 1 << bit
	switch field {
	case 0:
		h.Age |= one
	case 1:
		h.Options |= one
	case 2:
		h.Type |= one
	case 3:
		h.ID |= uint32(one)
	case 4:
		h.Adv |= uint32(one)
	case 5:
		h.Seq |= uint32(one)
	case 6:
		h.Sum |= one
	default:
		h.Long |= one
	}
	return h
}

// Each bit of each field has a place of its own, and ReadHead finds it there.
func TestEveryBit(t *testing.T) {
	base := api.Header{Type: 1, Long: 20}
	at, taken := 0, 0
	for field, wide := range []int{2, 1, 1, 4, 4, 4, 2, 2} {
		for bit := range 8 * wide {
			h := setBit(base, field, bit)
			want := encodedHead(base)
			want[at+wide-1-bit/8] |= 1 << (bit % 8)
			mayBe(t, h, valid(h))
			if !valid(h) {
				if k, rest, e := lsa.ReadHead(want); k != (api.Header{}) || len(rest) > 0 || e != api.ErrForm {
					t.Errorf("ReadHead of %x: %v, %x, error %d", want, k, rest, e)
				}
				continue
			}
			taken++
			if b, e := lsa.Head(h); e != api.OK || !bytes.Equal(b, want) {
				t.Errorf("field %d, bit %d: %x, error %d", field, bit, b, e)
			}
			if k, _, e := lsa.ReadHead(want); e != api.OK || k != h {
				t.Errorf("ReadHead of field %d, bit %d: %v, error %d", field, bit, k, e)
			}
		}
		at += wide
	}
	if at != 20 || taken < 8+32*3+16+12 {
		t.Errorf("%d bytes, %d bits", at, taken)
	}
}

func TestEveryLength(t *testing.T) {
	for n := 0; n <= mostBody; n++ {
		a := sample(n)
		b := mustEncode(t, a)
		if len(b) != 20+n || !bytes.Equal(b, encoded(a)) {
			t.Fatalf("Encode with %d bytes: %x", n, b)
		}
		k, rest, e := lsa.Decode(b)
		if e != api.OK || !same(a, k) || len(rest) > 0 {
			t.Fatalf("Decode with %d bytes: %v, %x, error %d", n, k, rest, e)
		}
		// Encode does not ask whether the Sum is right.
		a.H.Sum ^= 1
		if b := mustEncode(t, a); !bytes.Equal(b, encoded(a)) {
			t.Fatalf("Encode with %d bytes and another Sum: %x", n, b)
		}
	}
}

// A Long that is valid, but not that of the body.
func TestEncodeLong(t *testing.T) {
	for _, n := range []int{0, 1, 2, 19, 20, 21, 40, 235, 236, 256, 1000, 1379, mostBody} {
		for long := 0; long <= most+30; long++ {
			if long == 20+n {
				continue
			}
			a := sample(n)
			a.H.Long = long
			refuseAd(t, a)
		}
		for _, long := range far {
			a := sample(n)
			a.H.Long = long
			refuseAd(t, a)
		}
		for _, more := range []int{256, 65536, 1 << 32, -65536, -1 << 32} {
			a := sample(n)
			a.H.Long += more
			refuseAd(t, a)
		}
	}
	for _, n := range []int{1381, 1382, 1400, 1401, 65516, 65536, 65556} {
		for _, long := range []int{20, 1400, n, 20 + n, (20 + n) % 65536} {
			a := api.Ad{H: sample(0).H, B: make([]byte, n)}
			a.H.Long = long
			refuseAd(t, a)
		}
	}
}

// K1: ReadHead and Decode, each of their errors.

// refuseHead fails if ReadHead does not return this error, or something beside it (R3).
func refuseHead(t *testing.T, what string, b []byte, want api.Errno) {
	t.Helper()
	h, rest, e := lsa.ReadHead(b)
	if e != want || h != (api.Header{}) || len(rest) > 0 {
		t.Errorf("ReadHead of %s: %v, %x, error %d, want %d", what, h, rest, e, want)
	}
}

// refuse fails if Decode does not return this error, or something beside it (R3).
func refuse(t *testing.T, what string, b []byte, want api.Errno) {
	t.Helper()
	a, rest, e := lsa.Decode(b)
	if e != want || !same(a, api.Ad{}) || len(rest) > 0 {
		t.Errorf("Decode of %s: %v, %x, error %d, want %d", what, a, rest, e, want)
	}
}

// accept fails if Decode does not return this advertisement with these bytes behind it.
func accept(t *testing.T, what string, b []byte, want api.Ad, behind []byte) {
	t.Helper()
	a, rest, e := lsa.Decode(b)
	if e != api.OK || !same(a, want) || !bytes.Equal(rest, behind) {
		t.Errorf("Decode of %s: %v, %x, error %d, want %v, %x", what, a, rest, e, want, behind)
	}
}

func TestShortHead(t *testing.T) {
	refuseHead(t, "nil", nil, api.ErrShort)
	refuse(t, "nil", nil, api.ErrShort)
	b := encoded(sample(5))
	bad := with(b, 3, 6)
	for n := 0; n <= 19; n++ {
		for _, x := range [][]byte{b[:n], bad[:n], make([]byte, n), filled(n), bytes.Repeat([]byte{255}, n)} {
			refuseHead(t, "a part of a header", x, api.ErrShort)
			refuse(t, "a part of a header", x, api.ErrShort)
		}
	}
}

// Every value of every field of two bytes and of one.
func TestForm(t *testing.T) {
	for _, n := range []int{0, 1, 50} {
		a := sample(n)
		b := append(encoded(a), 9, 8, 7)
		for v := range 1 << 16 {
			aged := a
			aged.H.Age = v
			if v <= maxAge {
				accept(t, "another Age", with16(b, 0, v), aged, []byte{9, 8, 7})
				continue
			}
			refuse(t, "a wrong Age", with16(b, 0, v), api.ErrForm)
			refuseHead(t, "a wrong Age", with16(b, 0, v), api.ErrForm)
		}
		for v := range 256 {
			c := append(summed(with(b[:20+n], 3, byte(v))), 9, 8, 7)
			if v >= 1 && v <= 5 || v == 7 {
				typed := a
				typed.H.Type, typed.H.Sum = v, int(c[16])*256+int(c[17])
				accept(t, "another Type", c, typed, []byte{9, 8, 7})
				continue
			}
			refuse(t, "a wrong Type", c, api.ErrForm)
			refuseHead(t, "a wrong Type", c, api.ErrForm)
		}
		for v := range 256 {
			c := append(summed(with(b[:20+n], 2, byte(v))), 9)
			optional := a
			optional.H.Options, optional.H.Sum = v, int(c[16])*256+int(c[17])
			accept(t, "other Options", c, optional, []byte{9})
		}
	}
}

// Every Long there can be, in fewer bytes, in as many, and in more.
func TestLong(t *testing.T) {
	memory := append(encoded(sample(40)), filled(3000)...)
	for long := range 1 << 16 {
		b := with16(memory, 18, long)
		if long < 20 || long > most {
			refuseHead(t, "a wrong Long", b, api.ErrForm)
			refuse(t, "a wrong Long", b, api.ErrForm)
			refuse(t, "a wrong Long", b[:20], api.ErrForm)
			if long < 20 {
				refuse(t, "a wrong Long", summed(b[:20]), api.ErrForm)
			}
			continue
		}
		h, rest, e := lsa.ReadHead(b)
		if e != api.OK || h.Long != long || !bytes.Equal(rest, b[20:]) {
			t.Errorf("ReadHead with Long %d: %v, error %d", long, h, e)
		}
		c := summed(b[:long])
		want := api.Ad{H: h, B: b[20:long]}
		want.H.Sum = int(c[16])*256 + int(c[17])
		accept(t, "no byte too many", c, want, nil)
		accept(t, "one byte more", append(slices.Clone(c), 5), want, []byte{5})
		if long > 20 {
			refuse(t, "one byte less", c[:long-1], api.ErrShort)
			refuse(t, "the header alone", c[:20], api.ErrShort)
		}
	}
}

// Every length below Long, with a right checksum, a wrong one, and one that would be right for what is there.
func TestDecodeShort(t *testing.T) {
	for _, n := range []int{1, 2, 5, 100, mostBody} {
		b := encoded(sample(n))
		for k := 20; k < 20+n; k++ {
			refuse(t, "a part of a body", b[:k], api.ErrShort)
			refuse(t, "a part of a body with a wrong checksum", with(b, 17, b[17]^1)[:k], api.ErrShort)
			refuse(t, "a part of a body with its own checksum", summed(b[:k]), api.ErrShort)
			// The header is whole, and that is all ReadHead asks for.
			if h, rest, e := lsa.ReadHead(b[:k]); e != api.OK || h != sample(n).H || !bytes.Equal(rest, b[20:k]) {
				t.Errorf("ReadHead of %d bytes: %v, %x, error %d", k, h, rest, e)
			}
		}
	}
}

// All checksums but those that Fits accepts are wrong; a 0 in place of 255 is accepted there.
func TestDecodeSum(t *testing.T) {
	for _, n := range []int{0, 1, 30} {
		a := sample(n)
		b := encoded(a)
		right := 0
		for c := range 1 << 16 {
			x := append(with16(b, 16, c), 3)
			summed := a
			summed.H.Sum = c
			if lsa.Whole(summed) != fits(x[2:20+n]) {
				t.Fatalf("Whole with %d bytes and Sum %x: %t", n, c, !fits(x[2:20+n]))
			}
			if !fits(x[2 : 20+n]) {
				refuse(t, "a wrong checksum", x, api.ErrSum)
				continue
			}
			right++
			accept(t, "a right checksum", x, summed, []byte{3})
		}
		if right < 1 || right > 4 {
			t.Errorf("%d bytes: %d checksums are right", n, right)
		}
	}
}

// One other byte spoils what is decoded, unless it is of the Age, or 0 in place of 255 or the other way round.
func TestDecodeOneOtherByte(t *testing.T) {
	for _, n := range []int{0, 1, 7, 40} {
		b := encoded(sample(n))
		for at := 2; at < len(b); at++ {
			for x := range 256 {
				if byte(x) == b[at] {
					continue
				}
				c := append(with(b, at, byte(x)), make([]byte, 3000)...)
				if want := judged(c); want != api.OK {
					refuse(t, "one other byte", c, want)
				} else if b[at]+byte(x) != 255 || x != 0 && x != 255 {
					t.Errorf("%d bytes: byte %d, %d in place of %d, spoils nothing", n, at, x, b[at])
				}
			}
		}
	}
}

// judged goes by the words of K1, one error after the other.
func judged(b []byte) api.Errno {
	if len(b) < 20 {
		return api.ErrShort
	}
	long := int(b[18])*256 + int(b[19])
	if int(b[0])*256+int(b[1]) > 3600 || !slices.Contains(types, int(b[3])) || long < 20 || long > 1400 {
		return api.ErrForm
	}
	if len(b) < long {
		return api.ErrShort
	}
	if !fits(b[2:long]) {
		return api.ErrSum
	}
	return api.OK
}

// R2: of the errors that apply, the one that K1 names first. Every set of faults is made.
func TestDecodeFirstError(t *testing.T) {
	seen := map[api.Errno]int{}
	for faults := range 1 << 6 {
		age, kind, long := faults&1 != 0, faults&2 != 0, faults&4 != 0
		cut, wrong, short := faults&8 != 0, faults&16 != 0, faults&32 != 0
		b := encoded(sample(9))
		want := api.OK
		first := func(applies bool, e api.Errno) {
			if applies && want == api.OK {
				want = e
			}
		}
		if age {
			b = with16(b, 0, 3601)
		}
		if kind {
			b = with(b, 3, 6)
		}
		if long {
			b = with16(b, 18, 1401)
		}
		b = summed(b)
		if wrong {
			b = with(b, 17, b[17]^1)
		}
		if cut {
			b = b[:28]
		}
		if short {
			b = b[:19]
		}
		first(short, api.ErrShort)
		first(age || kind || long, api.ErrForm)
		headWant := want
		first(cut, api.ErrShort)
		first(wrong, api.ErrSum)
		seen[want]++
		if want == api.OK {
			accept(t, "no fault", b, sample(9), nil)
		} else {
			refuse(t, "several faults", b, want)
		}
		if headWant != api.OK {
			refuseHead(t, "several faults", b, headWant)
		} else if _, _, e := lsa.ReadHead(b); e != api.OK {
			t.Errorf("ReadHead: error %d", e)
		}
	}
	for _, e := range []api.Errno{api.OK, api.ErrShort, api.ErrForm, api.ErrSum} {
		if seen[e] == 0 {
			t.Errorf("error %d did not come", e)
		}
	}
}

// spoiled returns an encoding with some faults and with bytes behind it, and often a right checksum nevertheless.
func spoiled(draw func(int) int) []byte {
	b := encoded(sealed(drawAd(draw)))
	for range draw(3) {
		at := draw(len(b))
		if draw(3) > 0 {
			at = draw(20)
		}
		b[at] = byte(draw(256) >> draw(8))
	}
	if draw(8) == 0 {
		b = with16(b, 18, draw(1500))
	}
	if draw(4) > 0 {
		b = summed(b)
	}
	if draw(4) == 0 {
		b = b[:draw(len(b))]
	}
	return append(b, drawBytes(draw, draw(20)*draw(3))...)
}

func TestDecodeByTheModel(t *testing.T) {
	draw := drawer(2)
	seen := map[api.Errno]int{}
	for range 20000 {
		b := spoiled(draw)
		was := slices.Clone(b)
		want := judged(b)
		seen[want]++
		if want != api.OK {
			refuse(t, "drawn bytes", b, want)
			continue
		}
		a, rest, e := lsa.Decode(b)
		if e != api.OK || !bytes.Equal(encoded(a), b[:a.H.Long]) || !bytes.Equal(rest, b[a.H.Long:]) || !lsa.Whole(a) {
			t.Fatalf("Decode of %x: %v, %x, error %d", b, a, rest, e)
		}
		if !bytes.Equal(b, was) {
			t.Fatalf("Decode changed %x to %x", was, b)
		}
	}
	for _, e := range []api.Errno{api.OK, api.ErrShort, api.ErrForm, api.ErrSum} {
		if seen[e] < 100 {
			t.Errorf("error %d came %d times", e, seen[e])
		}
	}
}

// Several advertisements one behind the other are taken off from the front.
func TestDecodeOneBehindTheOther(t *testing.T) {
	var b []byte
	for n := range 30 {
		b = append(b, encoded(sample(n))...)
	}
	for n := range 30 {
		a, rest, e := lsa.Decode(b)
		if e != api.OK || !same(a, sample(n)) || !bytes.Equal(rest, b[20+n:]) {
			t.Fatalf("number %d: %v, error %d", n, a, e)
		}
		b = rest
	}
	refuse(t, "nothing that remains", b, api.ErrShort)
}

// R4: what was passed stays as it was, the memory behind it too, and answers have memory of their own.

func TestDecodeLeavesItsArgument(t *testing.T) {
	for _, n := range []int{0, 1, 8, 100, mostBody} {
		for _, more := range []int{0, 1, 20, 200} {
			memory := slices.Concat(encoded(sample(n)), filled(more), bytes.Repeat([]byte{0x77}, 50))
			was := slices.Clone(memory)
			b := memory[:20+n+more]
			h, behind, e := lsa.ReadHead(b)
			a, rest, f := lsa.Decode(b)
			if e != api.OK || f != api.OK || !bytes.Equal(behind, was[20:20+n+more]) || !bytes.Equal(rest, was[20+n:20+n+more]) {
				t.Fatalf("%d bytes: %x, error %d, %x, error %d", n, behind, e, rest, f)
			}
			for _, x := range [][]byte{behind[:cap(behind)], rest[:cap(rest)]} {
				clear(x)
				if !bytes.Equal(memory, was) || h != sample(n).H || !same(a, sample(n)) {
					t.Fatalf("%d bytes, %d behind: an answer shares memory", n, more)
				}
			}
			clear(a.B[:cap(a.B)])
			if !bytes.Equal(memory, was) {
				t.Fatalf("%d bytes, %d behind: the body shares memory", n, more)
			}
			// The other way round.
			a, rest, _ = lsa.Decode(b)
			_, behind, _ = lsa.ReadHead(b)
			clear(memory)
			if !same(a, sample(n)) || !bytes.Equal(rest, was[20+n:20+n+more]) || !bytes.Equal(behind, was[20:20+n+more]) {
				t.Fatalf("%d bytes, %d behind: a later change is seen", n, more)
			}
		}
	}
}

// The spare memory of what is decoded is that of nothing else, and holds nothing of the bytes.
func TestDecodedSpareMemory(t *testing.T) {
	for n := range 40 {
		b := append(encoded(sample(n)), bytes.Repeat([]byte{0x77}, 40)...)
		a, rest, _ := lsa.Decode(b)
		_, behind, _ := lsa.ReadHead(b)
		keptBody, keptRest, keptBehind := slices.Clone(a.B), slices.Clone(rest), slices.Clone(behind)
		for _, x := range [][]byte{a.B, rest, behind} {
			spare := x[len(x):cap(x)]
			if bytes.IndexByte(spare, 0x77) >= 0 {
				t.Errorf("%d bytes: the spare memory holds %x", n, spare)
			}
			for i := range spare {
				spare[i] = 0x55
			}
		}
		if !bytes.Equal(a.B, keptBody) || !bytes.Equal(rest, keptRest) || !bytes.Equal(behind, keptBehind) {
			t.Errorf("%d bytes: two answers share memory", n)
		}
	}
}

// Encode, Seal, Whole and Older change neither the body nor the memory behind it, and share none with it.
func TestBodiesAreLeftAlone(t *testing.T) {
	for n := range 60 {
		a := sample(n)
		memory := slices.Concat(a.B, bytes.Repeat([]byte{0x77}, 50))
		was := slices.Clone(memory)
		a.B = memory[:n]
		lsa.Whole(a)
		b := mustEncode(t, a)
		s := mustSeal(t, a)
		o, p, q := lsa.Older(a, 5), lsa.Older(a, 0), lsa.Older(a, -5)
		for _, x := range [][]byte{b, s.B, o.B, p.B, q.B} {
			x = x[:cap(x)]
			for i := range x {
				x[i] = 0x55
			}
			if !bytes.Equal(memory, was) || !same(a, sample(n)) {
				t.Fatalf("%d bytes: an answer shares memory", n)
			}
		}
		// The other way round.
		b, s = mustEncode(t, a), mustSeal(t, a)
		o, p, q = lsa.Older(a, 5), lsa.Older(a, 0), lsa.Older(a, -5)
		clear(memory)
		if !bytes.Equal(b, encoded(sample(n))) || !same(s, sample(n)) {
			t.Fatalf("%d bytes: a later change is seen", n)
		}
		for _, x := range []api.Ad{s, o, p, q} {
			if !bytes.Equal(x.B, was[:n]) || !lsa.Whole(x) {
				t.Fatalf("%d bytes: a later change is seen", n)
			}
		}
	}
}

// A body of nil and an empty one are equivalent.
func TestNilAndEmpty(t *testing.T) {
	for _, body := range [][]byte{nil, {}, make([]byte, 0, 9), filled(9)[9:]} {
		a := mustSeal(t, api.Ad{H: sample(0).H, B: body})
		if !same(a, sample(0)) || !lsa.Whole(a) || !lsa.Whole(api.Ad{H: a.H, B: body}) {
			t.Errorf("%v", a)
		}
		if b := mustEncode(t, api.Ad{H: a.H, B: body}); !bytes.Equal(b, encoded(sample(0))) {
			t.Errorf("Encode: %x", b)
		}
		if o := lsa.Older(api.Ad{H: a.H, B: body}, 1); len(o.B) > 0 || o.H.Age != a.H.Age+1 {
			t.Errorf("Older: %v", o)
		}
	}
}

// K2: Seal.

func TestSeal(t *testing.T) {
	for _, n := range []int{0, 1, 2, 10, 255, 1379, 1380} {
		for _, kind := range types {
			for _, body := range [][]byte{make([]byte, n), filled(n), bytes.Repeat([]byte{255}, n)} {
				a := api.Ad{H: api.Header{Age: 7, Options: 2, Type: kind, ID: 1, Adv: 2, Seq: 3}, B: body}
				s := mustSeal(t, a)
				if s.H.Long != 20+n || !same(s, sealed(a)) || !lsa.Whole(s) || !fits(encoded(s)[2:]) {
					t.Errorf("Seal with %d bytes: %v, want %v", n, s.H, sealed(a).H)
				}
				if s.H.Sum%256 == 0 || s.H.Sum < 256 {
					t.Errorf("Seal with %d bytes: Sum %x has a zero byte", n, s.H.Sum)
				}
			}
		}
	}
}

// The Sum of a header that is written out: 0 but for Type 1, Long 20.
func TestSealByHand(t *testing.T) {
	// Behind the Age there are 18 bytes, 1 (times 17 in the second sum) and 20 (times 1): c0 = 21 and c1 = 37. With x times 4 and
	// y times 3 in the second sum, x + y = -21 and 4x + 3y = -37, so x = -37 + 63 = 26 and y = -47, which is 208 modulo 255.
	s := mustSeal(t, api.Ad{H: api.Header{Type: 1}})
	if s.H != (api.Header{Type: 1, Sum: 26*256 + 208, Long: 20}) || len(s.B) > 0 {
		t.Errorf("%v", s)
	}
	// With the Age nothing changes.
	s = mustSeal(t, api.Ad{H: api.Header{Age: 3600, Type: 1}})
	if s.H != (api.Header{Age: 3600, Type: 1, Sum: 26*256 + 208, Long: 20}) {
		t.Errorf("%v", s)
	}
}

// Whatever is in Sum and Long is replaced.
func TestSealReplaces(t *testing.T) {
	for _, n := range []int{0, 1, 50, mostBody} {
		want := sample(n)
		for _, x := range append([]int{0, 1, 19, 20, 21, 255, 1400, 1401, 65535}, far...) {
			for _, y := range append([]int{0, 20, 65535}, far...) {
				a := sample(n)
				a.H.Sum, a.H.Long = x, y
				if s := mustSeal(t, a); !same(s, want) {
					t.Fatalf("Seal with %d bytes, Sum %d and Long %d: %v, want %v", n, x, y, s.H, want.H)
				}
			}
		}
		if s := mustSeal(t, want); !same(s, want) {
			t.Errorf("Seal of what is sealed: %v", s.H)
		}
	}
}

// notSealed fails if Seal takes a, or returns something beside the error (R3).
func notSealed(t *testing.T, a api.Ad) {
	t.Helper()
	if s, e := lsa.Seal(a); e != api.ErrArg || !same(s, api.Ad{}) {
		t.Errorf("Seal of %v with %d bytes: %v, error %d", a.H, len(a.B), s.H, e)
	}
}

func TestSealRefuses(t *testing.T) {
	for _, n := range []int{1381, 1382, 1400, 1500, 4000, 4020, 4021, 65516, 65536, 65556, 1 << 20} {
		for _, long := range []int{0, 20, 1400, n, n + 20} {
			a := api.Ad{H: sample(0).H, B: make([]byte, n)}
			a.H.Long = long
			notSealed(t, a)
		}
	}
	for _, n := range []int{0, 1, mostBody, mostBody + 1} {
		for _, x := range append([]int{-1, 3601, 65535}, far...) {
			a := sample(n)
			a.H.Age = x
			notSealed(t, a)
		}
		for _, x := range append([]int{-1, 256}, far...) {
			a := sample(n)
			a.H.Options = x
			notSealed(t, a)
		}
		for _, x := range append([]int{-1, 0, 6, 8, 255, 256}, far...) {
			a := sample(n)
			a.H.Type = x
			notSealed(t, a)
		}
	}
	notSealed(t, api.Ad{})
}

// K2: Whole.

func TestWholeOfOneOtherByte(t *testing.T) {
	for _, n := range []int{0, 1, 7, 40} {
		a := sample(n)
		if !lsa.Whole(a) {
			t.Fatalf("%d bytes: not intact", n)
		}
		b := encoded(a)
		for at := range b {
			for x := range 256 {
				c := with(b, at, byte(x))
				spoilt := adOf(c)
				plain := x == int(b[at]) || x == 0 && b[at] == 255 || x == 255 && b[at] == 0
				// The Age is not in the checksum, but it must be valid; and so must Type and Long.
				want := valid(spoilt.H) && spoilt.H.Long == 20+n && (at < 2 || plain)
				if lsa.Whole(spoilt) != want {
					t.Fatalf("%d bytes: byte %d, %d in place of %d: Whole is %t", n, at, x, b[at], !want)
				}
			}
		}
	}
}

// adOf returns what the bytes say, valid or not.
func adOf(b []byte) api.Ad {
	n := func(from, to int) int {
		all := 0
		for _, x := range b[from:to] {
			all = all*256 + int(x)
		}
		return all
	}
	h := api.Header{Age: n(0, 2), Options: n(2, 3), Type: n(3, 4), ID: uint32(n(4, 8)), Adv: uint32(n(8, 12)), Seq: uint32(n(12, 16)), Sum: n(16, 18), Long: n(18, 20)}
	return api.Ad{H: h, B: b[20:]}
}

// A byte of a field that is changed so that the lowest bits stay as they were.
func TestWholeOfWhatIsNotValid(t *testing.T) {
	for _, n := range []int{0, 1, 40, mostBody} {
		for _, more := range []int{256, 65536, 1 << 32, -256, -65536, -1 << 32} {
			for field := range 5 {
				a := sample(n)
				switch field {
				case 0:
					a.H.Age += 16 * more
				case 1:
					a.H.Options += more
				case 2:
					a.H.Type += more
				case 3:
					a.H.Sum += 256 * more
				case 4:
					a.H.Long += more
				}
				refuseAd(t, a)
			}
		}
		a := sample(n)
		a.B = append(a.B, 0)
		refuseAd(t, a)
		if n > 0 {
			a.B = a.B[:n-1]
			refuseAd(t, a)
		}
	}
	// The checksum is right, but the body is too long, or the Type or the Age is not valid.
	refuseAd(t, sealed(api.Ad{H: sample(0).H, B: filled(mostBody + 1)}))
	for _, h := range []api.Header{{Type: 6}, {Type: 0}, {Type: 8}, {Type: 1, Age: 3601}, {Type: 1, Age: 65535}} {
		refuseAd(t, sealed(api.Ad{H: h, B: filled(4)}))
	}
}

// K2: Compare.

// compared fails unless a and b compare this way, and the other way round in the other order (P11.2).
func compared(t *testing.T, a, b api.Header, want int) {
	t.Helper()
	if n := lsa.Compare(a, b); n != want {
		t.Errorf("Compare of %v, %v: %d, want %d", a, b, n, want)
	}
	if n := lsa.Compare(b, a); n != -want {
		t.Errorf("Compare of %v, %v: %d, want %d", b, a, n, -want)
	}
	if n := lsa.Compare(a, a); n != 0 {
		t.Errorf("Compare of %v with itself: %d", a, n)
	}
}

// Sequence numbers in their order: each is newer than all before it, whatever is in Sum and Age.
func TestCompareSeq(t *testing.T) {
	order := []uint32{0x80000000, 0x80000001, 0x80000002, 0xbfffffff, 0xc0000000, 0xfffffffe, 0xffffffff, 0, 1, 2, 0x3fffffff, 0x40000000, 0x7ffffffe, 0x7fffffff}
	others := []api.Header{{}, {Sum: 65535}, {Age: 3600}, {Sum: 65535, Age: 3600}, {Age: 1000}, {Sum: 1, Age: 2000}}
	for i, x := range order {
		for _, y := range order[:i] {
			for _, a := range others {
				for _, b := range others {
					a.Seq, b.Seq = x, y
					compared(t, a, b, 1)
				}
			}
		}
	}
}

// Of equal Seqs, the greater Sum decides, whatever is in Age.
func TestCompareSum(t *testing.T) {
	sums := []int{0, 1, 2, 255, 256, 257, 32767, 32768, 65534, 65535}
	for _, seq := range numbers {
		for i, x := range sums {
			for _, y := range sums[:i] {
				for _, a := range []int{0, 1, 900, 901, 3599, 3600} {
					for _, b := range []int{0, 1, 900, 901, 3599, 3600} {
						compared(t, api.Header{Seq: seq, Sum: x, Age: a}, api.Header{Seq: seq, Sum: y, Age: b}, 1)
					}
				}
			}
		}
	}
}

// Of equal Seqs and Sums, the Age decides: every pair of some Ages, and every Age with those at the bounds.
func TestCompareAge(t *testing.T) {
	some := []int{0, 1, 2, 450, 899, 900, 901, 902, 1800, 2698, 2699, 2700, 2701, 3598, 3599, 3600}
	for a := range maxAge + 1 {
		for _, b := range some {
			want := 0
			switch {
			case a == 3600 && b != 3600:
				want = 1
			case b == 3600 && a != 3600:
				want = -1
			case b-a > 900:
				want = 1
			case a-b > 900:
				want = -1
			}
			compared(t, api.Header{Seq: 5, Sum: 6, Age: a}, api.Header{Seq: 5, Sum: 6, Age: b}, want)
		}
	}
	table := []struct{ a, b, want int }{
		{3600, 3600, 0}, {3600, 3599, 1}, {3600, 2700, 1}, {3600, 2699, 1}, {3600, 0, 1},
		{0, 900, 0}, {0, 901, 1}, {100, 1000, 0}, {100, 1001, 1}, {2699, 3599, 0}, {2698, 3599, 1}, {7, 7, 0},
	}
	for _, x := range table {
		compared(t, api.Header{Age: x.a}, api.Header{Age: x.b}, x.want)
	}
}

// Nothing but Seq, Sum and Age decides.
func TestCompareNothingElse(t *testing.T) {
	a := api.Header{Age: 5, Options: 1, Type: 1, ID: 1, Adv: 1, Seq: 9, Sum: 9, Long: 20}
	for _, n := range append([]int{0, 1, 255}, far...) {
		b := api.Header{Age: 5, Options: n, Type: n, ID: uint32(n), Adv: uint32(n), Seq: 9, Sum: 9, Long: n}
		compared(t, a, b, 0)
		b.Seq++
		compared(t, b, a, 1)
	}
}

// P11.2: of two headers, one at most is newer, and of equal ones neither is; what Compare returns is held against the words of the chapter.
func TestAntisymmetry(t *testing.T) {
	draw := drawer(4)
	seen := map[int]int{}
	for range 50000 {
		a, b := drawHeader(draw), drawHeader(draw)
		// Drawn ones seldom agree, so the later criteria would seldom decide.
		if draw(4) > 0 {
			b.Seq = a.Seq
			if draw(4) > 0 {
				b.Sum = a.Sum
				if draw(4) == 0 {
					b.Age = a.Age
				}
			}
		}
		newer, older := isNewer(a, b), isNewer(b, a)
		if newer && older {
			t.Fatalf("the model takes both for newer: %v, %v", a, b)
		}
		want := 0
		if newer {
			want = 1
		} else if older {
			want = -1
		}
		seen[want]++
		compared(t, a, b, want)
		c := a
		c.Options, c.Type, c.ID, c.Adv, c.Long = b.Options, b.Type, b.ID, b.Adv, b.Long
		compared(t, a, c, 0)
	}
	for n := -1; n <= 1; n++ {
		if seen[n] < 2000 {
			t.Errorf("%d came %d times", n, seen[n])
		}
	}
}

// isNewer goes by the words of the chapter, one criterion after the other.
func isNewer(a, b api.Header) bool {
	// As signed numbers, those from 80000000 on are the lower half.
	x, y := uint64(a.Seq)^1<<31, uint64(b.Seq)^1<<31
	if x != y {
		return x > y
	}
	if a.Sum != b.Sum {
		return a.Sum > b.Sum
	}
	if (a.Age == 3600) != (b.Age == 3600) {
		return a.Age == 3600
	}
	return a.Age+900 < b.Age
}

// K2: Key and Less.

func TestKey(t *testing.T) {
	for _, n := range numbers {
		for _, kind := range append([]int{0, 1, 6, 7, 8}, far...) {
			h := api.Header{Age: 1, Options: 2, Type: kind, ID: n, Adv: ^n, Seq: 3, Sum: 4, Long: 5}
			if k := lsa.Key(h); k != (api.Key{Type: kind, ID: n, Adv: ^n}) {
				t.Errorf("Key of %v: %v", h, k)
			}
			if k := lsa.Key(api.Header{Type: kind, ID: n, Adv: 7}); k != (api.Key{Type: kind, ID: n, Adv: 7}) {
				t.Errorf("Key with type %d and ID %d: %v", kind, n, k)
			}
		}
	}
}

// Each key of a strictly ascending row is less than all behind it and than none before it, and not than itself.
func TestLess(t *testing.T) {
	var row []api.Key
	ids := []uint32{0, 1, 2, 255, 256, 0x7fffffff, 0x80000000, 0x80000001, math.MaxUint32}
	for _, kind := range []int{math.MinInt, -1, 0, 1, 2, 5, 6, 7, 8, math.MaxInt} {
		for _, id := range ids {
			for _, adv := range ids {
				row = append(row, api.Key{Type: kind, ID: id, Adv: adv})
			}
		}
	}
	for i, a := range row {
		for j, b := range row {
			if lsa.Less(a, b) != (i < j) {
				t.Fatalf("Less of %v, %v: %t", a, b, i >= j)
			}
		}
	}
}

// Each criterion alone, and against those behind it.
func TestLessByEach(t *testing.T) {
	table := []struct{ a, b api.Key }{
		{api.Key{Type: 1}, api.Key{Type: 2}},
		{api.Key{Type: 1, ID: 9, Adv: 9}, api.Key{Type: 2, ID: 8, Adv: 8}},
		{api.Key{Type: 1, ID: 1}, api.Key{Type: 1, ID: 2}},
		{api.Key{Type: 1, ID: 1, Adv: 9}, api.Key{Type: 1, ID: 2, Adv: 8}},
		{api.Key{Type: 1, ID: 1, Adv: 1}, api.Key{Type: 1, ID: 1, Adv: 2}},
		{api.Key{Type: 1, ID: 1<<31 - 1}, api.Key{Type: 1, ID: 1 << 31}},
		{api.Key{Type: 1, Adv: 1<<31 - 1}, api.Key{Type: 1, Adv: 1 << 31}},
	}
	for _, x := range table {
		if !lsa.Less(x.a, x.b) || lsa.Less(x.b, x.a) || lsa.Less(x.a, x.a) || lsa.Less(x.b, x.b) {
			t.Errorf("%v, %v", x.a, x.b)
		}
	}
}

// K2: Next.

func TestNext(t *testing.T) {
	table := []struct{ seq, want uint32 }{
		{0x80000000, 0x80000001}, {0x80000001, 0x80000002}, {0x80000002, 0x80000003}, {0xbfffffff, 0xc0000000},
		{0xfffffffe, 0xffffffff}, {0xffffffff, 0}, {0, 1}, {1, 2}, {255, 256}, {65535, 65536}, {0x01020304, 0x01020305},
		{0x3fffffff, 0x40000000}, {0x7ffffffd, 0x7ffffffe}, {0x7ffffffe, 0x7fffffff},
	}
	for _, x := range table {
		n, e := lsa.Next(x.seq)
		if n != x.want || e != api.OK {
			t.Errorf("Next of %x: %x, error %d, want %x", x.seq, n, e, x.want)
		}
		// The next one is newer, wherever it is.
		compared(t, api.Header{Seq: n}, api.Header{Seq: x.seq, Sum: 65535, Age: 3600}, 1)
	}
	if n, e := lsa.Next(0x7fffffff); n != 0 || e != api.ErrLarge {
		t.Errorf("Next of the last one: %x, error %d", n, e)
	}
}

// Example 1.
func TestExample(t *testing.T) {
	if n, e := lsa.Next(0x80000000); n != 0x80000001 || e != api.OK {
		t.Errorf("%x, error %d", n, e)
	}
}

// K2: Older.

// older fails unless a has this Age after so many seconds, and nothing else has changed.
func older(t *testing.T, a api.Ad, by, want int) {
	t.Helper()
	expected := a
	expected.H.Age = want
	kept := api.Ad{H: a.H, B: slices.Clone(a.B)}
	o := lsa.Older(a, by)
	if !same(o, expected) {
		t.Errorf("Older of Age %d by %d: %v, want %v", a.H.Age, by, o, expected)
	}
	if !same(a, kept) {
		t.Errorf("Older by %d changed %v to %v", by, kept, a)
	}
}

func TestOlder(t *testing.T) {
	table := []struct{ age, by, want int }{
		{0, 0, 0}, {0, 1, 1}, {0, 3599, 3599}, {0, 3600, 3600}, {0, 3601, 3600}, {0, math.MaxInt, 3600},
		{7, -1, 7}, {7, 0, 7}, {7, 1, 8}, {7, 3592, 3599}, {7, 3593, 3600}, {7, 3594, 3600}, {7, math.MaxInt - 7, 3600}, {7, math.MaxInt, 3600},
		{7, -7, 7}, {7, -8, 7}, {7, -3600, 7}, {7, math.MinInt, 7}, {7, math.MinInt + 1, 7},
		{3599, 1, 3600}, {3599, 2, 3600}, {3599, 0, 3599}, {3599, -1, 3599}, {3599, math.MaxInt - 3599, 3600},
		{3600, 0, 3600}, {3600, 1, 3600}, {3600, -1, 3600}, {3600, math.MaxInt, 3600}, {3600, math.MinInt, 3600},
		{5, 1 << 16, 3600}, {5, 1<<16 + 1, 3600}, {5, 1 << 31, 3600}, {5, 1 << 32, 3600}, {5, 1<<32 + 1, 3600}, {5, -1 << 32, 5}, {5, 1 - 1<<32, 5},
	}
	for _, x := range table {
		for _, n := range []int{0, 1, 40, mostBody} {
			a := sample(n)
			a.H.Age = x.age
			older(t, a, x.by, x.want)
			if !lsa.Whole(lsa.Older(a, x.by)) {
				t.Errorf("Older of Age %d by %d is not intact", x.age, x.by)
			}
		}
	}
}

func TestOlderEveryAge(t *testing.T) {
	a := sample(3)
	for age := range maxAge + 1 {
		a.H.Age = age
		for _, by := range []int{-3600, -1, 0, 1, 2, 900, 1800, 3599 - age, 3600 - age, 3601 - age, 3600, 3601, math.MaxInt - 3600, math.MaxInt} {
			want := age
			for s := 0; s < by && want < maxAge; s++ {
				want++
			}
			older(t, a, by, want)
		}
	}
}

// Older does not ask whether the rest is valid or intact.
func TestOlderOfWhatIsNotValid(t *testing.T) {
	for _, n := range far {
		a := api.Ad{H: api.Header{Age: 10, Options: n, Type: n, ID: 1, Adv: 2, Seq: 3, Sum: n, Long: n}, B: filled(2000)}
		older(t, a, 5, 15)
		older(t, a, 5000, 3600)
		older(t, a, -5, 10)
	}
	older(t, api.Ad{}, 1, 1)
}

// P11.3: what Seal returns is intact, and Decode of its encoding is it, with the bytes behind it.
func TestRoundTrip(t *testing.T) {
	draw := drawer(5)
	empty, full := 0, 0
	for range 20000 {
		a := drawAd(draw)
		kept := api.Ad{H: a.H, B: slices.Clone(a.B)}
		s := mustSeal(t, a)
		if !same(a, kept) {
			t.Fatalf("Seal changed %v to %v", kept, a)
		}
		if !lsa.Whole(s) || !lsa.May(s.H) || !same(s, sealed(kept)) {
			t.Fatalf("Seal of %v: %v, want %v", kept, s, sealed(kept))
		}
		b := mustEncode(t, s)
		if !bytes.Equal(b, encoded(s)) {
			t.Fatalf("Encode of %v: %x", s, b)
		}
		accept(t, "Encode of Seal", b, s, nil)
		behind := drawBytes(draw, 1+draw(30))
		accept(t, "Encode of Seal, with bytes behind it", slices.Concat(b, behind), s, behind)
		o := lsa.Older(s, draw(4000)-100)
		accept(t, "what is older", slices.Concat(mustEncode(t, o), behind), o, behind)
		switch len(a.B) {
		case 0:
			empty++
		case mostBody:
			full++
		}
	}
	if empty < 100 || full < 100 {
		t.Errorf("%d empty ones, %d full ones", empty, full)
	}
}

// A header alone: ReadHead inverts Head, with the bytes behind it.
func TestReadHeadInvertsHead(t *testing.T) {
	draw := drawer(6)
	for range 20000 {
		h := drawHeader(draw)
		mayBe(t, h, true)
		b, _ := lsa.Head(h)
		behind := drawBytes(draw, draw(30))
		k, rest, e := lsa.ReadHead(slices.Concat(b, behind))
		if e != api.OK || k != h || !bytes.Equal(rest, behind) {
			t.Fatalf("ReadHead of Head of %v: %v, %x, error %d", h, k, rest, e)
		}
	}
}

// ReadHead accepts nothing but valid headers.
func TestReadHeadByTheModel(t *testing.T) {
	draw := drawer(7)
	seen := map[bool]int{}
	for range 50000 {
		b := make([]byte, 20+draw(4))
		for i := range b {
			b[i] = byte(draw(256) >> draw(9))
		}
		b[0], b[3], b[18] = byte(draw(16)), byte(draw(9)), byte(draw(7))
		want := adOf(b).H
		seen[valid(want)]++
		if !valid(want) {
			refuseHead(t, "drawn bytes", b, api.ErrForm)
			continue
		}
		h, rest, e := lsa.ReadHead(b)
		if e != api.OK || h != want || !bytes.Equal(rest, b[20:]) {
			t.Fatalf("ReadHead of %x: %v, %x, error %d", b, h, rest, e)
		}
	}
	if seen[true] < 5000 || seen[false] < 5000 {
		t.Errorf("%d valid ones, %d others", seen[true], seen[false])
	}
}
