package hello_test

import (
	"bytes"
	"math"
	"reflect"
	"slices"
	"testing"

	"crossroads/api"
	"crossroads/hello"
)

type (
	greeting = hello.Hello
	iface    = hello.Iface
)

const (
	mostSeen = 300  // how many elements Seen has at most
	most     = 1220 // how many bytes an encoding has at most
)

// numbers are 32-bit numbers that differ in each of their bytes, or lie at a bound.
var numbers = []uint32{0, 1, 255, 256, 65535, 65536, 0x01020304, 0x7fffffff, 0x80000000, 0xfffefdfc, math.MaxUint32}

// far are numbers that are in no field of a valid Hello, most of them with a valid one in their lowest 8, 16 or 32 bits.
var far = []int{math.MinInt, math.MinInt + 1, -1 << 32, 1 - 1<<32, -65536, -65535, -256, -255, -2, -1, 65536, 65537, 65536 + 255, 1 << 20, 1 << 31, 1<<32 - 1, 1 << 32, 1<<32 + 1, 1<<32 + 255, math.MaxInt - 1, math.MaxInt}

// drawer returns a source of numbers from 0 to below-1 that is the same for the same seed.
func drawer(seed uint64) func(below int) int {
	return func(below int) int {
		seed = seed*6364136223846793005 + 1442695040888963407
		return int(seed>>33) % below
	}
}

// drawNumber returns a 32-bit number, in some draws a small one or one at a bound.
func drawNumber(draw func(int) int) uint32 {
	if draw(4) == 0 {
		return numbers[draw(len(numbers))]
	}
	return (uint32(draw(1<<16))<<16 | uint32(draw(1<<16))) >> draw(32)
}

func drawNumbers(draw func(int) int, n int) []uint32 {
	out := make([]uint32, n)
	for i := range out {
		out[i] = drawNumber(draw)
	}
	return out
}

// drawMany returns how many elements Seen has: seldom many, and often enough the most.
func drawMany(draw func(int) int) int {
	switch draw(12) {
	case 0:
		return mostSeen
	case 1:
		return draw(mostSeen)
	}
	return draw(8)
}

// drawHello returns a valid Hello.
func drawHello(draw func(int) int) greeting {
	return greeting{
		Mask:     drawNumber(draw),
		Interval: draw(65536) >> draw(17),
		Options:  draw(256),
		Priority: draw(256) >> draw(9),
		Dead:     drawNumber(draw),
		DR:       drawNumber(draw),
		BDR:      drawNumber(draw),
		Seen:     drawNumbers(draw, drawMany(draw)),
	}
}

// drawIface returns an interface of which a valid Hello can be made.
func drawIface(draw func(int) int) iface {
	return iface{
		Mask:         drawNumber(draw),
		Interval:     draw(65536) >> draw(17),
		Options:      draw(256),
		Dead:         drawNumber(draw),
		Router:       drawNumber(draw),
		PointToPoint: draw(2) == 0,
	}
}

func four(n uint32) []byte {
	return []byte{byte(n >> 24), byte(n >> 16), byte(n >> 8), byte(n)}
}

// encoded goes by the words of the chapter.
func encoded(h greeting) []byte {
	out := four(h.Mask)
	out = append(out, byte(h.Interval/256), byte(h.Interval%256), byte(h.Options), byte(h.Priority))
	for _, n := range append([]uint32{h.Dead, h.DR, h.BDR}, h.Seen...) {
		out = append(out, four(n)...)
	}
	return out
}

// same tells whether two Hellos are equal; a Seen of nil and an empty one are.
func same(h, k greeting) bool {
	lists := slices.Equal(h.Seen, k.Seen)
	h.Seen, k.Seen = nil, nil
	return lists && reflect.DeepEqual(h, k)
}

// cloned returns h with memory of its own.
func cloned(h greeting) greeting {
	h.Seen = slices.Clone(h.Seen)
	return h
}

func mustEncode(t *testing.T, h greeting) []byte {
	t.Helper()
	b, e := hello.Encode(h)
	if e != api.OK {
		t.Fatalf("Encode of %v: error %d", h, e)
	}
	return b
}

func mustDecode(t *testing.T, b []byte) greeting {
	t.Helper()
	h, e := hello.Decode(b)
	if e != api.OK {
		t.Fatalf("Decode of %x: error %d", b, e)
	}
	return h
}

// refuse fails if b is decoded, or refused with another error than the wanted one, or if a Hello comes beside it (R3).
func refuse(t *testing.T, b []byte, want api.Errno) {
	t.Helper()
	h, e := hello.Decode(b)
	if e != want {
		t.Errorf("Decode of %d bytes: error %d, want %d", len(b), e, want)
	}
	if !same(h, greeting{}) {
		t.Errorf("Decode of %d bytes: Hello %v beside the error", len(b), h)
	}
}

// J1: May, and ErrArg of Encode for all that is not valid.

// mayBe fails if h is valid and should not be, or the other way round, or if Encode does otherwise.
func mayBe(t *testing.T, h greeting, want bool) {
	t.Helper()
	if hello.May(h) != want {
		t.Errorf("May with Interval %d, Options %d, Priority %d, %d seen: %t", h.Interval, h.Options, h.Priority, len(h.Seen), !want)
	}
	b, e := hello.Encode(h)
	if want && (e != api.OK || !bytes.Equal(b, encoded(h))) {
		t.Errorf("Encode with Interval %d, Options %d, Priority %d, %d seen: %x, error %d", h.Interval, h.Options, h.Priority, len(h.Seen), b, e)
	}
	if !want && (e != api.ErrArg || len(b) > 0) {
		t.Errorf("Encode with Interval %d, Options %d, Priority %d, %d seen: %d bytes, error %d", h.Interval, h.Options, h.Priority, len(h.Seen), len(b), e)
	}
}

// Each bound alone and with each bound of the others.
func TestMay(t *testing.T) {
	intervals := map[int]bool{-1: false, 0: true, 1: true, 255: true, 256: true, 65534: true, 65535: true, 65536: false}
	octets := map[int]bool{-1: false, 0: true, 1: true, 254: true, 255: true, 256: false}
	lists := map[int]bool{0: true, 1: true, 2: true, 299: true, 300: true, 301: false, 302: false, 556: false, 600: false}
	for interval, a := range intervals {
		for options, b := range octets {
			for priority, c := range octets {
				for many, d := range lists {
					h := greeting{Interval: interval, Options: options, Priority: priority, Seen: make([]uint32, many)}
					mayBe(t, h, a && b && c && d)
				}
			}
		}
	}
}

func TestMayWithinTheBounds(t *testing.T) {
	for n := range 65536 {
		mayBe(t, greeting{Interval: n}, true)
	}
	for n := range 256 {
		mayBe(t, greeting{Options: n}, true)
		mayBe(t, greeting{Priority: n}, true)
	}
	for n := range mostSeen + 1 {
		mayBe(t, greeting{Seen: make([]uint32, n)}, true)
	}
}

func TestMayFarBeyond(t *testing.T) {
	for _, n := range far {
		for _, list := range [][]uint32{nil, {7}, make([]uint32, mostSeen)} {
			mayBe(t, greeting{Interval: n, Seen: list}, false)
			mayBe(t, greeting{Options: n, Seen: list}, false)
			mayBe(t, greeting{Priority: n, Seen: list}, false)
			mayBe(t, greeting{Interval: n, Options: n, Priority: n, Seen: list}, false)
		}
	}
	for n := 256; n < 65536; n++ {
		mayBe(t, greeting{Options: n}, false)
		mayBe(t, greeting{Priority: n}, false)
	}
	for _, n := range []int{301, 512, 65536, 65537, 65836, 1 << 20} {
		mayBe(t, greeting{Seen: make([]uint32, n)}, false)
	}
}

// What is in the other fields does not make a Hello invalid, be it 0 or there twice.
func TestMayWithAnyNumbers(t *testing.T) {
	for _, n := range numbers {
		mayBe(t, greeting{Mask: n}, true)
		mayBe(t, greeting{Dead: n}, true)
		mayBe(t, greeting{DR: n}, true)
		mayBe(t, greeting{BDR: n}, true)
		mayBe(t, greeting{Mask: n, Dead: n, DR: n, BDR: n, Seen: []uint32{n, n, 0, n}}, true)
	}
}

// J1: Encode, byte for byte.

func TestEncode(t *testing.T) {
	table := []struct {
		h    greeting
		want []byte
	}{
		{greeting{}, make([]byte, 20)},
		{
			greeting{Mask: 0x01020304, Interval: 0x0506, Options: 7, Priority: 8, Dead: 0x090a0b0c, DR: 0x0d0e0f10, BDR: 0x11121314},
			[]byte{1, 2, 3, 4, 5, 6, 7, 8, 9, 10, 11, 12, 13, 14, 15, 16, 17, 18, 19, 20},
		},
		{
			greeting{Mask: 0x01020304, Interval: 0x0506, Options: 7, Priority: 8, Dead: 0x090a0b0c, DR: 0x0d0e0f10, BDR: 0x11121314, Seen: []uint32{0x15161718, 0x191a1b1c, 0x1d1e1f20}},
			[]byte{1, 2, 3, 4, 5, 6, 7, 8, 9, 10, 11, 12, 13, 14, 15, 16, 17, 18, 19, 20, 21, 22, 23, 24, 25, 26, 27, 28, 29, 30, 31, 32},
		},
		{
			greeting{Mask: 255 << 24, Interval: 10, Options: 2, Priority: 1, Dead: 40, DR: 7, BDR: 8, Seen: []uint32{4}},
			[]byte{255, 0, 0, 0, 0, 10, 2, 1, 0, 0, 0, 40, 0, 0, 0, 7, 0, 0, 0, 8, 0, 0, 0, 4},
		},
		{
			greeting{Mask: math.MaxUint32, Interval: 65535, Options: 255, Priority: 255, Dead: math.MaxUint32, DR: math.MaxUint32, BDR: math.MaxUint32, Seen: []uint32{math.MaxUint32, math.MaxUint32}},
			bytes.Repeat([]byte{255}, 28),
		},
	}
	for _, x := range table {
		if b := mustEncode(t, x.h); !bytes.Equal(b, x.want) {
			t.Errorf("Encode of %v: %x, want %x", x.h, b, x.want)
		}
		if h := mustDecode(t, x.want); !same(h, x.h) {
			t.Errorf("Decode of %x: %v, want %v", x.want, h, x.h)
		}
	}
}

// bitOf returns the Hello in whose encoding of 20+4*many bytes this bit is 1 alone; bit 0 is the lowest one of its field.
func bitOf(field, bit, many int) greeting {
	h := greeting{Seen: make([]uint32, many)}
	one := uint32(1) << bit
	switch field {
	case 0:
		h.Mask = one
	case 1:
		h.Interval = int(one)
	case 2:
		h.Options = int(one)
	case 3:
		h.Priority = int(one)
	case 4:
		h.Dead = one
	case 5:
		h.DR = one
	case 6:
		h.BDR = one
	default:
		h.Seen[field-7] = one
	}
	return h
}

// Each bit of each field has a place of its own, and Decode finds it there.
func TestEveryBit(t *testing.T) {
	for _, many := range []int{0, 1, 2, 5, mostSeen} {
		at := 0
		for field := range 7 + many {
			wide := []int{4, 2, 1, 1, 4}[min(field, 4)]
			for bit := range 8 * wide {
				want := make([]byte, 20+4*many)
				want[at+wide-1-bit/8] = 1 << (bit % 8)
				h := bitOf(field, bit, many)
				if b := mustEncode(t, h); !bytes.Equal(b, want) {
					t.Fatalf("field %d, bit %d, %d seen: %x", field, bit, many, b)
				}
				if k := mustDecode(t, want); !same(h, k) {
					t.Fatalf("Decode of field %d, bit %d, %d seen: %v", field, bit, many, k)
				}
			}
			at += wide
		}
		if at != 20+4*many {
			t.Fatalf("%d seen: %d bytes", many, at)
		}
	}
}

// Example 1.
func TestExample(t *testing.T) {
	for _, list := range [][]uint32{nil, {}} {
		h := greeting{Mask: 1, Interval: 2, Options: 3, Priority: 4, Dead: 5, DR: 6, BDR: 7, Seen: list}
		if b := mustEncode(t, h); len(b) != 20 {
			t.Errorf("%d bytes", len(b))
		}
	}
}

// J1: Decode, by its lengths.

// filled returns n bytes that differ from their neighbors.
func filled(n int) []byte {
	out := make([]byte, n)
	for i := range out {
		out[i] = byte(i*7 + i/256 + 1)
	}
	return out
}

func TestDecodeShort(t *testing.T) {
	refuse(t, nil, api.ErrShort)
	refuse(t, []byte{}, api.ErrShort)
	for n := 0; n <= 19; n++ {
		refuse(t, filled(n), api.ErrShort)
		refuse(t, filled(40)[:n], api.ErrShort)
		refuse(t, make([]byte, n), api.ErrShort)
	}
}

// Every length to well beyond the most: what cuts an element is ErrShort, also where there are too many of them (R2).
func TestDecodeEveryLength(t *testing.T) {
	whole := filled(most + 2000)
	for n := 20; n <= len(whole); n++ {
		switch {
		case n%4 != 0:
			refuse(t, whole[:n], api.ErrShort)
		case n > most:
			refuse(t, whole[:n], api.ErrLarge)
		default:
			h := mustDecode(t, whole[:n])
			if len(h.Seen) != (n-20)/4 || !bytes.Equal(encoded(h), whole[:n]) {
				t.Fatalf("Decode of %d bytes: %v", n, h)
			}
		}
	}
}

func TestDecodeLarge(t *testing.T) {
	for _, many := range []int{301, 302, 556, 600, 16384, 65536, 65836, 1 << 18} {
		n := 20 + 4*many
		refuse(t, make([]byte, n), api.ErrLarge)
		refuse(t, filled(n), api.ErrLarge)
		// The element that is cut is one beyond the most, and its error is named first.
		for more := 1; more <= 3; more++ {
			refuse(t, filled(n+more), api.ErrShort)
		}
		refuse(t, filled(n+4), api.ErrLarge)
	}
	// The element that is cut is the first one beyond the most: there are 300 whole ones.
	for more := 1; more <= 3; more++ {
		refuse(t, filled(most+more), api.ErrShort)
	}
}

func TestDecode(t *testing.T) {
	for _, many := range []int{0, 1, 2, 299, mostSeen} {
		h := greeting{Mask: 0xff00ff01, Interval: 0xfe01, Options: 0xa5, Priority: 0x5a, Dead: 0x80000001, DR: 0x01020304, BDR: 0x05060708}
		for i := range many {
			h.Seen = append(h.Seen, uint32(i)*0x01010101+0x10203)
		}
		k := mustDecode(t, encoded(h))
		if !same(h, k) || len(k.Seen) != many {
			t.Errorf("%d seen: %v, want %v", many, k, h)
		}
	}
}

// Every value of every byte is that of a Hello.
func TestDecodeEveryByte(t *testing.T) {
	b := filled(32)
	for at := range b {
		was := b[at]
		for x := range 256 {
			b[at] = byte(x)
			if h := mustDecode(t, b); !bytes.Equal(encoded(h), b) || !hello.May(h) {
				t.Fatalf("byte %d is %d: %v", at, x, h)
			}
		}
		b[at] = was
	}
}

// R4: what was passed stays as it was, the memory behind it too, and answers have memory of their own.

func TestEncodeLeavesItsArgument(t *testing.T) {
	memory := slices.Repeat([]uint32{0x77777777}, 340)
	was := slices.Clone(memory)
	for n := range 330 {
		h := greeting{Mask: 1, Interval: 2, Options: 3, Priority: 4, Dead: 5, DR: 6, BDR: 7, Seen: memory[3 : 3+n]}
		k := h
		hello.May(h)
		b, _ := hello.Encode(h)
		clear(b[:cap(b)])
		h.Options = -1
		hello.Encode(h)
		h.Options = 3
		if !slices.Equal(memory, was) || !same(h, k) {
			t.Fatalf("%d seen: %v, %x", n, h, memory)
		}
	}
}

func TestDecodeLeavesItsArgument(t *testing.T) {
	memory := filled(most + 40)
	was := slices.Clone(memory)
	for n := range most + 10 {
		h, _ := hello.Decode(memory[:n])
		list := h.Seen[:cap(h.Seen)]
		for i := range list {
			list[i] = ^list[i]
		}
		if !bytes.Equal(memory, was) {
			t.Fatalf("Decode of %d bytes changed them", n)
		}
	}
}

func TestAnswersAreApart(t *testing.T) {
	given := greeting{Mask: 1, DR: 2, Seen: []uint32{3, 4, 5}}
	b, c := mustEncode(t, given), mustEncode(t, given)
	kept := slices.Clone(c)
	h, k := mustDecode(t, b), mustDecode(t, b)
	clear(b)
	clear(h.Seen)
	given.Seen[0] = 99
	if !bytes.Equal(c, kept) {
		t.Errorf("the other encoding: %x, want %x", c, kept)
	}
	if !same(k, greeting{Mask: 1, DR: 2, Seen: []uint32{3, 4, 5}}) {
		t.Errorf("the other Hello: %v", k)
	}
}

// A list or bytes behind which others stand are taken without them.
func TestStopsAtTheLength(t *testing.T) {
	memory := []uint32{1, 2, 3, 4, 5, 6}
	h := greeting{Seen: memory[:2]}
	if b := mustEncode(t, h); !bytes.Equal(b, encoded(greeting{Seen: []uint32{1, 2}})) {
		t.Errorf("Encode: %x", b)
	}
	if hello.Both(iface{Router: 3}, h) {
		t.Error("Both found a router behind the length of Seen")
	}
	if k := mustDecode(t, filled(40)[:24]); len(k.Seen) != 1 {
		t.Errorf("Decode: %v", k)
	}
	if k := hello.Make(iface{}, 0, 0, 0, memory[:2]); !slices.Equal(k.Seen, []uint32{1, 2}) {
		t.Errorf("Make: %v", k)
	}
}

// J2: Check.

func checks(t *testing.T, what string, f iface, h greeting, want api.Errno) {
	t.Helper()
	if e := hello.Check(f, h); e != want {
		t.Errorf("%s: Check of %v, %v: error %d, want %d", what, f, h, e, want)
	}
}

// either are an interface that is point-to-point, and one that is not.
func either(f iface) []iface {
	f.PointToPoint = false
	g := f
	g.PointToPoint = true
	return []iface{f, g}
}

// pair returns an interface and a Hello that agree.
func pair() (iface, greeting) {
	f := iface{Mask: 0xffffff00, Interval: 10, Options: 2, Dead: 40, Router: 5}
	return f, greeting{Mask: 0xffffff00, Interval: 10, Options: 2, Priority: 1, Dead: 40, DR: 7, BDR: 8, Seen: []uint32{4, 5}}
}

func TestCheckOK(t *testing.T) {
	plain, h := pair()
	for _, f := range either(plain) {
		checks(t, "all agree", f, h, api.OK)
		// What no interface has does not matter.
		for _, n := range numbers {
			checks(t, "any DR", f, greeting{Mask: h.Mask, Interval: 10, Options: 2, Dead: 40, DR: n}, api.OK)
			checks(t, "any BDR", f, greeting{Mask: h.Mask, Interval: 10, Options: 2, Dead: 40, BDR: n}, api.OK)
			checks(t, "any Priority", f, greeting{Mask: h.Mask, Interval: 10, Options: 2, Dead: 40, Priority: int(n)}, api.OK)
			checks(t, "any Seen", f, greeting{Mask: h.Mask, Interval: 10, Options: 2, Dead: 40, Seen: []uint32{n}}, api.OK)
			g := f
			g.Router = n
			checks(t, "any Router", g, h, api.OK)
		}
	}
	for _, f := range either(iface{}) {
		checks(t, "zeros", f, greeting{}, api.OK)
	}
}

// others calls fail with each number that differs from n in one bit, and with some that are far from it.
func others(n uint32, fail func(other uint32)) {
	for bit := range 32 {
		fail(n ^ 1<<bit)
	}
	for _, other := range numbers {
		if other != n {
			fail(other)
		}
	}
}

func TestCheckMask(t *testing.T) {
	f, h := pair()
	otherwise := h
	otherwise.Options ^= 2
	for _, mask := range numbers {
		f.Mask = mask
		others(mask, func(other uint32) {
			h.Mask, otherwise.Mask = other, other
			f.PointToPoint = false
			checks(t, "another Mask", f, h, api.ErrMismatch)
			checks(t, "another Mask and another Options", f, otherwise, api.ErrMismatch)
			f.PointToPoint = true
			checks(t, "another Mask, point-to-point", f, h, api.OK)
			checks(t, "another Mask and another Options, point-to-point", f, otherwise, api.ErrForm)
		})
	}
}

func TestCheckDead(t *testing.T) {
	plain, h := pair()
	for _, f := range either(plain) {
		for _, dead := range numbers {
			f.Dead = dead
			others(dead, func(other uint32) {
				h.Dead = other
				checks(t, "another Dead", f, h, api.ErrMismatch)
				h.Options ^= 8
				checks(t, "another Dead and another Options", f, h, api.ErrMismatch)
				h.Options ^= 8
			})
		}
	}
}

func TestCheckInterval(t *testing.T) {
	plain, h := pair()
	for _, f := range either(plain) {
		for _, interval := range []int{0, 1, 10, 255, 256, 65535} {
			f.Interval = interval
			h.Interval = interval
			checks(t, "this Interval", f, h, api.OK)
			for _, other := range append([]int{0, 1, 9, 10, 11, 255, 256, 65534, 65535, interval + 65536, interval - 65536, interval + 1<<32, -interval - 1, interval ^ 1<<15}, far...) {
				if other == interval {
					continue
				}
				h.Interval = other
				checks(t, "another Interval", f, h, api.ErrMismatch)
				h.Options ^= 2
				checks(t, "another Interval and another Options", f, h, api.ErrMismatch)
				h.Options ^= 2
			}
		}
	}
}

// Interval, Dead and Mask are each held against its own value.
func TestCheckFieldsExchanged(t *testing.T) {
	f := iface{Mask: 1, Interval: 2, Dead: 3}
	checks(t, "in their places", f, greeting{Mask: 1, Interval: 2, Dead: 3}, api.OK)
	checks(t, "Mask and Dead", f, greeting{Mask: 3, Interval: 2, Dead: 1}, api.ErrMismatch)
	checks(t, "Interval and Dead", f, greeting{Mask: 1, Interval: 3, Dead: 2}, api.ErrMismatch)
	f.PointToPoint = true
	checks(t, "Mask and Dead, point-to-point", f, greeting{Mask: 3, Interval: 2, Dead: 1}, api.ErrMismatch)
	checks(t, "Interval and Dead, point-to-point", f, greeting{Mask: 1, Interval: 3, Dead: 2}, api.ErrMismatch)
}

// formed tells by arithmetic whether the bits of the values 2 and 8 agree.
func formed(n, m int) bool {
	a, b := uint64(n), uint64(m)
	return a/2%2 == b/2%2 && a/8%2 == b/8%2
}

// Each one of the bits alone, for every Options of the interface, and then every pair of Options.
func TestCheckOptions(t *testing.T) {
	plain, h := pair()
	for _, f := range either(plain) {
		for options := range 256 {
			f.Options = options
			for bit := range 8 {
				h.Options = options ^ 1<<bit
				want := api.OK
				if bit == 1 || bit == 3 {
					want = api.ErrForm
				}
				checks(t, "one bit", f, h, want)
			}
			for other := range 256 {
				h.Options = other
				want := api.ErrForm
				if formed(options, other) {
					want = api.OK
				}
				checks(t, "two Options", f, h, want)
			}
		}
	}
}

// Check does not ask whether the Hello is valid: the two bits and nothing else of Options count.
func TestCheckWhatIsNotValid(t *testing.T) {
	f, h := pair()
	list := append([]int{0, 2, 8, 10, 245, 255}, far...)
	for _, f.Options = range list {
		for _, h.Options = range list {
			want := api.ErrForm
			if formed(f.Options, h.Options) {
				want = api.OK
			}
			checks(t, "far Options", f, h, want)
		}
	}
	f.Options, h.Options = 0, 0
	h.Seen = make([]uint32, 400)
	for _, n := range far {
		f.Interval, h.Interval, h.Priority = n, n, n
		checks(t, "a far Interval", f, h, api.OK)
	}
}

// J2: Both.

func TestBoth(t *testing.T) {
	for _, many := range []int{1, 2, 3, 10, 299, 300, 301} {
		list := make([]uint32, many)
		for i := range list {
			list[i] = uint32(i)*2 + 2
		}
		for i, router := range list {
			if !hello.Both(iface{Router: router}, greeting{Seen: list}) {
				t.Errorf("%d seen: number %d is not found", many, i)
			}
			if hello.Both(iface{Router: router + 1}, greeting{Seen: list}) {
				t.Errorf("%d seen: %d is found", many, router+1)
			}
		}
		for _, router := range []uint32{0, 1, 1 << 31, math.MaxUint32} {
			if hello.Both(iface{Router: router}, greeting{Seen: list}) {
				t.Errorf("%d seen: %d is found", many, router)
			}
		}
	}
}

func TestBothAmongNone(t *testing.T) {
	for _, n := range numbers {
		for _, list := range [][]uint32{nil, {}} {
			// Nothing but Seen is asked.
			h := greeting{Mask: n, Interval: int(n), Options: int(n), Priority: int(n), Dead: n, DR: n, BDR: n, Seen: list}
			if hello.Both(iface{Mask: n, Router: n}, h) {
				t.Errorf("%d is found in an empty Seen", n)
			}
		}
	}
}

// A router is found by all of its bits, and each of the numbers, 0 as well, can be one; nothing but Router is looked for.
func TestBothAnyNumber(t *testing.T) {
	for _, n := range numbers {
		list := []uint32{n ^ 1, n ^ 1<<31}
		if hello.Both(iface{Mask: n ^ 1, Dead: n ^ 1, Interval: int(n ^ 1), Router: n}, greeting{Seen: list}) {
			t.Errorf("%d is found in %v", n, list)
		}
		if !hello.Both(iface{Router: n}, greeting{Seen: append(list, n)}) || !hello.Both(iface{Router: n}, greeting{Seen: []uint32{n, n}}) {
			t.Errorf("%d is not found", n)
		}
	}
}

// J2: Make.

// made fails unless each value is in its place.
func made(t *testing.T, f iface, priority int, dr, bdr uint32, seen []uint32) greeting {
	t.Helper()
	h := hello.Make(f, priority, dr, bdr, seen)
	want := greeting{Mask: f.Mask, Interval: f.Interval, Options: f.Options, Priority: priority, Dead: f.Dead, DR: dr, BDR: bdr, Seen: seen}
	if !same(h, want) {
		t.Errorf("Make: %v, want %v", h, want)
	}
	checks(t, "what Make returned", f, h, api.OK)
	return h
}

func TestMake(t *testing.T) {
	for _, f := range either(iface{Mask: 1, Interval: 2, Options: 3, Dead: 4, Router: 5}) {
		h := made(t, f, 6, 7, 8, []uint32{9, 10})
		if b := mustEncode(t, h); !bytes.Equal(b, []byte{0, 0, 0, 1, 0, 2, 3, 6, 0, 0, 0, 4, 0, 0, 0, 7, 0, 0, 0, 8, 0, 0, 0, 9, 0, 0, 0, 10}) {
			t.Errorf("Encode of %v: %x", h, b)
		}
		// The router does not add itself.
		if hello.Both(f, h) || !hello.Both(iface{Router: 10}, h) {
			t.Errorf("Both of %v", h)
		}
	}
	made(t, iface{}, 0, 0, 0, nil)
	made(t, iface{}, 0, 0, 0, []uint32{})
	for _, n := range numbers {
		made(t, iface{Mask: n}, 0, 0, 0, nil)
		made(t, iface{Dead: n}, 0, 0, 0, nil)
		made(t, iface{Router: n}, 0, 0, 0, nil)
		made(t, iface{}, 0, n, 0, nil)
		made(t, iface{}, 0, 0, n, nil)
		made(t, iface{}, 0, 0, 0, []uint32{n, 0, n})
	}
}

// Make passes on what is not valid too, and Encode refuses it.
func TestMakeWhatIsNotValid(t *testing.T) {
	for _, n := range far {
		for _, f := range either(iface{Mask: 9}) {
			g, k := f, f
			g.Interval = n
			k.Options = n
			mayBe(t, made(t, g, 1, 2, 3, nil), false)
			mayBe(t, made(t, k, 1, 2, 3, []uint32{4}), false)
			mayBe(t, made(t, f, n, 2, 3, []uint32{4}), false)
			mayBe(t, made(t, f, 1, 2, 3, []uint32{4}), true)
		}
	}
	for _, many := range []int{299, 300, 301, 302, 1000} {
		h := made(t, iface{}, 0, 0, 0, slices.Repeat([]uint32{7}, many))
		mayBe(t, h, many <= mostSeen)
	}
}

// R4: later changes of the list that was passed are not seen in the Hello, whatever is asked of it.
func TestMakeKeepsNoList(t *testing.T) {
	memory := []uint32{1, 2, 3, 4, 5}
	for n := range len(memory) + 1 {
		f := iface{Mask: 1, Interval: 2, Options: 3, Dead: 4, Router: 3}
		list := slices.Clone(memory)
		h := hello.Make(f, 6, 7, 8, list[:n])
		bytesBefore, both := mustEncode(t, h), hello.Both(f, h)
		for i := range list {
			list[i] += 2
		}
		if b := mustEncode(t, h); !bytes.Equal(b, bytesBefore) || !slices.Equal(h.Seen, memory[:n]) {
			t.Errorf("Encode of a Hello with %d seen, after a change of the list: %x, before %x", n, b, bytesBefore)
		}
		if hello.Both(f, h) != both || both != (n >= 3) {
			t.Errorf("Both of a Hello with %d seen, after a change of the list: %t", n, !both)
		}
		checks(t, "after a change of the list", f, h, api.OK)
	}
}

// The other way round: a change of the Hello, its spare memory too, is not seen in the list or in another Hello.
func TestMakeLeavesItsArgument(t *testing.T) {
	memory := []uint32{1, 2, 3, 4, 5}
	was := slices.Clone(memory)
	for n := range len(memory) {
		h := hello.Make(iface{}, 0, 0, 0, memory[:n])
		k := hello.Make(iface{}, 0, 0, 0, memory[:n])
		clear(h.Seen[:cap(h.Seen)])
		h.Seen = append(h.Seen, 99, 99)
		if !slices.Equal(memory, was) {
			t.Fatalf("%d seen: the list is %v", n, memory)
		}
		if !slices.Equal(k.Seen, was[:n]) {
			t.Errorf("%d seen: the other Hello is %v", n, k)
		}
	}
}

func TestCheckAndBothLeaveTheirArguments(t *testing.T) {
	f, h := pair()
	memory := slices.Clone(h.Seen)
	h.Seen = memory[:1]
	g, k := f, cloned(h)
	hello.Check(f, h)
	hello.Both(f, h)
	hello.May(h)
	if f != g || !same(h, k) || !slices.Equal(memory, []uint32{4, 5}) {
		t.Errorf("%v, %v, %v", f, h, memory)
	}
}

// P10.2: Decode inverts Encode.
func TestDecodeInvertsEncode(t *testing.T) {
	draw := drawer(1)
	full, empty := 0, 0
	for range 20000 {
		h := drawHello(draw)
		kept := cloned(h)
		b := mustEncode(t, h)
		if !hello.May(h) || !bytes.Equal(b, encoded(h)) {
			t.Fatalf("Encode of %v: %x", h, b)
		}
		k := mustDecode(t, b)
		if !same(k, kept) || !hello.May(k) {
			t.Fatalf("Decode of Encode of %v: %v", kept, k)
		}
		if len(h.Seen) == mostSeen {
			full++
		}
		if len(h.Seen) == 0 {
			empty++
		}
	}
	if full < 500 || empty < 500 {
		t.Errorf("%d full ones, %d empty ones", full, empty)
	}
}

// P10.2: Decode accepts nothing else: what it accepts is encoded to the same bytes again.
func TestDecodeAcceptsNothingElse(t *testing.T) {
	draw := drawer(3)
	seen := map[api.Errno]int{}
	for range 20000 {
		n := draw(100)
		if draw(4) == 0 {
			n = most - 100 + draw(200)
		}
		b := make([]byte, n)
		for i := range b {
			b[i] = byte(draw(256) >> draw(9))
		}
		h, e := hello.Decode(b)
		seen[e]++
		if e != api.OK {
			refuse(t, b, judged(b))
			continue
		}
		if judged(b) != api.OK || !hello.May(h) {
			t.Fatalf("Decode of %x: %v", b, h)
		}
		if c := mustEncode(t, h); !bytes.Equal(b, c) {
			t.Fatalf("Encode of Decode of %x: %x", b, c)
		}
	}
	for _, e := range []api.Errno{api.OK, api.ErrShort, api.ErrLarge} {
		if seen[e] < 100 {
			t.Errorf("error %d came %d times", e, seen[e])
		}
	}
}

// judged goes by the words of J1, one error after the other.
func judged(b []byte) api.Errno {
	if len(b) < 20 || len(b)%4 != 0 {
		return api.ErrShort
	}
	if (len(b)-20)/4 > mostSeen {
		return api.ErrLarge
	}
	return api.OK
}

// P10.2: Check of an interface accepts what Make returns for it, on the wire too.
func TestCheckAcceptsMake(t *testing.T) {
	draw := drawer(4)
	for range 20000 {
		f := drawIface(draw)
		list := drawNumbers(draw, drawMany(draw))
		if draw(2) == 0 && len(list) > 0 {
			list[draw(len(list))] = f.Router
		}
		h := made(t, f, draw(256), drawNumber(draw), drawNumber(draw), list)
		k := mustDecode(t, mustEncode(t, h))
		checks(t, "Decode of Encode of Make", f, k, api.OK)
		if !same(h, k) || hello.Both(f, k) != slices.Contains(list, f.Router) {
			t.Fatalf("%v, %v, Both of %d: %t", h, k, f.Router, hello.Both(f, k))
		}
	}
}

// P10.2: the same holds for interfaces of which no valid Hello can be made.
func TestCheckAcceptsMakeOfFarValues(t *testing.T) {
	draw := drawer(5)
	for range 5000 {
		f := drawIface(draw)
		f.Interval = far[draw(len(far))]
		f.Options = far[draw(len(far))]
		made(t, f, far[draw(len(far))], drawNumber(draw), drawNumber(draw), drawNumbers(draw, draw(400)))
	}
}

// Drawn Hellos and interfaces that differ in some fields are judged as the words of J2 do.
func TestCheckByTheModel(t *testing.T) {
	draw := drawer(6)
	seen := map[api.Errno]int{}
	for range 20000 {
		f := drawIface(draw)
		h := hello.Make(f, draw(256), drawNumber(draw), drawNumber(draw), drawNumbers(draw, draw(4)))
		if draw(4) == 0 {
			h.Mask = drawNumber(draw)
		}
		if draw(6) == 0 {
			h.Interval = draw(65536)
		}
		if draw(6) == 0 {
			h.Dead = drawNumber(draw)
		}
		if draw(2) == 0 {
			h.Options = draw(256)
		}
		want := api.OK
		if !formed(f.Options, h.Options) {
			want = api.ErrForm
		}
		if h.Interval != f.Interval || h.Dead != f.Dead || !f.PointToPoint && h.Mask != f.Mask {
			want = api.ErrMismatch
		}
		seen[want]++
		checks(t, "a drawn Hello", f, h, want)
	}
	for _, e := range []api.Errno{api.OK, api.ErrForm, api.ErrMismatch} {
		if seen[e] < 1000 {
			t.Errorf("error %d came %d times", e, seen[e])
		}
	}
}
