package head_test

import (
	"bytes"
	"math"
	"reflect"
	"slices"
	"testing"

	"crossroads/api"
	"crossroads/head"
)

type packet = head.Packet

const (
	mostBody = 1476 // how many bytes a body has at most
	most     = 1500 // how many bytes a packet has at most
)

// drawer returns a source of numbers from 0 to below-1 that is the same for the same seed.
func drawer(seed uint64) func(below int) int {
	return func(below int) int {
		seed = seed*6364136223846793005 + 1442695040888963407
		return int(seed>>33) % below
	}
}

// drawBytes returns n bytes, in some draws with many that are 0 or 255.
func drawBytes(draw func(int) int, n int) []byte {
	plain := draw(2) == 0
	out := make([]byte, n)
	for i := range out {
		out[i] = byte(draw(256))
		if !plain && draw(2) == 0 {
			out[i] = byte(255 * draw(2))
		}
	}
	return out
}

// drawPacket returns a valid packet, seldom one with a long body.
func drawPacket(draw func(int) int) packet {
	long := draw(40)
	if draw(16) == 0 {
		long = mostBody - draw(mostBody/2)
	}
	return packet{
		Type:   1 + draw(5),
		Router: uint32(draw(1<<16))<<16 | uint32(draw(1<<16)),
		Area:   uint32(draw(1<<16)) << draw(17),
		AuType: draw(2),
		Auth:   [8]byte(drawBytes(draw, 8)),
		Body:   drawBytes(draw, long),
	}
}

// check is the internet checksum of layer 2, with a remainder in place of the folding: the folded sum is from 1 to 65535 unless all bytes are 0.
func check(b []byte) int {
	total := 0
	for i, x := range b {
		total += int(x) << (8 * (1 - i%2))
	}
	if total == 0 {
		return 65535
	}
	return 65534 - (total-1)%65535
}

// encoded goes by the words of the chapter.
func encoded(p packet) []byte {
	long := 24 + len(p.Body)
	out := []byte{
		2, byte(p.Type), byte(long / 256), byte(long % 256),
		byte(p.Router >> 24), byte(p.Router >> 16), byte(p.Router >> 8), byte(p.Router),
		byte(p.Area >> 24), byte(p.Area >> 16), byte(p.Area >> 8), byte(p.Area),
		0, 0, 0, byte(p.AuType),
	}
	c := check(append(slices.Clone(out), p.Body...))
	out[12], out[13] = byte(c/256), byte(c%256)
	return append(append(out, p.Auth[:]...), p.Body...)
}

// summed returns b with the right checksum in place of the one it has.
func summed(b []byte) []byte {
	out := slices.Clone(b)
	out[12], out[13] = 0, 0
	c := check(append(slices.Clone(out[:16]), out[24:]...))
	out[12], out[13] = byte(c/256), byte(c%256)
	return out
}

// same tells whether two packets are equal; a body of nil and an empty one are.
func same(p, q packet) bool {
	bodies := bytes.Equal(p.Body, q.Body)
	p.Body, q.Body = nil, nil
	return bodies && reflect.DeepEqual(p, q)
}

func mustEncode(t *testing.T, p packet) []byte {
	t.Helper()
	b, e := head.Encode(p)
	if e != api.OK {
		t.Fatalf("Encode of %v: error %d", p, e)
	}
	return b
}

// refuse fails if b is decoded, or refused with another error than the wanted one, or if a packet comes beside it (R3).
func refuse(t *testing.T, what string, b []byte, want api.Errno) {
	t.Helper()
	p, e := head.Decode(b)
	if e != want {
		t.Errorf("Decode of %s: error %d, want %d", what, e, want)
	}
	if !same(p, packet{}) {
		t.Errorf("Decode of %s: packet %v beside the error", what, p)
	}
}

// far are numbers that are neither a Type nor an AuType, most of them with a valid one in their lowest 8, 16 or 32 bits.
var far = []int{math.MinInt, math.MinInt + 1, -1 << 32, 1 - 1<<32, -255, -256, -65535, -1, 256, 257, 261, 65536, 65537, 1 << 32, 1<<32 + 1, 1<<32 + 5, math.MaxInt - 1, math.MaxInt}

// I1: May, and ErrArg of Encode for all that is not valid.

func mayBe(t *testing.T, p packet, want bool) {
	t.Helper()
	if head.May(p) != want {
		t.Errorf("May with type %d, AuType %d, %d bytes: %t", p.Type, p.AuType, len(p.Body), !want)
	}
	b, e := head.Encode(p)
	if want && (e != api.OK || !bytes.Equal(b, encoded(p))) {
		t.Errorf("Encode with type %d, AuType %d, %d bytes: %x, error %d", p.Type, p.AuType, len(p.Body), b, e)
	}
	if !want && (e != api.ErrArg || len(b) > 0) {
		t.Errorf("Encode with type %d, AuType %d, %d bytes: %d bytes, error %d", p.Type, p.AuType, len(p.Body), len(b), e)
	}
}

func TestMay(t *testing.T) {
	bodies := map[int]bool{0: true, 1: true, 2: true, 1475: true, 1476: true, 1477: false, 1478: false, 1500: false, 1501: false, 65512: false, 65536: false, 65537: false}
	for kind := -2; kind <= 8; kind++ {
		for au := -2; au <= 4; au++ {
			for long, fits := range bodies {
				p := packet{Type: kind, AuType: au, Body: make([]byte, long)}
				mayBe(t, p, kind >= 1 && kind <= 5 && (au == 0 || au == 1) && fits)
			}
		}
	}
}

func TestMayFarBeyond(t *testing.T) {
	for _, n := range far {
		mayBe(t, packet{Type: n}, false)
		mayBe(t, packet{Type: n, AuType: 1}, false)
		mayBe(t, packet{Type: 1, AuType: n}, false)
		mayBe(t, packet{Type: 5, AuType: n, Body: []byte{1}}, false)
	}
}

// What is in the other fields does not make a packet invalid.
func TestMayWithAnyNumbers(t *testing.T) {
	full := [8]byte{255, 255, 255, 255, 255, 255, 255, 255}
	for _, n := range []uint32{0, 1, 1<<31 - 1, 1 << 31, math.MaxUint32} {
		mayBe(t, packet{Type: 3, Router: n}, true)
		mayBe(t, packet{Type: 3, Area: n}, true)
		mayBe(t, packet{Type: 3, Router: n, Area: n, Auth: full, Body: []byte{255}}, true)
		mayBe(t, packet{Type: 3, Router: n, Area: n, AuType: 1, Auth: full}, true)
	}
}

// I1: Encode, byte for byte.

func TestEncode(t *testing.T) {
	auth := [8]byte{0xa1, 0xa2, 0xa3, 0xa4, 0xa5, 0xa6, 0xa7, 0xa8}
	table := []struct {
		p    packet
		want []byte
	}{
		{packet{Type: 1}, []byte{2, 1, 0, 24, 0, 0, 0, 0, 0, 0, 0, 0, 0xfd, 0xe6, 0, 0, 0, 0, 0, 0, 0, 0, 0, 0}},
		// An even number of bytes: 0x0205 + 0x001a + 0x0102 + 0x0304 + 0x0506 + 0x0708 + 0x0001 + 0x090a = 0x1b3e.
		{
			packet{Type: 5, Router: 0x01020304, Area: 0x05060708, AuType: 1, Auth: auth, Body: []byte{9, 10}},
			[]byte{2, 5, 0, 26, 1, 2, 3, 4, 5, 6, 7, 8, 0xe4, 0xc1, 0, 1, 0xa1, 0xa2, 0xa3, 0xa4, 0xa5, 0xa6, 0xa7, 0xa8, 9, 10},
		},
		// An odd number of bytes: the last one is the high byte of a number, 0x0b00.
		{
			packet{Type: 4, Router: 0x01020304, Area: 0x05060708, Auth: auth, Body: []byte{9, 10, 11}},
			[]byte{2, 4, 0, 27, 1, 2, 3, 4, 5, 6, 7, 8, 0xd9, 0xc2, 0, 0, 0xa1, 0xa2, 0xa3, 0xa4, 0xa5, 0xa6, 0xa7, 0xa8, 9, 10, 11},
		},
		// The sum 0x0203 + 0x0018 + 4 times 0xffff carries: 0x0203 + 0x0018 = 0x021b stays.
		{
			packet{Type: 3, Router: math.MaxUint32, Area: math.MaxUint32},
			[]byte{2, 3, 0, 24, 255, 255, 255, 255, 255, 255, 255, 255, 0xfd, 0xe4, 0, 0, 0, 0, 0, 0, 0, 0, 0, 0},
		},
		// The sum is 0xffff, so the checksum is 0: 0x0201 + 0x0018 + 0xfde6.
		{
			packet{Type: 1, Router: 0xfde6},
			[]byte{2, 1, 0, 24, 0, 0, 0xfd, 0xe6, 0, 0, 0, 0, 0, 0, 0, 0, 0, 0, 0, 0, 0, 0, 0, 0},
		},
	}
	for _, x := range table {
		if b := mustEncode(t, x.p); !bytes.Equal(b, x.want) {
			t.Errorf("Encode of %v: %x, want %x", x.p, b, x.want)
		}
		if p, e := head.Decode(x.want); e != api.OK || !same(p, x.p) {
			t.Errorf("Decode of %x: %v, error %d", x.want, p, e)
		}
	}
}

// Every length of a body is written in the two bytes of the length, and is decoded.
func TestEveryLength(t *testing.T) {
	draw := drawer(1)
	for long := 0; long <= mostBody; long++ {
		p := packet{Type: 1 + long%5, Router: 7, AuType: long % 2, Body: drawBytes(draw, long)}
		b := mustEncode(t, p)
		if len(b) != 24+long || int(b[2])<<8|int(b[3]) != 24+long || !bytes.Equal(b, encoded(p)) {
			t.Fatalf("Encode with %d bytes: %x", long, b)
		}
		if q, e := head.Decode(b); e != api.OK || !same(p, q) {
			t.Fatalf("Decode with %d bytes: error %d", long, e)
		}
	}
}

// Example 1.
func TestExample(t *testing.T) {
	for kind := 1; kind <= 5; kind++ {
		if b := mustEncode(t, packet{Type: kind}); len(b) != 24 {
			t.Errorf("type %d: %d bytes", kind, len(b))
		}
	}
}

// I1: Decode, each of its errors.

// sample is the encoding of a packet with a body of n bytes.
func sample(n int) []byte {
	return encoded(packet{Type: 4, Router: 0x01020304, Area: 0x05060708, AuType: 1, Auth: [8]byte{1, 2, 3, 4, 5, 6, 7, 8}, Body: bytes.Repeat([]byte{0x5a}, n)})
}

// with returns b with one byte replaced.
func with(b []byte, at int, x byte) []byte {
	out := slices.Clone(b)
	out[at] = x
	return out
}

// long returns b with another length in it.
func long(b []byte, n int) []byte {
	return with(with(b, 2, byte(n>>8)), 3, byte(n))
}

func TestDecodeShort(t *testing.T) {
	refuse(t, "nil", nil, api.ErrShort)
	b := sample(1)
	for n := 0; n <= 23; n++ {
		refuse(t, "a part", b[:n], api.ErrShort)
		refuse(t, "zeros", make([]byte, n), api.ErrShort)
		refuse(t, "a part with its own length", long(b, n)[:n], api.ErrShort)
	}
	if _, e := head.Decode(sample(0)); e != api.OK {
		t.Errorf("24 bytes: error %d", e)
	}
}

func TestDecodeVersion(t *testing.T) {
	for _, n := range []int{0, 1, 2, 100, mostBody} {
		b := sample(n)
		for v := range 256 {
			if v != 2 {
				refuse(t, "another version", with(b, 0, byte(v)), api.ErrVersion)
				refuse(t, "another version with its checksum", summed(with(b, 0, byte(v))), api.ErrVersion)
			}
		}
	}
}

func TestDecodeLarge(t *testing.T) {
	if _, e := head.Decode(sample(mostBody)); e != api.OK {
		t.Errorf("1500 bytes: error %d", e)
	}
	for _, n := range []int{1501, 1502, 2000, 65535, 65536 + 24, 65536 + 1500} {
		b := append(sample(0), make([]byte, n-24)...)
		refuse(t, "too many bytes", b, api.ErrLarge)
		refuse(t, "too many bytes with their length and checksum", summed(long(b, n)), api.ErrLarge)
	}
}

func TestDecodeType(t *testing.T) {
	for _, n := range []int{0, 1, 50} {
		b := sample(n)
		for kind := range 256 {
			c := summed(with(b, 1, byte(kind)))
			if kind < 1 || kind > 5 {
				refuse(t, "a wrong type", c, api.ErrForm)
			} else if p, e := head.Decode(c); e != api.OK || p.Type != kind {
				t.Errorf("type %d: %d, error %d", kind, p.Type, e)
			}
		}
	}
}

func TestDecodeLength(t *testing.T) {
	for _, n := range []int{24, 25, 26, 255, 256, 257, 512, 1499, 1500} {
		b := sample(n - 24)
		for _, m := range []int{n - 1, n + 1, n - 2, n + 2, n + 256, n ^ 256, n ^ 1<<15, n - 24, n + 24, 0, 1, 23, 1501, 65535, n<<8&0xff00 | n>>8} {
			if m&0xffff == n {
				continue
			}
			refuse(t, "a wrong length", long(b, m), api.ErrForm)
			refuse(t, "a wrong length with its checksum", summed(long(b, m)), api.ErrForm)
		}
		// The length does not change with bytes that are cut off or appended.
		refuse(t, "one byte less", b[:n-1], map[bool]api.Errno{true: api.ErrShort, false: api.ErrForm}[n == 24])
		refuse(t, "one byte more", append(slices.Clone(b), 0), map[bool]api.Errno{true: api.ErrLarge, false: api.ErrForm}[n == 1500])
	}
}

// All checksums but one are wrong, 65535 in place of 0 among them.
func TestDecodeSum(t *testing.T) {
	zero := encoded(packet{Type: 1, Router: 0xfde6})
	for _, b := range [][]byte{sample(0), sample(3), zero} {
		right := int(b[12])<<8 | int(b[13])
		for c := range 1 << 16 {
			x := with(with(b, 12, byte(c>>8)), 13, byte(c))
			if c != right {
				refuse(t, "a wrong checksum", x, api.ErrSum)
			} else if _, e := head.Decode(x); e != api.OK {
				t.Errorf("the checksum %d: error %d", c, e)
			}
		}
	}
	refuse(t, "65535 for 0", with(with(zero, 12, 255), 13, 255), api.ErrSum)
}

// The checksum is that without Auth: one that counts Auth is wrong.
func TestDecodeSumWithAuth(t *testing.T) {
	b := sample(5)
	b[12], b[13] = 0, 0
	c := check(b)
	refuse(t, "a checksum of all bytes", with(with(b, 12, byte(c>>8)), 13, byte(c)), api.ErrSum)
}

func TestDecodeAuth(t *testing.T) {
	for _, n := range []int{0, 1, 50} {
		b := sample(n)
		for au := range 1 << 16 {
			c := summed(with(with(b, 14, byte(au>>8)), 15, byte(au)))
			if au > 1 {
				refuse(t, "another AuType", c, api.ErrAuth)
			} else if p, e := head.Decode(c); e != api.OK || p.AuType != au {
				t.Errorf("AuType %d: %d, error %d", au, p.AuType, e)
			}
		}
	}
}

// R2: of the errors that apply, the one that I1 names first. Every set of faults that one slice of bytes can have is made.
func TestDecodeFirstError(t *testing.T) {
	seen := map[api.Errno]int{}
	for faults := range 1 << 6 {
		short, version, large := faults&1 != 0, faults&2 != 0, faults&4 != 0
		kind, wrong, au := faults&8 != 0, faults&16 != 0, faults&32 != 0
		if short && large {
			continue
		}
		for _, badLength := range []bool{false, true} {
			b := sample(9)
			want := api.OK
			first := func(applies bool, e api.Errno) {
				if applies && want == api.OK {
					want = e
				}
			}
			if large {
				b = long(append(b, make([]byte, most)...), most+33)
			}
			if version {
				b[0] = 3
			}
			if kind {
				b[1] = 6
			}
			if badLength {
				b[3]++
			}
			if au {
				b[15] = 2
			}
			b = summed(b)
			if wrong {
				b[13] ^= 1
			}
			if short {
				b = b[:23]
			}
			first(short, api.ErrShort)
			first(version, api.ErrVersion)
			first(large, api.ErrLarge)
			first(kind || badLength, api.ErrForm)
			first(wrong, api.ErrSum)
			first(au, api.ErrAuth)
			seen[want]++
			if want != api.OK {
				refuse(t, "several faults", b, want)
			} else if _, e := head.Decode(b); e != api.OK {
				t.Errorf("no fault: error %d", e)
			}
		}
	}
	for _, e := range []api.Errno{api.OK, api.ErrShort, api.ErrVersion, api.ErrLarge, api.ErrForm, api.ErrSum, api.ErrAuth} {
		if seen[e] == 0 {
			t.Errorf("error %d did not come", e)
		}
	}
}

// judged goes by the words of I1, one error after the other.
func judged(b []byte) api.Errno {
	if len(b) < 24 {
		return api.ErrShort
	}
	if b[0] != 2 {
		return api.ErrVersion
	}
	if len(b) > most {
		return api.ErrLarge
	}
	if b[1] < 1 || b[1] > 5 || int(b[2])*256+int(b[3]) != len(b) {
		return api.ErrForm
	}
	if !bytes.Equal(b, summed(b)) {
		return api.ErrSum
	}
	if b[14] != 0 || b[15] > 1 {
		return api.ErrAuth
	}
	return api.OK
}

// spoiled returns an encoding with some faults, and often a right checksum nevertheless.
func spoiled(draw func(int) int) []byte {
	b := encoded(drawPacket(draw))
	if draw(8) == 0 {
		b = append(b, make([]byte, draw(2000))...)
	}
	for range draw(4) {
		at := draw(len(b))
		if draw(3) > 0 {
			at = draw(16)
		}
		b[at] = byte(draw(256) >> draw(8))
	}
	if draw(4) > 0 {
		b = long(b, len(b))
	}
	if draw(4) > 0 {
		b = summed(b)
	}
	if draw(8) == 0 {
		b = b[:draw(len(b))]
	}
	return b
}

func TestDecodeByTheModel(t *testing.T) {
	draw := drawer(2)
	seen := map[api.Errno]int{}
	for range 20000 {
		b := spoiled(draw)
		want := judged(b)
		seen[want]++
		if want != api.OK {
			refuse(t, "drawn bytes", b, want)
			continue
		}
		p, e := head.Decode(b)
		if e != api.OK || !bytes.Equal(encoded(p), b) {
			t.Fatalf("Decode of %x: %v, error %d", b, p, e)
		}
	}
	for _, e := range []api.Errno{api.OK, api.ErrShort, api.ErrVersion, api.ErrLarge, api.ErrForm, api.ErrSum, api.ErrAuth} {
		if seen[e] < 100 {
			t.Errorf("error %d came %d times", e, seen[e])
		}
	}
}

// R4: what was passed stays as it was, the memory behind it too, and answers have memory of their own.

func TestEncodeLeavesItsArgument(t *testing.T) {
	memory := bytes.Repeat([]byte{0x77}, 40)
	was := slices.Clone(memory)
	for n := range 20 {
		p := packet{Type: 2, Router: 1, Area: 2, AuType: 1, Auth: [8]byte{1}, Body: memory[3 : 3+n]}
		b := mustEncode(t, p)
		clear(b[:cap(b)])
		head.May(p)
		p.Type = 0
		head.Encode(p)
		if !bytes.Equal(memory, was) {
			t.Fatalf("a body of %d bytes: %x", n, memory)
		}
	}
}

func TestDecodeLeavesItsArgument(t *testing.T) {
	draw := drawer(3)
	for range 2000 {
		b := spoiled(draw)
		memory := append(slices.Clone(b), bytes.Repeat([]byte{0x77}, 40)...)
		was := slices.Clone(memory)
		p, _ := head.Decode(memory[:len(b)])
		clear(p.Body[:cap(p.Body)])
		clear(p.Auth[:])
		if !bytes.Equal(memory, was) {
			t.Fatalf("Decode changed %x", was)
		}
	}
}

func TestAnswersAreApart(t *testing.T) {
	given := packet{Type: 2, AuType: 1, Auth: [8]byte{1}, Body: []byte{1, 2, 3}}
	b, c := mustEncode(t, given), mustEncode(t, given)
	kept := slices.Clone(c)
	p, _ := head.Decode(b)
	q, _ := head.Decode(b)
	clear(b)
	clear(p.Body)
	given.Body[0] = 99
	if !bytes.Equal(c, kept) {
		t.Errorf("the other encoding: %x, want %x", c, kept)
	}
	if !bytes.Equal(q.Body, []byte{1, 2, 3}) || q.Auth != [8]byte{1} {
		t.Errorf("the other packet: %v", q)
	}
}

// R4: a body behind which other bytes stand is encoded without them.
func TestEncodeStopsAtTheLength(t *testing.T) {
	memory := []byte{1, 2, 3, 4, 5, 6}
	b := mustEncode(t, packet{Type: 1, Body: memory[:2]})
	if !bytes.Equal(b, encoded(packet{Type: 1, Body: []byte{1, 2}})) {
		t.Errorf("%x", b)
	}
	whole := append(sample(1), 1, 2, 3)
	if p, e := head.Decode(whole[:25]); e != api.OK || !bytes.Equal(p.Body, []byte{0x5a}) {
		t.Errorf("%v, error %d", p, e)
	}
}

// R4: nil and empty slices are equivalent.
func TestNilBody(t *testing.T) {
	if !bytes.Equal(mustEncode(t, packet{Type: 1}), mustEncode(t, packet{Type: 1, Body: []byte{}})) {
		t.Error("nil and an empty body differ")
	}
	refuse(t, "empty bytes", []byte{}, api.ErrShort)
}

// I2: Accept.

func accepts(t *testing.T, what string, p packet, area uint32, au int, auth [8]byte, want api.Errno) {
	t.Helper()
	if e := head.Accept(p, area, au, auth); e != want {
		t.Errorf("%s: error %d, want %d", what, e, want)
	}
}

func TestAcceptArea(t *testing.T) {
	auth := [8]byte{1, 2, 3, 4, 5, 6, 7, 8}
	for _, area := range []uint32{0, 1, 1 << 16, 0x05060708, 1 << 31, math.MaxUint32} {
		for au := range 2 {
			p := packet{Type: 1, Router: 9, Area: area, AuType: au, Auth: auth}
			accepts(t, "this area", p, area, au, auth, api.OK)
			for bit := range 32 {
				accepts(t, "another area", p, area^1<<bit, au, auth, api.ErrArea)
				// R2: the area is named before the rest.
				accepts(t, "another area and AuType", p, area^1<<bit, 1-au, auth, api.ErrArea)
				accepts(t, "another area and Auth", p, area^1<<bit, au, [8]byte{}, api.ErrArea)
			}
		}
	}
	// The router does not stand for the area.
	accepts(t, "the router", packet{Router: 9, Area: 8}, 9, 0, auth, api.ErrArea)
}

func TestAcceptAuType(t *testing.T) {
	auth := [8]byte{1, 2, 3, 4, 5, 6, 7, 8}
	for au := range 2 {
		p := packet{Type: 5, Area: 3, AuType: au, Auth: auth}
		for _, other := range append([]int{1 - au, -1, 2, 3, 255}, far...) {
			accepts(t, "another AuType", p, 3, other, auth, api.ErrAuth)
			accepts(t, "another AuType and Auth", p, 3, other, [8]byte{}, api.ErrAuth)
		}
	}
}

func TestAcceptAuth(t *testing.T) {
	auth := [8]byte{1, 2, 3, 4, 5, 6, 7, 8}
	for at := range auth {
		for x := 1; x < 256; x++ {
			other := auth
			other[at] ^= byte(x)
			accepts(t, "another Auth with AuType 1", packet{Type: 1, AuType: 1, Auth: auth}, 0, 1, other, api.ErrAuth)
			accepts(t, "another Auth with AuType 0", packet{Type: 1, AuType: 0, Auth: auth}, 0, 0, other, api.OK)
		}
	}
	accepts(t, "this Auth with AuType 1", packet{Type: 1, AuType: 1, Auth: auth}, 0, 1, auth, api.OK)
	accepts(t, "this Auth with AuType 0", packet{Type: 1, AuType: 0, Auth: auth}, 0, 0, auth, api.OK)
}

// I2 does not ask whether the packet is valid: an AuType other than 1 leaves Auth open, whatever it is.
func TestAcceptWhatIsNotValid(t *testing.T) {
	for _, n := range far {
		accepts(t, "far AuTypes", packet{AuType: n, Auth: [8]byte{1}}, 0, n, [8]byte{}, api.OK)
		accepts(t, "a far type", packet{Type: n, Body: make([]byte, 2000)}, 0, 0, [8]byte{}, api.OK)
	}
}

// P9.2: Decode inverts Encode.
func TestDecodeInvertsEncode(t *testing.T) {
	draw := drawer(4)
	zeros, odd := 0, 0
	for range 20000 {
		p := drawPacket(draw)
		b := mustEncode(t, p)
		if !bytes.Equal(b, encoded(p)) {
			t.Fatalf("Encode of %v: %x", p, b)
		}
		q, e := head.Decode(b)
		if e != api.OK || !same(p, q) || !head.May(q) {
			t.Fatalf("Decode of Encode of %v: %v, error %d", p, q, e)
		}
		if b[12] == 0 || b[13] == 0 {
			zeros++
		}
		odd += len(b) % 2
	}
	if zeros < 100 || odd < 5000 {
		t.Errorf("%d checksums with a zero byte, %d odd lengths", zeros, odd)
	}
}

// P9.2: Decode accepts nothing else: what it accepts is encoded to the same bytes again.
func TestDecodeAcceptsNothingElse(t *testing.T) {
	draw := drawer(5)
	accepted, refused := 0, 0
	for range 20000 {
		b := spoiled(draw)
		p, e := head.Decode(b)
		if e != api.OK {
			refused++
			continue
		}
		accepted++
		if c := mustEncode(t, p); !bytes.Equal(b, c) {
			t.Fatalf("Encode of Decode of %x: %x", b, c)
		}
	}
	if accepted < 2000 || refused < 2000 {
		t.Errorf("%d accepted, %d refused", accepted, refused)
	}
}

// P9.2: the change of one byte outside Auth is detected; one in Auth is not seen by the checksum. Every byte gets every other value.
func TestOneByteChanged(t *testing.T) {
	draw := drawer(6)
	for range 60 {
		p := drawPacket(draw)
		p.Body = p.Body[:min(len(p.Body), 41)]
		oneByteChanged(t, p, func() []byte {
			all := make([]byte, 255)
			for i := range all {
				all[i] = byte(i + 1)
			}
			return all
		})
	}
}

// The long packets get the changes that a sum is most likely to miss: 0 to 255, one bit, and a drawn one.
func TestOneByteOfManyChanged(t *testing.T) {
	draw := drawer(7)
	for _, long := range []int{1000, 1475, 1476} {
		p := drawPacket(draw)
		p.Body = drawBytes(draw, long)
		oneByteChanged(t, p, func() []byte {
			return []byte{255, 1 << draw(8), byte(1 + draw(255))}
		})
	}
}

// oneByteChanged changes each byte of the encoding of p alone, by each of the masks that are drawn for it.
func oneByteChanged(t *testing.T, p packet, masks func() []byte) {
	t.Helper()
	b := mustEncode(t, p)
	for at, was := range b {
		for _, mask := range masks() {
			b[at] = was ^ mask
			q, e := head.Decode(b)
			if at < 16 || at >= 24 {
				if e == api.OK {
					t.Fatalf("byte %d of %v changed from %d to %d: accepted", at, p, was, b[at])
				}
				continue
			}
			want := p
			want.Auth[at-16] = b[at]
			if e != api.OK || !same(q, want) {
				t.Fatalf("byte %d of %v changed from %d to %d: %v, error %d", at, p, was, b[at], q, e)
			}
		}
		b[at] = was
	}
}

// P9.2: the two bytes of the checksum are one number, which is not accepted when both change either.
func TestChecksumOfZero(t *testing.T) {
	found := 0
	for router := range uint32(1 << 16) {
		p := packet{Type: 2, Router: router, Area: 0x00010000, Body: []byte{7}}
		b := encoded(p)
		if b[12] != 0 || b[13] != 0 {
			continue
		}
		found++
		if c := mustEncode(t, p); !bytes.Equal(b, c) {
			t.Errorf("router %d: %x", router, c)
		}
		refuse(t, "65535 for 0", with(with(b, 12, 255), 13, 255), api.ErrSum)
	}
	if found == 0 {
		t.Error("no checksum was 0")
	}
}
