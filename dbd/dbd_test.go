package dbd_test

import (
	"bytes"
	"math"
	"reflect"
	"slices"
	"testing"

	"crossroads/api"
	"crossroads/dbd"
	"crossroads/lsa"
)

const (
	mostAds   = 50   // how many advertisements an update has at most
	mostBytes = 1472 // how many bytes they have at most
	mostBody  = 1380 // how many bytes the body of an advertisement has at most
)

// numbers are 32-bit numbers that differ in each of their bytes, or lie at a bound.
var numbers = []uint32{0, 1, 255, 256, 65535, 65536, 0x01020304, 0x7fffffff, 0x80000000, 0x80000001, 0xfffefdfc, math.MaxUint32}

// far are numbers that no field has that is not of 32 bits, most of them with a valid one in their lowest 8, 16 or 32 bits.
var far = []int{math.MinInt, math.MinInt + 1, math.MinInt + 20, -1 << 32, 1 - 1<<32, 20 - 1<<32, -65536, -65535, 20 - 65536, -256, -255, -20, -2, -1, 65536, 65537, 65536 + 20, 65536 + 255, 1 << 20, 1 << 31, 1<<32 - 1, 1 << 32, 1<<32 + 1, 1<<32 + 5, 1<<32 + 20, math.MaxInt - 1, math.MaxInt}

// types are the Types of a valid header.
var types = []int{1, 2, 3, 4, 5, 7}

// drawer returns a source of numbers from 0 to below-1 that is the same for the same seed.
func drawer(seed uint64) func(below int) int {
	return func(below int) int {
		seed = seed*6364136223846793005 + 1442695040888963407
		return int(seed>>33) % below
	}
}

// drawNumber returns a 32-bit number, in some draws a small one or one at a bound.
func drawNumber(draw func(int) int) uint32 {
	if draw(4) == 0 {
		return numbers[draw(len(numbers))]
	}
	return (uint32(draw(1<<16))<<16 | uint32(draw(1<<16))) >> draw(32)
}

// drawMany returns a number from least to most: seldom a great one, and often enough the greatest and the least.
func drawMany(draw func(int) int, least, most int) int {
	switch draw(12) {
	case 0:
		return most
	case 1:
		return least + draw(most-least+1)
	}
	return least + draw(6)
}

func drawHeader(draw func(int) int) api.Header {
	return api.Header{
		Age:     draw(3601) >> draw(13),
		Options: draw(256) >> draw(9),
		Type:    types[draw(len(types))],
		ID:      drawNumber(draw),
		Adv:     drawNumber(draw),
		Seq:     drawNumber(draw),
		Sum:     draw(65536) >> draw(17),
		Long:    20 + draw(mostBody+1)>>draw(12),
	}
}

func drawHeads(draw func(int) int, least, most int) []api.Header {
	out := []api.Header{}
	for range drawMany(draw, least, most) {
		out = append(out, drawHeader(draw))
	}
	return out
}

func drawDesc(draw func(int) int) dbd.Desc {
	return dbd.Desc{
		MTU:     draw(65536) >> draw(17),
		Options: draw(256) >> draw(9),
		Init:    draw(2) == 0,
		More:    draw(2) == 0,
		Master:  draw(2) == 0,
		Seq:     drawNumber(draw),
		Heads:   drawHeads(draw, 0, 60),
	}
}

func drawAsk(draw func(int) int) []api.Key {
	out := []api.Key{}
	for range drawMany(draw, 0, 100) {
		out = append(out, api.Key{Type: 1 + draw(7), ID: drawNumber(draw), Adv: drawNumber(draw)})
	}
	return out
}

func drawAck(draw func(int) int) []api.Header {
	return drawHeads(draw, 1, 70)
}

// drawAd returns an intact advertisement with a body of n bytes.
func drawAd(draw func(int) int, n int) api.Ad {
	a := api.Ad{H: drawHeader(draw), B: make([]byte, n)}
	for i := range a.B {
		a.B[i] = byte(draw(256) >> draw(9))
	}
	return seal(a)
}

// drawAds returns the advertisements of a valid update: few great ones, or many small ones.
func drawAds(draw func(int) int) []api.Ad {
	out := []api.Ad{}
	below := 1 + draw(mostBody+1)>>draw(12)
	for range drawMany(draw, 0, mostAds) {
		a := drawAd(draw, draw(below))
		if total(out)+a.H.Long > mostBytes {
			break
		}
		out = append(out, a)
	}
	return out
}

// seal returns a with the length and the checksum that make it intact.
func seal(a api.Ad) api.Ad {
	s, e := lsa.Seal(a)
	if e != api.OK {
		panic(a)
	}
	return s
}

// What follows, up to codec, goes by the words of the chapters.

func two(n int) []byte {
	return []byte{byte(n / 256), byte(n % 256)}
}

func four(n uint32) []byte {
	return []byte{byte(n >> 24), byte(n >> 16), byte(n >> 8), byte(n)}
}

func numberOf(b []byte) uint32 {
	n := uint32(0)
	for _, x := range b {
		n = n*256 + uint32(x)
	}
	return n
}

func encodedHead(h api.Header) []byte {
	return slices.Concat(two(h.Age), []byte{byte(h.Options), byte(h.Type)}, four(h.ID), four(h.Adv), four(h.Seq), two(h.Sum), two(h.Long))
}

func encodedAck(l []api.Header) []byte {
	out := []byte{}
	for _, h := range l {
		out = append(out, encodedHead(h)...)
	}
	return out
}

func encodedDesc(d dbd.Desc) []byte {
	flags := byte(0)
	for i, set := range []bool{d.Master, d.More, d.Init} {
		if set {
			flags |= 1 << i
		}
	}
	return slices.Concat(two(d.MTU), []byte{byte(d.Options), flags}, four(d.Seq), encodedAck(d.Heads))
}

func encodedAsk(l []api.Key) []byte {
	out := []byte{}
	for _, k := range l {
		out = slices.Concat(out, four(uint32(k.Type)), four(k.ID), four(k.Adv))
	}
	return out
}

func encodedAd(a api.Ad) []byte {
	return append(encodedHead(a.H), a.B...)
}

// encodedAds returns what says that there are many advertisements, and those of l.
func encodedAds(many uint32, l ...api.Ad) []byte {
	out := four(many)
	for _, a := range l {
		out = append(out, encodedAd(a)...)
	}
	return out
}

func valid(h api.Header) bool {
	return h.Age >= 0 && h.Age <= 3600 && h.Options >= 0 && h.Options <= 255 &&
		slices.Contains(types, h.Type) && h.Sum >= 0 && h.Sum <= 65535 && h.Long >= 20 && h.Long <= 1400
}

// fits is the Fletcher checksum of layer 2, with the second sum by the places of the bytes.
func fits(b []byte) bool {
	c0, c1 := 0, 0
	for i, x := range b {
		c0 += int(x)
		c1 += (len(b) - i) * int(x)
	}
	return c0%255 == 0 && c1%255 == 0
}

func intact(a api.Ad) bool {
	return valid(a.H) && a.H.Long == 20+len(a.B) && fits(encodedAd(a)[2:])
}

func total(l []api.Ad) int {
	n := 0
	for _, a := range l {
		n += 20 + len(a.B)
	}
	return n
}

// isUpdate tells whether the advertisements of l make a valid update.
func isUpdate(l []api.Ad) bool {
	for _, a := range l {
		if !intact(a) {
			return false
		}
	}
	return len(l) <= 50 && total(l) <= 1472
}

// packed returns the updates that l should be divided into.
func packed(l []api.Ad) [][]api.Ad {
	out := [][]api.Ad{}
	for len(l) > 0 {
		n := 1
		for n < len(l) && isUpdate(l[:n+1]) {
			n++
		}
		out = append(out, l[:n])
		l = l[n:]
	}
	return out
}

func headOf(b []byte) api.Header {
	return api.Header{
		Age:     int(b[0])*256 + int(b[1]),
		Options: int(b[2]),
		Type:    int(b[3]),
		ID:      numberOf(b[4:8]),
		Adv:     numberOf(b[8:12]),
		Seq:     numberOf(b[12:16]),
		Sum:     int(b[16])*256 + int(b[17]),
		Long:    int(b[18])*256 + int(b[19]),
	}
}

func judgedHeads(b []byte, least, most int) ([]api.Header, api.Errno) {
	if len(b)%20 != 0 {
		return nil, api.ErrShort
	}
	out := []api.Header{}
	for c := b; len(c) > 0; c = c[20:] {
		out = append(out, headOf(c))
	}
	if len(out) < least || len(out) > most || slices.ContainsFunc(out, func(h api.Header) bool { return !valid(h) }) {
		return nil, api.ErrForm
	}
	return out, api.OK
}

func judgedDesc(b []byte) (dbd.Desc, api.Errno) {
	if len(b) < 8 {
		return dbd.Desc{}, api.ErrShort
	}
	heads, e := judgedHeads(b[8:], 0, 60)
	if e == api.OK && b[3] > 7 {
		e = api.ErrForm
	}
	if e != api.OK {
		return dbd.Desc{}, e
	}
	return dbd.Desc{
		MTU:     int(b[0])*256 + int(b[1]),
		Options: int(b[2]),
		Init:    b[3]/4 == 1,
		More:    b[3]/2%2 == 1,
		Master:  b[3]%2 == 1,
		Seq:     numberOf(b[4:8]),
		Heads:   heads,
	}, api.OK
}

func judgedAsk(b []byte) ([]api.Key, api.Errno) {
	if len(b)%12 != 0 {
		return nil, api.ErrShort
	}
	out := []api.Key{}
	for c := b; len(c) > 0; c = c[12:] {
		kind := numberOf(c[:4])
		if len(out) == 100 || kind < 1 || kind > 7 {
			return nil, api.ErrForm
		}
		out = append(out, api.Key{Type: int(kind), ID: numberOf(c[4:8]), Adv: numberOf(c[8:12])})
	}
	return out, api.OK
}

func judgedAck(b []byte) ([]api.Header, api.Errno) {
	return judgedHeads(b, 1, 70)
}

func judgedAds(b []byte) ([]api.Ad, int, api.Errno) {
	if len(b) < 4 {
		return nil, 0, api.ErrShort
	}
	many := numberOf(b[:4])
	if many > 50 {
		return nil, 0, api.ErrForm
	}
	out, damaged, c := []api.Ad{}, 0, b[4:]
	for range many {
		if len(c) < 20 {
			return nil, 0, api.ErrShort
		}
		h := headOf(c)
		if !valid(h) {
			return nil, 0, api.ErrForm
		}
		if len(c) < h.Long {
			return nil, 0, api.ErrShort
		}
		a := api.Ad{H: h, B: slices.Clone(c[20:h.Long])}
		if intact(a) {
			out = append(out, a)
		} else {
			damaged++
		}
		c = c[h.Long:]
	}
	if len(c) > 0 {
		return nil, 0, api.ErrForm
	}
	return out, damaged, api.OK
}

// codec is one kind of body that is taken as a whole: its two functions, what they should do, how many bytes stand before its headers or keys, how many bytes each of these has, and how many there are at least and at most.
type codec struct {
	name                      string
	put                       func(x any) ([]byte, api.Errno)
	take                      func(b []byte) (any, api.Errno)
	encoded                   func(x any) []byte
	judged                    func(b []byte) (any, api.Errno)
	draw                      func(draw func(int) int) any
	before, each, least, most int
}

func codecOf[T any](name string, put func(T) ([]byte, api.Errno), take func([]byte) (T, api.Errno), encoded func(T) []byte, judged func([]byte) (T, api.Errno), draw func(func(int) int) T, sizes [4]int) codec {
	return codec{
		name:    name,
		put:     func(x any) ([]byte, api.Errno) { return put(x.(T)) },
		take:    func(b []byte) (any, api.Errno) { return take(b) },
		encoded: func(x any) []byte { return encoded(x.(T)) },
		judged:  func(b []byte) (any, api.Errno) { return judged(b) },
		draw:    func(source func(int) int) any { return draw(source) },
		before:  sizes[0],
		each:    sizes[1],
		least:   sizes[2],
		most:    sizes[3],
	}
}

var (
	descs  = codecOf("description", dbd.PutDesc, dbd.TakeDesc, encodedDesc, judgedDesc, drawDesc, [4]int{8, 20, 0, 60})
	asks   = codecOf("request", dbd.PutAsk, dbd.TakeAsk, encodedAsk, judgedAsk, drawAsk, [4]int{0, 12, 0, 100})
	acks   = codecOf("acknowledgement", dbd.PutAck, dbd.TakeAck, encodedAck, judgedAck, drawAck, [4]int{0, 20, 1, 70})
	codecs = []codec{descs, asks, acks}
)

// plain returns x with nil in place of an empty list: both are the same.
func plain(x any) any {
	switch x := x.(type) {
	case dbd.Desc:
		if len(x.Heads) == 0 {
			x.Heads = nil
		}
		return x
	case []api.Key:
		if len(x) == 0 {
			return []api.Key(nil)
		}
	case []api.Header:
		if len(x) == 0 {
			return []api.Header(nil)
		}
	}
	return x
}

func same(x, y any) bool {
	return reflect.DeepEqual(plain(x), plain(y))
}

// sameAds tells whether two lists of advertisements are equal; a body of nil and an empty one are.
func sameAds(l, m []api.Ad) bool {
	return slices.EqualFunc(l, m, func(a, b api.Ad) bool { return a.H == b.H && bytes.Equal(a.B, b.B) })
}

// isZero tells whether there is nothing in x.
func isZero(x any) bool {
	return reflect.ValueOf(plain(x)).IsZero()
}

// with returns b with one byte replaced.
func with(b []byte, at int, x byte) []byte {
	out := slices.Clone(b)
	out[at] = x
	return out
}

// with32 returns b with the four bytes from offset at on replaced.
func with32(b []byte, at int, n uint32) []byte {
	return slices.Concat(b[:at], four(n), b[at+4:])
}

// filled returns n bytes that differ from their neighbors.
func filled(n int) []byte {
	out := make([]byte, n)
	for i := range out {
		out[i] = byte(i*7 + i/256 + 1)
	}
	return out
}

// begin returns so much of b as can be told in a line.
func begin(b []byte) []byte {
	return b[:min(len(b), 60)]
}

// accept fails unless x is put as b and b is taken as x.
func (c codec) accept(t *testing.T, x any, b []byte) {
	t.Helper()
	if out, e := c.put(x); e != api.OK || !bytes.Equal(out, b) {
		t.Errorf("%s %v: put as %x, error %d, want %x", c.name, x, out, e, b)
	}
	if y, e := c.take(b); e != api.OK || !same(x, y) {
		t.Errorf("%s of %x: %v, error %d, want %v", c.name, b, y, e, x)
	}
}

// may fails if x is valid and should not be, or the other way round, or if bytes come beside the error (R3).
func (c codec) may(t *testing.T, x any, want bool) {
	t.Helper()
	if want {
		c.accept(t, x, c.encoded(x))
		return
	}
	if b, e := c.put(x); e != api.ErrArg || len(b) > 0 {
		t.Errorf("%s %v: %d bytes, error %d", c.name, x, len(b), e)
	}
}

// refuse fails if b is taken, or refused with another error than the wanted one, or if something comes beside it (R3).
func (c codec) refuse(t *testing.T, b []byte, want api.Errno) {
	t.Helper()
	x, e := c.take(b)
	if e != want || !isZero(x) {
		t.Errorf("%s of %d bytes, %x: %v, error %d, want %d", c.name, len(b), begin(b), x, e, want)
	}
}

// meet fails unless b is taken, or refused, as the chapter says.
func (c codec) meet(t *testing.T, b []byte) api.Errno {
	t.Helper()
	x, e := c.judged(b)
	if e != api.OK {
		c.refuse(t, b, e)
		return e
	}
	c.accept(t, x, b)
	return e
}

// headsOf returns many valid headers that differ in all their fields.
func headsOf(many int) []api.Header {
	out := make([]api.Header, many)
	for i := range out {
		n := uint32(i)
		out[i] = api.Header{Age: i*37%3600 + 1, Options: i + 2, Type: types[i%len(types)], ID: n*0x01010101 + 0x10203, Adv: n*0x00fefdfc + 7, Seq: 0x80000001 + n, Sum: i*257 + 3, Long: 20 + i*7}
	}
	return out
}

// keysOf returns many keys that differ in all their fields.
func keysOf(many int) []api.Key {
	out := make([]api.Key, many)
	for i := range out {
		n := uint32(i)
		out[i] = api.Key{Type: 1 + i%7, ID: n*0x01010101 + 0x10203, Adv: n*0x00fefdfc + 7}
	}
	return out
}

// ad returns an intact advertisement of long bytes; those with different ids differ.
func ad(id uint32, long int) api.Ad {
	h := api.Header{Age: 0x0102, Options: 0x22, Type: 1, ID: id, Adv: 0x11121314, Seq: 0x80000001}
	return seal(api.Ad{H: h, B: filled(long - 20)})
}

// adsOf returns intact advertisements of these many bytes.
func adsOf(longs ...int) []api.Ad {
	out := []api.Ad{}
	for i, n := range longs {
		out = append(out, ad(uint32(i+1), n))
	}
	return out
}

// spoilt returns a valid advertisement that is a but for one bit, and so is not intact.
func spoilt(a api.Ad) api.Ad {
	a.H.Seq ^= 1 << 9
	return a
}

// wrongHeads returns headers of which none is valid: one for each bound of each field, and some far beyond.
func wrongHeads() []api.Header {
	h := api.Header{Age: 1, Options: 2, Type: 3, ID: 4, Adv: 5, Seq: 6, Sum: 7, Long: 40}
	fields := func(h *api.Header) []*int { return []*int{&h.Age, &h.Options, &h.Type, &h.Sum, &h.Long} }
	wrong := [][]int{{-1, 3601}, {-1, 256}, {-1, 0, 6, 8}, {-1, 65536}, {0, 19, 1401}}
	out := []api.Header{}
	for i, values := range wrong {
		for _, n := range slices.Concat(values, far) {
			k := h
			*fields(&k)[i] = n
			out = append(out, k)
		}
	}
	return out
}

// wrongBytes returns the encodings of headers of which none is valid.
func wrongBytes() [][]byte {
	h := encodedHead(api.Header{Age: 1, Options: 2, Type: 3, ID: 4, Adv: 5, Seq: 6, Sum: 7, Long: 40})
	out := [][]byte{
		with(with(h, 0, 14), 1, 17), with(h, 0, 15), with(h, 0, 255),
		with(h, 3, 0), with(h, 3, 6), with(h, 3, 8), with(h, 3, 255),
		with(h, 19, 0), with(h, 19, 19), with(with(h, 18, 5), 19, 121), with(h, 18, 255),
		make([]byte, 20), bytes.Repeat([]byte{255}, 20),
	}
	return out
}

// M1: byte for byte.

func TestPutDesc(t *testing.T) {
	descs.accept(t, dbd.Desc{}, make([]byte, 8))
	descs.accept(t, dbd.Desc{Heads: []api.Header{}}, make([]byte, 8))
	d := dbd.Desc{MTU: 0x0102, Options: 3, Init: true, Seq: 0x05060708}
	descs.accept(t, d, []byte{1, 2, 3, 4, 5, 6, 7, 8})
	h := api.Header{Age: 0x0102, Options: 3, Type: 4, ID: 0x05060708, Adv: 0x090a0b0c, Seq: 0x0d0e0f10, Sum: 0x1112, Long: 0x0113}
	one := []byte{1, 2, 3, 4, 5, 6, 7, 8, 9, 10, 11, 12, 13, 14, 15, 16, 17, 18, 1, 19}
	d.Heads = []api.Header{h}
	descs.accept(t, d, slices.Concat([]byte{1, 2, 3, 4, 5, 6, 7, 8}, one))
	g := api.Header{Age: 3600, Options: 255, Type: 7, ID: math.MaxUint32, Seq: 0x80000000, Sum: 65535, Long: 1400}
	other := []byte{14, 16, 255, 7, 255, 255, 255, 255, 0, 0, 0, 0, 128, 0, 0, 0, 255, 255, 5, 120}
	d = dbd.Desc{MTU: 65535, Options: 255, Init: true, More: true, Master: true, Seq: math.MaxUint32, Heads: []api.Header{h, g, h}}
	descs.accept(t, d, slices.Concat([]byte{255, 255, 255, 7, 255, 255, 255, 255}, one, other, one))
}

func TestFlags(t *testing.T) {
	for flags := range byte(8) {
		d := dbd.Desc{MTU: 1500, Options: 2, Init: flags >= 4, More: flags%4 >= 2, Master: flags%2 == 1, Seq: 9}
		descs.accept(t, d, []byte{5, 220, 2, flags, 0, 0, 0, 9})
		d.Heads = headsOf(2)
		descs.accept(t, d, slices.Concat([]byte{5, 220, 2, flags, 0, 0, 0, 9}, encodedAck(d.Heads)))
	}
}

func TestPutAsk(t *testing.T) {
	asks.accept(t, []api.Key(nil), nil)
	asks.accept(t, []api.Key{}, []byte{})
	one := api.Key{Type: 5, ID: 0x01020304, Adv: 0x05060708}
	asks.accept(t, []api.Key{one}, []byte{0, 0, 0, 5, 1, 2, 3, 4, 5, 6, 7, 8})
	other := api.Key{Type: 6, ID: math.MaxUint32}
	asks.accept(t, []api.Key{one, other, one}, []byte{0, 0, 0, 5, 1, 2, 3, 4, 5, 6, 7, 8, 0, 0, 0, 6, 255, 255, 255, 255, 0, 0, 0, 0, 0, 0, 0, 5, 1, 2, 3, 4, 5, 6, 7, 8})
}

func TestPutAck(t *testing.T) {
	h := api.Header{Age: 0x0102, Options: 3, Type: 4, ID: 0x05060708, Adv: 0x090a0b0c, Seq: 0x0d0e0f10, Sum: 0x1112, Long: 0x0113}
	one := []byte{1, 2, 3, 4, 5, 6, 7, 8, 9, 10, 11, 12, 13, 14, 15, 16, 17, 18, 1, 19}
	acks.accept(t, []api.Header{h}, one)
	least := api.Header{Type: 1, Long: 20}
	other := []byte{0, 0, 0, 1, 0, 0, 0, 0, 0, 0, 0, 0, 0, 0, 0, 0, 0, 0, 0, 20}
	acks.accept(t, []api.Header{least}, other)
	acks.accept(t, []api.Header{h, least, h}, slices.Concat(one, other, one))
}

func TestPutAds(t *testing.T) {
	a := seal(api.Ad{H: api.Header{Age: 0x0102, Type: 1}})
	b := seal(api.Ad{H: api.Header{Age: 3600, Options: 2, Type: 5, ID: 0x01020304, Adv: 0x05060708, Seq: 0x090a0b0c}, B: []byte{7, 8, 9}})
	one := slices.Concat([]byte{1, 2, 0, 1}, make([]byte, 12), two(a.H.Sum), []byte{0, 20})
	other := slices.Concat([]byte{14, 16, 2, 5, 1, 2, 3, 4, 5, 6, 7, 8, 9, 10, 11, 12}, two(b.H.Sum), []byte{0, 23, 7, 8, 9})
	acceptAds(t, nil, []byte{0, 0, 0, 0})
	acceptAds(t, []api.Ad{a}, slices.Concat([]byte{0, 0, 0, 1}, one))
	acceptAds(t, []api.Ad{b}, slices.Concat([]byte{0, 0, 0, 1}, other))
	acceptAds(t, []api.Ad{a, b}, slices.Concat([]byte{0, 0, 0, 2}, one, other))
	acceptAds(t, []api.Ad{b, a, b}, slices.Concat([]byte{0, 0, 0, 3}, other, one, other))
}

// Example 1.
func TestExample(t *testing.T) {
	for _, l := range [][]api.Ad{nil, {}} {
		if b, e := dbd.PutAds(l); e != api.OK || !bytes.Equal(b, []byte{0, 0, 0, 0}) {
			t.Errorf("%v, error %d", b, e)
		}
	}
}

// Each bit of a number has a place of its own.
func TestEveryBitOfADesc(t *testing.T) {
	for bit := range 32 {
		descs.accept(t, dbd.Desc{Seq: 1 << bit}, with(make([]byte, 8), 7-bit/8, 1<<(bit%8)))
		if bit < 16 {
			descs.accept(t, dbd.Desc{MTU: 1 << bit}, with(make([]byte, 8), 1-bit/8, 1<<(bit%8)))
		}
		if bit < 8 {
			descs.accept(t, dbd.Desc{Options: 1 << bit}, with(make([]byte, 8), 2, 1<<bit))
		}
	}
}

func TestEveryBitOfAKey(t *testing.T) {
	for _, many := range []int{1, 2, 100} {
		for _, at := range []int{0, many / 2, many - 1} {
			for bit := range 32 {
				l := slices.Repeat([]api.Key{{Type: 4}}, many)
				want := encodedAsk(l)
				l[at].ID = 1 << bit
				asks.accept(t, l, with(want, 12*at+7-bit/8, 1<<(bit%8)))
				l[at].ID, l[at].Adv = 0, 1<<bit
				asks.accept(t, l, with(want, 12*at+11-bit/8, 1<<(bit%8)))
			}
		}
	}
}

// What is in a number of 32 bits makes nothing invalid, be it 0 or there twice.
func TestAnyNumbers(t *testing.T) {
	for _, n := range numbers {
		h := api.Header{Type: 1, ID: n, Adv: n, Seq: n, Long: 20}
		k := api.Key{Type: 1, ID: n, Adv: n}
		descs.may(t, dbd.Desc{Seq: n, Heads: []api.Header{h, h}}, true)
		asks.may(t, []api.Key{k, k, {Type: 7, ID: n}, {Type: 7, Adv: n}}, true)
		acks.may(t, []api.Header{h, h}, true)
		a := seal(api.Ad{H: h, B: four(n)})
		acceptAds(t, []api.Ad{a, a}, encodedAds(2, a, a))
	}
}

// M1: ErrArg, each bound alone and with each bound of the others.

// placed returns lists that are l, but with x as the first, the last, the first and the last, or the middle element.
func placed[T any](l []T, x T) [][]T {
	out := [][]T{}
	last := len(l) - 1
	for _, places := range [][]int{{0}, {last}, {0, last}, {last / 2}} {
		m := slices.Clone(l)
		for _, at := range places {
			m[at] = x
		}
		out = append(out, m)
	}
	return out
}

func TestDescBounds(t *testing.T) {
	mtus := map[int]bool{-1: false, 0: true, 1: true, 65534: true, 65535: true, 65536: false}
	options := map[int]bool{-1: false, 0: true, 1: true, 254: true, 255: true, 256: false}
	counts := map[int]bool{0: true, 1: true, 2: true, 59: true, 60: true, 61: false, 62: false}
	for mtu, a := range mtus {
		for option, b := range options {
			for many, c := range counts {
				d := dbd.Desc{MTU: mtu, Options: option, Seq: math.MaxUint32, Heads: headsOf(many)}
				descs.may(t, d, a && b && c)
				if many == 0 {
					continue
				}
				for _, l := range placed(d.Heads, api.Header{Type: 6, Long: 20}) {
					d.Heads = l
					descs.may(t, d, false)
				}
			}
		}
	}
}

func TestDescWithinTheBounds(t *testing.T) {
	for n := -70; n < 66000; n++ {
		descs.may(t, dbd.Desc{MTU: n}, n >= 0 && n <= 65535)
	}
	for n := -600; n < 900; n++ {
		descs.may(t, dbd.Desc{Options: n}, n >= 0 && n <= 255)
	}
	for many := range 150 {
		descs.may(t, dbd.Desc{Heads: headsOf(many)}, many <= 60)
	}
	for _, many := range []int{255, 256, 257, 316, 65535, 65536, 65537, 65596} {
		descs.may(t, dbd.Desc{Heads: slices.Repeat(headsOf(1), many)}, false)
	}
}

func TestFarBeyond(t *testing.T) {
	for _, n := range far {
		for _, many := range []int{0, 1, 60} {
			descs.may(t, dbd.Desc{MTU: n, Heads: headsOf(many)}, false)
			descs.may(t, dbd.Desc{Options: n, Heads: headsOf(many)}, false)
		}
		for _, many := range []int{1, 2, 100} {
			for _, l := range placed(keysOf(many), api.Key{Type: n, ID: 1, Adv: 1}) {
				asks.may(t, l, false)
			}
		}
	}
}

// A header that is not valid is found wherever it is.
func TestHeadersThatAreNotValid(t *testing.T) {
	for _, h := range wrongHeads() {
		for _, many := range []int{1, 2, 7, 60} {
			for _, l := range placed(headsOf(many), h) {
				descs.may(t, dbd.Desc{Heads: l}, false)
				acks.may(t, l, false)
			}
		}
	}
	for at := range 70 {
		l := headsOf(70)
		l[at].Type = 6
		acks.may(t, l, false)
		if at < 60 {
			descs.may(t, dbd.Desc{Heads: l[:60]}, false)
		}
	}
}

func TestAskBounds(t *testing.T) {
	counts := map[int]bool{1: true, 2: true, 99: true, 100: true, 101: false, 102: false}
	asks.may(t, []api.Key{}, true)
	for many, a := range counts {
		for kind := -10; kind < 300; kind++ {
			for _, l := range placed(keysOf(many), api.Key{Type: kind, ID: 8, Adv: 9}) {
				asks.may(t, l, a && kind >= 1 && kind <= 7)
			}
		}
	}
	for many := range 250 {
		asks.may(t, keysOf(many), many <= 100)
	}
	for _, many := range []int{255, 256, 257, 356, 65535, 65536, 65537, 65636} {
		asks.may(t, slices.Repeat(keysOf(1), many), false)
	}
	for at := range 100 {
		for _, kind := range []int{0, 8} {
			l := keysOf(100)
			l[at].Type = kind
			asks.may(t, l, false)
		}
	}
}

func TestAckBounds(t *testing.T) {
	for many := range 150 {
		acks.may(t, headsOf(many), many >= 1 && many <= 70)
	}
	acks.may(t, []api.Header(nil), false)
	for _, many := range []int{255, 256, 257, 326, 65535, 65536, 65537, 65606} {
		acks.may(t, slices.Repeat(headsOf(1), many), false)
	}
}

// acceptAds fails unless l is put as b and b is taken as l, with nothing skipped.
func acceptAds(t *testing.T, l []api.Ad, b []byte) {
	t.Helper()
	if out, e := dbd.PutAds(l); e != api.OK || !bytes.Equal(out, b) {
		t.Errorf("%d advertisements: put as %x, error %d, want %x", len(l), begin(out), e, begin(b))
	}
	if m, damaged, e := dbd.TakeAds(b); e != api.OK || damaged != 0 || !sameAds(l, m) {
		t.Errorf("%x: %d advertisements, %d skipped, error %d, want %d", begin(b), len(m), damaged, e, len(l))
	}
}

// mayAds fails if l is a valid update and should not be, or the other way round.
func mayAds(t *testing.T, l []api.Ad, want bool) {
	t.Helper()
	if want {
		acceptAds(t, l, encodedAds(uint32(len(l)), l...))
		return
	}
	if b, e := dbd.PutAds(l); e != api.ErrArg || len(b) > 0 {
		t.Errorf("%d advertisements of %d bytes: %d bytes, error %d", len(l), total(l), len(b), e)
	}
}

func TestAdsByNumber(t *testing.T) {
	for many := range 120 {
		mayAds(t, adsOf(slices.Repeat([]int{20}, many)...), many <= mostAds)
	}
	for _, many := range []int{255, 256, 257, 306, 65535, 65536, 65537, 65586} {
		mayAds(t, slices.Repeat(adsOf(20), many), false)
	}
}

// fullLists are how many bytes advertisements have that are together just as many as those of an update may have.
func fullLists() [][]int {
	return [][]int{
		{72, 1400}, {1400, 72}, {736, 736}, {20, 1400, 52}, {1000, 452, 20}, {490, 491, 491},
		slices.Repeat([]int{368}, 4), slices.Repeat([]int{92}, 16), slices.Repeat([]int{32}, 46),
		append(slices.Repeat([]int{29}, 49), 51), append([]int{492}, slices.Repeat([]int{20}, 49)...),
	}
}

func TestAdsByBytes(t *testing.T) {
	for _, longs := range fullLists() {
		if total(adsOf(longs...)) != mostBytes {
			t.Fatalf("%v are %d bytes", longs, total(adsOf(longs...)))
		}
		mayAds(t, adsOf(longs...), true)
		if len(longs) < mostAds {
			mayAds(t, adsOf(append(slices.Clone(longs), 20)...), false)
		}
		for i := range longs {
			more := slices.Clone(longs)
			if more[i] < 1400 {
				more[i]++
				mayAds(t, adsOf(more...), false)
				more[i] = 1400
				mayAds(t, adsOf(more...), false)
			}
			less := slices.Clone(longs)
			if less[i] > 20 {
				less[i]--
				mayAds(t, adsOf(less...), true)
			}
		}
	}
	for n := 20; n <= 1400; n++ {
		mayAds(t, adsOf(n), true)
		mayAds(t, adsOf(700, n), n <= 772)
		mayAds(t, adsOf(n, 20, 1000), n <= 452)
	}
}

// faulty returns what a can become that is not intact.
func faulty(a api.Ad) []api.Ad {
	out := []api.Ad{spoilt(a), {}, {H: api.Header{Type: 1, Long: 20}}}
	for _, h := range wrongHeads() {
		out = append(out, api.Ad{H: h, B: a.B})
		h.ID, h.Long = 77, 20+len(a.B)
		out = append(out, api.Ad{H: h, B: a.B})
	}
	for _, n := range []int{-256, -1, 1, 256, 65536, 1 << 32} {
		b := a
		b.H.Long += n
		out = append(out, b)
	}
	return append(out,
		api.Ad{H: a.H, B: append(slices.Clone(a.B), 0)},
		api.Ad{H: a.H, B: a.B[:len(a.B)-1]},
		api.Ad{H: a.H},
		api.Ad{H: a.H, B: with(a.B, 3, a.B[3]^1)},
		api.Ad{H: a.H, B: with(a.B, len(a.B)-1, a.B[len(a.B)-1]^128)},
	)
}

func TestAdsThatAreNotIntact(t *testing.T) {
	for _, bad := range faulty(ad(5, 28)) {
		mayAds(t, []api.Ad{bad}, false)
		for _, many := range []int{1, 2, 7, mostAds} {
			for _, l := range placed(adsOf(slices.Repeat([]int{28}, many)...), bad) {
				mayAds(t, l, false)
			}
		}
	}
	for at := range mostAds {
		l := adsOf(slices.Repeat([]int{29}, mostAds)...)
		l[at] = spoilt(l[at])
		mayAds(t, l, false)
	}
}

// The Age is not in the checksum, so an advertisement of any valid Age is intact.
func TestAdsOfAnyAge(t *testing.T) {
	for _, age := range []int{-1, 0, 1, 255, 256, 1800, 3599, 3600, 3601, 65535, 65536} {
		l := adsOf(40, 20, 1400)
		l[0].H.Age, l[2].H.Age = age, age
		mayAds(t, l, age >= 0 && age <= 3600)
	}
}

// M1: ErrShort and ErrForm.

// samples are some of each kind, those with the most and the fewest elements among them.
func samples(c codec) []any {
	switch c.name {
	case "description":
		return []any{dbd.Desc{}, dbd.Desc{MTU: 1500, Options: 2, Init: true, More: true, Master: true, Seq: 9}, dbd.Desc{MTU: 65535, Options: 255, More: true, Seq: math.MaxUint32, Heads: headsOf(2)}, dbd.Desc{Master: true, Heads: headsOf(60)}}
	case "request":
		return []any{[]api.Key{}, keysOf(1), keysOf(3), keysOf(100)}
	}
	return []any{headsOf(1), headsOf(3), headsOf(70)}
}

// ends tells whether n bytes end within a part.
func (c codec) ends(n int) bool {
	return n < c.before || (n-c.before)%c.each != 0
}

func TestEveryLength(t *testing.T) {
	for _, c := range codecs {
		for _, x := range samples(c) {
			whole := c.encoded(x)
			for _, behind := range [][]byte{filled(100), make([]byte, 100), bytes.Repeat([]byte{255}, 100)} {
				b := slices.Concat(whole, behind)
				for n := range b {
					if c.ends(n) {
						c.refuse(t, b[:n], api.ErrShort)
					}
					c.meet(t, b[:n])
				}
			}
		}
	}
}

func TestNothing(t *testing.T) {
	for _, b := range [][]byte{nil, {}} {
		descs.refuse(t, b, api.ErrShort)
		asks.accept(t, []api.Key{}, b)
		acks.refuse(t, b, api.ErrForm)
	}
}

// Bytes that end within a part are ErrShort, whatever is in them (R2).
func TestShortWhateverItSays(t *testing.T) {
	for _, c := range codecs {
		for x := range 256 {
			for n := range c.before + 3*c.each {
				if c.ends(n) {
					c.refuse(t, bytes.Repeat([]byte{byte(x)}, n), api.ErrShort)
				}
			}
		}
	}
}

// Both errors apply: what is wrong is before the end of what is incomplete.
func TestShortAndWrong(t *testing.T) {
	d := encodedDesc(dbd.Desc{MTU: 1500, Options: 2, More: true, Seq: 9, Heads: headsOf(3)})
	wrong := map[string][][]byte{
		"description":     {with(d, 3, 8), with(d, 3, 255), with(d, 11, 6), with(d, 31, 0), with(d, 51, 8), with(d, 27, 19), with(d, 26, 6)},
		"request":         {with(encodedAsk(keysOf(3)), 0, 1), with(encodedAsk(keysOf(3)), 3, 0), with(encodedAsk(keysOf(3)), 15, 8)},
		"acknowledgement": {with(encodedAck(headsOf(3)), 3, 6), with(encodedAck(headsOf(3)), 23, 0), with(encodedAck(headsOf(3)), 58, 6)},
	}
	for _, c := range codecs {
		for _, b := range wrong[c.name] {
			c.refuse(t, b, api.ErrForm)
			for more := 1; more < c.each; more++ {
				c.refuse(t, slices.Concat(b, make([]byte, more)), api.ErrShort)
				c.refuse(t, b[:len(b)-more], api.ErrShort)
			}
		}
	}
}

// Too many headers or keys, all of them valid: ErrForm, but ErrShort if one is incomplete.
func TestTooMany(t *testing.T) {
	for _, c := range codecs {
		whole := c.encoded(samples(c)[len(samples(c))-1])
		one := whole[c.before : c.before+c.each]
		if len(whole) != c.before+c.most*c.each {
			t.Fatalf("%s: %d bytes", c.name, len(whole))
		}
		for _, more := range []int{1, 2, 50, 196, 256, 1000, 65536} {
			b := slices.Concat(whole, bytes.Repeat(one, more))
			c.refuse(t, b, api.ErrForm)
			c.refuse(t, append(slices.Clone(b), 0), api.ErrShort)
			c.refuse(t, b[:len(b)-1], api.ErrShort)
		}
		for many := range c.most + 30 {
			b := slices.Concat(whole[:c.before], bytes.Repeat(one, many))
			if many < c.least || many > c.most {
				c.refuse(t, b, api.ErrForm)
			}
			c.meet(t, b)
		}
	}
}

func TestFlagsThatAreNotValid(t *testing.T) {
	for flags := 8; flags < 256; flags++ {
		for _, x := range samples(descs) {
			descs.refuse(t, with(encodedDesc(x.(dbd.Desc)), 3, byte(flags)), api.ErrForm)
		}
	}
}

// A header that is not valid is found wherever it is.
func TestTakeHeadersThatAreNotValid(t *testing.T) {
	for _, h := range wrongBytes() {
		for _, c := range []codec{descs, acks} {
			for _, many := range []int{1, 2, 5, c.most} {
				whole := slices.Concat(make([]byte, c.before), encodedAck(headsOf(many)))
				for at := range many {
					b := slices.Clone(whole)
					copy(b[c.before+20*at:], h)
					c.refuse(t, b, api.ErrForm)
				}
			}
		}
	}
}

// The Type of a key has four bytes; each of them counts.
func TestTakeKeysThatAreNotValid(t *testing.T) {
	whole := encodedAsk(keysOf(100))
	for at := range 100 {
		for _, kind := range []uint32{0, 8, 9, 255, 256, 257, 65536, 65537, 1 << 24, 1<<24 + 5, 0x80000000, 0x80000001, math.MaxUint32} {
			asks.refuse(t, with32(whole, 12*at, kind), api.ErrForm)
		}
	}
	for kind := range uint32(3000) {
		b := with32(encodedAsk(keysOf(2)), 12, kind)
		if kind < 1 || kind > 7 {
			asks.refuse(t, b, api.ErrForm)
		}
		asks.meet(t, b)
	}
}

// Every value of every byte is taken, or refused, as the chapter says.
func TestEveryByte(t *testing.T) {
	for _, c := range codecs {
		seen := map[api.Errno]int{}
		for _, x := range samples(c) {
			b := c.encoded(x)
			for at := range min(len(b), 70) {
				for value := range 256 {
					seen[c.meet(t, with(b, at, byte(value)))]++
				}
			}
		}
		if seen[api.OK] < 1000 || seen[api.ErrForm] < 1000 {
			t.Errorf("%s: %d are taken, %d are refused", c.name, seen[api.OK], seen[api.ErrForm])
		}
	}
}

// M2: TakeAds.

// refuseAds fails if b is taken, or refused with another error than the wanted one, or if something comes beside it (R3).
func refuseAds(t *testing.T, b []byte, want api.Errno) {
	t.Helper()
	l, damaged, e := dbd.TakeAds(b)
	if e != want || len(l) > 0 || damaged != 0 {
		t.Errorf("%d bytes, %x: %d advertisements, %d skipped, error %d, want %d", len(b), begin(b), len(l), damaged, e, want)
	}
}

// skip fails unless b is taken as l, with so many skipped.
func skip(t *testing.T, b []byte, l []api.Ad, many int) {
	t.Helper()
	m, damaged, e := dbd.TakeAds(b)
	if e != api.OK || damaged != many || !sameAds(l, m) {
		t.Errorf("%d bytes, %x: %d advertisements, %d skipped, error %d, want %d and %d", len(b), begin(b), len(m), damaged, e, len(l), many)
	}
}

// meetAds fails unless b is taken, or refused, as the chapter says.
func meetAds(t *testing.T, b []byte) ([]api.Ad, int, api.Errno) {
	t.Helper()
	l, damaged, e := judgedAds(b)
	if e != api.OK {
		refuseAds(t, b, e)
	} else {
		skip(t, b, l, damaged)
	}
	return l, damaged, e
}

func TestTakeAdsWithoutANumber(t *testing.T) {
	for x := range 256 {
		for n := range 4 {
			refuseAds(t, bytes.Repeat([]byte{byte(x)}, n), api.ErrShort)
		}
	}
	refuseAds(t, nil, api.ErrShort)
	for n := range 4 {
		refuseAds(t, encodedAds(1, ad(1, 30))[:n], api.ErrShort)
	}
}

// A number above 50 is ErrForm, whatever is behind it; one up to 50 says how many advertisements there must be.
func TestNumberOfAds(t *testing.T) {
	behind := [][]byte{nil, {0}, make([]byte, 19), make([]byte, 20), encodedAds(0, adsOf(20, 30)...)[4:], encodedAds(0, adsOf(slices.Repeat([]int{20}, 60)...)...)[4:]}
	for _, many := range []uint32{51, 52, 100, 255, 256, 257, 306, 65535, 65536, 65537, 1 << 24, 1<<24 + 1, 1<<31 - 1, 1 << 31, 1<<31 + 1, math.MaxUint32} {
		for _, b := range behind {
			refuseAds(t, slices.Concat(four(many), b), api.ErrForm)
		}
	}
	for many := range 56 {
		l := adsOf(slices.Repeat([]int{21}, many)...)
		for says := range uint32(56) {
			b := encodedAds(says, l...)
			switch {
			case says > mostAds || int(says) < many:
				refuseAds(t, b, api.ErrForm)
			case int(says) > many:
				refuseAds(t, b, api.ErrShort)
			default:
				skip(t, b, l, 0)
			}
		}
	}
}

func TestTakeNoAds(t *testing.T) {
	skip(t, []byte{0, 0, 0, 0}, nil, 0)
	for n := 1; n < 60; n++ {
		refuseAds(t, make([]byte, 4+n), api.ErrForm)
		refuseAds(t, slices.Concat(make([]byte, 4), filled(n)), api.ErrForm)
	}
}

// beforeIt are what can stand before an advertisement with an error: none, intact ones, damaged ones, and both.
func beforeIt() [][]api.Ad {
	a, b := ad(1, 30), ad(2, 20)
	return [][]api.Ad{nil, {a}, {b}, {spoilt(a)}, {spoilt(b)}, {a, b}, {a, spoilt(b)}, {spoilt(a), b}, {spoilt(a), spoilt(b)}, adsOf(slices.Repeat([]int{20}, 49)...)}
}

// failing fails unless the error of wrong is found behind each of what can stand before it, with and without further advertisements.
func failing(t *testing.T, wrong []byte, want api.Errno) {
	t.Helper()
	for _, l := range beforeIt() {
		many := uint32(len(l))
		refuseAds(t, slices.Concat(encodedAds(many+1, l...), wrong), want)
		refuseAds(t, slices.Concat(encodedAds(min(many+9, mostAds), l...), wrong), want)
	}
}

func TestHeaderIncomplete(t *testing.T) {
	whole := encodedAd(ad(3, 40))
	for n := range 20 {
		failing(t, whole[:n], api.ErrShort)
		// It is incomplete, whatever is in it.
		failing(t, make([]byte, n), api.ErrShort)
		failing(t, bytes.Repeat([]byte{255}, n), api.ErrShort)
	}
}

func TestHeaderNotValid(t *testing.T) {
	for _, h := range wrongBytes() {
		for _, n := range []int{0, 1, 19, 20, 21, 1380, 1400} {
			failing(t, slices.Concat(h, filled(n)), api.ErrForm)
			failing(t, slices.Concat(h, make([]byte, n)), api.ErrForm)
		}
	}
}

func TestBodyIncomplete(t *testing.T) {
	for _, long := range []int{21, 22, 40, 300, 1400} {
		for _, a := range []api.Ad{ad(3, long), spoilt(ad(3, long))} {
			whole := encodedAd(a)
			for n := 20; n < long; n++ {
				refuseAds(t, slices.Concat([]byte{0, 0, 0, 1}, whole[:n]), api.ErrShort)
			}
			failing(t, whole[:20], api.ErrShort)
			failing(t, whole[:20+(long-20)/2], api.ErrShort)
			failing(t, whole[:long-1], api.ErrShort)
		}
	}
}

// The error of the first advertisement with one is returned, whatever those behind it say.
func TestFirstErrorOfAds(t *testing.T) {
	good := encodedAd(ad(3, 30))
	wrong := with(good, 3, 6)
	long := with(with(good, 18, 5), 19, 0)
	cases := []struct {
		parts [][]byte
		many  uint32
		want  api.Errno
	}{
		{[][]byte{wrong, good[:10]}, 2, api.ErrForm},
		{[][]byte{wrong, long}, 2, api.ErrForm},
		{[][]byte{wrong, good, good}, 2, api.ErrForm},
		{[][]byte{long, wrong}, 2, api.ErrShort},
		{[][]byte{long, good, good}, 2, api.ErrShort},
		{[][]byte{good, wrong, good[:10]}, 3, api.ErrForm},
		{[][]byte{good, long, wrong}, 3, api.ErrShort},
		{[][]byte{good, wrong}, 1, api.ErrForm},
		{[][]byte{good, good[:10]}, 1, api.ErrForm},
		{[][]byte{good, long}, 1, api.ErrForm},
		{[][]byte{long, good}, 1, api.ErrShort},
		{[][]byte{with(good, 25, 99), wrong, good[:1]}, 3, api.ErrForm},
		{[][]byte{with(good, 25, 99), good[:1]}, 2, api.ErrShort},
	}
	for i, c := range cases {
		b := slices.Concat(four(c.many), slices.Concat(c.parts...))
		if _, _, e := judgedAds(b); e != c.want {
			t.Fatalf("case %d: error %d", i, e)
		}
		refuseAds(t, b, c.want)
	}
}

// Damaged ones are skipped and counted, wherever they are.
func TestDamagedAds(t *testing.T) {
	for _, many := range []int{1, 2, 3, 5, 20, mostAds} {
		all := adsOf(slices.Repeat([]int{25}, many)...)
		for _, places := range [][]int{{}, {0}, {many / 2}, {many - 1}, {0, many - 1}, {0, many / 2, many - 1}} {
			l, left := slices.Clone(all), []api.Ad{}
			for _, at := range places {
				l[at] = spoilt(all[at])
			}
			for i := range l {
				if !slices.Contains(places, i) {
					left = append(left, l[i])
				}
			}
			skip(t, encodedAds(uint32(many), l...), left, many-len(left))
		}
		none := []api.Ad{}
		for _, a := range all {
			none = append(none, spoilt(a))
		}
		skip(t, encodedAds(uint32(many), none...), nil, many)
	}
}

// Every subset of five.
func TestEverySetOfDamagedAds(t *testing.T) {
	all := adsOf(20, 21, 40, 1000, 33)
	for set := range 1 << 5 {
		l, left := slices.Clone(all), []api.Ad{}
		for i := range l {
			if set>>i&1 == 1 {
				l[i] = spoilt(l[i])
			} else {
				left = append(left, l[i])
			}
		}
		skip(t, encodedAds(5, l...), left, 5-len(left))
	}
}

// Every value of every byte of the first, the middle and the last of three.
func TestEveryByteOfAds(t *testing.T) {
	l := adsOf(24, 30, 22)
	b := encodedAds(3, l...)
	seen := map[api.Errno]int{}
	damaged := 0
	for at := range b {
		for value := range 256 {
			_, n, e := meetAds(t, with(b, at, byte(value)))
			seen[e]++
			damaged += n
		}
	}
	if seen[api.OK] < 5000 || seen[api.ErrForm] < 1000 || seen[api.ErrShort] < 100 || damaged < 5000 {
		t.Errorf("errors %v, %d skipped", seen, damaged)
	}
}

// Any bit that differs, but for those of the Age, the Type and the Long, makes one of them damaged and leaves the others.
func TestEveryBitOfAds(t *testing.T) {
	l := adsOf(24, 30, 22)
	b := encodedAds(3, l...)
	for i, from := range []int{4, 28, 58} {
		left := slices.Delete(slices.Clone(l), i, i+1)
		for at := from + 4; at < from+l[i].H.Long; at++ {
			if at == from+18 || at == from+19 {
				continue
			}
			for bit := range 8 {
				skip(t, with(b, at, b[at]^1<<bit), left, 1)
			}
		}
	}
}

// The next advertisement begins behind as many bytes as Long says, be it right or not.
func TestLongOfAds(t *testing.T) {
	l := adsOf(24, 60, 44)
	b := encodedAds(3, l...)
	for _, from := range []int{4, 28, 88} {
		for long := range 1500 {
			meetAds(t, with(with(b, from+18, byte(long>>8)), from+19, byte(long)))
		}
	}
	// A Long of 20 makes what was the body the next one, which is intact.
	inner := ad(9, 30)
	outer := seal(api.Ad{H: api.Header{Type: 1, ID: 8}, B: encodedAd(inner)})
	outer.H.Long = 20
	skip(t, encodedAds(2, outer), []api.Ad{inner}, 1)
	refuseAds(t, encodedAds(1, outer), api.ErrForm)
	// A Long that takes in the next one leaves none of it.
	wide := ad(8, 40)
	wide.H.Long = 70
	skip(t, encodedAds(1, wide, inner), nil, 1)
	skip(t, encodedAds(2, wide, inner, inner), []api.Ad{inner}, 1)
	refuseAds(t, encodedAds(2, wide, inner), api.ErrShort)
}

func TestBytesLeft(t *testing.T) {
	for _, l := range [][]api.Ad{adsOf(20), adsOf(30, 20, 1400), adsOf(slices.Repeat([]int{20}, mostAds)...), {spoilt(ad(1, 30))}} {
		whole := encodedAds(uint32(len(l)), l...)
		for _, n := range []int{1, 2, 3, 4, 19, 20, 21, 256, 1000, 70000} {
			refuseAds(t, slices.Concat(whole, make([]byte, n)), api.ErrForm)
			refuseAds(t, slices.Concat(whole, filled(n)), api.ErrForm)
		}
		refuseAds(t, slices.Concat(whole, encodedAd(ad(9, 20))), api.ErrForm)
	}
}

func TestEveryLengthOfAds(t *testing.T) {
	for _, l := range [][]api.Ad{{}, adsOf(20), adsOf(24, 60, 20, 44), {ad(1, 40), spoilt(ad(2, 50)), ad(3, 60)}, adsOf(72, 1400)} {
		whole := encodedAds(uint32(len(l)), l...)
		b := slices.Concat(whole, filled(50))
		for n := range b {
			switch {
			case n < len(whole):
				refuseAds(t, b[:n], api.ErrShort)
			case n > len(whole):
				refuseAds(t, b[:n], api.ErrForm)
			}
			meetAds(t, b[:n])
		}
	}
}

// M2 names no error for more bytes than an update has: they come from no packet, but they are taken.
func TestTakeAdsOfManyBytes(t *testing.T) {
	for _, l := range [][]api.Ad{adsOf(73, 1400), adsOf(1400, 1400, 1400), adsOf(slices.Repeat([]int{1400}, mostAds)...)} {
		skip(t, encodedAds(uint32(len(l)), l...), l, 0)
		mayAds(t, l, false)
		l[0] = spoilt(l[0])
		skip(t, encodedAds(uint32(len(l)), l...), l[1:], 1)
	}
}

// The bodies are those of no Type in particular.
func TestAdsOfEveryType(t *testing.T) {
	for _, kind := range types {
		for long := 20; long < 60; long++ {
			a := seal(api.Ad{H: api.Header{Type: kind, ID: 1}, B: filled(long - 20)})
			mayAds(t, []api.Ad{a, a}, true)
		}
	}
}

// M3: Pack.

// pack fails unless Pack of l is what the chapter says: valid updates, each with as many as possible, which are l one behind the other (P13.2).
func pack(t *testing.T, l []api.Ad) [][]api.Ad {
	t.Helper()
	rows, e := dbd.Pack(l)
	if e != api.OK || !slices.EqualFunc(rows, packed(l), sameAds) {
		t.Fatalf("Pack of %d advertisements: %d updates, error %d, want %d", len(l), len(rows), e, len(packed(l)))
	}
	if !sameAds(slices.Concat(rows...), l) {
		t.Errorf("Pack of %d advertisements: not the same, one behind the other", len(l))
	}
	for i, row := range rows {
		mayAds(t, row, true)
		if len(row) == 0 {
			t.Errorf("update %d of %d is empty", i, len(rows))
		}
		if i+1 < len(rows) && isUpdate(append(slices.Clone(row), rows[i+1][0])) {
			t.Errorf("update %d of %d has room for one more", i, len(rows))
		}
	}
	return rows
}

// divided fails unless Pack divides the advertisements of l into slices of these numbers.
func divided(t *testing.T, l []api.Ad, want ...int) {
	t.Helper()
	got := []int{}
	for _, row := range pack(t, l) {
		got = append(got, len(row))
	}
	if !slices.Equal(got, want) {
		t.Errorf("Pack of %d advertisements: %v, want %v", len(l), got, want)
	}
}

func TestPack(t *testing.T) {
	divided(t, nil)
	divided(t, []api.Ad{})
	divided(t, adsOf(20), 1)
	divided(t, adsOf(1400), 1)
	divided(t, adsOf(20, 30, 40), 3)
	divided(t, adsOf(700, 700, 72), 3)
	divided(t, adsOf(700, 700, 73), 2, 1)
	divided(t, adsOf(1400, 1400, 1400), 1, 1, 1)
	divided(t, adsOf(1400, 72, 1400, 73, 1400), 2, 1, 1, 1)
	divided(t, adsOf(1000, 1000, 20, 20, 1000, 20), 1, 3, 2)
	// The last small one would have had room in the first update, but the order is kept.
	divided(t, adsOf(800, 800, 20), 1, 2)
	divided(t, adsOf(72, 1400, 72, 1400), 2, 2)
	divided(t, adsOf(73, 1400, 72, 1400), 1, 2, 1)
}

func TestPackByNumber(t *testing.T) {
	for many := range 220 {
		want := slices.Repeat([]int{50}, many/50)
		if many%50 > 0 {
			want = append(want, many%50)
		}
		divided(t, adsOf(slices.Repeat([]int{20}, many)...), want...)
		divided(t, adsOf(slices.Repeat([]int{29}, many)...), want...)
	}
	// 49 of 30 are 1470 bytes, so here the bytes are the bound.
	divided(t, adsOf(slices.Repeat([]int{30}, 120)...), 49, 49, 22)
}

func TestPackByBytes(t *testing.T) {
	for _, longs := range fullLists() {
		n := len(longs)
		divided(t, adsOf(longs...), n)
		divided(t, adsOf(slices.Concat(longs, []int{20})...), n, 1)
		divided(t, adsOf(slices.Concat([]int{1400, 72}, longs)...), 2, n)
		divided(t, adsOf(slices.Concat(longs, []int{1400, 72}, longs)...), n, 2, n)
		if longs[n-1] < 1400 {
			more := slices.Clone(longs)
			more[n-1]++
			divided(t, adsOf(more...), n-1, 1)
		}
	}
	for n := 20; n <= 1400; n++ {
		l := adsOf(n, 72, 1400, n, 700)
		pack(t, l)
	}
}

func TestPackOfAnyAge(t *testing.T) {
	l := adsOf(40, 40, 1400, 50)
	l[0].H.Age, l[1].H.Age, l[3].H.Age = 0, 3600, 3599
	divided(t, l, 2, 2)
}

// refusePack fails unless Pack of l is ErrArg and nothing beside it (R3).
func refusePack(t *testing.T, l []api.Ad) {
	t.Helper()
	if rows, e := dbd.Pack(l); e != api.ErrArg || len(rows) > 0 {
		t.Errorf("Pack of %d advertisements: %d updates, error %d", len(l), len(rows), e)
	}
}

// One that is not valid or not intact is found wherever it is, behind full updates too.
func TestPackOfWhatIsNotIntact(t *testing.T) {
	for _, bad := range faulty(ad(5, 28)) {
		refusePack(t, []api.Ad{bad})
		for _, many := range []int{2, 3, 51, 120} {
			for _, l := range placed(adsOf(slices.Repeat([]int{28}, many)...), bad) {
				refusePack(t, l)
			}
		}
	}
	all := adsOf(slices.Repeat([]int{33, 700}, 70)...)
	for at := range all {
		l := slices.Clone(all)
		l[at] = spoilt(l[at])
		refusePack(t, l)
	}
	long := api.Ad{H: api.Header{Type: 1, Long: 1401}, B: make([]byte, 1381)}
	refusePack(t, []api.Ad{long})
	refusePack(t, []api.Ad{ad(1, 1400), long})
}

// R4: what was passed stays as it was, the memory behind it too, and answers have memory of their own.

func TestPuttingLeavesItsArgument(t *testing.T) {
	heads, keys := headsOf(100), keysOf(130)
	for n := range 90 {
		d, _ := dbd.PutDesc(dbd.Desc{Heads: heads[5 : 5+n]})
		a, _ := dbd.PutAck(heads[5 : 5+n])
		clear(d[:cap(d)])
		clear(a[:cap(a)])
		if !slices.Equal(heads, headsOf(100)) {
			t.Fatalf("%d headers changed", n)
		}
	}
	for n := range 120 {
		b, _ := dbd.PutAsk(keys[5 : 5+n])
		clear(b[:cap(b)])
		if !slices.Equal(keys, keysOf(130)) {
			t.Fatalf("%d keys changed", n)
		}
	}
}

// cloned returns l with memory of its own.
func cloned(l []api.Ad) []api.Ad {
	out := slices.Clone(l)
	for i := range out {
		out[i].B = slices.Clone(out[i].B)
	}
	return out
}

// roomy returns l with bodies that have filled memory behind them, and checks that it is as it was.
func roomy(l []api.Ad) ([]api.Ad, func(t *testing.T)) {
	out := slices.Clone(l)
	memory := [][]byte{}
	for i := range out {
		m := slices.Concat(l[i].B, filled(9))
		memory = append(memory, m)
		out[i].B = m[:len(l[i].B)]
	}
	was := cloned(l)
	return out, func(t *testing.T) {
		t.Helper()
		for i, m := range memory {
			if !bytes.Equal(m, slices.Concat(was[i].B, filled(9))) {
				t.Errorf("the memory of advertisement %d changed", i)
			}
		}
		if !sameAds(out, was) {
			t.Errorf("the advertisements changed")
		}
	}
}

func TestPutAdsLeavesItsArgument(t *testing.T) {
	for _, l := range [][]api.Ad{adsOf(20), adsOf(40, 50, 60), adsOf(slices.Repeat([]int{29}, mostAds+1)...), {ad(1, 40), spoilt(ad(2, 40))}} {
		m, check := roomy(l)
		b, _ := dbd.PutAds(m[:len(m)-1])
		clear(b[:cap(b)])
		check(t)
		b, _ = dbd.PutAds(m)
		clear(b[:cap(b)])
		check(t)
	}
}

func TestTakingLeavesItsArgument(t *testing.T) {
	for _, c := range codecs {
		for _, x := range samples(c) {
			memory := slices.Concat(c.encoded(x), filled(30))
			was := slices.Clone(memory)
			for n := range memory {
				y, _ := c.take(memory[:n])
				wipe(y)
				if !bytes.Equal(memory, was) {
					t.Fatalf("%s of %d bytes changed them", c.name, n)
				}
			}
			// What was taken does not change with the bytes.
			y, e := c.take(memory[:len(memory)-30])
			clear(memory)
			if e != api.OK || !same(x, y) {
				t.Errorf("%s changed to %v", c.name, y)
			}
		}
	}
}

// wipe overwrites the list of x, its spare memory too.
func wipe(x any) {
	switch x := x.(type) {
	case dbd.Desc:
		clear(x.Heads[:cap(x.Heads)])
	case []api.Key:
		clear(x[:cap(x)])
	case []api.Header:
		clear(x[:cap(x)])
	case []api.Ad:
		for _, a := range x {
			clear(a.B[:cap(a.B)])
		}
		clear(x[:cap(x)])
	}
}

func TestTakeAdsLeavesItsArgument(t *testing.T) {
	l := []api.Ad{ad(1, 40), spoilt(ad(2, 50)), ad(3, 60), ad(4, 20)}
	left := []api.Ad{l[0], l[2], l[3]}
	memory := slices.Concat(encodedAds(4, l...), filled(30))
	was := slices.Clone(memory)
	for n := range memory {
		m, _, _ := dbd.TakeAds(memory[:n])
		wipe(m)
		if !bytes.Equal(memory, was) {
			t.Fatalf("TakeAds of %d bytes changed them", n)
		}
	}
	whole := memory[:len(memory)-30]
	m, _, _ := dbd.TakeAds(whole)
	other, _, _ := dbd.TakeAds(whole)
	// Neither the bytes, nor another answer, nor what is behind a body of the same answer is in the answer's memory.
	clear(memory)
	wipe(other)
	for _, a := range m {
		clear(a.B[len(a.B):cap(a.B)])
		_ = append(a.B, 1, 2, 3)
	}
	if !sameAds(m, left) {
		t.Errorf("what was taken changed to %v", m)
	}
}

func TestPackLeavesItsArgument(t *testing.T) {
	for _, l := range [][]api.Ad{adsOf(20), adsOf(40, 50, 60), adsOf(700, 700, 700, 700), adsOf(slices.Repeat([]int{29}, 120)...)} {
		m, check := roomy(l)
		rows := pack(t, m)
		check(t)
		for i := range rows {
			// Each update has memory of its own: what is appended to one of them is in no other one.
			_ = append(rows[i], ad(99, 20))
			if !slices.EqualFunc(rows, packed(l), sameAds) {
				t.Fatalf("appending to update %d changed another one", i)
			}
		}
		for i := range m {
			clear(m[i].B)
		}
		clear(m)
		if !slices.EqualFunc(rows, packed(l), sameAds) {
			t.Errorf("what was packed changed with the argument")
		}
		m, check = roomy(l)
		for _, row := range pack(t, m) {
			wipe(row)
		}
		check(t)
	}
	m, check := roomy([]api.Ad{ad(1, 30), spoilt(ad(2, 30))})
	refusePack(t, m)
	check(t)
}

// An advertisement that is there twice has memory of its own each time.
func TestPackOfTheSameTwice(t *testing.T) {
	a := ad(1, 40)
	rows := pack(t, []api.Ad{a, a, a})
	clear(rows[0][1].B)
	if !sameAds(rows[0][:1], []api.Ad{a}) || !sameAds(rows[0][2:], []api.Ad{a}) {
		t.Errorf("%v", rows)
	}
}

// P13.2: taking inverts putting.

func TestRoundTrip(t *testing.T) {
	draw := drawer(1)
	for _, c := range codecs {
		for range 4000 {
			x := c.draw(draw)
			b, e := c.put(x)
			if e != api.OK || !bytes.Equal(b, c.encoded(x)) {
				t.Fatalf("%s %v: put as %x, error %d", c.name, x, b, e)
			}
			if y, e := c.take(b); e != api.OK || !same(x, y) {
				t.Fatalf("%s of %x: %v, error %d, want %v", c.name, b, y, e, x)
			}
		}
	}
}

func TestRoundTripOfAds(t *testing.T) {
	draw := drawer(2)
	full, crowded := 0, 0
	for range 5000 {
		l := drawAds(draw)
		mayAds(t, l, true)
		if len(l) == mostAds {
			crowded++
		}
		if total(l) > 1400 {
			full++
		}
	}
	if full < 50 || crowded < 50 {
		t.Errorf("%d with many bytes, %d with 50", full, crowded)
	}
}

// change returns b with some of its bytes changed, taken out or put in.
func change(draw func(int) int, b []byte) []byte {
	out := slices.Clone(b)
	for range draw(3) {
		at := draw(len(out) + 1)
		switch draw(6) {
		case 0:
			out = slices.Insert(out, at, filled(draw(21))...)
		case 1:
			out = slices.Delete(out, at, min(len(out), at+draw(21)))
		default:
			if at < len(out) {
				out[at] = byte(draw(256) >> draw(9))
			}
		}
	}
	return out
}

// Nothing else is taken: what is taken is put as the same bytes.
func TestDrawnBytes(t *testing.T) {
	draw := drawer(3)
	for _, c := range codecs {
		seen := map[api.Errno]int{}
		for range 20000 {
			b := change(draw, c.encoded(c.draw(draw)))
			seen[c.meet(t, b)]++
		}
		for range 5000 {
			b := make([]byte, c.before+c.each*draw(4)+draw(2))
			for i := range b {
				b[i] = byte(draw(9)) >> draw(5)
			}
			seen[c.meet(t, b)]++
		}
		for _, e := range []api.Errno{api.OK, api.ErrShort, api.ErrForm} {
			if seen[e] < 1000 {
				t.Errorf("%s: error %d came %d times", c.name, e, seen[e])
			}
		}
	}
}

func TestDrawnBytesOfAds(t *testing.T) {
	draw := drawer(4)
	seen := map[api.Errno]int{}
	skipped := 0
	for range 30000 {
		l := drawAds(draw)
		b := change(draw, encodedAds(uint32(len(l)), l...))
		got, damaged, e := meetAds(t, b)
		seen[e]++
		if damaged > 0 {
			skipped++
			continue
		}
		// A packet has no more bytes than these.
		if e == api.OK && len(b) <= 4+mostBytes {
			acceptAds(t, got, b)
		}
	}
	if seen[api.OK] < 1000 || seen[api.ErrShort] < 1000 || seen[api.ErrForm] < 1000 || skipped < 1000 {
		t.Errorf("errors %v, %d with some skipped", seen, skipped)
	}
}

// What Pack returns, one behind the other, is what was handed in, in order.
func TestDrawnPacks(t *testing.T) {
	draw := drawer(5)
	byBytes, byNumber := 0, 0
	for range 1500 {
		below := 1 + draw(mostBody+1)>>draw(12)
		l := []api.Ad{}
		for range draw(160) {
			l = append(l, drawAd(draw, draw(below)))
		}
		rows := pack(t, l)
		for _, row := range rows {
			if len(row) == mostAds {
				byNumber++
			}
			if total(row) > mostBytes-20 {
				byBytes++
			}
		}
	}
	if byNumber < 100 || byBytes < 100 {
		t.Errorf("%d full by number, %d by bytes", byNumber, byBytes)
	}
}
