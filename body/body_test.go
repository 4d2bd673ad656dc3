package body_test

import (
	"bytes"
	"fmt"
	"math"
	"reflect"
	"slices"
	"strings"
	"testing"

	"crossroads/api"
	"crossroads/body"
)

type (
	router   = body.RouterBody
	network  = body.NetworkBody
	summary  = body.SummaryBody
	external = body.ExternalBody
)

const (
	mostLinks   = 100      // how many links a router has at most
	mostRouters = 200      // how many routers a network has at most
	mostCost    = 16777215 // the greatest Cost of a summary and of an external advertisement
)

// numbers are 32-bit numbers that differ in each of their bytes, or lie at a bound.
var numbers = []uint32{0, 1, 255, 256, 65535, 65536, 0x01020304, 0x7fffffff, 0x80000000, 0xfffefdfc, math.MaxUint32}

// far are numbers that no field of a valid body holds, most of them with a valid one in their lowest 8, 16, 24 or 32 bits.
var far = []int{math.MinInt, math.MinInt + 1, -1 << 32, 1 - 1<<32, 1 - 1<<31, -1 << 24, 1 - 1<<24, -65536, -65535, -256, -255, -32, -2, -1, 1 << 24, 1<<24 + 1, 1<<24 + 255, 1 << 31, 1<<32 - 1, 1 << 32, 1<<32 + 1, 1<<32 + 4, math.MaxInt - 1, math.MaxInt}

// notMasks are some numbers of which a 0 precedes a 1.
var notMasks = []uint32{1, 2, 255, 256, 0x7fffffff, 0x40000000, 0x00ffffff, 0x0000ff00, 0x80000001, 0xa0000000, 0xfffffffd, 0xff00ff00, 0xffff00ff, 0xfffffeff, 0xff7fffff, 0x000000ff, 0xfeff0000, 0x0f000000}

// drawer returns a source of numbers from 0 to below-1 that is the same for the same seed.
func drawer(seed uint64) func(below int) int {
	return func(below int) int {
		seed = seed*6364136223846793005 + 1442695040888963407
		return int(seed>>33) % below
	}
}

// drawNumber returns a 32-bit number, in some draws a small one or one at a bound.
func drawNumber(draw func(int) int) uint32 {
	if draw(4) == 0 {
		return numbers[draw(len(numbers))]
	}
	return (uint32(draw(1<<16))<<16 | uint32(draw(1<<16))) >> draw(32)
}

// drawMany returns a number from least to most: seldom a great one, and often enough the greatest and the least.
func drawMany(draw func(int) int, least, most int) int {
	switch draw(12) {
	case 0:
		return most
	case 1:
		return least + draw(most-least+1)
	}
	return least + draw(8)
}

func drawMask(draw func(int) int) uint32 {
	return mask(draw(33))
}

func drawCost(draw func(int) int) int {
	return draw(mostCost+1) >> draw(25)
}

func drawRouter(draw func(int) int) router {
	x := router{Flags: draw(32)}
	for range drawMany(draw, 0, mostLinks) {
		x.Links = append(x.Links, api.Link{Kind: 1 + draw(4), ID: drawNumber(draw), Data: drawNumber(draw), Cost: draw(65536) >> draw(17)})
	}
	return x
}

func drawNetwork(draw func(int) int) network {
	x := network{Mask: drawMask(draw)}
	for range drawMany(draw, 1, mostRouters) {
		x.Routers = append(x.Routers, drawNumber(draw))
	}
	return x
}

func drawSummary(draw func(int) int) summary {
	return summary{Mask: drawMask(draw), Cost: drawCost(draw)}
}

func drawExternal(draw func(int) int) external {
	return external{Mask: drawMask(draw), Second: draw(2) == 0, Cost: drawCost(draw), Forward: drawNumber(draw), Tag: drawNumber(draw)}
}

// What follows, up to codec, goes by the words of the chapter.

// mask returns the number whose first n of 32 bits are 1.
func mask(n int) uint32 {
	out := uint32(0)
	for i := range n {
		out |= 1 << (31 - i)
	}
	return out
}

func isMask(n uint32) bool {
	return !strings.Contains(fmt.Sprintf("%032b", n), "01")
}

func two(n int) []byte {
	return []byte{byte(n / 256), byte(n % 256)}
}

func three(n int) []byte {
	return []byte{byte(n / 65536), byte(n / 256 % 256), byte(n % 256)}
}

func four(n uint32) []byte {
	return []byte{byte(n >> 24), byte(n >> 16), byte(n >> 8), byte(n)}
}

func numberOf(b []byte) uint32 {
	n := uint32(0)
	for _, x := range b {
		n = n*256 + uint32(x)
	}
	return n
}

func encodedRouter(x router) []byte {
	out := append([]byte{byte(x.Flags), 0}, two(len(x.Links))...)
	for _, l := range x.Links {
		out = slices.Concat(out, four(l.ID), four(l.Data), []byte{byte(l.Kind), 0}, two(l.Cost))
	}
	return out
}

func encodedNetwork(x network) []byte {
	out := four(x.Mask)
	for _, n := range x.Routers {
		out = append(out, four(n)...)
	}
	return out
}

func encodedSummary(x summary) []byte {
	return slices.Concat(four(x.Mask), []byte{0}, three(x.Cost))
}

func encodedExternal(x external) []byte {
	second := byte(0)
	if x.Second {
		second = 128
	}
	return slices.Concat(four(x.Mask), []byte{second}, three(x.Cost), four(x.Forward), four(x.Tag))
}

func judgedRouter(b []byte) (router, api.Errno) {
	if len(b) < 4 {
		return router{}, api.ErrShort
	}
	many := int(b[2])*256 + int(b[3])
	if len(b) < 4+12*many {
		return router{}, api.ErrShort
	}
	if len(b) > 4+12*many || b[0] > 31 || b[1] != 0 || many > 100 {
		return router{}, api.ErrForm
	}
	x := router{Flags: int(b[0])}
	for c := b[4:]; len(c) > 0; c = c[12:] {
		if c[8] < 1 || c[8] > 4 || c[9] != 0 {
			return router{}, api.ErrForm
		}
		x.Links = append(x.Links, api.Link{ID: numberOf(c[:4]), Data: numberOf(c[4:8]), Kind: int(c[8]), Cost: int(c[10])*256 + int(c[11])})
	}
	return x, api.OK
}

func judgedNetwork(b []byte) (network, api.Errno) {
	if len(b) < 8 || len(b)%4 != 0 {
		return network{}, api.ErrShort
	}
	x := network{Mask: numberOf(b[:4])}
	if !isMask(x.Mask) || len(b) > 4+4*200 {
		return network{}, api.ErrForm
	}
	for c := b[4:]; len(c) > 0; c = c[4:] {
		x.Routers = append(x.Routers, numberOf(c[:4]))
	}
	return x, api.OK
}

func judgedSummary(b []byte) (summary, api.Errno) {
	if len(b) < 8 {
		return summary{}, api.ErrShort
	}
	if len(b) > 8 || !isMask(numberOf(b[:4])) || b[4] != 0 {
		return summary{}, api.ErrForm
	}
	return summary{Mask: numberOf(b[:4]), Cost: int(numberOf(b[5:]))}, api.OK
}

func judgedExternal(b []byte) (external, api.Errno) {
	if len(b) < 16 {
		return external{}, api.ErrShort
	}
	if len(b) > 16 || !isMask(numberOf(b[:4])) || b[4] != 0 && b[4] != 128 {
		return external{}, api.ErrForm
	}
	return external{Mask: numberOf(b[:4]), Second: b[4] == 128, Cost: int(numberOf(b[5:8])), Forward: numberOf(b[8:12]), Tag: numberOf(b[12:])}, api.OK
}

// codec is one kind of body: its two functions, what they should do, and the Types that have it.
type codec struct {
	name    string
	types   []int
	write   func(x any) ([]byte, api.Errno)
	read    func(b []byte) (any, api.Errno)
	encoded func(x any) []byte
	judged  func(b []byte) (any, api.Errno)
	draw    func(draw func(int) int) any
}

func codecOf[T any](name string, types []int, write func(T) ([]byte, api.Errno), read func([]byte) (T, api.Errno), encoded func(T) []byte, judged func([]byte) (T, api.Errno), draw func(func(int) int) T) codec {
	return codec{
		name:    name,
		types:   types,
		write:   func(x any) ([]byte, api.Errno) { return write(x.(T)) },
		read:    func(b []byte) (any, api.Errno) { return read(b) },
		encoded: func(x any) []byte { return encoded(x.(T)) },
		judged:  func(b []byte) (any, api.Errno) { return judged(b) },
		draw:    func(source func(int) int) any { return draw(source) },
	}
}

var (
	routers   = codecOf("router", []int{1}, body.Router, body.ReadRouter, encodedRouter, judgedRouter, drawRouter)
	networks  = codecOf("network", []int{2}, body.Network, body.ReadNetwork, encodedNetwork, judgedNetwork, drawNetwork)
	summaries = codecOf("summary", []int{3, 4}, body.Summary, body.ReadSummary, encodedSummary, judgedSummary, drawSummary)
	externals = codecOf("external", []int{5, 7}, body.External, body.ReadExternal, encodedExternal, judgedExternal, drawExternal)
	codecs    = []codec{routers, networks, summaries, externals}
)

// plain returns x with nil in place of an empty list: both are the same.
func plain(x any) any {
	switch x := x.(type) {
	case router:
		if len(x.Links) == 0 {
			x.Links = nil
		}
		return x
	case network:
		if len(x.Routers) == 0 {
			x.Routers = nil
		}
		return x
	}
	return x
}

func same(x, y any) bool {
	return reflect.DeepEqual(plain(x), plain(y))
}

// cloned returns x with memory of its own.
func cloned(x any) any {
	switch x := x.(type) {
	case router:
		x.Links = slices.Clone(x.Links)
		return x
	case network:
		x.Routers = slices.Clone(x.Routers)
		return x
	}
	return x
}

// isZero tells whether there is nothing in x.
func isZero(x any) bool {
	return reflect.ValueOf(plain(x)).IsZero()
}

// with returns b with one byte replaced.
func with(b []byte, at int, x byte) []byte {
	out := slices.Clone(b)
	out[at] = x
	return out
}

// filled returns n bytes that differ from their neighbors.
func filled(n int) []byte {
	out := make([]byte, n)
	for i := range out {
		out[i] = byte(i*7 + i/256 + 1)
	}
	return out
}

// accept fails unless x is written as b, b is read as x, and Right takes b for each of the Types of its kind.
func (c codec) accept(t *testing.T, x any, b []byte) {
	t.Helper()
	if out, e := c.write(x); e != api.OK || !bytes.Equal(out, b) {
		t.Errorf("%s %v: written as %x, error %d, want %x", c.name, x, out, e, b)
	}
	if y, e := c.read(b); e != api.OK || !same(x, y) {
		t.Errorf("%s of %x: %v, error %d, want %v", c.name, b, y, e, x)
	}
	for _, kind := range c.types {
		if !body.Right(api.Ad{H: api.Header{Type: kind}, B: b}) {
			t.Errorf("%s of %x is not right for Type %d", c.name, b, kind)
		}
	}
}

// valid fails unless x is written as the chapter says, and read again.
func (c codec) valid(t *testing.T, x any) {
	t.Helper()
	c.accept(t, x, c.encoded(x))
}

// invalid fails if x is written, or refused with another error than ErrArg, or if bytes come beside it (R3).
func (c codec) invalid(t *testing.T, x any) {
	t.Helper()
	if b, e := c.write(x); e != api.ErrArg || len(b) > 0 {
		t.Errorf("%s %v: %d bytes, error %d", c.name, x, len(b), e)
	}
}

// may fails if x is valid and should not be, or the other way round.
func (c codec) may(t *testing.T, x any, want bool) {
	t.Helper()
	if want {
		c.valid(t, x)
		return
	}
	c.invalid(t, x)
}

// refuse fails if b is read, or refused with another error than the wanted one, or if a body comes beside it (R3), or if Right takes it.
func (c codec) refuse(t *testing.T, b []byte, want api.Errno) {
	t.Helper()
	x, e := c.read(b)
	if e != want {
		t.Errorf("%s of %d bytes, %x: error %d, want %d", c.name, len(b), b[:min(len(b), 40)], e, want)
	}
	if !isZero(x) {
		t.Errorf("%s of %d bytes: %v beside the error", c.name, len(b), x)
	}
	for _, kind := range c.types {
		if body.Right(api.Ad{H: api.Header{Type: kind}, B: b}) {
			t.Errorf("%s of %d bytes is right for Type %d", c.name, len(b), kind)
		}
	}
}

// meet fails unless b is read, or refused, as the chapter says.
func (c codec) meet(t *testing.T, b []byte) api.Errno {
	t.Helper()
	x, e := c.judged(b)
	if e != api.OK {
		c.refuse(t, b, e)
		return e
	}
	c.accept(t, x, b)
	return e
}

// linksOf returns many links that differ in all their fields.
func linksOf(many int) []api.Link {
	out := make([]api.Link, many)
	for i := range out {
		n := uint32(i)
		out[i] = api.Link{Kind: 1 + i%4, ID: n*0x01010101 + 0x10203, Data: n*0x00fefdfc + 7, Cost: i*257 + 2}
	}
	return out
}

// routersOf returns many numbers that differ in each of their bytes.
func routersOf(many int) []uint32 {
	out := make([]uint32, many)
	for i := range out {
		out[i] = uint32(i)*0x01010101 + 0x10203
	}
	return out
}

// samples are some bodies of each kind, those with the most and the fewest elements among them.
func samples(c codec) []any {
	switch c.name {
	case "router":
		return []any{router{}, router{Flags: 31}, router{Flags: 1, Links: linksOf(1)}, router{Flags: 2, Links: linksOf(5)}, router{Flags: 31, Links: linksOf(mostLinks)}}
	case "network":
		return []any{network{Routers: routersOf(1)}, network{Mask: mask(24), Routers: routersOf(1)}, network{Mask: mask(17), Routers: routersOf(5)}, network{Mask: mask(32), Routers: routersOf(mostRouters)}}
	case "summary":
		return []any{summary{}, summary{Mask: mask(8), Cost: 258}, summary{Mask: mask(32), Cost: mostCost}}
	}
	return []any{external{}, external{Mask: mask(8), Cost: 258, Forward: 3, Tag: 4}, external{Mask: mask(9), Second: true}, external{Mask: mask(32), Second: true, Cost: mostCost, Forward: math.MaxUint32, Tag: math.MaxUint32}}
}

// L1: byte for byte.

func TestRouter(t *testing.T) {
	routers.accept(t, router{}, []byte{0, 0, 0, 0})
	routers.accept(t, router{Links: []api.Link{}}, []byte{0, 0, 0, 0})
	routers.accept(t, router{Flags: 31}, []byte{31, 0, 0, 0})
	one := api.Link{Kind: 1, ID: 0x05060708, Data: 0x090a0b0c, Cost: 0x0d0e}
	routers.accept(t, router{Flags: 3, Links: []api.Link{one}}, []byte{3, 0, 0, 1, 5, 6, 7, 8, 9, 10, 11, 12, 1, 0, 13, 14})
	two := api.Link{Kind: 4, ID: math.MaxUint32, Data: 0x01020304, Cost: 65535}
	routers.accept(t, router{Flags: 16, Links: []api.Link{one, two}}, []byte{16, 0, 0, 2, 5, 6, 7, 8, 9, 10, 11, 12, 1, 0, 13, 14, 255, 255, 255, 255, 1, 2, 3, 4, 4, 0, 255, 255})
	routers.accept(t, router{Flags: 1, Links: []api.Link{two, {Kind: 3}, one}}, []byte{1, 0, 0, 3, 255, 255, 255, 255, 1, 2, 3, 4, 4, 0, 255, 255, 0, 0, 0, 0, 0, 0, 0, 0, 3, 0, 0, 0, 5, 6, 7, 8, 9, 10, 11, 12, 1, 0, 13, 14})
}

func TestNetwork(t *testing.T) {
	networks.accept(t, network{Mask: 0xfffe0000, Routers: []uint32{0x05060708}}, []byte{255, 254, 0, 0, 5, 6, 7, 8})
	networks.accept(t, network{Routers: []uint32{0}}, make([]byte, 8))
	networks.accept(t, network{Mask: math.MaxUint32, Routers: []uint32{1, math.MaxUint32, 0x01020304, 1}}, []byte{255, 255, 255, 255, 0, 0, 0, 1, 255, 255, 255, 255, 1, 2, 3, 4, 0, 0, 0, 1})
}

func TestSummary(t *testing.T) {
	summaries.accept(t, summary{}, make([]byte, 8))
	summaries.accept(t, summary{Mask: 0xfffe0000, Cost: 0x010203}, []byte{255, 254, 0, 0, 0, 1, 2, 3})
	summaries.accept(t, summary{Mask: math.MaxUint32, Cost: mostCost}, []byte{255, 255, 255, 255, 0, 255, 255, 255})
}

func TestExternal(t *testing.T) {
	externals.accept(t, external{}, make([]byte, 16))
	externals.accept(t, external{Second: true}, []byte{0, 0, 0, 0, 128, 0, 0, 0, 0, 0, 0, 0, 0, 0, 0, 0})
	x := external{Mask: 0xfffe0000, Cost: 0x010203, Forward: 0x04050607, Tag: 0x08090a0b}
	externals.accept(t, x, []byte{255, 254, 0, 0, 0, 1, 2, 3, 4, 5, 6, 7, 8, 9, 10, 11})
	x.Second = true
	externals.accept(t, x, []byte{255, 254, 0, 0, 128, 1, 2, 3, 4, 5, 6, 7, 8, 9, 10, 11})
	most := external{Mask: math.MaxUint32, Cost: mostCost, Forward: math.MaxUint32, Tag: math.MaxUint32}
	externals.accept(t, most, with(bytes.Repeat([]byte{255}, 16), 4, 0))
	most.Second = true
	externals.accept(t, most, with(bytes.Repeat([]byte{255}, 16), 4, 128))
}

// Example 1.
func TestExample(t *testing.T) {
	b, e := body.Summary(summary{Mask: 255 << 24, Cost: 258})
	if e != api.OK || !bytes.Equal(b, []byte{255, 0, 0, 0, 0, 0, 1, 2}) {
		t.Errorf("%v, error %d", b, e)
	}
}

// Each bit of a number has a place of its own.
func TestEveryBitOfALink(t *testing.T) {
	for _, many := range []int{1, 2, 3, mostLinks} {
		for _, at := range []int{0, many / 2, many - 1} {
			for bit := range 32 {
				x := router{Links: slices.Repeat([]api.Link{{Kind: 2}}, many)}
				want := encodedRouter(x)
				begin := 4 + 12*at
				x.Links[at].ID = 1 << bit
				routers.accept(t, x, with(want, begin+3-bit/8, 1<<(bit%8)))
				x.Links[at].ID, x.Links[at].Data = 0, 1<<bit
				routers.accept(t, x, with(want, begin+7-bit/8, 1<<(bit%8)))
				if bit < 16 {
					x.Links[at].Data, x.Links[at].Cost = 0, 1<<bit
					routers.accept(t, x, with(want, begin+11-bit/8, 1<<(bit%8)))
				}
			}
		}
	}
}

func TestEveryBitOfARouter(t *testing.T) {
	for _, many := range []int{1, 2, 3, mostRouters} {
		for at := range many {
			for bit := range 32 {
				x := network{Routers: make([]uint32, many)}
				x.Routers[at] = 1 << bit
				want := with(make([]byte, 4+4*many), 4+4*at+3-bit/8, 1<<(bit%8))
				if b, e := body.Network(x); e != api.OK || !bytes.Equal(b, want) {
					t.Fatalf("%d routers, number %d, bit %d: %x, error %d", many, at, bit, b, e)
				}
			}
		}
	}
}

func TestEveryBitOfACost(t *testing.T) {
	for bit := range 24 {
		summaries.accept(t, summary{Cost: 1 << bit}, with(make([]byte, 8), 7-bit/8, 1<<(bit%8)))
		externals.accept(t, external{Cost: 1 << bit}, with(make([]byte, 16), 7-bit/8, 1<<(bit%8)))
	}
}

func TestEveryBitOfForwardAndTag(t *testing.T) {
	for bit := range 32 {
		externals.accept(t, external{Forward: 1 << bit}, with(make([]byte, 16), 11-bit/8, 1<<(bit%8)))
		externals.accept(t, external{Tag: 1 << bit}, with(make([]byte, 16), 15-bit/8, 1<<(bit%8)))
	}
}

// What is in ID, Data, Routers, Forward and Tag makes no body invalid, be it 0 or there twice.
func TestAnyNumbers(t *testing.T) {
	for _, n := range numbers {
		l := api.Link{Kind: 1, ID: n, Data: n}
		routers.valid(t, router{Links: []api.Link{l, l, {Kind: 1, ID: n}, {Kind: 1, Data: n}}})
		networks.valid(t, network{Routers: []uint32{n}})
		networks.valid(t, network{Mask: mask(20), Routers: []uint32{n, 0, n, ^n}})
		externals.valid(t, external{Forward: n})
		externals.valid(t, external{Tag: n})
	}
}

// L1: ErrArg, each bound alone and with each bound of the others.

// firstAndLast are routers of which the first link, the last one or both are l.
func firstAndLast(flags int, many int, l api.Link) []router {
	out := []router{}
	for _, places := range [][]int{{0}, {many - 1}, {0, many - 1}, {many / 2}} {
		x := router{Flags: flags, Links: linksOf(many)}
		for _, at := range places {
			x.Links[at] = l
		}
		out = append(out, x)
	}
	return out
}

func TestRouterBounds(t *testing.T) {
	flags := map[int]bool{-1: false, 0: true, 1: true, 31: true, 32: false}
	counts := map[int]bool{1: true, 2: true, 99: true, 100: true, 101: false, 102: false}
	kinds := map[int]bool{-1: false, 0: false, 1: true, 2: true, 3: true, 4: true, 5: false}
	costs := map[int]bool{-1: false, 0: true, 1: true, 65535: true, 65536: false}
	for flag, a := range flags {
		routers.may(t, router{Flags: flag}, a)
		for many, b := range counts {
			for kind, c := range kinds {
				for cost, d := range costs {
					for _, x := range firstAndLast(flag, many, api.Link{Kind: kind, ID: 5, Data: 6, Cost: cost}) {
						routers.may(t, x, a && b && c && d)
					}
				}
			}
		}
	}
}

func TestRouterWithinTheBounds(t *testing.T) {
	for n := -70; n < 300; n++ {
		routers.may(t, router{Flags: n}, n >= 0 && n <= 31)
		routers.may(t, router{Links: []api.Link{{Kind: n}}}, n >= 1 && n <= 4)
	}
	for n := -70; n < 66000; n++ {
		routers.may(t, router{Links: []api.Link{{Kind: 1, Cost: n}}}, n >= 0 && n <= 65535)
	}
	for many := range 400 {
		routers.may(t, router{Flags: 9, Links: linksOf(many)}, many <= mostLinks)
	}
}

// A wrong link is found wherever it is.
func TestRouterEveryLink(t *testing.T) {
	for _, many := range []int{1, 2, 7, mostLinks} {
		for at := range many {
			for _, l := range []api.Link{{Kind: 0}, {Kind: 5}, {Kind: 1, Cost: -1}, {Kind: 4, Cost: 65536}} {
				x := router{Links: linksOf(many)}
				x.Links[at] = l
				routers.invalid(t, x)
			}
		}
	}
}

func TestRouterFarBeyond(t *testing.T) {
	for _, n := range far {
		for _, many := range []int{0, 1, mostLinks} {
			routers.invalid(t, router{Flags: n, Links: linksOf(many)})
		}
		for _, many := range []int{1, 2, mostLinks} {
			for _, l := range []api.Link{{Kind: n}, {Kind: 1, Cost: n}, {Kind: n, Cost: n}} {
				for _, x := range firstAndLast(0, many, l) {
					routers.invalid(t, x)
				}
			}
		}
	}
	// Many of these have a valid number in the two bytes that say how many there are.
	for _, many := range []int{101, 128, 200, 255, 256, 257, 356, 512, 65535, 65536, 65537, 65636, 1 << 17} {
		routers.invalid(t, router{Links: slices.Repeat([]api.Link{{Kind: 1}}, many)})
	}
}

func TestNetworkBounds(t *testing.T) {
	counts := map[int]bool{0: false, 1: true, 2: true, 199: true, 200: true, 201: false, 202: false}
	for many, ok := range counts {
		for n := range 33 {
			networks.may(t, network{Mask: mask(n), Routers: routersOf(many)}, ok)
		}
		for _, n := range notMasks {
			networks.invalid(t, network{Mask: n, Routers: routersOf(many)})
		}
	}
	for many := range 600 {
		networks.may(t, network{Mask: mask(24), Routers: routersOf(many)}, many >= 1 && many <= mostRouters)
	}
	for _, many := range []int{1 << 10, 65535, 65536, 65537, 65736, 1 << 17} {
		networks.invalid(t, network{Mask: mask(24), Routers: make([]uint32, many)})
	}
	networks.invalid(t, network{Mask: mask(24), Routers: []uint32{}})
}

// isMaskOrNot fails if one of the kinds that have a Mask takes n as a mask and should not, or the other way round.
func isMaskOrNot(t *testing.T, n uint32, want bool) {
	t.Helper()
	networks.may(t, network{Mask: n, Routers: []uint32{1}}, want)
	summaries.may(t, summary{Mask: n, Cost: 1}, want)
	externals.may(t, external{Mask: n, Cost: 1}, want)
	if !want {
		networks.refuse(t, encodedNetwork(network{Mask: n, Routers: []uint32{1}}), api.ErrForm)
		summaries.refuse(t, encodedSummary(summary{Mask: n, Cost: 1}), api.ErrForm)
		externals.refuse(t, encodedExternal(external{Mask: n, Cost: 1}), api.ErrForm)
	}
}

func TestMasks(t *testing.T) {
	seen := map[uint32]bool{}
	for n := range 33 {
		isMaskOrNot(t, mask(n), true)
		seen[mask(n)] = true
		// One bit that is not as it should be, and the bits from the other end.
		for bit := range 32 {
			other := mask(n) ^ 1<<bit
			isMaskOrNot(t, other, isMask(other))
		}
		isMaskOrNot(t, ^mask(n), n == 0 || n == 32)
	}
	for _, n := range notMasks {
		isMaskOrNot(t, n, false)
	}
	draw := drawer(1)
	for range 20000 {
		n := drawNumber(draw)
		isMaskOrNot(t, n, seen[n])
	}
	if len(seen) != 33 {
		t.Errorf("%d masks", len(seen))
	}
}

func TestCosts(t *testing.T) {
	costs := map[int]bool{-1: false, 0: true, 1: true, 255: true, 256: true, 65535: true, 65536: true, 16777214: true, 16777215: true, 16777216: false, 16777217: false}
	for _, n := range far {
		costs[n] = false
	}
	masks := append([]uint32{mask(0), mask(8), mask(31), mask(32)}, notMasks...)
	for cost, a := range costs {
		for _, m := range masks {
			ok := a && isMask(m)
			summaries.may(t, summary{Mask: m, Cost: cost}, ok)
			for _, second := range []bool{false, true} {
				externals.may(t, external{Mask: m, Second: second, Cost: cost}, ok)
				externals.may(t, external{Mask: m, Second: second, Cost: cost, Forward: math.MaxUint32, Tag: math.MaxUint32}, ok)
			}
		}
	}
}

// L2: ErrShort and ErrForm.

// Each length up to the whole is ErrShort and each one beyond it ErrForm; but a network goes on with each four bytes.
func TestEveryLength(t *testing.T) {
	for _, c := range codecs {
		for _, x := range samples(c) {
			whole := c.encoded(x)
			behind := slices.Concat(whole, filled(60))
			zeros := slices.Concat(whole, make([]byte, 60))
			for n := range behind {
				want := api.ErrShort
				if n > len(whole) {
					want = api.ErrForm
				}
				if c.name != "network" {
					if n != len(whole) {
						c.refuse(t, behind[:n], want)
						c.refuse(t, zeros[:n], want)
					}
				} else if n < 8 || n%4 != 0 {
					c.refuse(t, behind[:n], api.ErrShort)
					c.refuse(t, zeros[:n], api.ErrShort)
				}
				c.meet(t, behind[:n])
				c.meet(t, zeros[:n])
			}
		}
	}
}

func TestNothing(t *testing.T) {
	for _, c := range codecs {
		c.refuse(t, nil, api.ErrShort)
		c.refuse(t, []byte{}, api.ErrShort)
	}
}

// A few bytes are ErrShort, whatever is in them (R2).
func TestShortWhateverItSays(t *testing.T) {
	least := []int{4, 8, 8, 16}
	for x := range 256 {
		for i, c := range codecs {
			for n := range least[i] {
				c.refuse(t, bytes.Repeat([]byte{byte(x)}, n), api.ErrShort)
			}
		}
	}
}

// counted returns the bytes of a router with many links of its own that says it has says links.
func counted(says, many int) []byte {
	return slices.Concat([]byte{1, 0}, two(says), encodedRouter(router{Links: linksOf(many)})[4:])
}

// The number of links alone says how many bytes there must be.
func TestNumberOfLinks(t *testing.T) {
	for says := range 110 {
		for many := range 110 {
			b := counted(says, many)
			switch {
			case many < says:
				routers.refuse(t, b, api.ErrShort)
			case many > says || says > mostLinks:
				routers.refuse(t, b, api.ErrForm)
			default:
				x, _ := judgedRouter(b)
				routers.accept(t, x, b)
			}
		}
	}
}

func TestTooManyLinks(t *testing.T) {
	for _, many := range []int{101, 102, 127, 128, 255, 256, 257, 356, 512, 32767, 32768, 65280, 65535} {
		b := slices.Concat([]byte{0, 0}, two(many), bytes.Repeat([]byte{0, 0, 0, 1, 0, 0, 0, 2, 1, 0, 0, 3}, many))
		routers.refuse(t, b, api.ErrForm)
		routers.refuse(t, append(slices.Clone(b), 0), api.ErrForm)
		routers.refuse(t, append(slices.Clone(b), make([]byte, 12)...), api.ErrForm)
		// What is incomplete and too much is incomplete.
		for _, less := range []int{1, 2, 3, 4, 11, 12, 13, 24, len(b) - 5, len(b) - 4} {
			routers.refuse(t, b[:len(b)-less], api.ErrShort)
		}
	}
}

// Both errors apply: what is wrong is before the end of what is incomplete.
func TestShortAndWrongRouter(t *testing.T) {
	whole := encodedRouter(router{Flags: 3, Links: linksOf(3)})
	wrong := [][]byte{with(whole, 0, 32), with(whole, 0, 255), with(whole, 1, 1), with(whole, 12, 0), with(whole, 12, 5), with(whole, 13, 1), with(whole, 24, 0), with(whole, 36, 255), with(whole, 37, 1)}
	for _, b := range wrong {
		routers.refuse(t, b, api.ErrForm)
		routers.refuse(t, append(slices.Clone(b), 7), api.ErrForm)
		for n := range b {
			routers.refuse(t, b[:n], api.ErrShort)
		}
	}
}

func TestShortAndWrongNetwork(t *testing.T) {
	for _, m := range append([]uint32{mask(24)}, notMasks...) {
		for _, many := range []int{0, 1, 2, 199, 200, 201, 202, 456, 16384} {
			b := encodedNetwork(network{Mask: m, Routers: routersOf(many)})
			for more := 1; more <= 3; more++ {
				networks.refuse(t, slices.Concat(b, filled(more)), api.ErrShort)
				networks.refuse(t, slices.Concat(b, make([]byte, more)), api.ErrShort)
			}
			if many == 0 {
				networks.refuse(t, b, api.ErrShort)
				continue
			}
			if many > mostRouters || m != mask(24) {
				networks.refuse(t, b, api.ErrForm)
			}
			networks.meet(t, b)
		}
	}
}

// Bytes too many are ErrForm, however many they are, and whether the rest is valid or not.
func TestLongAndWrong(t *testing.T) {
	for _, c := range []codec{summaries, externals} {
		for _, x := range samples(c) {
			b := c.encoded(x)
			for _, more := range []int{1, 2, 4, 8, 12, 16, 1000, 1 << 16, 1<<16 + 1} {
				c.refuse(t, slices.Concat(b, make([]byte, more)), api.ErrForm)
				c.refuse(t, slices.Concat(with(b, 4, 1), make([]byte, more)), api.ErrForm)
				c.refuse(t, slices.Concat(with(b, 3, 2), filled(more)), api.ErrForm)
			}
		}
	}
}

// Every value of every byte is read, or refused, as the chapter says.
func TestEveryByte(t *testing.T) {
	for _, c := range codecs {
		seen := map[api.Errno]int{}
		for _, x := range samples(c) {
			b := c.encoded(x)
			for at := range min(len(b), 70) {
				for value := range 256 {
					seen[c.meet(t, with(b, at, byte(value)))]++
				}
			}
		}
		if seen[api.OK] < 1000 || seen[api.ErrForm] < 1000 {
			t.Errorf("%s: %d are read, %d are refused", c.name, seen[api.OK], seen[api.ErrForm])
		}
	}
}

// The bytes with but few values, one by one.
func TestBytesThatAreNotValid(t *testing.T) {
	b := encodedRouter(router{Flags: 9, Links: linksOf(4)})
	for value := 1; value < 256; value++ {
		routers.refuse(t, with(b, 1, byte(value)), api.ErrForm)
		for link := range 4 {
			routers.refuse(t, with(b, 4+12*link+9, byte(value)), api.ErrForm)
		}
		summaries.refuse(t, with(encodedSummary(summary{Mask: mask(8), Cost: 5}), 4, byte(value)), api.ErrForm)
		if value != 128 {
			externals.refuse(t, with(encodedExternal(external{Mask: mask(8), Cost: 5}), 4, byte(value)), api.ErrForm)
			externals.refuse(t, with(encodedExternal(external{Mask: mask(8), Second: true}), 4, byte(value)), api.ErrForm)
		}
		if value >= 32 {
			routers.refuse(t, with(b, 0, byte(value)), api.ErrForm)
			routers.refuse(t, []byte{byte(value), 0, 0, 0}, api.ErrForm)
		}
		if value >= 5 {
			for link := range 4 {
				routers.refuse(t, with(b, 4+12*link+8, byte(value)), api.ErrForm)
			}
		}
	}
	for link := range 4 {
		routers.refuse(t, with(b, 4+12*link+8, 0), api.ErrForm)
	}
}

// The last link of the most is looked at, too.
func TestEveryLinkIsRead(t *testing.T) {
	b := encodedRouter(router{Links: linksOf(mostLinks)})
	for link := range mostLinks {
		routers.refuse(t, with(b, 4+12*link+8, 0), api.ErrForm)
		routers.refuse(t, with(b, 4+12*link+8, 5), api.ErrForm)
		routers.refuse(t, with(b, 4+12*link+9, 1), api.ErrForm)
	}
}

// L3: Right.

func TestRightOfEveryType(t *testing.T) {
	far := append(slices.Clone(far), -7, -6, -5, -4, -3, 9, 10, 11, 255, 256, 257, 258, 259, 261, 263, 65536, 65537, 1<<32+2, 1<<32+3, 1<<32+5, 1<<32+7)
	for _, c := range codecs {
		for _, x := range samples(c) {
			b := c.encoded(x)
			for kind := range 9 {
				rightAsJudged(t, kind, b)
				for _, long := range []int{0, 1, 3, 4, 7, 8, 12, 15, 16, len(b) - 1} {
					rightAsJudged(t, kind, b[:min(long, len(b))])
				}
				for more := 1; more <= 16; more++ {
					rightAsJudged(t, kind, slices.Concat(b, make([]byte, more)))
				}
			}
			for _, kind := range far {
				rightAsJudged(t, kind, b)
			}
		}
	}
	for _, kind := range append(far, 0, 1, 2, 3, 4, 5, 6, 7, 8) {
		for _, b := range [][]byte{nil, {}} {
			if body.Right(api.Ad{H: api.Header{Type: kind}, B: b}) {
				t.Errorf("no body is right for Type %d", kind)
			}
		}
	}
}

// rightAsJudged fails unless Right goes by the kind of body that this Type has.
func rightAsJudged(t *testing.T, kind int, b []byte) {
	t.Helper()
	want := false
	for _, c := range codecs {
		if slices.Contains(c.types, kind) {
			_, e := c.judged(b)
			want = e == api.OK
		}
	}
	if got := body.Right(api.Ad{H: api.Header{Type: kind}, B: b}); got != want {
		t.Errorf("Right of Type %d, %x: %t", kind, b, got)
	}
}

func TestRight(t *testing.T) {
	table := []struct {
		b     []byte
		types []int
	}{
		{encodedRouter(router{}), []int{1}},
		{encodedRouter(router{Flags: 3, Links: linksOf(2)}), []int{1}},
		{encodedNetwork(network{Mask: mask(8), Routers: []uint32{1 << 31}}), []int{2}},
		{encodedNetwork(network{Mask: mask(8), Routers: []uint32{1}}), []int{2, 3, 4}},
		{encodedNetwork(network{Mask: mask(8), Routers: []uint32{1, 2, 3}}), []int{2, 5, 7}},
		{encodedSummary(summary{Mask: mask(8), Cost: 5}), []int{2, 3, 4}},
		{encodedExternal(external{Mask: mask(8), Cost: 5}), []int{2, 5, 7}},
		{encodedExternal(external{Mask: mask(8), Second: true, Cost: 5}), []int{2, 5, 7}},
		{slices.Concat([]byte{0, 0, 0, 1}, make([]byte, 8), []byte{3, 0, 0, 0}), []int{1}},
		{make([]byte, 4), []int{1}},
		{make([]byte, 8), []int{2, 3, 4}},
		{make([]byte, 12), []int{2}},
		{make([]byte, 16), []int{2, 5, 7}},
		{make([]byte, 15), nil},
		{[]byte{0, 0, 0, 1}, nil},
		{nil, nil},
	}
	for _, x := range table {
		for kind := -1; kind < 12; kind++ {
			if body.Right(api.Ad{H: api.Header{Type: kind}, B: x.b}) != slices.Contains(x.types, kind) {
				t.Errorf("Right of Type %d, %x", kind, x.b)
			}
		}
	}
}

// Nothing but the Type and the body is asked: not the other fields of the header, be they valid or not.
func TestRightOfAnyHeader(t *testing.T) {
	for _, c := range codecs {
		for _, x := range samples(c) {
			b := c.encoded(x)
			for _, kind := range c.types {
				for _, n := range far {
					h := api.Header{Age: n, Options: n, Type: kind, ID: uint32(n), Adv: uint32(n), Seq: uint32(n), Sum: n, Long: n}
					if !body.Right(api.Ad{H: h, B: b}) || body.Right(api.Ad{H: h, B: b[:len(b)-1]}) {
						t.Errorf("Right of %v, %x", h, b)
					}
				}
			}
		}
	}
}

// R4: what was passed stays as it was, the memory behind it too, and answers have memory of their own.

func TestWritingLeavesItsArgument(t *testing.T) {
	links, list := linksOf(130), routersOf(230)
	for n := range 120 {
		x := router{Flags: 4, Links: links[3 : 3+n]}
		b, e := body.Router(x)
		if (e == api.OK) != (n <= mostLinks) || !slices.Equal(links, linksOf(130)) {
			t.Fatalf("Router with %d links: error %d", n, e)
		}
		clear(b[:cap(b)])
		body.Router(router{Flags: -1, Links: x.Links})
		if !slices.Equal(links, linksOf(130)) || len(x.Links) != n {
			t.Fatalf("Router with %d links changed them", n)
		}
	}
	for n := range 220 {
		x := network{Mask: mask(4), Routers: list[3 : 3+n]}
		b, e := body.Network(x)
		if (e == api.OK) != (n >= 1 && n <= mostRouters) || !slices.Equal(list, routersOf(230)) {
			t.Fatalf("Network with %d routers: error %d", n, e)
		}
		clear(b[:cap(b)])
		body.Network(network{Mask: 1, Routers: x.Routers})
		if !slices.Equal(list, routersOf(230)) || len(x.Routers) != n {
			t.Fatalf("Network with %d routers changed them", n)
		}
	}
}

// wipe overwrites the list of x, its spare memory too.
func wipe(x any) {
	switch x := x.(type) {
	case router:
		clear(x.Links[:cap(x.Links)])
	case network:
		clear(x.Routers[:cap(x.Routers)])
	}
}

func TestReadingLeavesItsArgument(t *testing.T) {
	for _, c := range codecs {
		for _, x := range samples(c) {
			whole := c.encoded(x)
			memory := slices.Concat(whole, filled(50))
			was := slices.Clone(memory)
			for n := range memory {
				y, _ := c.read(memory[:n])
				body.Right(api.Ad{H: api.Header{Type: c.types[0]}, B: memory[:n]})
				wipe(y)
				if !bytes.Equal(memory, was) {
					t.Fatalf("%s of %d bytes changed them", c.name, n)
				}
			}
		}
	}
}

// Later changes of what was passed are not seen in an answer, nor those of one answer in another one.
func TestAnswersAreApart(t *testing.T) {
	for _, c := range codecs {
		for _, sample := range samples(c) {
			x := cloned(sample)
			b, _ := c.write(x)
			again, _ := c.write(x)
			wipe(x)
			if want := c.encoded(sample); !bytes.Equal(b, want) || !bytes.Equal(again, want) {
				t.Errorf("%s %v: %x", c.name, sample, b)
			}
			y, _ := c.read(b)
			z, _ := c.read(b)
			clear(b[:cap(b)])
			if !same(y, sample) || !bytes.Equal(again, c.encoded(sample)) {
				t.Errorf("%s %v, after a change of the bytes: %v, %x", c.name, sample, y, again)
			}
			wipe(y)
			if !same(z, sample) {
				t.Errorf("%s %v, after a change of the other one: %v", c.name, sample, z)
			}
		}
	}
}

// What stands behind the length of the bytes or of a list is not taken.
func TestStopsAtTheLength(t *testing.T) {
	links := linksOf(5)
	b, _ := body.Router(router{Links: links[:2]})
	if !bytes.Equal(b, encodedRouter(router{Links: linksOf(2)})) {
		t.Errorf("Router: %x", b)
	}
	list := routersOf(5)
	b, _ = body.Network(network{Mask: mask(3), Routers: list[:2]})
	if !bytes.Equal(b, encodedNetwork(network{Mask: mask(3), Routers: routersOf(2)})) {
		t.Errorf("Network: %x", b)
	}
	if x, e := body.ReadNetwork(b[:8]); e != api.OK || !slices.Equal(x.Routers, routersOf(1)) {
		t.Errorf("ReadNetwork: %v, error %d", x, e)
	}
	// The bytes behind the length would make it whole.
	for _, c := range codecs {
		for _, x := range samples(c) {
			b := c.encoded(x)
			c.refuse(t, b[:len(b)-1], api.ErrShort)
		}
	}
}

// P12.2: reading inverts writing.
func TestReadingInvertsWriting(t *testing.T) {
	for i, c := range codecs {
		draw := drawer(uint64(i) + 2)
		longest, shortest := 0, 0
		for range 10000 {
			x := c.draw(draw)
			kept := cloned(x)
			b := c.encoded(x)
			c.accept(t, x, b)
			if t.Failed() || !same(x, kept) {
				t.Fatalf("%s %v, was %v", c.name, x, kept)
			}
			switch len(b) {
			case 1204, 804:
				longest++
			case 4, 8:
				shortest++
			}
		}
		if i < 2 && (longest < 500 || shortest < 500) {
			t.Errorf("%s: %d with the most elements, %d with the fewest", c.name, longest, shortest)
		}
	}
}

// drawBytes returns bytes that are in some draws the encoding of a valid body, and in others nearly one.
func drawBytes(draw func(int) int, c codec) []byte {
	b := c.encoded(c.draw(draw))
	switch draw(6) {
	case 0:
		return b
	case 1:
		return b[:draw(len(b)+1)]
	case 2:
		return append(b, filled(1+draw(20))...)
	case 3:
		// Bytes that have nothing of a body but, sometimes, its length.
		b = b[:draw(len(b)+1)]
		for i := range b {
			b[i] = byte(draw(256) >> draw(9))
		}
		return b
	}
	for range 1 + draw(3) {
		b[draw(len(b))] = byte(draw(256) >> draw(9))
	}
	return b
}

// P12.2: what is accepted is written as the same bytes again.
func TestReadingAcceptsNothingElse(t *testing.T) {
	for i, c := range codecs {
		draw := drawer(uint64(i) + 7)
		seen := map[api.Errno]int{}
		for range 20000 {
			b := drawBytes(draw, c)
			seen[c.meet(t, b)]++
			x, e := c.read(b)
			if e != api.OK {
				continue
			}
			if again, e := c.write(x); e != api.OK || !bytes.Equal(again, b) {
				t.Fatalf("%s of %x: %v, written as %x, error %d", c.name, b, x, again, e)
			}
		}
		for _, e := range []api.Errno{api.OK, api.ErrShort, api.ErrForm} {
			if seen[e] < 1000 {
				t.Errorf("%s: error %d came %d times", c.name, e, seen[e])
			}
		}
	}
}

// Many of four bytes for a router, and every beginning of a mask for the others.
func TestReadingSmallBodies(t *testing.T) {
	for first := range 64 {
		for second := range 3 {
			for many := range 400 {
				routers.meet(t, slices.Concat([]byte{byte(first), byte(second)}, two(many)))
			}
		}
	}
	for high := range 256 {
		for low := range 256 {
			b := []byte{byte(high), byte(low), 0, 0, 0, 1, 2, 3}
			networks.meet(t, b)
			summaries.meet(t, b)
			externals.meet(t, slices.Concat(b, filled(8)))
		}
	}
}
