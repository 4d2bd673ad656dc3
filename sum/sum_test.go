package sum_test

import (
	"bytes"
	"math"
	"testing"

	"crossroads/api"
	"crossroads/sum"
)

// mixed returns n bytes without a short period, the same ones for the same seed.
func mixed(n int, seed uint32) []byte {
	out := make([]byte, n)
	for i := range out {
		seed = seed*1664525 + 1013904223
		out[i] = byte(seed >> 24)
	}
	return out
}

// same returns n bytes, each of them x.
func same(n int, x byte) []byte {
	return bytes.Repeat([]byte{x}, n)
}

// samples are inputs of all kinds, none of them longer than Place takes.
func samples() [][]byte {
	out := [][]byte{nil, {}, {0}, {1}, {254}, {255}, {0, 0}, {255, 255}, {1, 2}, {0, 1, 0}, {255, 0, 255, 0}}
	for _, n := range []int{3, 4, 5, 16, 17, 254, 255, 256, 257, 510, 1500, 3999, 4000} {
		out = append(out, same(n, 0), same(n, 255), same(n, 1), mixed(n, uint32(n)), mixed(n, uint32(n)+77))
	}
	return out
}

// wantInternet works the internet checksum out word by word, with the carry added at once.
func wantInternet(b []byte) int {
	total := 0
	for i := 0; i < len(b); i += 2 {
		w := int(b[i]) * 256
		if i+1 < len(b) {
			w += int(b[i+1])
		}
		total += w
		if total > 65535 {
			total -= 65535
		}
	}
	return 65535 - total
}

// wantPair works the pair out by how often each byte is counted.
func wantPair(b []byte) (int, int) {
	c0, c1 := 0, 0
	for i, x := range b {
		c0 = (c0 + int(x)) % 255
		c1 = (c1 + (len(b)-i)%255*int(x)) % 255
	}
	return c0, c1
}

func TestInternet(t *testing.T) {
	for _, c := range []struct {
		b    []byte
		want int
	}{
		{nil, 65535},
		{[]byte{}, 65535},
		{[]byte{0}, 65535},
		{[]byte{1}, 65535 - 256},
		{[]byte{255}, 255},
		{[]byte{0, 1}, 65534},
		{[]byte{1, 2, 3, 4}, 64505},
		{[]byte{1, 2, 3}, 65535 - 258 - 768},
		{[]byte{0, 0}, 65535},
		{[]byte{255, 255}, 0},
		{[]byte{255, 255, 0, 1}, 65534},
		{[]byte{255, 255, 255, 255, 0, 1}, 65534}, // 1ffff, then 10000, then 1
		{[]byte{255, 255, 255, 255, 1}, 65535 - 256},
		{[]byte{0x80, 0, 0x80, 0}, 65534},
		{same(4001, 0), 65535},
		{same(4000, 255), 0},
		{same(4001, 255), 255},
	} {
		if n := sum.Internet(c.b); n != c.want {
			t.Errorf("Internet of %d bytes %v: %d, want %d", len(c.b), head(c.b), n, c.want)
		}
	}
	for _, b := range samples() {
		if n, want := sum.Internet(b), wantInternet(b); n != want {
			t.Errorf("Internet of %d bytes %v: %d, want %d", len(b), head(b), n, want)
		}
	}
}

// head is as much of b as a message may show.
func head(b []byte) []byte {
	return b[:min(len(b), 8)]
}

func TestLongInputs(t *testing.T) {
	// 1<<20 words are more than 32 bits can add up, and 1<<24 bytes more than a float of
	// 32 bits can; the sum of the first sums goes beyond what any float tells exactly.
	for _, b := range [][]byte{
		mixed(1<<21+1, 5), same(1<<21, 255), same(1<<21+1, 255), same(1<<21, 0),
		mixed(1<<24+3, 6), same(1<<24+3, 254), same(1<<25+1, 253),
	} {
		if n, want := sum.Internet(b), wantInternet(b); n != want {
			t.Errorf("Internet of %d bytes %v: %d, want %d", len(b), head(b), n, want)
		}
		c0, c1 := sum.Pair(b)
		if w0, w1 := wantPair(b); c0 != w0 || c1 != w1 {
			t.Errorf("Pair of %d bytes %v: %d %d, want %d %d", len(b), head(b), c0, c1, w0, w1)
		}
	}
}

func TestHolds(t *testing.T) {
	for _, c := range []struct {
		b    []byte
		want bool
	}{
		{nil, false},
		{[]byte{0}, false},
		{[]byte{255}, false},
		{[]byte{0, 0}, false},
		{[]byte{255, 255}, true},
		{[]byte{255, 254}, false},
		{[]byte{255, 254, 0, 1}, true},
		{[]byte{255, 0, 0, 255}, true},
		{[]byte{254, 255, 1}, true},
		{[]byte{1, 2, 3, 4}, false},
		{[]byte{1, 2, 3, 4, 64505 >> 8, 64505 & 255}, true},
		{same(5000, 0), false},
		{same(5000, 255), true},
		{same(5001, 255), false},
	} {
		if sum.Holds(c.b) != c.want {
			t.Errorf("Holds of %d bytes %v is not %v", len(c.b), head(c.b), c.want)
		}
	}
	for _, b := range samples() {
		if sum.Holds(b) != (wantInternet(b) == 0) {
			t.Errorf("Holds of %d bytes %v: %v", len(b), head(b), sum.Holds(b))
		}
	}
}

func TestPair(t *testing.T) {
	for _, c := range []struct {
		b      []byte
		c0, c1 int
	}{
		{nil, 0, 0},
		{[]byte{}, 0, 0},
		{[]byte{0}, 0, 0},
		{[]byte{7}, 7, 7},
		{[]byte{254}, 254, 254},
		{[]byte{255}, 0, 0},
		{[]byte{1, 2}, 3, 4},
		{[]byte{2, 1}, 3, 5},
		{[]byte{1, 2, 3}, 6, 10},
		{[]byte{254, 1}, 0, 254},
		{[]byte{254, 254}, 253, 252},
		{[]byte{254, 255}, 254, 253},
		{[]byte{255, 1}, 1, 1},
		{[]byte{127, 1, 127}, 0, 0},
		{same(4001, 0), 0, 0},
		{same(4001, 255), 0, 0},
	} {
		if c0, c1 := sum.Pair(c.b); c0 != c.c0 || c1 != c.c1 {
			t.Errorf("Pair of %d bytes %v: %d %d, want %d %d", len(c.b), head(c.b), c0, c1, c.c0, c.c1)
		}
	}
	for _, b := range samples() {
		c0, c1 := sum.Pair(b)
		if w0, w1 := wantPair(b); c0 != w0 || c1 != w1 {
			t.Errorf("Pair of %d bytes %v: %d %d, want %d %d", len(b), head(b), c0, c1, w0, w1)
		}
	}
}

func TestFits(t *testing.T) {
	for _, c := range []struct {
		b    []byte
		want bool
	}{
		{nil, true},
		{[]byte{0}, true},
		{[]byte{255}, true},
		{[]byte{1}, false},
		{[]byte{0, 255, 0}, true},
		{[]byte{254, 1}, false}, // only the first sum is 0
		{[]byte{1, 253}, false}, // only the second sum is 0
		{[]byte{127, 1, 127}, true},
		{[]byte{1, 2, 248, 4}, true},
		{[]byte{1, 2, 4, 248}, false},
		{same(5000, 0), true},
		{same(5000, 255), true},
		{same(254, 1), false},
		{same(255, 1), true},
	} {
		if sum.Fits(c.b) != c.want {
			t.Errorf("Fits of %d bytes %v is not %v", len(c.b), head(c.b), c.want)
		}
	}
	if c0, c1 := sum.Pair([]byte{1, 253}); c0 != 254 || c1 != 0 {
		t.Errorf("Pair: %d %d", c0, c1)
	}
}

// checkPlaced tells what is wrong with out as Place's answer for b and at.
func checkPlaced(t *testing.T, b []byte, at int, out []byte, e api.Errno) {
	t.Helper()
	if e != api.OK || len(out) != len(b) {
		t.Fatalf("Place of %d bytes at %d: %d bytes, error %d", len(b), at, len(out), e)
	}
	if c0, c1 := wantPair(out); c0 != 0 || c1 != 0 || !sum.Fits(out) {
		t.Fatalf("Place of %d bytes at %d: the pair is %d %d, Fits %v", len(b), at, c0, c1, sum.Fits(out))
	}
	if out[at] == 0 || out[at+1] == 0 {
		t.Fatalf("Place of %d bytes at %d: %d %d", len(b), at, out[at], out[at+1])
	}
	if !bytes.Equal(out[:at], b[:at]) || !bytes.Equal(out[at+2:], b[at+2:]) {
		t.Fatalf("Place of %d bytes at %d changed other bytes", len(b), at)
	}
}

func TestPlaceAtEveryOffset(t *testing.T) {
	for _, b := range samples() {
		step := 1
		if len(b) > 600 {
			step = 37
		}
		for at := 0; at+1 < len(b); at += step {
			out, e := sum.Place(b, at)
			checkPlaced(t, b, at, out, e)
		}
		if at := len(b) - 2; at >= 0 {
			out, e := sum.Place(b, at)
			checkPlaced(t, b, at, out, e)
		}
	}
}

func TestPlaceAtEveryOffsetOfTheLongest(t *testing.T) {
	b := mixed(4000, 11)
	for at := range len(b) - 1 {
		out, e := sum.Place(b, at)
		checkPlaced(t, b, at, out, e)
	}
}

func TestPlaceValues(t *testing.T) {
	for _, c := range []struct {
		b    []byte
		at   int
		want []byte
	}{
		{[]byte{9, 9}, 0, []byte{255, 255}},
		{[]byte{0, 0}, 0, []byte{255, 255}},
		{[]byte{1, 2, 9, 9}, 2, []byte{1, 2, 248, 4}},
		{[]byte{1, 2, 0, 0}, 2, []byte{1, 2, 248, 4}},
		{[]byte{1, 2, 248, 4}, 2, []byte{1, 2, 248, 4}},
		{[]byte{1, 2, 255, 255}, 2, []byte{1, 2, 248, 4}},
		{[]byte{7, 7, 0}, 0, []byte{255, 255, 0}},
		{[]byte{7, 7, 255}, 0, []byte{255, 255, 255}},
		{[]byte{7, 7, 1}, 0, []byte{1, 253, 1}},
		{[]byte{1, 7, 7}, 1, []byte{1, 253, 1}},
		{[]byte{253, 1, 1, 0, 0}, 3, []byte{253, 1, 1, 3, 252}},
		{[]byte{254, 1, 0, 0}, 2, []byte{254, 1, 1, 254}},
	} {
		out, e := sum.Place(c.b, c.at)
		if e != api.OK || !bytes.Equal(out, c.want) {
			t.Errorf("Place of %v at %d: %v %d, want %v", c.b, c.at, out, e, c.want)
		}
	}
}

// TestPlaceReachesEveryPair places into inputs whose two bytes must become every value.
func TestPlaceReachesEveryPair(t *testing.T) {
	for x := 1; x <= 255; x++ {
		for y := 1; y <= 255; y++ {
			b := before(x, y)
			out, e := sum.Place(b, 2)
			if e != api.OK || !bytes.Equal(out, []byte{b[0], b[1], byte(x), byte(y)}) {
				t.Fatalf("Place of %v at 2: %v %d, want %d %d", b, out, e, x, y)
			}
		}
	}
}

// before returns two bytes and two places, such that x and y in the places make it fit:
// u+v+x+y and 4u+3v+2x+y are both 0 modulo 255.
func before(x, y int) []byte {
	u := (x + 2*y) % 255           // from 3 times the first sum, taken off the second one
	v := (255*4 - u - x - y) % 255 // from the first sum
	return []byte{byte(u), byte(v), 99, 7}
}

func TestPlaceRefuses(t *testing.T) {
	for _, c := range []struct {
		b  []byte
		at int
	}{
		{nil, 0}, {nil, -1}, {nil, -2}, {nil, 1},
		{[]byte{1}, 0}, {[]byte{1}, -1}, {[]byte{1}, 1},
		{[]byte{1, 2}, 1}, {[]byte{1, 2}, 2}, {[]byte{1, 2}, -1}, {[]byte{1, 2}, -2},
		{[]byte{1, 2, 3, 4}, 3}, {[]byte{1, 2, 3, 4}, 4}, {[]byte{1, 2, 3, 4}, 5},
		{[]byte{1, 2, 3, 4}, math.MaxInt}, {[]byte{1, 2, 3, 4}, math.MaxInt - 1}, {[]byte{1, 2, 3, 4}, math.MinInt},
		{same(4000, 1), 3999}, {same(4000, 1), -1},
		{same(4001, 1), 0}, {same(4001, 1), 2000}, {same(4001, 1), 3999}, {same(4001, 1), 4000},
		{same(100000, 0), 16},
	} {
		if out, e := sum.Place(c.b, c.at); e != api.ErrArg || len(out) != 0 {
			t.Errorf("Place of %d bytes at %d: %d bytes, error %d", len(c.b), c.at, len(out), e)
		}
	}
	// Slices of greater memory: only what is within the length counts.
	wide := make([]byte, 3, 10)
	if out, e := sum.Place(wide, 2); e != api.ErrArg || len(out) != 0 {
		t.Errorf("beyond the length: %v %d", out, e)
	}
}

func TestArgumentsStay(t *testing.T) {
	memory := mixed(64, 3)
	kept := bytes.Clone(memory)
	b := memory[8:40]
	sum.Internet(b[:31])
	sum.Holds(b[:31])
	sum.Pair(b)
	sum.Fits(b)
	out, e := sum.Place(b, 12)
	if e != api.OK {
		t.Fatalf("Place: %d", e)
	}
	last, e := sum.Place(b, 30)
	if e != api.OK {
		t.Fatalf("Place: %d", e)
	}
	out, last = out[:cap(out)], last[:cap(last)]
	for i := range out {
		out[i] = 0xee
	}
	for i := range last {
		last[i] = 0xdd
	}
	if !bytes.Equal(memory, kept) {
		t.Error("the argument's memory was changed")
	}
}

// changed calls f with b, in which the byte at i has every other value in turn.
func changed(b []byte, i int, f func(was, is byte)) {
	was := b[i]
	for v := 0; v < 256; v++ {
		if byte(v) != was {
			b[i] = byte(v)
			f(was, byte(v))
		}
	}
	b[i] = was
}

// sameModulo tells whether the change is the one that the document excepts.
func sameModulo(was, is byte) bool {
	return was == 0 && is == 255 || was == 255 && is == 0
}

// sealed returns b with its internet checksum at the even offset at.
func sealed(b []byte, at int) []byte {
	out := bytes.Clone(b)
	out[at], out[at+1] = 0, 0
	c := wantInternet(out)
	out[at], out[at+1] = byte(c>>8), byte(c)
	return out
}

func TestOwnInternetChecksumAccepted(t *testing.T) {
	for _, b := range samples() {
		for at := 0; at+1 < min(len(b), 300); at += 2 {
			out := sealed(b, at)
			if !sum.Holds(out) {
				t.Fatalf("%d bytes %v with their checksum at %d: not accepted", len(b), head(b), at)
			}
			out[at], out[at+1] = 0, 0
			c := sum.Internet(out)
			out[at], out[at+1] = byte(c>>8), byte(c)
			if !sum.Holds(out) {
				t.Fatalf("%d bytes %v with what Internet said at %d: not accepted", len(b), head(b), at)
			}
		}
	}
}

// changeSamples are inputs in which every byte is changed to every other value.
func changeSamples() [][]byte {
	return [][]byte{{0, 0}, {255, 255}, {1, 2}, same(9, 0), same(9, 255), {0, 255, 0, 255, 0, 255, 9}, mixed(24, 1), mixed(61, 2), same(40, 128)}
}

func TestInternetDetectsOneByte(t *testing.T) {
	for _, b := range changeSamples() {
		b = sealed(b, 0)
		n := sum.Internet(b)
		for i := range b {
			changed(b, i, func(was, is byte) {
				// The document does not ask for this one, but the definition of the checksum settles it.
				if sameModulo(was, is) && sum.Internet(b) != wantInternet(b) {
					t.Fatalf("offset %d of %v, was %d: %d", i, b, was, sum.Internet(b))
				}
				if !sameModulo(was, is) && (sum.Holds(b) || sum.Internet(b) == n) {
					t.Fatalf("offset %d of %v, was %d: not detected", i, b, was)
				}
			})
		}
	}
}

func TestFletcherDetectsOneByte(t *testing.T) {
	for _, b := range changeSamples() {
		b, e := sum.Place(b, 0)
		if e != api.OK || !sum.Fits(b) {
			t.Fatalf("Place: %v %d", b, e)
		}
		for i := range b {
			changed(b, i, func(was, is byte) {
				if sum.Fits(b) != sameModulo(was, is) {
					t.Fatalf("offset %d of %v, was %d: Fits %v", i, b, was, sum.Fits(b))
				}
			})
		}
	}
}

func TestZeroAnd255(t *testing.T) {
	// Modulo 255 they are the same number, so the Fletcher pair cannot tell them apart.
	b, e := sum.Place([]byte{0, 0, 0, 255, 3}, 0)
	if e != api.OK {
		t.Fatalf("Place: %d", e)
	}
	b[2] = 255
	if !sum.Fits(b) {
		t.Errorf("0 to 255: %v", b)
	}
	b[3] = 0
	if !sum.Fits(b) {
		t.Errorf("255 to 0: %v", b)
	}
	b[2] = 254
	if sum.Fits(b) {
		t.Errorf("255 to 254: %v", b)
	}
}

func TestLongInputsDetectOneByte(t *testing.T) {
	b, e := sum.Place(mixed(4000, 9), 16)
	if e != api.OK {
		t.Fatalf("Place: %d", e)
	}
	s := sealed(mixed(4001, 9), 16)
	for _, i := range []int{0, 1, 15, 16, 17, 18, 255, 256, 1999, 3998, 3999} {
		changed(b, i, func(was, is byte) {
			if sum.Fits(b) != sameModulo(was, is) {
				t.Fatalf("Fletcher, offset %d: %d to %d", i, was, is)
			}
		})
		changed(s, i, func(was, is byte) {
			if !sameModulo(was, is) && sum.Holds(s) {
				t.Fatalf("internet, offset %d: %d to %d", i, was, is)
			}
		})
	}
}
