package octet_test

import (
	"bytes"
	"math"
	"slices"
	"testing"

	"crossroads/api"
	"crossroads/octet"
)

// wrongWidths are the values of many that no function takes.
var wrongWidths = []int{0, 5, 6, 8, 32, 256, 257, 260, -1, -2, -3, -4, math.MaxInt, math.MinInt}

// edges are the numbers next to where one more byte becomes necessary.
var edges = []uint32{0, 1, 127, 128, 255, 256, 257, 258, 1<<16 - 1, 1 << 16, 1<<16 + 1, 0x010203, 1<<24 - 1, 1 << 24, 0x01020304, 1<<31 - 1, 1 << 31, 1<<32 - 1}

// widthOf is the least number of bytes into which n fits.
func widthOf(n uint32) int {
	switch {
	case n <= 0xff:
		return 1
	case n <= 0xffff:
		return 2
	case n <= 0xffffff:
		return 3
	}
	return 4
}

// roomy returns b as a slice with spare capacity, and the whole memory around it.
func roomy(b []byte) ([]byte, []byte) {
	whole := append(slices.Clone(b), 0xa1, 0xa2, 0xa3, 0xa4, 0xa5, 0xa6, 0xa7, 0xa8)
	return whole[:len(b)], whole
}

// scrawl overwrites b with other bytes, up to its capacity.
func scrawl(b []byte) {
	b = b[:cap(b)]
	for i := range b {
		b[i] = ^b[i]
	}
}

// P1.1, A1: what Put returns.
func TestPutWrites(t *testing.T) {
	for _, x := range []struct {
		b    string
		n    uint32
		many int
		want string
	}{
		{"", 258, 2, "\x01\x02"},
		{"z", 258, 2, "z\x01\x02"},
		{"abc", 0, 1, "abc\x00"},
		{"abc", 0, 4, "abc\x00\x00\x00\x00"},
		{"", 255, 1, "\xff"},
		{"", 255, 4, "\x00\x00\x00\xff"},
		{"", 256, 2, "\x01\x00"},
		{"", 65535, 2, "\xff\xff"},
		{"", 0x010203, 3, "\x01\x02\x03"},
		{"", 1<<24 - 1, 3, "\xff\xff\xff"},
		{"", 0x01020304, 4, "\x01\x02\x03\x04"},
		{"\x00", 1<<32 - 1, 4, "\x00\xff\xff\xff\xff"},
		{"", 1 << 31, 4, "\x80\x00\x00\x00"},
	} {
		if got, e := octet.Put([]byte(x.b), x.n, x.many); string(got) != x.want || e != api.OK {
			t.Errorf("Put(%q, %d, %d) = %q, %d; want %q", x.b, x.n, x.many, got, e, x.want)
		}
	}
	if got, e := octet.Put(nil, 7, 1); string(got) != "\x07" || e != api.OK {
		t.Errorf("Put(nil, 7, 1) = %q, %d", got, e)
	}
}

// P1.1, A1: a number that just fits and one that just does not.
func TestPutFits(t *testing.T) {
	for _, n := range edges {
		for many := 1; many <= 4; many++ {
			got, e := octet.Put([]byte("ab"), n, many)
			if many >= widthOf(n) {
				if e != api.OK || len(got) != 2+many {
					t.Errorf("Put(%d, %d) = %q, %d; it fits", n, many, got, e)
				}
			} else if e != api.ErrLarge || got != nil {
				t.Errorf("Put(%d, %d) = %q, %d; want ErrLarge", n, many, got, e)
			}
		}
	}
}

// P1.1: a wrong many is ErrArg, ahead of every other error, beside zero values.
func TestWrongWidth(t *testing.T) {
	for _, many := range wrongWidths {
		for _, b := range [][]byte{nil, {}, {1}, {1, 2, 3, 4, 5, 6, 7, 8, 9}} {
			for _, n := range []uint32{0, 1, 1<<32 - 1} {
				if got, e := octet.Put(b, n, many); got != nil || e != api.ErrArg {
					t.Errorf("Put(%x, %d, %d) = %x, %d", b, n, many, got, e)
				}
			}
			if n, rest, e := octet.Take(b, many); n != 0 || rest != nil || e != api.ErrArg {
				t.Errorf("Take(%x, %d) = %d, %x, %d", b, many, n, rest, e)
			}
			if l, e := octet.Rows(b, many); l != nil || e != api.ErrArg {
				t.Errorf("Rows(%x, %d) = %d, %d", b, many, l, e)
			}
		}
		for _, l := range [][]uint32{nil, {}, {0}, {1, 1<<32 - 1}} {
			if got, e := octet.Row(l, many); got != nil || e != api.ErrArg {
				t.Errorf("Row(%d, %d) = %x, %d", l, many, got, e)
			}
		}
	}
}

// P1.1, A2: what Take returns, also where the bytes are just enough.
func TestTakeReads(t *testing.T) {
	for _, x := range []struct {
		b    string
		many int
		n    uint32
		rest string
	}{
		{"\x01\x02\x03", 1, 1, "\x02\x03"},
		{"\x01\x02\x03", 2, 258, "\x03"},
		{"\x01\x02\x03", 3, 0x010203, ""},
		{"\x01\x02\x03\x04", 4, 0x01020304, ""},
		{"\x01\x02\x03\x04\x05\x06", 4, 0x01020304, "\x05\x06"},
		{"\x00", 1, 0, ""},
		{"\xff", 1, 255, ""},
		{"\x00\x00\x00\xff\x00", 4, 255, "\x00"},
		{"\xff\xff\xff\xff", 4, 1<<32 - 1, ""},
		{"\x80\x00\x00\x00", 4, 1 << 31, ""},
	} {
		n, rest, e := octet.Take([]byte(x.b), x.many)
		if n != x.n || string(rest) != x.rest || e != api.OK {
			t.Errorf("Take(%q, %d) = %d, %q, %d; want %d, %q", x.b, x.many, n, rest, e, x.n, x.rest)
		}
	}
}

// P1.1, A2: fewer bytes than many, even if the memory goes on behind them.
func TestTakeShort(t *testing.T) {
	for many := 1; many <= 4; many++ {
		for have := 0; have < many; have++ {
			b, _ := roomy(bytes.Repeat([]byte{9}, have))
			if n, rest, e := octet.Take(b, many); n != 0 || rest != nil || e != api.ErrShort {
				t.Errorf("Take of %d bytes, %d = %d, %x, %d", have, many, n, rest, e)
			}
		}
		if n, rest, e := octet.Take(nil, many); n != 0 || rest != nil || e != api.ErrShort {
			t.Errorf("Take(nil, %d) = %d, %x, %d", many, n, rest, e)
		}
	}
}

// P1.1, A2: what Cut returns, for each n from 0 to just enough.
func TestCutSplits(t *testing.T) {
	const all = "\x00\x01abcdef"
	for long := 0; long <= len(all); long++ {
		for n := 0; n <= long; n++ {
			first, rest, e := octet.Cut([]byte(all[:long]), n)
			if string(first) != all[:n] || string(rest) != all[n:long] || e != api.OK {
				t.Errorf("Cut(%q, %d) = %q, %q, %d", all[:long], n, first, rest, e)
			}
		}
	}
	if first, rest, e := octet.Cut(nil, 0); len(first) != 0 || len(rest) != 0 || e != api.OK {
		t.Errorf("Cut(nil, 0) = %q, %q, %d", first, rest, e)
	}
}

// P1.1, A2: n negative, and more than there are bytes.
func TestCutErrors(t *testing.T) {
	for _, x := range []struct {
		have, n int
		e       api.Errno
	}{
		{0, -1, api.ErrArg}, {3, -1, api.ErrArg}, {3, -3, api.ErrArg}, {3, math.MinInt, api.ErrArg},
		{0, 1, api.ErrShort}, {3, 4, api.ErrShort}, {3, 5, api.ErrShort}, {3, math.MaxInt, api.ErrShort},
	} {
		b, _ := roomy(bytes.Repeat([]byte{9}, x.have))
		if first, rest, e := octet.Cut(b, x.n); first != nil || rest != nil || e != x.e {
			t.Errorf("Cut of %d bytes, %d = %x, %x, %d; want %d", x.have, x.n, first, rest, e, x.e)
		}
	}
}

// P1.1, A3: what Row returns.
func TestRowWrites(t *testing.T) {
	for _, x := range []struct {
		l    []uint32
		many int
		want string
	}{
		{nil, 1, ""}, {nil, 4, ""}, {[]uint32{}, 2, ""},
		{[]uint32{7}, 1, "\x07"},
		{[]uint32{1, 2, 3}, 1, "\x01\x02\x03"},
		{[]uint32{1, 256, 65535}, 2, "\x00\x01\x01\x00\xff\xff"},
		{[]uint32{1<<24 - 1, 0}, 3, "\xff\xff\xff\x00\x00\x00"},
		{[]uint32{0x01020304, 1<<32 - 1}, 4, "\x01\x02\x03\x04\xff\xff\xff\xff"},
	} {
		if got, e := octet.Row(x.l, x.many); string(got) != x.want || e != api.OK {
			t.Errorf("Row(%d, %d) = %q, %d; want %q", x.l, x.many, got, e, x.want)
		}
	}
}

// P1.1, A3: a number that does not fit, wherever it stands in the list.
func TestRowLarge(t *testing.T) {
	for many := 1; many <= 3; many++ {
		least := uint32(1) << (8 * many)
		if got, e := octet.Row([]uint32{least - 1, least - 1}, many); len(got) != 2*many || e != api.OK {
			t.Errorf("Row of %d, %d = %x, %d", least-1, many, got, e)
		}
		for _, large := range []uint32{least, least + 1, 1<<32 - 1} {
			for at := range 4 {
				l := []uint32{1, 2, 3, 4}
				l[at] = large
				if got, e := octet.Row(l, many); got != nil || e != api.ErrLarge {
					t.Errorf("Row(%d, %d) = %x, %d", l, many, got, e)
				}
			}
		}
	}
}

// P1.1, A3: what Rows returns.
func TestRowsReads(t *testing.T) {
	for _, x := range []struct {
		b    string
		many int
		want []uint32
	}{
		{"", 1, nil}, {"", 2, nil}, {"", 3, nil}, {"", 4, nil},
		{"\x01\x02\x03\x04", 1, []uint32{1, 2, 3, 4}},
		{"\x01\x02\x03\x04", 2, []uint32{0x0102, 0x0304}},
		{"\x01\x02\x03\x04\x05\x06", 3, []uint32{0x010203, 0x040506}},
		{"\x01\x02\x03\x04\xff\xff\xff\xff", 4, []uint32{0x01020304, 1<<32 - 1}},
		{"\x00\x00\x00\x00", 4, []uint32{0}},
	} {
		if got, e := octet.Rows([]byte(x.b), x.many); !slices.Equal(got, x.want) || e != api.OK {
			t.Errorf("Rows(%q, %d) = %d, %d; want %d", x.b, x.many, got, e, x.want)
		}
	}
}

// P1.1, A3: a last number that is incomplete, even if the memory goes on behind it.
func TestRowsShort(t *testing.T) {
	for many := 1; many <= 4; many++ {
		for have := 0; have <= 9; have++ {
			b, _ := roomy(bytes.Repeat([]byte{1}, have))
			l, e := octet.Rows(b, many)
			if have%many == 0 {
				if len(l) != have/many || e != api.OK {
					t.Errorf("Rows of %d bytes, %d = %d, %d", have, many, l, e)
				}
			} else if l != nil || e != api.ErrShort {
				t.Errorf("Rows of %d bytes, %d = %d, %d; want ErrShort", have, many, l, e)
			}
		}
	}
}

// P1.1 (R4): neither the arguments nor the memory beyond their length change.
func TestArgumentsStay(t *testing.T) {
	b, whole := roomy([]byte{1, 2, 3, 4})
	before := slices.Clone(whole)
	for many := -1; many <= 5; many++ {
		octet.Put(b, 1, many)
		octet.Put(b, 1<<32-1, many)
		octet.Put(b[:0], 1, many)
		octet.Take(b, many)
		octet.Take(b[:1], many)
		octet.Cut(b, many)
		octet.Rows(b, many)
		octet.Rows(b[:3], many)
		if !bytes.Equal(whole, before) {
			t.Fatalf("many %d: the bytes are now %x", many, whole)
		}
	}
	numbers := []uint32{1, 300, 1<<32 - 1, 8, 9}
	for many := -1; many <= 5; many++ {
		octet.Row(numbers[:1], many)
		octet.Row(numbers[:3], many)
		if !slices.Equal(numbers, []uint32{1, 300, 1<<32 - 1, 8, 9}) {
			t.Fatalf("many %d: the numbers are now %d", many, numbers)
		}
	}
}

// P1.1: writing to a result, up to its capacity, does not reach the argument.
func TestResultsAreApart(t *testing.T) {
	b, whole := roomy([]byte{1, 2, 3, 4})
	before := slices.Clone(whole)
	put, _ := octet.Put(b, 7, 4)
	scrawl(put)
	_, rest, _ := octet.Take(b, 2)
	scrawl(rest)
	_, none, _ := octet.Take(b, 4)
	scrawl(none)
	for n := 0; n <= len(b); n++ {
		first, rest, _ := octet.Cut(b, n)
		scrawl(first)
		if !bytes.Equal(rest, b[n:]) {
			t.Errorf("Cut at %d: the first part reaches into the second", n)
		}
		first, rest, _ = octet.Cut(b, n)
		scrawl(rest)
		if !bytes.Equal(first, b[:n]) {
			t.Errorf("Cut at %d: the second part reaches into the first", n)
		}
		scrawl(first)
	}
	if !bytes.Equal(whole, before) {
		t.Errorf("the argument is now %x", whole)
	}
}

// P1.1: writing to an argument afterwards does not reach a result.
func TestArgumentsAreApart(t *testing.T) {
	b, whole := roomy([]byte{1, 2, 3, 4})
	put, _ := octet.Put(b, 7, 1)
	_, rest, _ := octet.Take(b, 1)
	first, second, _ := octet.Cut(b, 2)
	l, _ := octet.Rows(b, 2)
	scrawl(whole)
	if string(put) != "\x01\x02\x03\x04\x07" {
		t.Errorf("Put: %x", put)
	}
	if string(rest) != "\x02\x03\x04" {
		t.Errorf("Take: %x", rest)
	}
	if string(first) != "\x01\x02" || string(second) != "\x03\x04" {
		t.Errorf("Cut: %x, %x", first, second)
	}
	if !slices.Equal(l, []uint32{0x0102, 0x0304}) {
		t.Errorf("Rows: %x", l)
	}
}

// P1.1: two calls with the same argument return memory of their own.
func TestTwoResultsAreApart(t *testing.T) {
	b, _ := roomy([]byte{1, 2})
	one, _ := octet.Put(b, 3, 1)
	octet.Put(b, 4, 1)
	if string(one) != "\x01\x02\x03" {
		t.Errorf("the first result is now %x", one)
	}
	again, _ := octet.Put(one, 5, 1)
	octet.Put(one, 6, 1)
	if string(again) != "\x01\x02\x03\x05" {
		t.Errorf("the third result is now %x", again)
	}
}

// P1.2: what was put is taken again, with the bytes that followed it.
func TestPutThenTake(t *testing.T) {
	for _, n := range edges {
		for many := widthOf(n); many <= 4; many++ {
			for _, tail := range []string{"", "\x00", "xyz", "\xff\xff\xff\xff\xff"} {
				b, e := octet.Put(nil, n, many)
				if e != api.OK {
					t.Fatalf("Put(%d, %d): %d", n, many, e)
				}
				got, rest, e := octet.Take(append(b, tail...), many)
				if got != n || string(rest) != tail || e != api.OK {
					t.Errorf("%d in %d bytes and %q came back as %d, %q, %d", n, many, tail, got, rest, e)
				}
			}
		}
	}
}

// P1.2: numbers of several widths put behind bytes come back in their order.
func TestPutsThenTakes(t *testing.T) {
	var b []byte
	for i, n := range edges {
		var e api.Errno
		if b, e = octet.Put(b, n, widthOf(n)); e != api.OK {
			t.Fatalf("Put %d: %d", i, e)
		}
	}
	for i, want := range edges {
		n, rest, e := octet.Take(b, widthOf(want))
		if n != want || e != api.OK {
			t.Fatalf("Take %d = %d, %d; want %d", i, n, e, want)
		}
		b = rest
	}
	if len(b) != 0 {
		t.Errorf("left over: %x", b)
	}
}

// P1.2: Cut finds the bytes before a number, and Take the number behind them.
func TestPutThenCut(t *testing.T) {
	for _, before := range []string{"", "a", "abc\x00"} {
		b, _ := octet.Put([]byte(before), 0x010203, 3)
		first, rest, e := octet.Cut(b, len(before))
		if string(first) != before || e != api.OK {
			t.Errorf("Cut(%q) = %q, %d", b, first, e)
		}
		if n, rest, e := octet.Take(rest, 3); n != 0x010203 || len(rest) != 0 || e != api.OK {
			t.Errorf("Take = %d, %q, %d", n, rest, e)
		}
	}
}

// P1.2: what Row wrote Rows reads, and the same bytes come of Put one by one.
func TestRowThenRows(t *testing.T) {
	for many := 1; many <= 4; many++ {
		var l []uint32
		var want []byte
		for _, n := range edges {
			if widthOf(n) > many {
				continue
			}
			l = append(l, n)
			want, _ = octet.Put(want, n, many)
			b, e := octet.Row(l, many)
			if !bytes.Equal(b, want) || e != api.OK {
				t.Fatalf("Row(%d, %d) = %x, %d; want %x", l, many, b, e, want)
			}
			if got, e := octet.Rows(b, many); !slices.Equal(got, l) || e != api.OK {
				t.Errorf("Rows(%x, %d) = %d, %d; want %d", b, many, got, e, l)
			}
		}
	}
}

// P1.2: what Rows read Row writes again, whatever the bytes are.
func TestRowsThenRow(t *testing.T) {
	b := make([]byte, 0, 768)
	for i := range 768 {
		b = append(b, byte(i*i+7*i))
	}
	for many := 1; many <= 4; many++ {
		l, e := octet.Rows(b, many)
		if e != api.OK || len(l) != len(b)/many {
			t.Fatalf("Rows of %d bytes, %d: %d numbers, %d", len(b), many, len(l), e)
		}
		if got, e := octet.Row(l, many); !bytes.Equal(got, b) || e != api.OK {
			t.Errorf("many %d: Row after Rows differs, %d", many, e)
		}
	}
}

// P1.1: long inputs are read and written in one go.
func TestLong(t *testing.T) {
	l := make([]uint32, 1<<20)
	for i := range l {
		l[i] = uint32(i) * 2654435761
	}
	b, e := octet.Row(l, 4)
	if len(b) != 4<<20 || e != api.OK {
		t.Fatalf("Row: %d bytes, %d", len(b), e)
	}
	if got, e := octet.Rows(b, 4); !slices.Equal(got, l) || e != api.OK {
		t.Errorf("Rows: %d numbers, %d", len(got), e)
	}
}
