package addr_test

import (
	"fmt"
	"math"
	"strings"
	"testing"

	"crossroads/addr"
	"crossroads/api"
)

// addresses have a bit that is 1 at either end, in all places, in none, and in many places without a short period.
func addresses() []uint32 {
	out := []uint32{0, 1, 2, 1 << 31, 1 << 30, 3 << 30, 1<<31 - 1, 1<<32 - 1, 1<<32 - 2, 1<<31 + 1, 0x0a000000, 0x0a010000, 0x0a010203, 0xaaaaaaaa, 0x55555555, 0xffff0000, 0x0000ffff}
	seed := uint32(3)
	for range 12 {
		seed = seed*1664525 + 1013904223
		out = append(out, seed^seed>>16)
	}
	return out
}

// wrongLengths are numbers of bits that no prefix has, some of them with 32 or less in their lowest bits.
var wrongLengths = []int{-1, -2, -31, -32, -33, 33, 34, 64, 255, 256, 264, 1 << 32, 1<<32 + 8, -1 << 32, math.MaxInt32, math.MinInt32, math.MaxInt, math.MinInt}

// binary writes an address bit by bit, bit 0 first: what the tests expect is worked out on these texts.
func binary(a uint32) string {
	var out [32]byte
	for i := 31; i >= 0; i-- {
		out[i] = byte('0' + a%2)
		a /= 2
	}
	return string(out[:])
}

// cleared returns a with all bits from bit n on 0.
func cleared(a uint32, n int) uint32 {
	for i := n; i < 32; i++ {
		a &^= 1 << (31 - i)
	}
	return a
}

// prefixes are valid ones of every length.
func prefixes() []api.Prefix {
	var out []api.Prefix
	seen := map[api.Prefix]bool{}
	for n := 0; n <= 32; n++ {
		for _, a := range addresses() {
			p := api.Prefix{A: cleared(a, n), N: n}
			if !seen[p] {
				seen[p] = true
				out = append(out, p)
			}
		}
	}
	return out
}

// invalid are prefixes with a wrong length, and ones of every length with a bit that is 1 behind their first N bits: the next one, the last one, and others.
func invalid() []api.Prefix {
	var out []api.Prefix
	for _, n := range wrongLengths {
		out = append(out, api.Prefix{N: n}, api.Prefix{A: 0x0a000000, N: n}, api.Prefix{A: 1<<32 - 1, N: n})
	}
	for n := 0; n < 32; n++ {
		for _, a := range addresses() {
			out = append(out, api.Prefix{A: cleared(a, n) | 1<<(31-n), N: n}, api.Prefix{A: cleared(a, n) | 1, N: n})
		}
	}
	return out
}

func wantMay(p api.Prefix) bool {
	return p.N >= 0 && p.N <= 32 && !strings.Contains(binary(p.A)[p.N:], "1")
}

func wantHas(p api.Prefix, a uint32) bool {
	return wantMay(p) && strings.HasPrefix(binary(a), binary(p.A)[:p.N])
}

func wantCovers(p, q api.Prefix) bool {
	return wantMay(p) && wantMay(q) && strings.HasPrefix(binary(q.A)[:q.N], binary(p.A)[:p.N])
}

// wantCommon is for valid prefixes only.
func wantCommon(p, q api.Prefix) api.Prefix {
	x, y := binary(p.A)[:p.N], binary(q.A)[:q.N]
	n := 0
	for n < len(x) && n < len(y) && x[n] == y[n] {
		n++
	}
	return api.Prefix{A: cleared(p.A, n), N: n}
}

// P3.1, C1: which prefixes are valid.
func TestMay(t *testing.T) {
	for _, c := range []struct {
		p    api.Prefix
		want bool
	}{
		{api.Prefix{}, true},
		{api.Prefix{A: 1, N: 0}, false},
		{api.Prefix{A: 1 << 31, N: 0}, false},
		{api.Prefix{A: 1 << 31, N: 1}, true},
		{api.Prefix{A: 3 << 30, N: 1}, false},
		{api.Prefix{A: 1<<32 - 2, N: 31}, true},
		{api.Prefix{A: 1<<32 - 1, N: 31}, false},
		{api.Prefix{A: 1<<32 - 1, N: 32}, true},
		{api.Prefix{A: 0, N: 32}, true},
		{api.Prefix{A: 0, N: 33}, false},
		{api.Prefix{A: 1<<32 - 1, N: 33}, false},
		{api.Prefix{A: 0, N: -1}, false},
	} {
		if got := addr.May(c.p); got != c.want {
			t.Errorf("May(%v) = %v", c.p, got)
		}
	}
	for _, p := range prefixes() {
		if !addr.May(p) {
			t.Errorf("May(%v) is false", p)
		}
	}
	for _, p := range invalid() {
		if addr.May(p) {
			t.Errorf("May(%v) is true", p)
		}
	}
}

// P3.1, C1: Of clears exactly the bits behind the first n.
func TestOf(t *testing.T) {
	for _, a := range addresses() {
		for n := 0; n <= 32; n++ {
			want := api.Prefix{A: cleared(a, n), N: n}
			if p, e := addr.Of(a, n); p != want || e != api.OK {
				t.Errorf("Of(%x, %d) = %v, %d", a, n, p, e)
			}
		}
		for _, n := range wrongLengths {
			if p, e := addr.Of(a, n); p != (api.Prefix{}) || e != api.ErrArg {
				t.Errorf("Of(%x, %d) = %v, %d", a, n, p, e)
			}
		}
	}
}

// P3.1, C1: which addresses a prefix contains: also those that differ from its own in a single bit.
func TestHas(t *testing.T) {
	for _, p := range prefixes() {
		for i := 0; i < 32; i++ {
			a := p.A ^ 1<<(31-i)
			if got := addr.Has(p, a); got != (i >= p.N) {
				t.Errorf("Has(%v, %x) = %v", p, a, got)
			}
		}
		if !addr.Has(p, p.A) {
			t.Errorf("%v does not contain its own address", p)
		}
		for _, a := range addresses() {
			if got := addr.Has(p, a); got != wantHas(p, a) {
				t.Errorf("Has(%v, %x) = %v", p, a, got)
			}
		}
	}
	for _, p := range invalid() {
		for _, a := range append(addresses(), p.A) {
			if addr.Has(p, a) {
				t.Errorf("Has(%v, %x) is true", p, a)
			}
		}
	}
}

// P3.1, C1: Covers and Common of all pairs of valid prefixes, a prefix with itself among them.
func TestPairs(t *testing.T) {
	all := prefixes()
	for _, p := range all {
		for _, q := range all {
			if got := addr.Covers(p, q); got != wantCovers(p, q) {
				t.Fatalf("Covers(%v, %v) = %v", p, q, got)
			}
			if got := addr.Common(p, q); got != wantCommon(p, q) {
				t.Fatalf("Common(%v, %v) = %v", p, q, got)
			}
		}
	}
}

// P3.1, C1: the one prefix of a pair or both of them are not valid.
func TestInvalidPairs(t *testing.T) {
	valid := []api.Prefix{{}, {A: 1 << 31, N: 1}, {A: 10 << 24, N: 8}, {A: 1<<32 - 2, N: 31}, {A: 1<<32 - 1, N: 32}, {A: 0, N: 32}}
	check := func(p, q api.Prefix) {
		if addr.Covers(p, q) {
			t.Errorf("Covers(%v, %v) is true", p, q)
		}
		if c := addr.Common(p, q); c != (api.Prefix{}) {
			t.Errorf("Common(%v, %v) = %v", p, q, c)
		}
	}
	for _, p := range invalid() {
		check(p, p)
		for _, q := range valid {
			check(p, q)
			check(q, p)
		}
		if p.N >= 0 && p.N <= 32 {
			q := api.Prefix{A: cleared(p.A, p.N), N: p.N}
			check(p, q)
			check(q, p)
		}
	}
}

func TestCommon(t *testing.T) {
	ten := uint32(10 << 24)
	for _, c := range []struct{ p, q, want api.Prefix }{
		{api.Prefix{A: ten | 1<<16, N: 16}, api.Prefix{A: ten | 2<<16, N: 16}, api.Prefix{A: ten, N: 14}},
		{api.Prefix{A: ten, N: 8}, api.Prefix{A: ten, N: 16}, api.Prefix{A: ten, N: 8}},
		{api.Prefix{A: ten, N: 32}, api.Prefix{A: ten, N: 32}, api.Prefix{A: ten, N: 32}},
		{api.Prefix{A: ten, N: 32}, api.Prefix{A: ten | 1, N: 32}, api.Prefix{A: ten, N: 31}},
		{api.Prefix{A: 0, N: 1}, api.Prefix{A: 1 << 31, N: 1}, api.Prefix{}},
		{api.Prefix{A: 3 << 30, N: 2}, api.Prefix{A: 1 << 31, N: 2}, api.Prefix{A: 1 << 31, N: 1}},
		{api.Prefix{}, api.Prefix{A: ten, N: 8}, api.Prefix{}},
		{api.Prefix{A: 0, N: 8}, api.Prefix{A: 0, N: 5}, api.Prefix{A: 0, N: 5}},
	} {
		if got := addr.Common(c.p, c.q); got != c.want {
			t.Errorf("Common(%v, %v) = %v", c.p, c.q, got)
		}
		if got := addr.Common(c.q, c.p); got != c.want {
			t.Errorf("Common(%v, %v) = %v", c.q, c.p, got)
		}
	}
}

// P3.1, C1: bit 0 is the highest one; there are none before it and none behind bit 31.
func TestBit(t *testing.T) {
	for _, a := range addresses() {
		for i, x := range []byte(binary(a)) {
			if got := addr.Bit(a, i); got != int(x-'0') {
				t.Errorf("Bit(%x, %d) = %d", a, i, got)
			}
		}
		for _, i := range append([]int{32}, wrongLengths...) {
			if got := addr.Bit(a, i); got != 0 {
				t.Errorf("Bit(%x, %d) = %d", a, i, got)
			}
		}
	}
}

// P3.1, C1: the order is that of the numbers, whether the prefixes are valid or not.
func TestLess(t *testing.T) {
	inOrder := []api.Prefix{
		{A: 0, N: math.MinInt}, {A: 0, N: -1}, {A: 0, N: 0}, {A: 0, N: 1}, {A: 0, N: 32}, {A: 0, N: 33}, {A: 0, N: math.MaxInt},
		{A: 1, N: -5}, {A: 1, N: 0}, {A: 1, N: 32},
		{A: 10 << 24, N: 8}, {A: 10 << 24, N: 9}, {A: 10<<24 | 1<<16, N: 7}, {A: 10<<24 | 1<<16, N: 16},
		{A: 1<<31 - 1, N: 32}, {A: 1 << 31, N: 0}, {A: 1 << 31, N: 1}, {A: 1<<32 - 1, N: math.MinInt}, {A: 1<<32 - 1, N: 32},
	}
	for i, p := range inOrder {
		for j, q := range inOrder {
			if got := addr.Less(p, q); got != (i < j) {
				t.Errorf("Less(%v, %v) = %v", p, q, got)
			}
		}
	}
}

// P3.1, C2: masks of every length, and what Mask returns for numbers that are none.
func TestMask(t *testing.T) {
	for n := 0; n <= 32; n++ {
		want := strings.Repeat("1", n) + strings.Repeat("0", 32-n)
		if got := addr.Mask(n); binary(got) != want {
			t.Errorf("Mask(%d) = %x", n, got)
		}
	}
	for _, n := range wrongLengths {
		want := uint32(1<<32 - 1)
		if n < 0 {
			want = 0
		}
		if got := addr.Mask(n); got != want {
			t.Errorf("Mask(%d) = %x", n, got)
		}
	}
}

// checkLong holds Long against the places of the bits.
func checkLong(t *testing.T, mask uint32) {
	t.Helper()
	wantN, wantE := strings.Count(binary(mask), "1"), api.OK
	if strings.Contains(binary(mask), "01") {
		wantN, wantE = 0, api.ErrForm
	}
	if n, e := addr.Long(mask); n != wantN || e != wantE {
		t.Errorf("Long(%x) = %d, %d", mask, n, e)
	}
}

// P3.1, C2: masks of every length, those in which one bit or two bits are changed, and other numbers.
func TestLong(t *testing.T) {
	for n := 0; n <= 32; n++ {
		mask := uint32((1<<n - 1) << (32 - n))
		if got, e := addr.Long(mask); got != n || e != api.OK {
			t.Errorf("Long(%x) = %d, %d", mask, got, e)
		}
		for i := 0; i < 32; i++ {
			for j := 0; j < 32; j++ {
				checkLong(t, mask^1<<i)
				checkLong(t, mask^1<<i^1<<j)
			}
		}
	}
	for _, a := range addresses() {
		checkLong(t, a)
	}
	for _, mask := range []uint32{1, 0xff00ff00, 0x7fffffff, 0x0000ffff, 0xfffffffd, 0xbfffffff} {
		if n, e := addr.Long(mask); n != 0 || e != api.ErrForm {
			t.Errorf("Long(%x) = %d, %d", mask, n, e)
		}
	}
}

// P3.1, C3: the text, also of prefixes that are not valid.
func TestText(t *testing.T) {
	for _, c := range []struct {
		p    api.Prefix
		want string
	}{
		{api.Prefix{}, "0.0.0.0/0"},
		{api.Prefix{A: 10 << 24, N: 8}, "10.0.0.0/8"},
		{api.Prefix{A: 1<<32 - 1, N: 32}, "255.255.255.255/32"},
		{api.Prefix{A: 0x01020304, N: 31}, "1.2.3.4/31"},
		{api.Prefix{A: 1 << 31, N: 1}, "128.0.0.0/1"},
		{api.Prefix{A: 0x0063640a, N: 33}, "0.99.100.10/33"},
		{api.Prefix{A: 0xc0a80001, N: -1}, "192.168.0.1/-1"},
		{api.Prefix{A: 1, N: math.MaxInt}, "0.0.0.1/9223372036854775807"},
		{api.Prefix{A: 1, N: math.MinInt}, "0.0.0.1/-9223372036854775808"},
	} {
		if got := addr.Text(c.p); got != c.want {
			t.Errorf("Text(%v) = %q", c.p, got)
		}
	}
	for _, p := range append(prefixes(), invalid()...) {
		want := fmt.Sprintf("%d.%d.%d.%d/%d", p.A>>24, p.A>>16%256, p.A>>8%256, p.A%256, p.N)
		if got := addr.Text(p); got != want {
			t.Errorf("Text(%v) = %q", p, got)
		}
	}
}

// P3.1, C3: each valid prefix is parsed from its text; the text of another one is refused for the right reason.
func TestParseOfText(t *testing.T) {
	for _, p := range prefixes() {
		if got, e := addr.Parse(addr.Text(p)); got != p || e != api.OK {
			t.Errorf("Parse(%q) = %v, %d", addr.Text(p), got, e)
		}
	}
	for _, p := range invalid() {
		want := api.ErrForm
		if p.N >= 0 && p.N <= 32 {
			want = api.ErrArg
		}
		if got, e := addr.Parse(addr.Text(p)); got != (api.Prefix{}) || e != want {
			t.Errorf("Parse(%q) = %v, %d", addr.Text(p), got, e)
		}
	}
}

// P3.1, C3: every number that a place may have, and the next ones, in each of the five places.
func TestParseNumbers(t *testing.T) {
	for place := range 4 {
		for n := range 1200 {
			numbers := []int{1, 2, 3, 4}
			numbers[place] = n
			s := fmt.Sprintf("%d.%d.%d.%d/32", numbers[0], numbers[1], numbers[2], numbers[3])
			want, wantE := api.Prefix{N: 32}, api.OK
			for _, x := range numbers {
				want.A = want.A*256 + uint32(x)
			}
			if n > 255 {
				want, wantE = api.Prefix{}, api.ErrForm
			}
			if p, e := addr.Parse(s); p != want || e != wantE {
				t.Errorf("Parse(%q) = %v, %d", s, p, e)
			}
		}
	}
	for n := range 1200 {
		s := fmt.Sprintf("0.0.0.0/%d", n)
		want, wantE := api.Prefix{N: n}, api.OK
		if n > 32 {
			want, wantE = api.Prefix{}, api.ErrForm
		}
		if p, e := addr.Parse(s); p != want || e != wantE {
			t.Errorf("Parse(%q) = %v, %d", s, p, e)
		}
	}
}

// refuse holds that Parse returns e for s, and nothing beside it.
func refuse(t *testing.T, s string, want api.Errno) {
	t.Helper()
	if p, e := addr.Parse(s); p != (api.Prefix{}) || e != want {
		t.Errorf("Parse(%q) = %v, %d", s, p, e)
	}
}

// P3.1, C3: texts that are cut off at either end, or too long.
func TestParseLength(t *testing.T) {
	whole := "10.20.30.40/32"
	for i := 0; i < len(whole); i++ {
		want := api.ErrForm
		if whole[:i] == "10.20.30.40/3" {
			want = api.ErrArg
		}
		refuse(t, whole[:i], want)
	}
	for i := 2; i <= len(whole); i++ {
		refuse(t, whole[i:], api.ErrForm)
	}
	for _, tail := range []string{"0", "/", "/32", ".", ".0", " ", "\n", "\x00", "a", whole, " " + whole, "," + whole} {
		refuse(t, whole+tail, api.ErrForm)
	}
	for _, s := range []string{
		"", ".", "/", "...", ".../", "..../", "0.0.0/0", "0.0.0.0.0/0", "0.0.0.0/0.0", "0.0.0.0/0/0", "0/0", "0.0.0.0", "0.0.0.0/", "/0",
		".0.0.0/0", "0..0.0/0", "0.0..0/0", "0.0.0./0", "0.0.0.0./0", ".0.0.0.0/0", "0.0.0.0//0", "0.0.0.0.0", "0.0.0.0\\0", "0,0,0,0/0", "0:0:0:0/0", "0/0/0/0/0", "0.0/0.0/0", "0.0.0/0.0",
		strings.Repeat("1.", 100000) + "1/32", strings.Repeat(".", 100000), "1.2.3.4/" + strings.Repeat("/", 100000),
	} {
		refuse(t, s, api.ErrForm)
	}
}

// P3.1, C3: things that are no number of the right form, in each of the five places.
func TestParseForm(t *testing.T) {
	wrong := []string{
		"", "00", "01", "000", "001", "010", "0000", "00000000000000000000000000001", "0255",
		"+1", "-1", "+0", "-0", "--1", "1-", "1+",
		" 1", "1 ", " ", "1 1", "\t1", "1\n", "1\r", "\u00a01", "\v1", "1\x00",
		"a", "A", "x", "1a", "a1", "0x1", "0b1", "0o1", "1e1", "1_0", "1_", "_1", "1'", "1,0", "1:", "1;", "!", "1%",
		"\u0661", "1\u0661", "\uff11", "\uff111", "\u00b2", "1\u00b2", "\u0967", "\U0001d7cf", "\u2460", "\u4e00", "1\u0301", "\ufeff1", "1\u200b", "\ufffd", "\u2215", "\uff0e",
		"\xff", "1\xff", "\xff1", "\x80", "1\xc3", "\xb1", "\xf0\x9f", "\xed\xa0\x80", "\xc0\xb1", "\xe2\x28\xa1",
		"/", ":", "/1", ":1", "1/", "1:",
		"256", "257", "300", "512", "999", "1000", "2560", "65536", "2147483648", "4294967296", "4294967297", "4294967298",
		"9223372036854775807", "9223372036854775808", "18446744073709551615", "18446744073709551616", "18446744073709551617", "99999999999999999999999999999999999", strings.Repeat("9", 5000), "1" + strings.Repeat("0", 5000),
	}
	for place := range 5 {
		for _, w := range wrong {
			numbers := []string{"1", "2", "3", "4", "32"}
			numbers[place] = w
			refuse(t, strings.Join(numbers[:4], ".")+"/"+numbers[4], api.ErrForm)
		}
	}
	for x := range 256 {
		if x >= '0' && x <= '9' {
			continue
		}
		refuse(t, "1.2.3."+string([]byte{byte(x)})+"/32", api.ErrForm)
		refuse(t, "1.2.3.4/"+string([]byte{byte(x)}), api.ErrForm)
		refuse(t, "1.2.3.4/3"+string([]byte{byte(x)}), api.ErrForm)
	}
	for _, n := range []string{"33", "34", "40", "64", "99", "100", "128", "255", "032", "08"} {
		refuse(t, "0.0.0.0/"+n, api.ErrForm)
	}
}

// P3.1, C3 (and R2): the form comes first, then whether the prefix is valid.
func TestParseOrder(t *testing.T) {
	for _, s := range []string{"10.0.0.1/8", "10.1.0.0/8", "0.0.0.1/0", "128.0.0.0/0", "192.0.0.0/1", "64.0.0.0/1", "255.255.255.255/31", "1.2.3.4/29", "255.255.255.255/0"} {
		refuse(t, s, api.ErrArg)
	}
	for _, s := range []string{"10.0.0.1/08", "10.0.0.1/8 ", "10.0.0.01/8", "10.0.0.256/8", "10.0.0.1/33", "10.0.0.1/-8", "10.0.0.1/"} {
		refuse(t, s, api.ErrForm)
	}
}

// P3.2: two valid prefixes of every pair of lengths, near each other and far, contain no common address, or one of them covers the other one.
func TestNesting(t *testing.T) {
	all := prefixes()
	pairs := map[[2]int]int{}
	for _, p := range all {
		for _, q := range all {
			// If they have a common address, the first one of the longer prefix is one; it is looked for among others.
			common := false
			for _, a := range []uint32{p.A, q.A, p.A | ^cleared(1<<32-1, p.N), q.A | ^cleared(1<<32-1, q.N), p.A | q.A} {
				common = common || addr.Has(p, a) && addr.Has(q, a)
			}
			nested := addr.Covers(p, q) || addr.Covers(q, p)
			if common != nested {
				t.Fatalf("%v and %v: a common address: %v; one covers the other: %v", p, q, common, nested)
			}
			if nested {
				pairs[[2]int{p.N, q.N}] |= 1
			} else {
				pairs[[2]int{p.N, q.N}] |= 2
			}
		}
	}
	for n := 0; n <= 32; n++ {
		for m := 0; m <= 32; m++ {
			want := 3
			if n == 0 || m == 0 {
				want = 1 // all addresses are in the prefix of 0 bits
			}
			if pairs[[2]int{n, m}] != want {
				t.Errorf("the prefixes of %d and %d bits are not of both kinds: %d", n, m, pairs[[2]int{n, m}])
			}
		}
	}
}

// P3.2: all prefixes of a block of 16 addresses at either end of the addresses and in between, each address of the block asked.
func TestNestingInBlock(t *testing.T) {
	for _, start := range []uint32{0, 10 << 24, 1<<31 - 16, 1 << 31, 1<<32 - 16} {
		var block []api.Prefix
		for n := 28; n <= 32; n++ {
			for a := uint32(0); a < 16; a += 1 << (32 - n) {
				block = append(block, api.Prefix{A: start + a, N: n})
			}
		}
		for _, p := range block {
			for _, q := range block {
				both, onlyQ := 0, 0
				for a := range uint32(16) {
					if addr.Has(q, start+a) {
						onlyQ++
						if addr.Has(p, start+a) {
							both++
						}
					}
				}
				if addr.Covers(p, q) != (both == onlyQ) {
					t.Errorf("Covers(%v, %v) = %v, with %d of %d addresses", p, q, addr.Covers(p, q), both, onlyQ)
				}
				if both > 0 && !addr.Covers(p, q) && !addr.Covers(q, p) {
					t.Errorf("%v and %v are not nested", p, q)
				}
			}
		}
	}
}

// The chapter's example.
func TestExample(t *testing.T) {
	p, e := addr.Parse("10.0.0.0/8")
	q, f := addr.Parse("10.1.0.0/16")
	if e != api.OK || f != api.OK || !addr.Covers(p, q) || addr.Covers(q, p) {
		t.Errorf("10.0.0.0/8 and 10.1.0.0/16: %v %d, %v %d", p, e, q, f)
	}
	if addr.May(api.Prefix{A: 10<<24 | 1<<16, N: 8}) {
		t.Error("10.1.0.0/8 is valid")
	}
	refuse(t, "10.1.0.0/8", api.ErrArg)
}
