package store_test

import (
	"bytes"
	"math"
	"slices"
	"testing"

	"crossroads/api"
	"crossroads/body"
	"crossroads/lsa"
	"crossroads/store"
)

// numbers are 32-bit numbers that differ in each of their bytes, or lie at a bound, in order.
var numbers = []uint32{0, 1, 255, 256, 65535, 65536, 0x01020304, 0x7fffffff, 0x80000000, 0x80000001, 0xfffefdfc, math.MaxUint32}

// far are numbers that are no Max, most of them with a valid one in their lowest 8, 16 or 32 bits.
var far = []int{math.MinInt, math.MinInt + 1, math.MinInt + 20, -1 << 32, 1 - 1<<32, 20 - 1<<32, -65536, -65535, 20 - 65536, -2000, -256, -255, -20, -2, -1, 0, 2001, 2002, 4000, 65536, 65537, 65536 + 20, 1 << 20, 1 << 31, 1<<32 - 1, 1 << 32, 1<<32 + 1, 1<<32 + 2000, math.MaxInt - 1, math.MaxInt}

// types are the Types of a valid advertisement.
var types = []int{1, 2, 3, 4, 5, 7}

// drawer returns a source of numbers from 0 to below-1 that is the same for the same seed.
func drawer(seed uint64) func(below int) int {
	return func(below int) int {
		seed = seed*6364136223846793005 + 1442695040888963407
		return int(seed>>33) % below
	}
}

func four(n uint32) []byte {
	return []byte{byte(n >> 24), byte(n >> 16), byte(n >> 8), byte(n)}
}

// bodyOf returns a valid body of this Type, by the words of layer 12; those with different n differ.
func bodyOf(kind int, n uint32) []byte {
	mask := []byte{255, 128, 0, 0}
	switch kind {
	case 1:
		return slices.Concat([]byte{1, 0, 0, 1}, four(n), four(n+1), []byte{3, 0, 1, 2})
	case 2:
		return slices.Concat(mask, four(n), four(n+1), four(n+2))
	case 3, 4:
		return slices.Concat(mask, four(n%(1<<24)))
	}
	return slices.Concat(mask, []byte{128, 0, 0, 7}, four(n), four(n+1))
}

// seal returns a with the length and the checksum that make it intact.
func seal(a api.Ad) api.Ad {
	s, e := lsa.Seal(a)
	if e != api.OK {
		panic(a)
	}
	return s
}

// instance returns an advertisement that may be put, with the key k.
func instance(k api.Key, seq uint32, n uint32, age int) api.Ad {
	h := api.Header{Age: age, Options: 2, Type: k.Type, ID: k.ID, Adv: k.Adv, Seq: seq}
	return seal(api.Ad{H: h, B: bodyOf(k.Type, n)})
}

// ad returns an advertisement that may be put; the greater id, the later its key.
func ad(id uint32) api.Ad {
	return instance(api.Key{Type: 1, ID: id, Adv: 7}, 5, id, 10)
}

// adsOf returns advertisements with these ids.
func adsOf(ids ...uint32) []api.Ad {
	out := []api.Ad{}
	for _, id := range ids {
		out = append(out, ad(id))
	}
	return out
}

// upTo returns many advertisements in order, with the ids 10, 20 and so on.
func upTo(many int) []api.Ad {
	out := []api.Ad{}
	for i := range many {
		out = append(out, ad(uint32(i+1)*10))
	}
	return out
}

// storeOf returns a store with the advertisements of l and room for most.
func storeOf(most int, l ...api.Ad) store.Store {
	return store.Store{Max: most, L: l}
}

// spoilt returns valid advertisements with a right body that are not intact.
func spoilt(a api.Ad) []api.Ad {
	out := []api.Ad{}
	for _, change := range []func(a *api.Ad){
		func(a *api.Ad) { a.H.Seq ^= 1 << 9 },
		func(a *api.Ad) { a.H.Sum ^= 1 },
		func(a *api.Ad) { a.H.Sum ^= 1 << 15 },
		func(a *api.Ad) { a.H.Options++ },
		func(a *api.Ad) { a.H.Adv++ },
		func(a *api.Ad) { a.B[len(a.B)-1] ^= 4 },
		func(a *api.Ad) { a.H.Long++ },
		func(a *api.Ad) { a.H.Long-- },
		func(a *api.Ad) { a.H.Age = -1 },
		func(a *api.Ad) { a.H.Age = 3601 },
		func(a *api.Ad) { a.H.Sum += 1 << 16 },
		func(a *api.Ad) { a.H.Options += 256 },
		func(a *api.Ad) { a.H.Type += 256 },
	} {
		b := cloned(a)
		change(&b)
		out = append(out, b)
	}
	return out
}

// misformed returns intact advertisements with the key of a and a body that is not a valid one of its type.
func misformed(a api.Ad) []api.Ad {
	bodies := [][]byte{{}, {1}, a.B[:len(a.B)-1], slices.Concat(a.B, []byte{0}), bytes.Repeat([]byte{1}, len(a.B)), make([]byte, 1380)}
	// Some bodies of one type are valid ones of another.
	others := map[int][]int{1: {2, 3, 5}, 2: {1}, 3: {1, 2, 5}, 4: {1, 2, 7}, 5: {1, 3}, 7: {1, 4}}
	for _, kind := range others[a.H.Type] {
		bodies = append(bodies, bodyOf(kind, 5))
	}
	out := []api.Ad{}
	for _, b := range bodies {
		out = append(out, seal(api.Ad{H: a.H, B: b}))
	}
	return out
}

func cloned(a api.Ad) api.Ad {
	a.B = slices.Clone(a.B)
	return a
}

func clonedAll(l []api.Ad) []api.Ad {
	out := []api.Ad{}
	for _, a := range l {
		out = append(out, cloned(a))
	}
	return out
}

func clonedStore(s store.Store) store.Store {
	s.L = clonedAll(s.L)
	return s
}

func sameAd(a, b api.Ad) bool {
	return a.H == b.H && bytes.Equal(a.B, b.B)
}

// same tells whether two stores are equal; a list of nil and an empty one are.
func same(s, o store.Store) bool {
	return s.Max == o.Max && s.Over == o.Over && slices.EqualFunc(s.L, o.L, sameAd)
}

// told returns so much of s as can be told in a line.
func told(s store.Store) []any {
	heads := []api.Header{}
	for _, a := range s.L[:min(len(s.L), 8)] {
		heads = append(heads, a.H)
	}
	return []any{s.Max, s.Over, len(s.L), heads}
}

func key(a api.Ad) api.Key {
	return api.Key{Type: a.H.Type, ID: a.H.ID, Adv: a.H.Adv}
}

func keysOf(l []api.Ad) []api.Key {
	out := []api.Key{}
	for _, a := range l {
		out = append(out, key(a))
	}
	return out
}

// drawKey returns one of few keys, some of which differ in one of their parts only.
func drawKey(draw func(int) int) api.Key {
	return api.Key{Type: types[draw(len(types))], ID: numbers[draw(3)*4], Adv: numbers[3+draw(3)*4]}
}

func drawAd(draw func(int) int) api.Ad {
	ages := []int{0, 1, 899, 900, 901, 1799, 1800, 1801, 2700, 3598, 3599, 3600, draw(3601)}
	seqs := []uint32{0x80000001, 0x80000002, 0xffffffff, 0, 1, 0x7fffffff}
	return instance(drawKey(draw), seqs[draw(len(seqs))], uint32(draw(4)), ages[draw(len(ages))])
}

// The model: what a store is by the words of the chapter, with the advertisements in a map.

type model struct {
	most int
	all  map[api.Key]api.Ad
	over bool
}

// before orders keys by Type, then by ID, and then by Adv.
func before(a, b api.Key) bool {
	if a.Type != b.Type {
		return a.Type < b.Type
	}
	if a.ID != b.ID {
		return a.ID < b.ID
	}
	return a.Adv < b.Adv
}

// newer tells whether the header a is newer than b, by the words of layer 11.
func newer(a, b api.Header) bool {
	switch {
	case a.Seq != b.Seq:
		return int32(a.Seq) > int32(b.Seq)
	case a.Sum != b.Sum:
		return a.Sum > b.Sum
	case (a.Age == 3600) != (b.Age == 3600):
		return a.Age == 3600
	}
	return b.Age-a.Age > 900
}

// store returns the store that m is.
func (m *model) store() store.Store {
	out := store.Store{Max: m.most, Over: m.over}
	for _, a := range m.all {
		at := 0
		for at < len(out.L) && before(key(out.L[at]), key(a)) {
			at++
		}
		out.L = slices.Insert(out.L, at, a)
	}
	return out
}

func (m *model) put(a api.Ad) (int, api.Errno) {
	old, is := m.all[key(a)]
	switch {
	case !lsa.Whole(a):
		return 0, api.ErrSum
	case !body.Right(a):
		return 0, api.ErrForm
	case !is && len(m.all) == m.most:
		m.over = true
		return 0, api.ErrFull
	case !is:
		m.all[key(a)] = a
		return 3, api.OK
	case newer(a.H, old.H):
		m.all[key(a)] = a
		return 2, api.OK
	case newer(old.H, a.H):
		return 0, api.OK
	}
	return 1, api.OK
}

// tick ages all by by, and returns the keys of those that thereby became 3600, in order.
func (m *model) tick(by int) []api.Key {
	out := []api.Key{}
	for _, k := range keysOf(m.store().L) {
		a := m.all[k]
		was := a.H.Age
		for range min(by, 5000) {
			a.H.Age = min(a.H.Age+1, 3600)
		}
		if was < 3600 && a.H.Age == 3600 {
			out = append(out, k)
		}
		m.all[k] = a
	}
	return out
}

// N1: New.

func TestNew(t *testing.T) {
	for _, n := range []int{1, 2, 3, 20, 255, 256, 1999, 2000} {
		s, e := store.New(n)
		if e != api.OK || !same(s, store.Store{Max: n}) {
			t.Errorf("New(%d): %v, error %d", n, s, e)
		}
	}
	for _, n := range far {
		s, e := store.New(n)
		if e != api.ErrArg || !same(s, store.Store{}) {
			t.Errorf("New(%d): %v, error %d", n, s, e)
		}
	}
}

func TestConstants(t *testing.T) {
	if store.Older != 0 || store.Same != 1 || store.Newer != 2 || store.Fresh != 3 {
		t.Error(store.Older, store.Same, store.Newer, store.Fresh)
	}
}

// N1: May.

func may(t *testing.T, s store.Store, want bool) {
	t.Helper()
	if got := store.May(s); got != want {
		t.Errorf("May of %v: %v", told(s), got)
	}
}

func TestMay(t *testing.T) {
	for _, many := range []int{0, 1, 2, 3, 50, 1999, 2000} {
		l := upTo(many)
		for _, most := range []int{many, many + 1, 2 * many, 2000} {
			may(t, storeOf(most, l...), most >= 1 && most <= 2000)
			may(t, store.Store{Max: most, L: l, Over: true}, most >= 1 && most <= 2000)
		}
	}
	may(t, store.Store{}, false)
	for _, kind := range types {
		for _, age := range []int{0, 1, 1800, 3599, 3600} {
			may(t, storeOf(1, instance(api.Key{Type: kind}, 0, 9, age)), true)
		}
	}
}

func TestMayOfMax(t *testing.T) {
	for _, n := range far {
		may(t, storeOf(n), false)
		may(t, storeOf(n, ad(1)), false)
		may(t, store.Store{Max: n, Over: true}, false)
	}
}

func TestMayOfTooMany(t *testing.T) {
	for _, most := range []int{1, 2, 3, 50, 1999, 2000} {
		may(t, storeOf(most, upTo(most)...), true)
		may(t, storeOf(most, upTo(most+1)...), false)
		may(t, storeOf(most, upTo(most+2)...), false)
	}
}

// One that is wrong is found wherever it is.
func TestMayOfWrongAds(t *testing.T) {
	wrong := slices.Concat(spoilt(ad(10)), misformed(ad(10)))
	for _, kind := range types {
		a := instance(api.Key{Type: kind, ID: 10}, 4, 3, 0)
		wrong = slices.Concat(wrong, spoilt(a), misformed(a))
	}
	for _, bad := range wrong {
		may(t, storeOf(20, bad), false)
		for _, low := range []int{0, 1, 3} {
			for _, high := range []int{0, 1, 3} {
				l := []api.Ad{}
				for i := range low {
					l = append(l, instance(api.Key{Type: 1, ID: uint32(i)}, 4, 3, 0))
				}
				l = append(l, bad)
				for i := range high {
					l = append(l, instance(api.Key{Type: 7, ID: uint32(20 + i)}, 4, 3, 0))
				}
				may(t, storeOf(20, l...), false)
			}
		}
	}
}

// manyKeys returns keys, strictly ascending, whose neighbors differ in the last part only, or in an earlier one, the later ones then the other way round.
func manyKeys() []api.Key {
	out := []api.Key{}
	for _, kind := range types {
		for _, id := range []uint32{0, 1, 0x7fffffff, 0x80000000, math.MaxUint32} {
			for _, adv := range []uint32{0, 255, 256, 0x7fffffff, 0x80000000, math.MaxUint32} {
				out = append(out, api.Key{Type: kind, ID: id, Adv: adv})
			}
		}
	}
	return out
}

func TestMayOfOrder(t *testing.T) {
	keys := manyKeys()
	l := []api.Ad{}
	for _, k := range keys {
		l = append(l, instance(k, 5, 1, 0))
	}
	may(t, storeOf(2000, l...), true)
	for i := range l {
		for j := range l {
			may(t, storeOf(2, l[i], l[j]), i < j)
		}
		if i > 0 {
			swapped := slices.Clone(l)
			swapped[i-1], swapped[i] = swapped[i], swapped[i-1]
			may(t, storeOf(2000, swapped...), false)
		}
		may(t, storeOf(2000, slices.Insert(slices.Clone(l), i, l[i])...), false)
		may(t, storeOf(2000, slices.Delete(slices.Clone(l), i, i+1)...), true)
	}
	// Two instances of one advertisement have one key.
	may(t, storeOf(2, instance(keys[0], 5, 1, 0), instance(keys[0], 6, 2, 0)), false)
}

// N1: Find.

// found fails unless Find of k in s is the advertisement want.
func found(t *testing.T, s store.Store, k api.Key, want api.Ad) {
	t.Helper()
	if a, ok := store.Find(s, k); !ok || !sameAd(a, want) {
		t.Errorf("Find of %v in %v: %v, %v, want %v", k, told(s), a, ok, want)
	}
}

// missing fails unless Find of k in s is false and nothing beside it (R3).
func missing(t *testing.T, s store.Store, k api.Key) {
	t.Helper()
	if a, ok := store.Find(s, k); ok || a.H != (api.Header{}) || len(a.B) > 0 {
		t.Errorf("Find of %v in %v: %v, %v", k, told(s), a, ok)
	}
}

func TestFind(t *testing.T) {
	for _, many := range []int{0, 1, 2, 3, 4, 5, 17, 2000} {
		s := storeOf(2000, upTo(many)...)
		for i, a := range s.L {
			found(t, s, key(a), a)
			if many > 20 && i%37 > 0 {
				continue
			}
			for _, k := range near(key(a)) {
				missing(t, s, k)
			}
		}
		missing(t, s, api.Key{})
		missing(t, s, api.Key{Type: 1, ID: math.MaxUint32, Adv: math.MaxUint32})
		missing(t, s, api.Key{Type: 7})
	}
	missing(t, store.Store{}, api.Key{})
}

// near returns keys that differ from k in one part only, or in two that are swapped.
func near(k api.Key) []api.Key {
	out := []api.Key{{Type: k.Type, ID: k.Adv, Adv: k.ID}}
	for _, n := range []int{-1, 1, 2, 256, 1 << 32} {
		out = append(out, api.Key{Type: k.Type + n, ID: k.ID, Adv: k.Adv})
	}
	for bit := range 32 {
		if id := k.ID ^ 1<<bit; id%10 != 0 {
			out = append(out, api.Key{Type: k.Type, ID: id, Adv: k.Adv})
		}
		out = append(out, api.Key{Type: k.Type, ID: k.ID, Adv: k.Adv ^ 1<<bit})
	}
	return out
}

func TestFindOfEveryKey(t *testing.T) {
	keys := manyKeys()
	for step := range 4 {
		s := storeOf(2000)
		for i, k := range keys {
			if i%4 != step {
				s.L = append(s.L, instance(k, 5, uint32(i), 0))
			}
		}
		for i, k := range keys {
			if i%4 == step {
				missing(t, s, k)
			} else {
				found(t, s, k, instance(k, 5, uint32(i), 0))
			}
		}
	}
}

// N1: Put.

// put fails unless Put of a into s is of this kind, with this error, and the store behind it is want.
func put(t *testing.T, s store.Store, a api.Ad, kind int, e api.Errno, want store.Store) {
	t.Helper()
	got, n, err := store.Put(s, a)
	if n != kind || err != e || !same(got, want) {
		t.Fatalf("Put of %v into %v: %v, %d, error %d, want %v, %d, error %d", a.H, told(s), told(got), n, err, told(want), kind, e)
	}
}

func TestPutFresh(t *testing.T) {
	put(t, storeOf(1), ad(5), store.Fresh, api.OK, storeOf(1, ad(5)))
	for _, many := range []int{1, 2, 3, 6, 30} {
		l := upTo(many)
		for i := range many + 1 {
			a := ad(uint32(i*10 + 5))
			for _, most := range []int{many + 1, many + 2, 2000} {
				put(t, storeOf(most, l...), a, store.Fresh, api.OK, storeOf(most, slices.Insert(slices.Clone(l), i, a)...))
			}
			over := store.Store{Max: many + 1, L: l, Over: true}
			put(t, over, a, store.Fresh, api.OK, store.Store{Max: many + 1, L: slices.Insert(slices.Clone(l), i, a), Over: true})
		}
	}
}

// Each key is put between the ones before it and the ones behind it.
func TestPutOfEveryKey(t *testing.T) {
	l := []api.Ad{}
	for i, k := range manyKeys() {
		l = append(l, instance(k, 5, uint32(i), i))
	}
	for i, a := range l {
		put(t, storeOf(2000, slices.Delete(slices.Clone(l), i, i+1)...), a, store.Fresh, api.OK, storeOf(2000, l...))
	}
	s := storeOf(len(l))
	for i := range l {
		s, _, _ = store.Put(s, l[i*7%len(l)])
	}
	if !same(s, storeOf(len(l), l...)) {
		t.Errorf("put one behind the other: %v", told(s))
	}
}

// A new one may have any Age.
func TestPutFreshOfAnyAge(t *testing.T) {
	for _, age := range []int{0, 1, 1799, 1800, 3599, 3600} {
		a := instance(api.Key{Type: 5, ID: 3}, 5, 1, age)
		put(t, storeOf(1), a, store.Fresh, api.OK, storeOf(1, a))
	}
}

// ranked returns instances of one advertisement of which each is newer than the one before it.
func ranked(k api.Key) []api.Ad {
	out := []api.Ad{}
	for _, seq := range []uint32{0x80000000, 0x80000001, 0x80000002, 0xffffffff, 0, 1, 0x7ffffffe, 0x7fffffff} {
		l := []api.Ad{}
		for n := range uint32(3) {
			for _, age := range []int{3599, 2600, 1650, 700, 3600} {
				l = append(l, instance(k, seq, n, age))
			}
		}
		// The Sums are in no particular order.
		slices.SortStableFunc(l, func(a, b api.Ad) int { return a.H.Sum - b.H.Sum })
		out = append(out, l...)
	}
	return out
}

func TestPutNewerAndOlder(t *testing.T) {
	for _, kind := range types {
		k := api.Key{Type: kind, ID: 50, Adv: 6}
		l := ranked(k)
		low, high := instance(api.Key{Type: kind, ID: 49, Adv: 9}, 9, 9, 0), instance(api.Key{Type: kind, ID: 50, Adv: 7}, 0, 9, 0)
		for i, a := range l {
			for j, b := range l {
				s := storeOf(3, low, a, high)
				switch {
				case i < j:
					put(t, s, b, store.Newer, api.OK, storeOf(3, low, b, high))
				case i > j:
					put(t, s, b, store.Older, api.OK, s)
				default:
					put(t, s, b, store.Same, api.OK, s)
				}
			}
		}
	}
}

// Those whose Ages differ by 900 at most are the same, and the one that was there stays.
func TestPutSame(t *testing.T) {
	k := api.Key{Type: 3, ID: 1, Adv: 2}
	for _, age := range []int{0, 1, 899, 900, 901, 1800, 2699, 2700, 3598, 3599} {
		s := storeOf(2, instance(k, 5, 1, age))
		for other := range 3600 {
			a := instance(k, 5, 1, other)
			switch {
			case age-other > 900:
				put(t, s, a, store.Newer, api.OK, storeOf(2, a))
			case other-age > 900:
				put(t, s, a, store.Older, api.OK, s)
			default:
				put(t, s, a, store.Same, api.OK, s)
			}
		}
	}
	// The Fletcher checksum does not tell 0 from 255, so these differ in the body, and neither is newer.
	a := instance(k, 5, 0, 0)
	b := seal(api.Ad{H: a.H, B: []byte{255, 128, 0, 0, 0, 0, 255, 0}})
	if a.H != b.H {
		t.Fatalf("%v is not %v", a.H, b.H)
	}
	put(t, storeOf(1, a), b, store.Same, api.OK, storeOf(1, a))
	put(t, storeOf(1, b), a, store.Same, api.OK, storeOf(1, b))
	// The Options are not what makes one newer.
	c := a
	c.H.Options = 1
	c = seal(c)
	if newer(c.H, a.H) {
		put(t, storeOf(1, a), c, store.Newer, api.OK, storeOf(1, c))
	} else {
		put(t, storeOf(1, a), c, store.Older, api.OK, storeOf(1, a))
	}
}

// What is put first, in the middle and last of a full store of known keys is no new one.
func TestPutIntoFullStore(t *testing.T) {
	for _, many := range []int{1, 2, 3, 2000} {
		l := upTo(many)
		s := storeOf(many, l...)
		full := store.Store{Max: many, L: l, Over: true}
		for _, i := range []int{0, many / 2, many - 1} {
			k := key(l[i])
			up, down := instance(k, 6, 1, 0), instance(k, 4, 1, 0)
			changed := slices.Clone(l)
			changed[i] = up
			put(t, s, up, store.Newer, api.OK, storeOf(many, changed...))
			put(t, s, down, store.Older, api.OK, s)
			put(t, s, l[i], store.Same, api.OK, s)
			put(t, full, up, store.Newer, api.OK, store.Store{Max: many, L: changed, Over: true})
			put(t, full, down, store.Older, api.OK, full)
			put(t, full, l[i], store.Same, api.OK, full)
			put(t, s, ad(uint32(i*10+5)), 0, api.ErrFull, full)
			put(t, s, ad(uint32(i*10+15)), 0, api.ErrFull, full)
			put(t, full, ad(uint32(i*10+5)), 0, api.ErrFull, full)
		}
	}
}

func TestPutOfWhatIsNotIntact(t *testing.T) {
	for _, id := range []uint32{5, 10, 20, 30, 35} {
		for _, bad := range spoilt(ad(id)) {
			for _, most := range []int{3, 4, 2000} {
				for _, over := range []bool{false, true} {
					s := store.Store{Max: most, L: upTo(3), Over: over}
					put(t, s, bad, 0, api.ErrSum, s)
				}
			}
			put(t, storeOf(1), bad, 0, api.ErrSum, storeOf(1))
		}
	}
	put(t, storeOf(1), api.Ad{}, 0, api.ErrSum, storeOf(1))
	long := api.Ad{H: api.Header{Type: 1, Long: 1401}, B: make([]byte, 1381)}
	put(t, storeOf(1), long, 0, api.ErrSum, storeOf(1))
}

func TestPutOfWrongBody(t *testing.T) {
	for _, kind := range types {
		for _, id := range []uint32{5, 10, 20, 30, 35} {
			a := instance(api.Key{Type: kind, ID: id, Adv: 7}, 9, 1, 0)
			for _, bad := range misformed(a) {
				for _, most := range []int{3, 4, 2000} {
					for _, over := range []bool{false, true} {
						s := store.Store{Max: most, L: upTo(3), Over: over}
						put(t, s, bad, 0, api.ErrForm, s)
					}
				}
				put(t, storeOf(1), bad, 0, api.ErrForm, storeOf(1))
			}
		}
	}
}

// Of several errors, it is the one named first: not intact, then the body, then that the store is full.
func TestPutOfSeveralErrors(t *testing.T) {
	for _, s := range []store.Store{storeOf(3, upTo(3)...), storeOf(4, upTo(3)...), {Max: 3, L: upTo(3), Over: true}} {
		for _, id := range []uint32{5, 20, 35} {
			for _, bad := range misformed(ad(id)) {
				put(t, s, bad, 0, api.ErrForm, s)
				bad.H.Seq ^= 1 << 9
				put(t, s, bad, 0, api.ErrSum, s)
				bad.H.Age = 3601
				put(t, s, bad, 0, api.ErrSum, s)
			}
		}
	}
}

// N2: Drop.

func drop(t *testing.T, s store.Store, k api.Key, was bool, want store.Store) {
	t.Helper()
	if got, ok := store.Drop(s, k); ok != was || !same(got, want) {
		t.Errorf("Drop of %v from %v: %v, %v, want %v", k, told(s), told(got), ok, told(want))
	}
}

func TestDrop(t *testing.T) {
	for _, many := range []int{1, 2, 3, 4, 30, 2000} {
		for _, over := range []bool{false, true} {
			s := store.Store{Max: 2000, L: upTo(many), Over: over}
			for _, i := range []int{0, many / 3, many / 2, many - 1} {
				left := slices.Delete(upTo(many), i, i+1)
				drop(t, s, key(s.L[i]), true, store.Store{Max: 2000, L: left, Over: over})
				for _, k := range near(key(s.L[i])) {
					drop(t, s, k, false, s)
				}
			}
		}
	}
	drop(t, storeOf(5), api.Key{}, false, storeOf(5))
	drop(t, store.Store{Max: 5, Over: true}, key(ad(1)), false, store.Store{Max: 5, Over: true})
	drop(t, store.Store{}, api.Key{}, false, store.Store{})
}

// What was dropped makes room, and may be put again.
func TestPutBehindDrop(t *testing.T) {
	s := storeOf(3, upTo(3)...)
	for i := range 3 {
		left, _ := store.Drop(s, key(s.L[i]))
		missing(t, left, key(s.L[i]))
		put(t, left, s.L[i], store.Fresh, api.OK, s)
		put(t, left, instance(key(s.L[i]), 1, 1, 0), store.Fresh, api.OK, storeOf(3, slices.Insert(slices.Clone(left.L), i, instance(key(s.L[i]), 1, 1, 0))...))
	}
}

// N2: Tick.

// aged returns advertisements with these Ages, in order of their keys.
func aged(ages ...int) []api.Ad {
	out := []api.Ad{}
	for i, n := range ages {
		out = append(out, instance(api.Key{Type: 5, ID: uint32(i), Adv: 7}, 5, 1, n))
	}
	return out
}

func tick(t *testing.T, s store.Store, by int, over []api.Key, want store.Store) {
	t.Helper()
	got, keys := store.Tick(s, by)
	if !slices.Equal(keys, over) || !same(got, want) {
		t.Errorf("Tick of %v by %d: %v, over %v, want %v, over %v", told(s), by, told(got), keys, told(want), over)
	}
}

func TestTick(t *testing.T) {
	l := aged(0, 3599, 1, 3600, 3500, 3598, 3600, 1800)
	s := storeOf(20, l...)
	for by := range 3700 {
		ages, over := []int{}, []api.Key{}
		for _, a := range l {
			ages = append(ages, min(a.H.Age+by, 3600))
			if a.H.Age < 3600 && a.H.Age+by >= 3600 {
				over = append(over, key(a))
			}
		}
		tick(t, s, by, over, storeOf(20, aged(ages...)...))
	}
	all := []api.Key{key(l[0]), key(l[1]), key(l[2]), key(l[4]), key(l[5]), key(l[7])}
	for _, by := range []int{3600, 3601, 7200, 65536, 1 << 32, 1<<32 + 1, math.MaxInt - 3600, math.MaxInt - 1, math.MaxInt} {
		tick(t, s, by, all, storeOf(20, aged(slices.Repeat([]int{3600}, 8)...)...))
	}
	for _, by := range []int{0, -1, -2, -3600, -3601, -1 << 32, math.MinInt + 1, math.MinInt} {
		tick(t, s, by, nil, s)
	}
}

func TestTickOfFewAndMany(t *testing.T) {
	for _, by := range []int{-1, 0, 1, 3600, math.MaxInt} {
		tick(t, storeOf(3), by, nil, storeOf(3))
		tick(t, store.Store{Max: 3, Over: true}, by, nil, store.Store{Max: 3, Over: true})
		tick(t, store.Store{}, by, nil, store.Store{})
	}
	tick(t, store.Store{Max: 1, L: aged(3599), Over: true}, 1, keysOf(aged(0)), store.Store{Max: 1, L: aged(3600), Over: true})
	l := aged(slices.Repeat([]int{100}, 2000)...)
	tick(t, storeOf(2000, l...), 3499, nil, storeOf(2000, aged(slices.Repeat([]int{3599}, 2000)...)...))
	tick(t, storeOf(2000, l...), 3500, keysOf(l), storeOf(2000, aged(slices.Repeat([]int{3600}, 2000)...)...))
}

// The Age is not in the checksum, so all are still intact.
func TestMayBehindTick(t *testing.T) {
	s := storeOf(900, aged(0, 1, 100, 3599, 3600)...)
	for _, by := range []int{1, 7, 700, 3600} {
		s, _ = store.Tick(s, by)
		may(t, s, true)
	}
}

// N2: Flush.

func flush(t *testing.T, s store.Store, k api.Key, e api.Errno, want store.Store) {
	t.Helper()
	if got, err := store.Flush(s, k); err != e || !same(got, want) {
		t.Errorf("Flush of %v in %v: %v, error %d, want %v, error %d", k, told(s), told(got), err, told(want), e)
	}
}

func TestFlush(t *testing.T) {
	for _, many := range []int{1, 2, 3, 4, 30, 2000} {
		for _, over := range []bool{false, true} {
			s := store.Store{Max: 2000, L: upTo(many), Over: over}
			for _, i := range []int{0, many / 3, many / 2, many - 1} {
				l := upTo(many)
				l[i].H.Age = 3600
				want := store.Store{Max: 2000, L: l, Over: over}
				flush(t, s, key(s.L[i]), api.OK, want)
				flush(t, want, key(s.L[i]), api.OK, want)
				may(t, want, true)
				for _, k := range near(key(s.L[i])) {
					flush(t, s, k, api.ErrNone, s)
				}
			}
		}
	}
	for _, age := range []int{0, 1, 1800, 3598, 3599, 3600} {
		flush(t, storeOf(1, aged(age)...), key(aged(0)[0]), api.OK, storeOf(1, aged(3600)...))
	}
	flush(t, storeOf(5), api.Key{}, api.ErrNone, storeOf(5))
	flush(t, store.Store{Max: 5, Over: true}, key(ad(1)), api.ErrNone, store.Store{Max: 5, Over: true})
	flush(t, store.Store{}, api.Key{}, api.ErrNone, store.Store{})
}

// N2: Heads.

func TestHeads(t *testing.T) {
	for _, many := range []int{0, 1, 2, 3, 30, 2000} {
		l := upTo(many)
		want := []api.Header{}
		for _, a := range l {
			want = append(want, a.H)
		}
		for _, s := range []store.Store{storeOf(2000, l...), {Max: 2000, L: l, Over: true}} {
			if got := store.Heads(s); !slices.Equal(got, want) {
				t.Errorf("Heads of %d: %v", many, got)
			}
		}
	}
	if got := store.Heads(storeOf(3, aged(3600, 0, 3599)...)); len(got) != 3 || got[0].Age != 3600 || got[1].Age != 0 || got[2].Age != 3599 {
		t.Errorf("Heads: %v", got)
	}
}

// N2: Due.

func due(t *testing.T, s store.Store, adv uint32, want ...api.Key) {
	t.Helper()
	if got := store.Due(s, adv); !slices.Equal(got, want) {
		t.Errorf("Due of %d in %v: %v, want %v", adv, told(s), got, want)
	}
}

func TestDue(t *testing.T) {
	for age := range 3601 {
		s := storeOf(1, aged(age)...)
		if age >= 1800 && age <= 3599 {
			due(t, s, 7, key(s.L[0]))
		} else {
			due(t, s, 7)
		}
		due(t, s, 6)
		due(t, s, 0)
	}
	s := storeOf(20, aged(3599, 1799, 1800, 3600, 0, 2500, 1801)...)
	k := keysOf(s.L)
	due(t, s, 7, k[0], k[2], k[5], k[6])
	due(t, storeOf(20), 7)
	due(t, store.Store{}, 0)
	all := aged(slices.Repeat([]int{1800}, 2000)...)
	due(t, storeOf(2000, all...), 7, keysOf(all)...)
}

// Only those of the one who asks are due, of each Type and ID.
func TestDueOfAdv(t *testing.T) {
	s := storeOf(2000)
	for _, k := range manyKeys() {
		s.L = append(s.L, instance(k, 5, 1, 2000))
	}
	for _, adv := range numbers {
		want := []api.Key{}
		for _, k := range manyKeys() {
			if k.Adv == adv {
				want = append(want, k)
			}
		}
		due(t, s, adv, want...)
	}
}

// N2: Digest.

func digest(t *testing.T, want uint32, sums ...int) {
	t.Helper()
	s := storeOf(2000)
	for i, n := range sums {
		s.L = append(s.L, api.Ad{H: api.Header{Type: 1, ID: uint32(i), Sum: n, Long: 20}})
	}
	if got := store.Digest(s); got != want {
		t.Errorf("Digest of %d: %d, want %d", len(sums), got, want)
	}
}

func TestDigest(t *testing.T) {
	digest(t, 0)
	digest(t, 0, 0)
	digest(t, 1, 1)
	digest(t, 65535, 65535)
	digest(t, 65536, 65535, 1)
	digest(t, 0x030508, 0x0304, 0x0102, 0x0102, 65535, 1, 65535, 65535, 2)
	digest(t, 65535*2000, slices.Repeat([]int{65535}, 2000)...)
	// No valid store comes past 2^32, but others do.
	digest(t, 4294967295, slices.Repeat([]int{65535}, 65537)...)
	digest(t, 65534, slices.Repeat([]int{65535}, 65538)...)
	digest(t, 0, slices.Concat(slices.Repeat([]int{65535}, 65537), []int{1})...)
	digest(t, 0, 1<<32)
	digest(t, 5, 1<<32-1, 6)
	digest(t, 7, 1<<32+7)
	digest(t, 7, -1, 8)
	digest(t, 1<<32-1, -1)
	digest(t, 3, math.MaxInt, math.MaxInt, 5)
	digest(t, 5, math.MinInt, 5)
}

func TestDigestOfStore(t *testing.T) {
	s := storeOf(2000, upTo(300)...)
	want := uint32(0)
	for _, a := range s.L {
		want += uint32(a.H.Sum)
	}
	older, _ := store.Tick(s, 500)
	if store.Digest(s) != want || store.Digest(older) != want || store.Digest(store.Store{Over: true, L: s.L}) != want {
		t.Errorf("Digest: %d, %d, want %d", store.Digest(s), store.Digest(older), want)
	}
}

// N2: Alike.

func alike(t *testing.T, a, b store.Store, want bool) {
	t.Helper()
	if store.Alike(a, b) != want || store.Alike(b, a) != want {
		t.Errorf("Alike of %v and %v: %v, %v, want %v", told(a), told(b), store.Alike(a, b), store.Alike(b, a), want)
	}
}

func TestAlike(t *testing.T) {
	for _, many := range []int{0, 1, 2, 3, 40} {
		s := storeOf(2000, upTo(many)...)
		alike(t, s, storeOf(2000, upTo(many)...), true)
		alike(t, s, storeOf(1, upTo(many)...), true)
		alike(t, s, store.Store{L: upTo(many), Over: true}, true)
		alike(t, s, storeOf(2000, upTo(many+1)...), false)
		for i := range many {
			alike(t, s, storeOf(2000, slices.Delete(upTo(many), i, i+1)...), false)
			for _, change := range []func(a *api.Ad){
				func(a *api.Ad) { a.H.Type++ },
				func(a *api.Ad) { a.H.ID++ },
				func(a *api.Ad) { a.H.ID ^= 1 << 31 },
				func(a *api.Ad) { a.H.Adv++ },
				func(a *api.Ad) { a.H.Adv ^= 1 << 31 },
				func(a *api.Ad) { a.H.Seq++ },
				func(a *api.Ad) { a.H.Seq ^= 1 << 31 },
				func(a *api.Ad) { a.H.Sum++ },
				func(a *api.Ad) { a.H.Sum ^= 1 << 15 },
				func(a *api.Ad) { a.B[0]++ },
				func(a *api.Ad) { a.B[len(a.B)-1]++ },
				func(a *api.Ad) { a.B = a.B[:len(a.B)-1] },
				func(a *api.Ad) { a.B = append(a.B, 0) },
				func(a *api.Ad) { a.B = nil },
			} {
				l := clonedAll(s.L)
				change(&l[i])
				alike(t, s, storeOf(2000, l...), false)
			}
			// What else the headers say does not matter.
			for _, change := range []func(a *api.Ad){
				func(a *api.Ad) { a.H.Age = 3600 },
				func(a *api.Ad) { a.H.Age = 0 },
				func(a *api.Ad) { a.H.Options = 0 },
				func(a *api.Ad) { a.H.Long = 0 },
			} {
				l := clonedAll(s.L)
				change(&l[i])
				alike(t, s, storeOf(2000, l...), true)
			}
		}
	}
}

func TestAlikeOfOrder(t *testing.T) {
	s := storeOf(5, adsOf(1, 2)...)
	alike(t, s, storeOf(5, adsOf(2, 1)...), false)
	alike(t, storeOf(5, adsOf(1, 1)...), storeOf(5, adsOf(1)...), false)
	alike(t, storeOf(5), store.Store{L: []api.Ad{}}, true)
	none, empty := ad(1), ad(1)
	none.B, empty.B = nil, []byte{}
	alike(t, storeOf(5, none), storeOf(5, empty), true)
}

// Only Put asks for a valid store: the others do what they say for each one.
func TestStoresThatAreNotValid(t *testing.T) {
	l := adsOf(30, 10, 40, 10, 20)
	for _, most := range []int{-1, 0, 2, 3000} {
		s := storeOf(most, l...)
		may(t, s, false)
		for _, i := range []int{0, 1, 2, 4} {
			found(t, s, key(l[i]), l[i])
		}
		missing(t, s, key(ad(25)))
		drop(t, s, key(l[0]), true, storeOf(most, l[1:]...))
		drop(t, s, key(l[4]), true, storeOf(most, l[:4]...))
		drop(t, s, key(l[1]), true, storeOf(most, adsOf(30, 40, 20)...))
		flushed := clonedAll(l)
		flushed[4].H.Age = 3600
		flush(t, s, key(l[4]), api.OK, storeOf(most, flushed...))
		flushed = clonedAll(l)
		flushed[1].H.Age, flushed[3].H.Age = 3600, 3600
		flush(t, s, key(l[1]), api.OK, storeOf(most, flushed...))
		older, over := store.Tick(s, 3590)
		if !slices.Equal(over, keysOf(l)) || !slices.Equal(store.Due(storeOf(most, aged(1800, 3599)...), 7), keysOf(aged(0, 0))) {
			t.Errorf("Tick: %v, over %v", told(older), over)
		}
	}
	// A put into such a store ends, whatever it answers.
	for _, s := range []store.Store{{}, storeOf(-1, l...), storeOf(2, l...), storeOf(20, l...)} {
		for _, id := range []uint32{5, 10, 25, 40, 50} {
			store.Put(s, ad(id))
		}
	}
}

// R4: what was passed stays as it was, the memory behind it too, and answers have memory of their own.

// roomy returns s with memory behind its list and its bodies, and what checks that all of it is as it was.
func roomy(s store.Store) (store.Store, func(t *testing.T, what string)) {
	spare := append(clonedAll(s.L), adsOf(901, 902, 903)...)
	for i := range spare {
		spare[i].B = append(spare[i].B, 1, 2, 3, 4)
		spare[i].B = spare[i].B[:len(spare[i].B)-4]
	}
	was := []api.Ad{}
	for _, a := range spare {
		was = append(was, api.Ad{H: a.H, B: slices.Clone(a.B[:len(a.B)+4])})
	}
	out := s
	out.L = spare[:len(s.L)]
	return out, func(t *testing.T, what string) {
		t.Helper()
		for i, a := range spare {
			if a.H != was[i].H || !bytes.Equal(a.B[:len(was[i].B)], was[i].B) {
				t.Errorf("%s changed advertisement %d", what, i)
			}
		}
	}
}

// wipe overwrites the list of s, and its bodies, spare memory too.
func wipe(s store.Store) {
	all := s.L[:cap(s.L)]
	for i := range all {
		clear(all[i].B[:cap(all[i].B)])
		all[i] = api.Ad{}
	}
}

// deeds are all calls that return a store, by the words that name them in a failure.
func deeds() map[string]func(s store.Store) store.Store {
	after := map[string]func(s store.Store) store.Store{}
	for name, a := range map[string]api.Ad{
		"fresh, first":  ad(5),
		"fresh, middle": ad(25),
		"fresh, last":   ad(95),
		"newer":         instance(key(ad(20)), 6, 1, 0),
		"newer, first":  instance(key(ad(10)), 6, 1, 0),
		"same":          ad(20),
		"older":         instance(key(ad(20)), 4, 1, 0),
		"not intact":    spoilt(ad(25))[0],
		"misformed":     misformed(ad(25))[0],
	} {
		after["Put, "+name] = func(s store.Store) store.Store { o, _, _ := store.Put(s, a); return o }
	}
	for name, id := range map[string]uint32{"first": 10, "middle": 20, "last": 30, "none": 25} {
		k := key(ad(id))
		after["Drop, "+name] = func(s store.Store) store.Store { o, _ := store.Drop(s, k); return o }
		after["Flush, "+name] = func(s store.Store) store.Store { o, _ := store.Flush(s, k); return o }
	}
	for name, by := range map[string]int{"back": -1, "0": 0, "1": 1, "3600": 3600} {
		after["Tick, "+name] = func(s store.Store) store.Store { o, _ := store.Tick(s, by); return o }
	}
	return after
}

func TestStoresLeaveTheirArgument(t *testing.T) {
	for _, most := range []int{3, 4} {
		for what, deed := range deeds() {
			before := storeOf(most, upTo(3)...)
			s, check := roomy(before)
			after := deed(s)
			check(t, what)
			want := clonedStore(after)
			// What happens to the answer does not reach the argument, and the other way round.
			_ = append(after.L, ad(77))
			check(t, what+", appended to")
			wipe(after)
			check(t, what+", wiped")
			after = deed(s)
			wipe(s)
			if !same(after, want) {
				t.Errorf("%s: what was passed is in the answer: %v, want %v", what, told(after), told(want))
			}
		}
	}
}

func TestPutCopiesWhatIsPut(t *testing.T) {
	for _, s := range []store.Store{storeOf(5), storeOf(5, upTo(3)...), storeOf(5, instance(key(ad(25)), 1, 1, 0))} {
		a := ad(25)
		memory := append(a.B, 1, 2, 3, 4)
		was := slices.Clone(memory)
		a.B = memory[:len(a.B)]
		after, _, _ := store.Put(s, a)
		for _, b := range after.L {
			_ = append(b.B, 9)
		}
		if !bytes.Equal(memory, was) {
			t.Errorf("Put changed what is behind the body")
		}
		clear(memory)
		found(t, after, key(a), ad(25))
		wipe(after)
	}
}

func TestFindCopiesWhatIsFound(t *testing.T) {
	s, check := roomy(storeOf(5, upTo(3)...))
	for _, want := range upTo(3) {
		a, _ := store.Find(s, key(want))
		clear(a.B[:cap(a.B)])
		check(t, "Find, wiped")
		a, _ = store.Find(s, key(want))
		b, _ := store.Find(s, key(want))
		clear(b.B)
		if !sameAd(a, want) {
			t.Errorf("two answers of Find share memory: %v", a)
		}
	}
	a, _ := store.Find(s, key(ad(10)))
	wipe(s)
	if !sameAd(a, ad(10)) {
		t.Errorf("what was passed is in the answer: %v", a)
	}
}

func TestReadingLeavesItsArgument(t *testing.T) {
	s, check := roomy(storeOf(5, aged(0, 1800, 3599)...))
	for range 2 {
		store.May(s)
		store.Digest(s)
		store.Alike(s, storeOf(5, aged(1, 2, 3)...))
		clear(store.Heads(s))
		clear(store.Due(s, 7))
		_, over := store.Tick(s, 3600)
		clear(over)
		check(t, "reading")
	}
	heads, keys := store.Heads(s), store.Due(s, 7)
	_, over := store.Tick(s, 3600)
	wipe(s)
	l := aged(0, 1800, 3599)
	if len(heads) != 3 || heads[2] != l[2].H || !slices.Equal(keys, keysOf(l)[1:]) || !slices.Equal(over, keysOf(l)) {
		t.Errorf("what was passed is in the answer: %v, %v, %v", heads, keys, over)
	}
}

// A store of before stays as it was, and can be gone on from in another way.
func TestStoresOfBefore(t *testing.T) {
	draw := drawer(1)
	stores := []store.Store{storeOf(6)}
	was := []store.Store{storeOf(6)}
	for range 400 {
		s := stores[draw(len(stores))]
		switch draw(5) {
		case 0:
			s, _ = store.Drop(s, drawKey(draw))
		case 1:
			s, _ = store.Tick(s, draw(1000))
		case 2:
			s, _ = store.Flush(s, drawKey(draw))
		default:
			s, _, _ = store.Put(s, drawAd(draw))
		}
		stores = append(stores, s)
		was = append(was, clonedStore(s))
	}
	for i := range stores {
		if !same(stores[i], was[i]) {
			t.Errorf("store %d changed to %v from %v", i, told(stores[i]), told(was[i]))
		}
	}
}

// The example.
func TestExample(t *testing.T) {
	s, _ := store.New(1)
	s, kind, e := store.Put(s, ad(1))
	if kind != store.Fresh || e != api.OK || s.Over {
		t.Errorf("the first one: %d, error %d, %v", kind, e, told(s))
	}
	s, _, e = store.Put(s, ad(2))
	if e != api.ErrFull || !s.Over || len(s.L) != 1 || !sameAd(s.L[0], ad(1)) {
		t.Errorf("the second one: error %d, %v", e, told(s))
	}
}

// P14.2: the newest instance of each key is what remains, in whatever order they are put.

// orders returns all orders of the numbers below n.
func orders(n int) [][]int {
	if n == 0 {
		return [][]int{nil}
	}
	out := [][]int{}
	for _, o := range orders(n - 1) {
		for at := range n {
			out = append(out, slices.Insert(slices.Clone(o), at, n-1))
		}
	}
	return out
}

// newest returns the newest of the instances with each key, in order; of those that are the same, each one is as good.
func newest(l []api.Ad) []api.Ad {
	best := map[api.Key]api.Ad{}
	for _, a := range l {
		if old, is := best[key(a)]; !is || newer(a.H, old.H) {
			best[key(a)] = a
		}
	}
	m := model{all: best}
	return m.store().L
}

func TestNewestInEveryOrder(t *testing.T) {
	j, k := api.Key{Type: 1, ID: 5, Adv: 5}, api.Key{Type: 1, ID: 5, Adv: 6}
	for _, l := range [][]api.Ad{
		{instance(k, 0x80000001, 1, 4), instance(k, 0xffffffff, 1, 4), instance(k, 0, 1, 4), instance(k, 1, 1, 4), instance(k, 0x7fffffff, 1, 4)},
		{instance(k, 3, 1, 0), instance(k, 3, 2, 0), instance(k, 3, 3, 0), instance(k, 3, 4, 0), instance(k, 2, 5, 0), instance(k, 2, 6, 0)},
		{instance(k, 3, 1, 3600), instance(j, 3, 2, 3600), instance(k, 4, 3, 3600), instance(j, 2, 4, 3600), instance(k, 3, 1, 3600), instance(j, 2, 9, 3600)},
	} {
		want := storeOf(2, newest(l)...)
		for _, o := range orders(len(l)) {
			s, _ := store.New(2)
			for _, i := range o {
				s, _, _ = store.Put(s, l[i])
			}
			if !same(s, want) {
				t.Fatalf("in the order %v: %v, want %v", o, told(s), told(want))
			}
		}
	}
}

func TestNewestInDrawnOrders(t *testing.T) {
	draw := drawer(2)
	for round := range 300 {
		age := []int{0, 900, 3599, 3600, draw(3601)}[round%5]
		l := []api.Ad{}
		for range 60 {
			a := drawAd(draw)
			a.H.Age = age
			l = append(l, a)
		}
		want := storeOf(2000, newest(l)...)
		for range 4 {
			s, _ := store.New(2000)
			for i := len(l); i > 0; i-- {
				at := draw(i)
				l[at], l[i-1] = l[i-1], l[at]
				var e api.Errno
				s, _, e = store.Put(s, l[i-1])
				if e != api.OK {
					t.Fatalf("Put of %v: error %d", l[i-1], e)
				}
			}
			if !same(s, want) || !store.May(s) {
				t.Fatalf("%v, want %v", told(s), told(want))
			}
		}
	}
}

// P14.3: Over stays set behind every later call.

func TestOverStays(t *testing.T) {
	s := storeOf(3, upTo(3)...)
	s, _, e := store.Put(s, ad(25))
	if e != api.ErrFull || !s.Over {
		t.Fatalf("error %d, %v", e, told(s))
	}
	for what, deed := range deeds() {
		if o := deed(s); !o.Over {
			t.Errorf("Over is not set behind %s", what)
		}
	}
	for range s.L {
		s, _ = store.Drop(s, key(s.L[0]))
	}
	s, kind, e := store.Put(s, ad(5))
	if !s.Over || kind != store.Fresh || e != api.OK || !store.May(s) {
		t.Errorf("%d, error %d, %v", kind, e, told(s))
	}
}

// Nothing else sets it.
func TestOverIsNotSet(t *testing.T) {
	for what, deed := range deeds() {
		if o := deed(storeOf(4, upTo(3)...)); o.Over {
			t.Errorf("Over is set behind %s", what)
		}
	}
}

// All of it, on drawn calls.
func TestDrawnCalls(t *testing.T) {
	draw := drawer(3)
	kinds, errs := map[int]int{}, map[api.Errno]int{}
	over := 0
	for round := range 300 {
		m := &model{most: []int{1, 2, 5, 12, 54, 2000}[round%6], all: map[api.Key]api.Ad{}}
		s, _ := store.New(m.most)
		for range 80 {
			k := drawKey(draw)
			switch draw(10) {
			case 0:
				_, is := m.all[k]
				delete(m.all, k)
				drop(t, s, k, is, m.store())
				s, _ = store.Drop(s, k)
			case 1:
				by := draw(3) * draw(1000)
				keys := m.tick(by)
				tick(t, s, by, keys, m.store())
				s, _ = store.Tick(s, by)
				over += len(keys)
			case 2:
				e := api.ErrNone
				if a, is := m.all[k]; is {
					a.H.Age, e = 3600, api.OK
					m.all[k] = a
				}
				flush(t, s, k, e, m.store())
				s, _ = store.Flush(s, k)
			default:
				a := drawAd(draw)
				if len(s.L) > 0 && draw(3) == 0 {
					a = cloned(s.L[draw(len(s.L))])
					a.H.Age = draw(2) * draw(3601)
				}
				switch draw(12) {
				case 0:
					a = spoilt(a)[draw(13)]
				case 1:
					a = misformed(a)[draw(6)]
				}
				kind, e := m.put(a)
				put(t, s, a, kind, e, m.store())
				s, _, _ = store.Put(s, a)
				errs[e]++
				if e == api.OK {
					kinds[kind]++
				}
			}
			if a, is := m.all[k]; is {
				found(t, s, k, a)
			} else {
				missing(t, s, k)
			}
			may(t, s, true)
			if t.Failed() {
				return
			}
		}
	}
	for n := range 4 {
		if kinds[n] < 300 {
			t.Errorf("kind %d came %d times", n, kinds[n])
		}
	}
	if errs[api.ErrSum] < 300 || errs[api.ErrForm] < 300 || errs[api.ErrFull] < 300 || over < 300 {
		t.Errorf("errors %v, %d over", errs, over)
	}
}
