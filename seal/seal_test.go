package seal

import (
	"crypto/sha256"
	"encoding/binary"
	"errors"
	"math"
	"math/big"
	"math/rand"
	"slices"
	"strings"
	"testing"

	"consign/api"
	"consign/sha"
)

// ints are numbers as a round's, and a carrier's, may be: at their ends, below 0, by each byte and bit.
func ints() []int {
	l := []int{0, 1, 2, 7, 9, 15, 127, 128, 255, 256, 258, 65535, 65536, math.MaxInt32, math.MaxInt32 + 1, math.MinInt32, math.MaxInt, math.MaxInt - 1, math.MinInt, math.MinInt + 1, -1, -2, -128, -129, -255, -256, -257, 0x0102030405060708, -0x0102030405060708}
	for bit := range 63 {
		l = append(l, 1<<bit, -1<<bit)
	}
	return l
}

// words are numbers as a bid, and a nonce, may be.
func words() []uint64 {
	l := []uint64{0, 1, 2, 7, 255, 256, 258, api.Infeasible - 1, api.Infeasible, api.Infeasible + 1, math.MaxInt64, math.MaxInt64 + 1, math.MaxUint64 - 1, math.MaxUint64, 0x0102030405060708, 0xf1f2f3f4f5f6f7f8}
	for bit := range 64 {
		l = append(l, 1<<bit, ^uint64(1<<bit))
	}
	return l
}

// things are sealed ones: each field at all its numbers, with the others at 0 and at others.
func things() []api.Sealed {
	var l []api.Sealed
	for _, rest := range []api.Sealed{{}, {Round: 3, Carrier: 1, Bid: 40, Nonce: 9}, {Round: -1, Carrier: -1, Bid: math.MaxUint64, Nonce: math.MaxUint64}} {
		for _, n := range ints() {
			one, other := rest, rest
			one.Round, other.Carrier = n, n
			l = append(l, one, other)
		}
		for _, n := range words() {
			one, other := rest, rest
			one.Bid, other.Nonce = n, n
			l = append(l, one, other)
		}
	}
	return l
}

// chance is a thing at chance, of numbers of all lengths.
func chance(r *rand.Rand) api.Sealed {
	n := func() uint64 { return r.Uint64() >> r.Intn(64) }
	sign := []int{1, -1}
	return api.Sealed{Round: sign[r.Intn(2)] * int(n()), Carrier: sign[r.Intn(2)] * int(n()), Bid: n(), Nonce: n()}
}

// few is a thing at chance of so few that it is often like another one.
func few(r *rand.Rand) api.Sealed {
	return api.Sealed{Round: r.Intn(2), Carrier: r.Intn(2), Bid: uint64(r.Intn(2)), Nonce: uint64(r.Intn(2))}
}

// laid is the bytes of the document's words: of numbers without bounds, those below 0 as so much less than 2 to the power of 64.
func laid(x api.Sealed) string {
	s := "consign"
	for _, n := range []*big.Int{big.NewInt(int64(x.Round)), big.NewInt(int64(x.Carrier)), new(big.Int).SetUint64(x.Bid), new(big.Int).SetUint64(x.Nonce)} {
		if n.Sign() < 0 {
			n.Add(n, new(big.Int).Lsh(big.NewInt(1), 64))
		}
		s += string(n.FillBytes(make([]byte, 8)))
	}
	return s
}

// library is the sum as the library of the language makes it.
func library(s string) api.Digest { return sha256.Sum256([]byte(s)) }

// neighbours are things of which just one bit of one field is another one, and such as have fields changed over.
func neighbours(x api.Sealed) []api.Sealed {
	var l []api.Sealed
	for bit := range 64 {
		a, b, c, d := x, x, x, x
		a.Round ^= 1 << bit
		b.Carrier ^= 1 << bit
		c.Bid ^= 1 << bit
		d.Nonce ^= 1 << bit
		l = append(l, a, b, c, d)
	}
	for _, y := range []api.Sealed{
		{Round: x.Carrier, Carrier: x.Round, Bid: x.Bid, Nonce: x.Nonce},
		{Round: x.Round, Carrier: x.Carrier, Bid: x.Nonce, Nonce: x.Bid},
		{Round: int(x.Bid), Carrier: int(x.Nonce), Bid: uint64(x.Round), Nonce: uint64(x.Carrier)},
		{Round: x.Round, Carrier: int(x.Bid), Bid: uint64(x.Carrier), Nonce: x.Nonce},
	} {
		if y != x {
			l = append(l, y)
		}
	}
	return l
}

// P19.1 to P19.3: what the document tells.
func TestExamples(t *testing.T) {
	x := api.Sealed{Round: 1, Carrier: 2, Bid: 3, Nonce: 258}
	nought := "\x00\x00\x00\x00\x00\x00"
	should := "consign" + nought + "\x00\x01" + nought + "\x00\x02" + nought + "\x00\x03" + nought + "\x01\x02"
	if got := Bytes(x); got != should {
		t.Errorf("its bytes are %q", got)
	}
	s := Sum()
	if d := s.Commit(x); d != sha.Sum(should) {
		t.Errorf("it commits to %x", d)
	}
	y := api.Sealed{Round: 1, Carrier: 2, Bid: 3, Nonce: 259}
	if got := Opened(s, []api.Digest{s.Commit(x), {}, s.Commit(y)}, []api.Sealed{y, x, x}); !slices.Equal(got, []int{1, -1, 0}) {
		t.Errorf("opened are %v", got)
	}
}

// P19.1: bytes are those of the document's words, and those of the library, field by field.
func TestBytes(t *testing.T) {
	l, r := things(), rand.New(rand.NewSource(19))
	for range 2000 {
		l = append(l, chance(r))
	}
	for _, x := range l {
		all := []byte("consign")
		for _, n := range []uint64{uint64(x.Round), uint64(x.Carrier), x.Bid, x.Nonce} {
			all = binary.BigEndian.AppendUint64(all, n)
		}
		if got := Bytes(x); len(got) != 39 || got != laid(x) || got != string(all) {
			t.Errorf("of %v they are %q; they should be %q", x, got, laid(x))
		}
	}
}

// P19.1: bytes by hand: where each field stands, and what is below 0.
func TestBytesByHand(t *testing.T) {
	zero := strings.Repeat("\x00", 8)
	full := strings.Repeat("\xff", 8)
	for _, c := range []struct {
		x    api.Sealed
		tail string
	}{
		{api.Sealed{}, zero + zero + zero + zero},
		{api.Sealed{Round: -1}, full + zero + zero + zero},
		{api.Sealed{Carrier: -1}, zero + full + zero + zero},
		{api.Sealed{Bid: math.MaxUint64}, zero + zero + full + zero},
		{api.Sealed{Nonce: math.MaxUint64}, zero + zero + zero + full},
		{api.Sealed{Round: -2}, full[1:] + "\xfe" + zero + zero + zero},
		{api.Sealed{Round: -256}, full[1:] + "\x00" + zero + zero + zero},
		{api.Sealed{Carrier: math.MinInt}, zero + "\x80" + zero[1:] + zero + zero},
		{api.Sealed{Carrier: math.MaxInt}, zero + "\x7f" + full[1:] + zero + zero},
		{api.Sealed{Round: 0x0102030405060708}, "\x01\x02\x03\x04\x05\x06\x07\x08" + zero + zero + zero},
		{api.Sealed{Bid: api.Infeasible}, zero + zero + "\x00\x00\x00\x01\x00\x00\x00\x00" + zero},
		{api.Sealed{Round: 256, Carrier: 1, Bid: 65536, Nonce: 5}, zero[2:] + "\x01\x00" + zero[1:] + "\x01" + zero[3:] + "\x01\x00\x00" + zero[1:] + "\x05"},
	} {
		if got := Bytes(c.x); got != "consign"+c.tail {
			t.Errorf("of %v they are %q; they should be %q", c.x, got, "consign"+c.tail)
		}
	}
}

// P19.2: what the scheme commits to is the sum of the bytes, each time, and of each scheme alike.
func TestCommit(t *testing.T) {
	l, r := things(), rand.New(rand.NewSource(191))
	for range 2000 {
		l = append(l, chance(r))
	}
	s, other := Sum(), Sum()
	if s == nil || other == nil {
		t.Fatal("there is no scheme")
	}
	for _, x := range l {
		should := library(laid(x))
		if d, again, elsewhere := s.Commit(x), s.Commit(x), other.Commit(x); d != should || again != should || elsewhere != should || sha.Sum(Bytes(x)) != should {
			t.Errorf("of %v they are %x, %x and %x; it should be %x", x, d, again, elsewhere, should)
		}
	}
}

// P19.2, P19.4: what is committed to opens the commitment, by any scheme of sums, as often as it is asked, be anything else asked between.
func TestOpens(t *testing.T) {
	s := Sum()
	l := things()
	for k, x := range l {
		d, y := s.Commit(x), l[(k+1)%len(l)]
		if !s.Opens(d, x) || !Sum().Opens(d, x) || s.Opens(d, y) != (x == y) || !s.Opens(library(laid(x)), x) || !s.Opens(d, x) {
			t.Errorf("%v does not open its own commitment, or %v does", x, y)
		}
	}
	if x := (api.Sealed{Round: 4, Nonce: 4}); !s.Opens(library(laid(x)), x) {
		t.Error("what was never committed to does not open its sum")
	}
}

// P19.2, P19.4: nothing else opens it, be it but a bit of one field off, or another field's; nor does the thing open a digest that is but a bit off, or of zeros.
func TestOpensNothingElse(t *testing.T) {
	s, r := Sum(), rand.New(rand.NewSource(192))
	for _, x := range []api.Sealed{{}, {Round: 3, Carrier: 1, Bid: 7, Nonce: 9}, {Round: -1, Carrier: -2, Bid: math.MaxUint64, Nonce: 1 << 63}, chance(r), chance(r)} {
		d := s.Commit(x)
		for _, y := range neighbours(x) {
			if s.Opens(d, y) {
				t.Errorf("%v opens the commitment of %v", y, x)
			}
		}
		for bit := range 256 {
			off := d
			off[bit/8] ^= 1 << (bit % 8)
			if s.Opens(off, x) {
				t.Errorf("%v opens its commitment with the bit %d changed", x, bit)
			}
		}
		if s.Opens(api.Digest{}, x) || s.Opens(library(""), x) || s.Opens(library("consign"), x) || s.Opens(library(laid(x)[7:]), x) {
			t.Errorf("%v opens a sum of something else", x)
		}
	}
}

// P19.3: by the scheme of sums, of each mark the first one of the list that is the thing committed to, on lists in which things come often.
func TestOpenedBySums(t *testing.T) {
	s, r := Sum(), rand.New(rand.NewSource(193))
	for range 500 {
		var of, l []api.Sealed
		var marks []api.Digest
		for range r.Intn(9) {
			of = append(of, few(r))
			marks = append(marks, s.Commit(of[len(of)-1]))
		}
		for range r.Intn(12) {
			l = append(l, few(r))
		}
		got := Opened(s, marks, l)
		if len(got) != len(marks) {
			t.Fatalf("of %d marks they are %v", len(marks), got)
		}
		for k, x := range of {
			if should := slices.Index(l, x); got[k] != should {
				t.Errorf("of %v in %v it is %d; it should be %d", x, l, got[k], should)
			}
		}
	}
}

// byFunc is a scheme that asks a function, and commits to nothing.
type byFunc func(d api.Digest, x api.Sealed) bool

func (f byFunc) Commit(api.Sealed) api.Digest { panic("nobody asked to commit") }

func (f byFunc) Opens(d api.Digest, x api.Sealed) bool { return f(d, x) }

func lessByte(d api.Digest, x api.Sealed) bool { return int(d[0]) < x.Round }

func sameBid(d api.Digest, x api.Sealed) bool { return uint64(d[31]) == x.Bid }

func all(api.Digest, api.Sealed) bool { return true }

func none(api.Digest, api.Sealed) bool { return false }

// only is a scheme by which nothing but that opens.
func only(that api.Sealed) byFunc {
	return func(_ api.Digest, x api.Sealed) bool { return x == that }
}

// firstOf is the first one of l that opens d, by the document's words.
func firstOf(f byFunc, d api.Digest, l []api.Sealed) int {
	for k, x := range l {
		if f(d, x) {
			return k
		}
	}
	return -1
}

// P19.3: by any scheme, just as its Opens says of each mark and each thing; it is not asked to commit.
func TestOpenedByOthers(t *testing.T) {
	r := rand.New(rand.NewSource(194))
	for range 500 {
		marks, l := make([]api.Digest, r.Intn(9)), make([]api.Sealed, r.Intn(12))
		for k := range marks {
			marks[k][0], marks[k][31] = byte(r.Intn(6)), byte(r.Intn(6))
		}
		for k := range l {
			l[k] = api.Sealed{Round: r.Intn(8), Carrier: k, Bid: uint64(r.Intn(8))}
		}
		last := append([]api.Sealed{{Nonce: 1}}, l...)[len(l)]
		for name, f := range map[string]byFunc{"less": lessByte, "bid": sameBid, "all": all, "none": none, "last": only(last)} {
			var should []int
			for _, d := range marks {
				should = append(should, firstOf(f, d, l))
			}
			if got := Opened(f, marks, l); !slices.Equal(got, should) {
				t.Errorf("by %s of %x in %v they are %v; they should be %v", name, marks, l, got, should)
			}
		}
	}
}

// P19.3: lists that are empty, or none: no marks have no answers, no things open none.
func TestOpenedEmpty(t *testing.T) {
	x := api.Sealed{Round: 1}
	d := Sum().Commit(x)
	for _, s := range []Scheme{Sum(), byFunc(all), nil} {
		for _, marks := range [][]api.Digest{nil, {}} {
			for _, l := range [][]api.Sealed{nil, {}, {x}} {
				if got := Opened(s, marks, l); len(got) != 0 {
					t.Errorf("of no marks in %v they are %v", l, got)
				}
			}
		}
		for _, l := range [][]api.Sealed{nil, {}} {
			if got := Opened(s, []api.Digest{d, {}, d}, l); !slices.Equal(got, []int{-1, -1, -1}) {
				t.Errorf("of three marks in no things they are %v", got)
			}
		}
	}
	if got := Opened(Sum(), []api.Digest{d, d}, []api.Sealed{x}); !slices.Equal(got, []int{0, 0}) {
		t.Errorf("of a mark twice they are %v", got)
	}
}

// behind is a scheme that none but a pointer to one can be asked.
type behind struct{ bid uint64 }

func (b *behind) Commit(api.Sealed) api.Digest          { return api.Digest{byte(b.bid)} }
func (b *behind) Opens(_ api.Digest, x api.Sealed) bool { return x.Bid == b.bid }

// P19.3: of a scheme that is none, by itself or by what it points to, -1 each.
func TestOpenedByNone(t *testing.T) {
	var pointer *behind
	var function byFunc
	var value *byFunc
	x := api.Sealed{Round: 1, Bid: 7}
	marks, l := []api.Digest{Sum().Commit(x), {}, {1}}, []api.Sealed{x, {}, x}
	for k, s := range []Scheme{nil, pointer, function, value} {
		for n := range marks {
			if got := Opened(s, marks[:n+1], l); !slices.Equal(got, []int{-1, -1, -1}[:n+1]) {
				t.Errorf("by the none %d they are %v", k, got)
			}
		}
	}
	if got := Opened(&behind{bid: 7}, marks, []api.Sealed{{}, x}); !slices.Equal(got, []int{1, 1, 1}) {
		t.Errorf("by one that there is they are %v", got)
	}
}

// P19.3: a scheme that panics says of nothing that it opens; what it says of others counts.
func TestOpenedByOneThatPanics(t *testing.T) {
	for _, what := range []any{"text", 7, errors.New("error"), api.ErrSeal, nil} {
		at := byFunc(func(d api.Digest, x api.Sealed) bool {
			if x.Round == int(d[0]) {
				panic(what)
			}
			return x.Carrier == int(d[0])
		})
		l := []api.Sealed{{Round: 1, Carrier: 1}, {Round: 2, Carrier: 2}, {Round: 3, Carrier: 1}, {Round: 4, Carrier: 2}, {Round: 1, Carrier: 9}}
		if got := Opened(at, []api.Digest{{1}, {2}, {3}, {9}, {1}}, l); !slices.Equal(got, []int{2, 3, -1, 4, 2}) {
			t.Errorf("by one that panics with %v they are %v", what, got)
		}
	}
}

// P19.3: what is handed in is not changed, and what is answered is the caller's.
func TestOpenedLists(t *testing.T) {
	s := Sum()
	x, y := api.Sealed{Round: 1, Carrier: 2, Bid: 3, Nonce: 4}, api.Sealed{Round: 2}
	marks, l := []api.Digest{s.Commit(x), s.Commit(y), {}, {9}}, []api.Sealed{y, x, y, {}}
	wereMarks, were := slices.Clone(marks), slices.Clone(l)
	first := Opened(s, marks[:3], l[:3])
	for k := range first {
		first[k] = 99
	}
	_ = append(first, 99)
	if got := Opened(s, marks[:3], l[:3]); !slices.Equal(got, []int{1, 0, -1}) {
		t.Errorf("they are %v", got)
	}
	if !slices.Equal(marks, wereMarks) || !slices.Equal(l, were) {
		t.Errorf("what was handed in is %x and %v now", marks, l)
	}
	marks[0], l[0] = marks[1], x
	if got := Opened(s, marks[:3], l[:3]); !slices.Equal(got, []int{2, 2, -1}) {
		t.Errorf("of others they are %v", got)
	}
}

// P19.4: unlike things have unlike bytes, and by them unlike sums, on all of many things and each that is close by one.
func TestUnlike(t *testing.T) {
	s, r := Sum(), rand.New(rand.NewSource(195))
	l := things()
	for range 500 {
		l = append(l, chance(r))
	}
	for _, x := range []api.Sealed{{}, {Round: 3, Carrier: 1, Bid: 7, Nonce: 9}, chance(r)} {
		l = append(l, neighbours(x)...)
	}
	bytes, sums := map[string]api.Sealed{}, map[api.Digest]api.Sealed{}
	for _, x := range l {
		b, d := Bytes(x), s.Commit(x)
		if was, has := bytes[b]; has && was != x {
			t.Errorf("%v and %v have the bytes %q", was, x, b)
		}
		if was, has := sums[d]; has && was != x {
			t.Errorf("%v and %v have the sum %x", was, x, d)
		}
		bytes[b], sums[d] = x, x
	}
}

// P19.4: what opens a sum is of the same sum: a thing opens another one's commitment just if their sums are the same.
func TestOpensBySum(t *testing.T) {
	s, r := Sum(), rand.New(rand.NewSource(196))
	for range 3000 {
		x, y := few(r), few(r)
		d := s.Commit(x)
		if s.Opens(d, y) != (s.Commit(y) == d) || s.Opens(d, y) != (x == y) {
			t.Errorf("that %v opens the commitment of %v is %v", y, x, s.Opens(d, y))
		}
	}
}
