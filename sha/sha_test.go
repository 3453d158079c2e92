package sha

import (
	"crypto/sha256"
	"encoding/hex"
	"math"
	"math/big"
	"math/rand"
	"strings"
	"testing"

	"consign/api"
)

// library is the sum as the library of the language makes it.
func library(text string) api.Digest { return sha256.Sum256([]byte(text)) }

func digits(d api.Digest) string { return hex.EncodeToString(d[:]) }

// primes are the first n.
func primes(n int) []int64 {
	var l []int64
	for k := int64(2); len(l) < n; k++ {
		if big.NewInt(k).ProbablyPrime(0) {
			l = append(l, k)
		}
	}
	return l
}

// fraction is the first 32 bits of the fraction of a root of n: the greatest number of 2^-32 whose power is not above n.
func fraction(n int64, root int64) uint32 {
	bound := new(big.Int).Lsh(big.NewInt(n), uint(32*root))
	low, high := big.NewInt(0), new(big.Int).Lsh(big.NewInt(n), 32)
	for low.Cmp(high) < 0 {
		mid := new(big.Int).Add(low, high)
		mid.Add(mid, big.NewInt(1)).Rsh(mid, 1)
		if new(big.Int).Exp(mid, big.NewInt(root), nil).Cmp(bound) <= 0 {
			low = mid
		} else {
			high = mid.Sub(mid, big.NewInt(1))
		}
	}
	return uint32(low.Uint64() & math.MaxUint32)
}

// words makes sums just as the document's words have it, one step behind the other.
type words struct{ h, k []uint32 }

func newWords() words {
	var w words
	for _, p := range primes(8) {
		w.h = append(w.h, fraction(p, 2))
	}
	for _, p := range primes(64) {
		w.k = append(w.k, fraction(p, 3))
	}
	return w
}

// right turns a word bit by bit.
func right(x uint32, n int) uint32 {
	for range n {
		x = x/2 + x%2*(1<<31)
	}
	return x
}

// padded is the text, padded.
func padded(text string) string {
	text, length := text+"\x80", len(text)
	for (len(text)+8)%64 != 0 {
		text += "\x00"
	}
	for shift := 56; shift >= 0; shift -= 8 {
		text += string([]byte{byte(8 * length >> shift)})
	}
	return text
}

func (w words) sum(text string) api.Digest {
	s := append([]uint32(nil), w.h...)
	for text = padded(text); text != ""; text = text[64:] {
		var by []uint32
		for t := range 64 {
			if t < 16 {
				by = append(by, uint32(text[4*t])<<24+uint32(text[4*t+1])<<16+uint32(text[4*t+2])<<8+uint32(text[4*t+3]))
				continue
			}
			s0 := right(by[t-15], 7) ^ right(by[t-15], 18) ^ by[t-15]/8
			s1 := right(by[t-2], 17) ^ right(by[t-2], 19) ^ by[t-2]/1024
			by = append(by, s1+by[t-7]+s0+by[t-16])
		}
		l := append([]uint32(nil), s...)
		for t := range 64 {
			a, b, c, e, f, g := l[0], l[1], l[2], l[4], l[5], l[6]
			t1 := l[7] + (right(e, 6) ^ right(e, 11) ^ right(e, 25)) + ((e & f) ^ ((^e) & g)) + w.k[t] + by[t]
			t2 := (right(a, 2) ^ right(a, 13) ^ right(a, 22)) + ((a & b) ^ (a & c) ^ (b & c))
			copy(l[1:], l[:7])
			l[4] += t1
			l[0] = t1 + t2
		}
		for k := range s {
			s[k] += l[k]
		}
	}
	var d api.Digest
	for k, x := range s {
		d[4*k], d[4*k+1], d[4*k+2], d[4*k+3] = byte(x>>24), byte(x>>16), byte(x>>8), byte(x)
	}
	return d
}

// fillings are texts of n bytes, as what they are of may be unlike.
func fillings(n int, r *rand.Rand) []string {
	chance, rising := make([]byte, n), make([]byte, n)
	r.Read(chance)
	for k := range rising {
		rising[k] = byte(k + 1)
	}
	l := []string{string(chance), string(rising)}
	for _, c := range []string{"\x00", "\x01", "a", "\x7f", "\x80", "\xff"} {
		l = append(l, strings.Repeat(c, n))
	}
	return l
}

// P15.1: the sums that the document tells, and others that are well known.
func TestExamples(t *testing.T) {
	for _, x := range []struct{ text, sum string }{
		{"", "e3b0c44298fc1c149afbf4c8996fb92427ae41e4649b934ca495991b7852b855"},
		{"abc", "ba7816bf8f01cfea414140de5dae2223b00361a396177a9cb410ff61f20015ad"},
		{"abcdbcdecdefdefgefghfghighijhijkijkljklmklmnlmnomnopnopq", "248d6a61d20638b8e5c026930c3e6039a33ce45964ff2167f6ecedd419db06c1"},
		{"abcdefghbcdefghicdefghijdefghijkefghijklfghijklmghijklmnhijklmnoijklmnopjklmnopqklmnopqrlmnopqrsmnopqrstnopqrstu", "cf5b16a778af8380036ce59e7b0492370b249b11e8f07a51afac45037afee9d1"},
		{"The quick brown fox jumps over the lazy dog", "d7a8fbb307d7809469ca9abcb0082e4f8d5651e46d3cdb762d02d0bf37c9e592"},
		{"\xbd", "68325720aabd7c82f30f554b313d0570c95accbb7dc4b5aae11204c08ffe732b"},
		{strings.Repeat("\x00", 64), "f5a5fd42d16a20302798ef6ed309979b43003d2320d9f0e8ea9831a92759fb4b"},
		{strings.Repeat("a", 1000000), "cdc76e5c9914fb9281a1c7e284d73e67f1809a48a497200e046d39ccc7112cd0"},
	} {
		if got := digits(Sum(x.text)); got != x.sum {
			t.Errorf("of %d bytes it is %s; it should be %s", len(x.text), got, x.sum)
		}
	}
}

// P15.1: the constants are those that the document's words make, and that it names.
func TestConstants(t *testing.T) {
	w := newWords()
	for k, h := range w.h {
		if first[k] != h {
			t.Errorf("H%d is %x; it should be %x", k, first[k], h)
		}
	}
	for k, c := range w.k {
		if constants[k] != c {
			t.Errorf("K%d is %x; it should be %x", k, constants[k], c)
		}
	}
	if len(first) != 8 || len(constants) != 64 {
		t.Errorf("there are %d and %d", len(first), len(constants))
	}
	if w.h[0] != 0x6a09e667 || w.h[7] != 0x5be0cd19 || w.k[0] != 0x428a2f98 || w.k[1] != 0x71374491 || w.k[63] != 0xc67178f2 {
		t.Errorf("the words make %x and %x", w.h, w.k)
	}
}

// P15.1: texts of all lengths up to some blocks, whatever they are of, against the document's words, and against the library.
func TestEachLength(t *testing.T) {
	w, r := newWords(), rand.New(rand.NewSource(15))
	for n := range 330 {
		for _, text := range fillings(n, r) {
			if got, should := digits(Sum(text)), digits(w.sum(text)); got != should || got != digits(library(text)) {
				t.Errorf("of %q it is %s; it should be %s, and the library says %s", text, got, should, digits(library(text)))
			}
		}
	}
}

// P15.1: longer texts, at chance, and such as end close by a block's end.
func TestLongTexts(t *testing.T) {
	r := rand.New(rand.NewSource(151))
	for _, n := range []int{511, 512, 1000, 4095, 4096, 8191, 8192, 8193, 65535, 65536, 65537, 1 << 20} {
		for far := -10; far <= 10; far++ {
			text := fillings(n+far, r)[0]
			if Sum(text) != library(text) {
				t.Errorf("of %d bytes it is %s; it should be %s", n+far, digits(Sum(text)), digits(library(text)))
			}
		}
	}
}

// P15.1: each byte, and each bit of it, counts, wherever it stands.
func TestEachBit(t *testing.T) {
	text := fillings(130, rand.New(rand.NewSource(152)))[0]
	seen := map[api.Digest]int{Sum(text): -1}
	for at := range 8 * len(text) {
		l := []byte(text)
		l[at/8] ^= 1 << (at % 8)
		d := Sum(string(l))
		if was, has := seen[d]; has {
			t.Errorf("with the bit %d it is that with the bit %d", at, was)
		}
		if d != library(string(l)) {
			t.Errorf("with the bit %d it is %s", at, digits(d))
		}
		seen[d] = at
	}
}

// P15.1: a text that ends as the padding of another one does is not that one.
func TestTextsLikePadding(t *testing.T) {
	seen := map[api.Digest]string{}
	for n := range 130 {
		text := strings.Repeat("x", n)
		for _, like := range []string{text, text + "\x80", text + "\x80\x00", padded(text)} {
			d := Sum(like)
			if was, has := seen[d]; has && was != like {
				t.Errorf("of %q it is that of %q", like, was)
			}
			if d != library(like) {
				t.Errorf("of %q it is %s", like, digits(d))
			}
			seen[d] = like
		}
	}
}

// P15.1: padding of texts of any length, also such as no test can write: as many zeros as it takes, and 8 times the length by its lowest 64 bits.
func TestPadding(t *testing.T) {
	for n := range 300 {
		text := strings.Repeat("x", n)
		if got := padding(uint64(n)); text+got != padded(text) {
			t.Errorf("of %d bytes it is %x; it should be %x", n, got, padded(text)[n:])
		}
	}
	for _, n := range []uint64{1<<29 - 1, 1 << 29, 1<<32 + 3, 1<<61 - 1, 1 << 61, 1<<61 + 9, 5<<61 + 55, 5<<61 + 56, math.MaxUint64 - 8, math.MaxUint64} {
		bits := new(big.Int).Mul(new(big.Int).SetUint64(n), big.NewInt(8))
		bits.And(bits, new(big.Int).SetUint64(math.MaxUint64))
		zeros := 0
		for (n%64+1+uint64(zeros)+8)%64 != 0 {
			zeros++
		}
		should := "\x80" + strings.Repeat("\x00", zeros) + string(bits.FillBytes(make([]byte, 8)))
		if got := padding(n); got != should {
			t.Errorf("of %d bytes it is %x; it should be %x", n, got, should)
		}
	}
}

// P15.1, P15.3: a text whose bits are more than 32 bits count.
func TestGreatText(t *testing.T) {
	text := fillings(1<<20, rand.New(rand.NewSource(153)))[0]
	h, should := New(), sha256.New()
	for range 1 << 9 {
		h.Write(text)
		should.Write([]byte(text))
	}
	for _, more := range []string{"", "abc"} {
		h.Write(more)
		should.Write([]byte(more))
		if got := h.Digest(); got != api.Digest(should.Sum(nil)) {
			t.Errorf("with %q behind it is %s; it should be %x", more, digits(got), should.Sum(nil))
		}
	}
}

// P15.2: a hash is of no text at first, and each one is of its own.
func TestNew(t *testing.T) {
	a, b := New(), New()
	if a == nil || a == b {
		t.Fatalf("they are %p and %p", a, b)
	}
	a.Write("abc")
	if c := New(); b.Digest() != library("") || c.Digest() != library("") || a.Digest() != library("abc") {
		t.Errorf("they are %s, %s and %s", digits(a.Digest()), digits(b.Digest()), digits(c.Digest()))
	}
	if Sum("abc") != a.Digest() || Sum("") != b.Digest() {
		t.Error("a sum hangs on what was written elsewhere")
	}
}

// P15.2: behind each byte that is written the digest is that of all so far: however often it is asked, it changes nothing, nor does what becomes of its answer, nor no text more.
func TestDigestChangesNothing(t *testing.T) {
	text := fillings(400, rand.New(rand.NewSource(154)))[0]
	h := New()
	for n := range len(text) {
		for range 3 {
			d := h.Digest()
			if d != library(text[:n]) {
				t.Fatalf("of %d bytes it is %s; it should be %s", n, digits(d), digits(library(text[:n])))
			}
			d[0]++
			d[31]++
			h.Write("")
		}
		h.Write(text[n : n+1])
	}
	if h.Digest() != library(text) {
		t.Errorf("of all it is %s", digits(h.Digest()))
	}
}

// P15.2: a copy is of the same text, and goes its own way; so does one of a copy, whichever is written to first.
func TestCopy(t *testing.T) {
	text := fillings(200, rand.New(rand.NewSource(155)))[0]
	for n := range len(text) {
		a := New()
		a.Write(text[:n])
		b := a.Copy()
		c := b.Copy()
		if a == b || b == c || b.Digest() != library(text[:n]) || c.Digest() != library(text[:n]) {
			t.Errorf("of %d bytes copies are %s and %s", n, digits(b.Digest()), digits(c.Digest()))
		}
		written := []struct {
			h    *Hash
			more string
		}{{a, "one"}, {b, strings.Repeat("another one", 20)}, {c, ""}}
		if n%2 == 1 {
			written[0], written[1] = written[1], written[0]
		}
		for k, x := range written {
			x.h.Write(x.more)
			for j, y := range written {
				should := text[:n]
				if j <= k {
					should += y.more
				}
				if y.h.Digest() != library(should) {
					t.Errorf("of %d bytes, behind %d of them written to, the hash %d is %s", n, k+1, j, digits(y.h.Digest()))
				}
			}
		}
		if d := a.Copy(); d.Digest() != library(text[:n]+"one") {
			t.Errorf("of %d bytes a copy later is %s", n, digits(d.Digest()))
		}
	}
}

// P15.2: of a hash that is none: nothing is written, the digest is of zeros, and so is what is behind; a copy is none.
func TestNone(t *testing.T) {
	var h *Hash
	for _, text := range []string{"", "abc", strings.Repeat("a", 1000)} {
		h.Write(text)
		if d := h.Digest(); d != (api.Digest{}) {
			t.Errorf("behind %d bytes it is %s", len(text), digits(d))
		}
		if c := h.Copy(); c != nil {
			t.Errorf("behind %d bytes a copy is %v", len(text), c)
		}
	}
	if New().Digest() != library("") {
		t.Error("a hash was written to by none")
	}
}

// P15.3: all two, and three, pieces of a text of some blocks.
func TestTwoAndThreePieces(t *testing.T) {
	text := fillings(150, rand.New(rand.NewSource(156)))[0]
	for i := range len(text) + 1 {
		for j := i; j <= len(text); j++ {
			h := New()
			for _, piece := range []string{text[:i], text[i:j], text[j:]} {
				h.Write(piece)
			}
			if h.Digest() != Sum(text) || h.Digest() != library(text) {
				t.Fatalf("parted at %d and %d it is %s", i, j, digits(h.Digest()))
			}
		}
	}
}

// P15.3: pieces of one length each, from a byte to more than some blocks, of texts of many lengths.
func TestPiecesOfOneLength(t *testing.T) {
	text := fillings(1000, rand.New(rand.NewSource(157)))[0]
	for size := 1; size <= 300; size++ {
		for _, n := range []int{1, 55, 56, 63, 64, 65, 119, 120, 127, 128, 129, 640, 999, 1000} {
			h := New()
			for at := 0; at < n; at += size {
				h.Write(text[at:min(at+size, n)])
			}
			if h.Digest() != Sum(text[:n]) || h.Digest() != library(text[:n]) {
				t.Fatalf("of %d bytes, by %d, it is %s", n, size, digits(h.Digest()))
			}
		}
	}
}

// P15.3, P15.2: pieces at chance, none and long ones among them, with digests asked and copies taken between them; the copies are written to the end too.
func TestPiecesAtChance(t *testing.T) {
	r := rand.New(rand.NewSource(158))
	for range 300 {
		text := fillings(r.Intn(3000), r)[0]
		hashes, at := []*Hash{New()}, 0
		for at < len(text) {
			n := min(r.Intn(1+r.Intn(1+r.Intn(500))), len(text)-at)
			for _, h := range hashes {
				h.Write(text[at : at+n])
			}
			at += n
			if r.Intn(5) == 0 && len(hashes) < 4 {
				hashes = append(hashes, hashes[r.Intn(len(hashes))].Copy())
			}
			if d := hashes[0].Digest(); r.Intn(3) == 0 && d != library(text[:at]) {
				t.Fatalf("of the first %d bytes it is %s", at, digits(d))
			}
		}
		for k, h := range hashes {
			if h.Digest() != library(text) || h.Digest() != Sum(text) {
				t.Fatalf("of %d bytes, of the hash %d it is %s", len(text), k, digits(h.Digest()))
			}
		}
	}
}
