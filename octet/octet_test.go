package octet

import (
	"cmp"
	"encoding/binary"
	"math"
	"math/big"
	"math/rand"
	"slices"
	"strings"
	"testing"

	"consign/api"
)

// wrongWidths are those in which no number is laid.
var wrongWidths = []int{0, -1, -2, -7, -8, -9, 9, 10, 16, 64, 65, 72, 256, 257, 264, math.MinInt32, math.MaxInt32, 1<<32 + 1, 1<<32 + 8, math.MinInt, math.MinInt + 1, math.MinInt + 8, math.MaxInt, math.MaxInt - 1}

// ahead are texts behind which something may be put.
var ahead = []string{"", "a", "\x00", "\xff", "ab\x00\x80\xfe", "\xe4\xb8", "ein längerer Text", strings.Repeat("\x01\x02", 300)}

// power is 256 to the power of k.
func power(k int) *big.Int { return new(big.Int).Exp(big.NewInt(256), big.NewInt(int64(k)), nil) }

// sumOf is the number whose bytes these are, by the document's words: each byte times 256 to the power of how many come behind it.
func sumOf(l string) uint64 {
	n := new(big.Int)
	for k := range len(l) {
		n.Add(n, new(big.Int).Mul(big.NewInt(int64(l[k])), power(len(l)-1-k)))
	}
	return n.Uint64()
}

// fitting are numbers that have room in k bytes: at both ends, by each bit, and at chance.
func fitting(k int, r *rand.Rand) []uint64 {
	top := uint64(math.MaxUint64) >> (64 - 8*k)
	l := []uint64{0, 1, 2, 9, 127, 128, 254, 255, top, top - 1, top / 2, top/2 + 1, top / 256, top/256 + top%2, 0x0102030405060708 & top, 0x8877665544332211 & top, 0xff00ff00ff00ff00 & top, 0x00ff00ff00ff00ff & top}
	for bit := range 8 * k {
		l = append(l, 1<<bit, top-1<<bit)
	}
	for range 50 {
		l = append(l, r.Uint64()&top, r.Uint64()&top>>r.Intn(8*k))
	}
	return l
}

// chance is n bytes at chance.
func chance(n int, r *rand.Rand) string {
	l := make([]byte, n)
	r.Read(l)
	return string(l)
}

// put is for what has room.
func put(t *testing.T, s string, n uint64, width int) string {
	t.Helper()
	l, e := Put(s, n, width)
	if e != api.OK {
		t.Fatalf("Put(%q, %d, %d): %v", s, n, width, e)
	}
	return l
}

// putText is for texts that have room.
func putText(t *testing.T, s, text string) string {
	t.Helper()
	l, e := PutText(s, text)
	if e != api.OK {
		t.Fatalf("PutText of %d and %d bytes: %v", len(s), len(text), e)
	}
	return l
}

// P16.1 to P16.3: what the document tells.
func TestExamples(t *testing.T) {
	if s, e := Put("a", 258, 2); s != "a\x01\x02" || e != api.OK {
		t.Errorf("it is %q, %v", s, e)
	}
	if s, e := Put("", 256, 1); s != "" || e != api.ErrOver {
		t.Errorf("it is %q, %v", s, e)
	}
	if s, e := Put("", 1, 9); s != "" || e != api.ErrArg {
		t.Errorf("it is %q, %v", s, e)
	}
	if n, is := Get("\x07\x01\x02", 1, 2); n != 258 || !is {
		t.Errorf("it is %d, %v", n, is)
	}
	if n, is := Get("\x07\x01\x02", 2, 2); n != 0 || is {
		t.Errorf("it is %d, %v", n, is)
	}
	if s, e := PutText("", "xy"); s != "\x00\x02xy" || e != api.OK {
		t.Errorf("it is %q, %v", s, e)
	}
	r := Read("\x00\x02x")
	if text, left, e := r.Text(), r.Left(), r.End(); text != "" || left != 0 || e != api.ErrShort {
		t.Errorf("it is %q, %d, %v", text, left, e)
	}
}

// P16.1: a number's bytes, in each width, behind whatever is ahead, are those of the document's words, and those of the library.
func TestPut(t *testing.T) {
	r := rand.New(rand.NewSource(16))
	for width := 1; width <= 8; width++ {
		for _, n := range fitting(width, r) {
			var all [8]byte
			binary.BigEndian.PutUint64(all[:], n)
			for _, s := range ahead {
				got, e := Put(s, n, width)
				if e != api.OK || got != s+string(all[8-width:]) {
					t.Errorf("Put(%q, %d, %d): %q, %v", s, n, width, got, e)
				}
				if len(got) != len(s)+width || got[:len(s)] != s || sumOf(got[len(s):]) != n {
					t.Errorf("Put(%q, %d, %d): %q is another number", s, n, width, got)
				}
			}
		}
	}
}

// P16.1: a number has room in k bytes just if it is below 256 to the power of k.
func TestPutOver(t *testing.T) {
	r := rand.New(rand.NewSource(161))
	for width := 1; width <= 8; width++ {
		var numbers []uint64
		for k := 1; k <= 8; k++ {
			numbers = append(numbers, fitting(k, r)...)
			if k < 8 {
				numbers = append(numbers, power(k).Uint64()-1, power(k).Uint64(), power(k).Uint64()+1, 255*power(k).Uint64())
			}
		}
		for _, n := range numbers {
			should := api.OK
			if new(big.Int).SetUint64(n).Cmp(power(width)) >= 0 {
				should = api.ErrOver
			}
			for _, s := range ahead[:3] {
				got, e := Put(s, n, width)
				if e != should || e != api.OK && got != "" {
					t.Errorf("Put(%q, %d, %d): %q, %v; it should be %v", s, n, width, got, e, should)
				}
			}
		}
	}
}

// P16.1: a width that is not from 1 to 8 is told, whatever the number; also ahead of one that has no room.
func TestPutArg(t *testing.T) {
	for _, width := range wrongWidths {
		for _, n := range []uint64{0, 1, 255, 256, 1 << 32, 1 << 63, math.MaxUint64} {
			for _, s := range ahead {
				if got, e := Put(s, n, width); got != "" || e != api.ErrArg {
					t.Errorf("Put(%q, %d, %d): %q, %v", s, n, width, got, e)
				}
			}
		}
	}
}

// P16.1: Get at each place of texts, in each width, also in front of them and behind them.
func TestGet(t *testing.T) {
	r := rand.New(rand.NewSource(162))
	texts := []string{"", "\x00", "\xff", "\x00\x01", "\xff\xff\xff\xff\xff\xff\xff\xff\xff", "\x80\x00\x00\x00\x00\x00\x00\x00", "\x00\x00\x00\x00\x00\x00\x00\x01"}
	for n := range 20 {
		texts = append(texts, chance(n, r), chance(n, r))
	}
	for _, s := range texts {
		for at := -10; at <= len(s)+10; at++ {
			for width := -2; width <= 12; width++ {
				var should uint64
				there := width >= 1 && width <= 8 && at >= 0 && at+width <= len(s)
				if there {
					should = sumOf(s[at : at+width])
				}
				if n, is := Get(s, at, width); is != there || n != should {
					t.Errorf("Get(%q, %d, %d): %d, %v; it should be %d, %v", s, at, width, n, is, should, there)
				}
			}
		}
	}
}

// P16.1: Get at places, and of widths, at the ends of the numbers.
func TestGetFarOff(t *testing.T) {
	places := []int{math.MinInt, math.MinInt + 1, math.MinInt + 8, math.MinInt32, -1 << 32, 1<<32 - 1, 1 << 32, 1<<32 + 1, math.MaxInt32}
	for k := range 20 {
		places = append(places, math.MaxInt-k, -1-k)
	}
	for _, s := range ahead {
		for _, at := range places {
			for width := 1; width <= 8; width++ {
				if n, is := Get(s, at, width); n != 0 || is {
					t.Errorf("Get(%q, %d, %d): %d, %v", s, at, width, n, is)
				}
			}
			for _, width := range wrongWidths {
				if n, is := Get(s, at, width); n != 0 || is {
					t.Errorf("Get(%q, %d, %d): %d, %v", s, at, width, n, is)
				}
			}
		}
		for _, width := range wrongWidths {
			for _, at := range []int{0, 1, len(s) - 1, len(s)} {
				if n, is := Get(s, at, width); n != 0 || is {
					t.Errorf("Get(%q, %d, %d): %d, %v", s, at, width, n, is)
				}
			}
		}
	}
}

// P16.2: a text is its length in 2 bytes, and then its bytes, whatever they are.
func TestPutText(t *testing.T) {
	r := rand.New(rand.NewSource(163))
	texts := slices.Clone(ahead)
	for _, n := range []int{1, 2, 3, 127, 128, 254, 255, 256, 257, 511, 512, 4095, 32767, 32768, 65279, 65280, 65281, 65534, 65535} {
		texts = append(texts, chance(n, r), strings.Repeat("\x00", n))
	}
	for _, text := range texts {
		for _, s := range ahead {
			got, e := PutText(s, text)
			if should := s + string([]byte{byte(len(text) / 256), byte(len(text) % 256)}) + text; e != api.OK || got != should {
				t.Errorf("PutText of %d and %d bytes: %d bytes, %v", len(s), len(text), len(got), e)
			}
		}
	}
}

// P16.2: of more than 65535 bytes there is nothing, also where the length's lowest 2 bytes are little.
func TestPutTextOver(t *testing.T) {
	for _, n := range []int{65536, 65537, 65538, 65791, 65792, 131071, 131072, 131074, 1<<24 - 1, 1 << 24, 1<<24 + 2} {
		text := strings.Repeat("x", n)
		for _, s := range []string{"", "a", text} {
			if got, e := PutText(s, text); got != "" || e != api.ErrOver {
				t.Errorf("PutText of %d and %d bytes: %d bytes, %v", len(s), n, len(got), e)
			}
		}
	}
}

// P16.1, P16.2: what is ahead is not bounded as a text is.
func TestPutBehindMuch(t *testing.T) {
	s := strings.Repeat("much ", 1<<20)
	if got := put(t, s, 258, 3); got != s+"\x00\x01\x02" {
		t.Errorf("a number more makes %d bytes", len(got))
	}
	if got := putText(t, s, "xy"); got != s+"\x00\x02xy" {
		t.Errorf("a text more makes %d bytes", len(got))
	}
}

// words is a reader by the document's words: what is there still, and whether it is broken.
type words struct {
	there  string
	broken bool
}

func (w *words) num(width int) uint64 {
	if w.broken || width < 1 || width > 8 || width > len(w.there) {
		w.broken = true
		return 0
	}
	n := sumOf(w.there[:width])
	w.there = w.there[width:]
	return n
}

func (w *words) text() string {
	if w.broken || len(w.there) < 2 || len(w.there)-2 < int(sumOf(w.there[:2])) {
		w.broken = true
		return ""
	}
	behind := w.there[2+int(sumOf(w.there[:2])):]
	text := w.there[2 : len(w.there)-len(behind)]
	w.there = behind
	return text
}

func (w *words) left() int {
	if w.broken {
		return 0
	}
	return len(w.there)
}

func (w *words) end() api.Errno {
	switch {
	case w.broken:
		return api.ErrShort
	case len(w.there) > 0:
		return api.ErrForm
	}
	return api.OK
}

// asText is asked of a reader where no number is: a text.
const asText = -100

// same asks one thing of both, and then what is left, twice, as to ask changes nothing.
func same(t *testing.T, s string, r *Reader, w *words, ask int) {
	t.Helper()
	if ask == asText {
		if got, should := r.Text(), w.text(); got != should {
			t.Fatalf("of %q a text is %q; it should be %q", s, got, should)
		}
	} else if got, should := r.Num(ask), w.num(ask); got != should {
		t.Fatalf("of %q a number of %d bytes is %d; it should be %d", s, ask, got, should)
	}
	for range 2 {
		if left, e := r.Left(), r.End(); left != w.left() || e != w.end() {
			t.Fatalf("of %q, behind %d, they are %d, %v; they should be %d, %v", s, ask, left, e, w.left(), w.end())
		}
	}
}

// P16.3: all rows of a few bytes, read in all ways of a few steps.
func TestReadAll(t *testing.T) {
	asks := []int{0, 1, 2, 3, asText}
	rows := []string{""}
	for at := 0; at < len(rows); at++ {
		if len(rows[at]) < 5 {
			for _, c := range []string{"\x00", "\x01", "\x02", "\xff"} {
				rows = append(rows, rows[at]+c)
			}
		}
	}
	for _, s := range rows {
		for way := range len(asks) * len(asks) * len(asks) * len(asks) {
			r, w := Read(s), &words{there: s}
			for range 4 {
				same(t, s, r, w, asks[way%len(asks)])
				way /= len(asks)
			}
		}
	}
}

// P16.3: rows at chance, numbers of all widths and texts, read at chance; some steps ask for what is not there.
func TestReadAtChance(t *testing.T) {
	r := rand.New(rand.NewSource(164))
	for range 20000 {
		var s string
		var asks []int
		for range r.Intn(12) {
			if ask := r.Intn(9); ask > 0 {
				asks, s = append(asks, ask), s+chance(ask, r)
			} else {
				asks, s = append(asks, asText), putText(t, s, chance(r.Intn(1+r.Intn(600)), r))
			}
		}
		switch r.Intn(4) {
		case 0:
			s = s[:r.Intn(1+len(s))]
		case 1:
			s += chance(r.Intn(10), r)
		case 2:
			asks = append(asks, r.Intn(12)-1)
		}
		reader, w := Read(s), &words{there: s}
		for _, ask := range append(asks, asText, 1) {
			same(t, s, reader, w, ask)
		}
	}
}

// P16.3: a reader at its start has all of its bytes, also of none.
func TestRead(t *testing.T) {
	for _, s := range append(slices.Clone(ahead), strings.Repeat("x", 1<<20)) {
		r := Read(s)
		should := api.ErrForm
		if s == "" {
			should = api.OK
		}
		if r == nil || r.Left() != len(s) || r.End() != should {
			t.Errorf("of %d bytes they are %d, %v", len(s), r.Left(), r.End())
		}
	}
	a, b := Read("\x01\x02"), Read("\x01\x02")
	if a == b {
		t.Fatal("two readers are one")
	}
	if a.Num(1) != 1 || a.Num(2) != 0 || a.End() != api.ErrShort || b.Left() != 2 || b.Num(2) != 258 || b.End() != api.OK {
		t.Errorf("they are %d, %v and %d, %v", a.Left(), a.End(), b.Left(), b.End())
	}
}

// P16.3: whatever breaks a reader, it stays broken: also for what it could have read.
func TestBroken(t *testing.T) {
	whole := "\x00\x01\x00\x00\x00\x03abc"
	breaks := map[string]func(r *Reader) bool{
		"a text too long": func(r *Reader) bool { r.Num(3); r.Num(2); return r.Text() == "" },
		"a text's length": func(r *Reader) bool { r.Num(8); return r.Text() == "" },
		"a number":        func(r *Reader) bool { r.Num(7); return r.Num(3) == 0 },
	}
	for _, width := range wrongWidths {
		breaks["a width"+big.NewInt(int64(width)).String()] = func(r *Reader) bool { return r.Num(width) == 0 }
		breaks["later a width"+big.NewInt(int64(width)).String()] = func(r *Reader) bool { r.Num(4); return r.Num(width) == 0 }
	}
	for name, nothing := range breaks {
		r := Read(whole)
		if !nothing(r) {
			t.Errorf("%s tells something", name)
		}
		for k := range 12 {
			if r.Left() != 0 || r.End() != api.ErrShort {
				t.Errorf("%s, and %d steps more: %d, %v", name, k, r.Left(), r.End())
			}
			if k%3 == 2 && r.Text() != "" || r.Num(k) != 0 {
				t.Errorf("%s, and %d steps more: it tells something", name, k)
			}
		}
	}
}

// P16.3: a number of a wrong width breaks a reader also at its end, where nothing is left.
func TestWidthAtEnd(t *testing.T) {
	for _, width := range wrongWidths {
		for _, s := range []string{"", "\x05"} {
			r := Read(s)
			if s != "" && r.Num(1) != 5 {
				t.Fatal("the number is another one")
			}
			if e := r.End(); e != api.OK {
				t.Fatalf("at its end it is %v", e)
			}
			if n, e := r.Num(width), r.End(); n != 0 || e != api.ErrShort {
				t.Errorf("of %d bytes it is %d, %v", width, n, e)
			}
		}
	}
}

// P16.3: a text just as long as what is there, and one byte longer; the longest one; and texts of none.
func TestTextAtItsEnd(t *testing.T) {
	for _, n := range []int{0, 1, 2, 255, 256, 257, 32768, 65534, 65535} {
		text := chance(n, rand.New(rand.NewSource(int64(n))))
		s := putText(t, "", text)
		if r := Read(s); r.Text() != text || r.Left() != 0 || r.End() != api.OK {
			t.Errorf("of %d bytes they are %d, %v", n, r.Left(), r.End())
		}
		if r := Read(s + "\x00"); r.Text() != text || r.Left() != 1 || r.End() != api.ErrForm {
			t.Errorf("of %d bytes, and one, they are %d, %v", n, r.Left(), r.End())
		}
		if r := Read(s[:len(s)-1]); r.Text() != "" || r.Left() != 0 || r.End() != api.ErrShort {
			t.Errorf("of %d bytes, but one, they are %d, %v", n, r.Left(), r.End())
		}
	}
	r := Read("\x00\x00\x00\x00")
	for k := range 2 {
		if text := r.Text(); text != "" || r.Left() != 2-2*k {
			t.Errorf("they are %q, %d", text, r.Left())
		}
	}
	if e := r.End(); e != api.OK {
		t.Errorf("behind texts of none it is %v", e)
	}
}

// P16.3: of a reader that is none.
func TestNone(t *testing.T) {
	var r *Reader
	for width := -2; width <= 10; width++ {
		if n, text, left, e := r.Num(width), r.Text(), r.Left(), r.End(); n != 0 || text != "" || left != 0 || e != api.ErrNil {
			t.Errorf("they are %d, %q, %d, %v", n, text, left, e)
		}
	}
	for _, width := range wrongWidths {
		if n, e := r.Num(width), r.End(); n != 0 || e != api.ErrNil {
			t.Errorf("of %d bytes it is %d, %v", width, n, e)
		}
	}
}

// part is what was put: a number in some bytes, or a text.
type part struct {
	width int
	n     uint64
	text  string
}

// parts are some at chance, and the row of them.
func parts(t *testing.T, r *rand.Rand) (l []part, row string) {
	t.Helper()
	for range r.Intn(15) {
		p := part{width: asText, text: chance(r.Intn(1+r.Intn(300)), r)}
		if width := r.Intn(9); width > 0 {
			numbers := fitting(width, r)
			p = part{width: width, n: numbers[r.Intn(len(numbers))]}
		}
		l = append(l, p)
		row = p.behind(t, row)
	}
	return l, row
}

func (p part) behind(t *testing.T, s string) string {
	t.Helper()
	if p.width == asText {
		return putText(t, s, p.text)
	}
	return put(t, s, p.n, p.width)
}

// from asks a reader for the part, and tells whether that is what it says.
func (p part) from(r *Reader) bool {
	if p.width == asText {
		return r.Text() == p.text
	}
	return r.Num(p.width) == p.n
}

// P16.4: what was put is read again, in the same order, and nothing is left; by Get too.
func TestReadBack(t *testing.T) {
	r := rand.New(rand.NewSource(165))
	for range 3000 {
		l, row := parts(t, r)
		reader, at := Read(row), 0
		for k, p := range l {
			if !p.from(reader) {
				t.Fatalf("the part %d of %q is not %d, %q", k, row, p.n, p.text)
			}
			if n, is := Get(row, at, p.width); p.width != asText && (n != p.n || !is) {
				t.Fatalf("at %d of %q it is %d, %v; it should be %d", at, row, n, is, p.n)
			}
			at += len(p.behind(t, ""))
			if reader.Left() != len(row)-at {
				t.Fatalf("behind the part %d of %q there are %d", k, row, reader.Left())
			}
		}
		if reader.Left() != 0 || reader.End() != api.OK {
			t.Fatalf("of %q there are %d, %v", row, reader.Left(), reader.End())
		}
	}
}

// P16.4: a row that is cut, wherever, breaks its reader: all parts ahead of the cut are read, and then none.
func TestCut(t *testing.T) {
	r := rand.New(rand.NewSource(166))
	for range 300 {
		l, row := parts(t, r)
		for cut := range len(row) {
			reader, whole := Read(row[:cut]), 0
			for k, p := range l {
				whole += len(p.behind(t, ""))
				should, left, end := p, cut-whole, api.ErrForm
				switch {
				case whole > cut:
					should, left, end = part{width: p.width}, 0, api.ErrShort
				case whole == cut:
					end = api.OK
				}
				if !should.from(reader) || reader.Left() != left || reader.End() != end {
					t.Fatalf("behind the part %d of %q, cut at %d: %d, %v", k, row, cut, reader.Left(), reader.End())
				}
			}
			if e := reader.End(); e != api.ErrShort {
				t.Fatalf("%q, cut at %d: %v", row, cut, e)
			}
		}
	}
}

// P16.4: numbers in as many bytes are ordered as their bytes are.
func TestOrder(t *testing.T) {
	r := rand.New(rand.NewSource(167))
	for width := 1; width <= 8; width++ {
		l := fitting(width, r)
		for _, a := range l {
			for _, b := range l {
				if got := strings.Compare(put(t, "", a, width), put(t, "", b, width)); got != cmp.Compare(a, b) {
					t.Fatalf("in %d bytes %d to %d is %d", width, a, b, got)
				}
			}
		}
	}
}

// P16.1, P16.2, P16.4: nothing is kept from call to call: what was told stays as it is, and the same is told again.
func TestNothingKept(t *testing.T) {
	a := put(t, "a", 0x0102030405060708, 8)
	b := put(t, "a", 0x1112131415161718, 8)
	c := putText(t, a, "text")
	d := put(t, a, 255, 1)
	if a != "a\x01\x02\x03\x04\x05\x06\x07\x08" || b != "a\x11\x12\x13\x14\x15\x16\x17\x18" || c != a+"\x00\x04text" || d != a+"\xff" {
		t.Errorf("they are %q, %q, %q, %q", a, b, c, d)
	}
	r := Read(c[1:])
	n, text := r.Num(8), r.Text()
	if r.Num(1) != 0 || n != 0x0102030405060708 || text != "text" || c != a+"\x00\x04text" {
		t.Errorf("they are %x, %q of %q", n, text, c)
	}
}
