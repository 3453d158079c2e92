package frame

import (
	"fmt"
	"math"
	"math/rand"
	"slices"
	"strings"
	"testing"

	"consign/api"
)

// wrongKinds are those of which there is no frame; the lowest byte of some is one that a kind could have.
var wrongKinds = []int{-1, -2, -7, -128, -255, -256, -257, -512, 256, 257, 258, 263, 511, 512, 65535, 65536, 65543, math.MinInt32, math.MaxInt32, 1<<32 - 1, 1 << 32, 1<<32 + 7, math.MinInt, math.MinInt + 7, math.MaxInt, math.MaxInt - 1}

// lengths are those of bodies: at both ends, and where a byte goes over into the other.
var lengths = []int{0, 1, 2, 3, 4, 127, 128, 254, 255, 256, 257, 258, 300, 511, 512, 513, 4095, 32767, 32768, 65279, 65280, 65281, 65534, 65535}

// tooLong are those of which there is no body; the lowest 2 bytes of some are little.
var tooLong = []int{65536, 65537, 65538, 65791, 65792, 131071, 131072, 131074, 1<<24 - 1, 1 << 24, 1<<24 + 2}

// chance is n bytes at chance.
func chance(n int, r *rand.Rand) string {
	l := make([]byte, n)
	r.Read(l)
	return string(l)
}

// lay is for what is a frame.
func lay(t *testing.T, kind int, body string) string {
	t.Helper()
	s, e := Lay(kind, body)
	if e != api.OK {
		t.Fatalf("Lay of %d and %d bytes: %v", kind, len(body), e)
	}
	return s
}

// split is what Split answers.
type split struct {
	kind       int
	body, rest string
	e          api.Errno
}

// parse is what Parse answers.
type parse struct {
	kind int
	body string
	e    api.Errno
}

// count is what Count answers.
type count struct {
	n int
	e api.Errno
}

// String tells it without all of its bytes.
func (s split) String() string {
	return fmt.Sprintf("%d, %.20q, %.20q, %v", s.kind, s.body, s.rest, s.e)
}

func (p parse) String() string { return fmt.Sprintf("%d, %.20q, %v", p.kind, p.body, p.e) }

func splitOf(s string) split {
	kind, body, rest, e := Split(s)
	return split{kind, body, rest, e}
}

func parseOf(s string) parse {
	kind, body, e := Parse(s)
	return parse{kind, body, e}
}

func countOf(s string) count {
	n, e := Count(s)
	return count{n, e}
}

// splitByWords is what Split should answer, by the document's words.
func splitByWords(s string) split {
	if len(s) < 3 {
		return split{e: api.ErrShort}
	}
	said := 256*int(s[1]) + int(s[2])
	behind := s[3:]
	if len(behind) < said {
		return split{e: api.ErrShort}
	}
	return split{kind: int(s[0]), body: behind[:said], rest: behind[said:]}
}

func parseByWords(s string) parse {
	switch p := splitByWords(s); {
	case p.e != api.OK:
		return parse{e: api.ErrShort}
	case len(p.rest) > 0:
		return parse{e: api.ErrForm}
	default:
		return parse{kind: p.kind, body: p.body}
	}
}

func countByWords(s string) count {
	n := 0
	for len(s) > 0 {
		p := splitByWords(s)
		if p.e != api.OK {
			return count{e: api.ErrShort}
		}
		n, s = n+1, p.rest
	}
	return count{n: n}
}

// asWords holds all that is asked of a text against the document's words.
func asWords(t *testing.T, s string) {
	t.Helper()
	if got, should := splitOf(s), splitByWords(s); got != should {
		t.Errorf("Split of %d bytes %.20q: %v; it should be %v", len(s), s, got, should)
	}
	if got, should := parseOf(s), parseByWords(s); got != should {
		t.Errorf("Parse of %d bytes %.20q: %v; it should be %v", len(s), s, got, should)
	}
	if got, should := countOf(s), countByWords(s); got != should {
		t.Errorf("Count of %d bytes %.20q: %v; it should be %v", len(s), s, got, should)
	}
}

// P17.1 to P17.3: what the document tells.
func TestExamples(t *testing.T) {
	s, e := Lay(7, "ab")
	if s != "\x07\x00\x02\x61\x62" || e != api.OK {
		t.Fatalf("it is %q, %v", s, e)
	}
	if p := parseOf(s); p != (parse{7, "ab", api.OK}) {
		t.Errorf("it is %v", p)
	}
	if p := parseOf(s[:4]); p != (parse{e: api.ErrShort}) {
		t.Errorf("of the first 4 it is %v", p)
	}
	if p := parseOf(s + "\x00"); p != (parse{e: api.ErrForm}) {
		t.Errorf("of these and 00 it is %v", p)
	}
	if p := splitOf(s + "\x00"); p != (split{7, "ab", "\x00", api.OK}) {
		t.Errorf("it is %v", p)
	}
	if c := countOf(s + s); c != (count{n: 2}) {
		t.Errorf("of these twice it is %v", c)
	}
	if c := countOf(s + "\x00"); c != (count{e: api.ErrShort}) {
		t.Errorf("of these and 00 it is %v", c)
	}
	if c := countOf(""); c != (count{}) {
		t.Errorf("of none it is %v", c)
	}
	for _, kind := range []int{256, -1} {
		if s, e := Lay(kind, ""); s != "" || e != api.ErrArg {
			t.Errorf("of %d it is %q, %v", kind, s, e)
		}
	}
	if s, e := Lay(1, strings.Repeat("x", 65536)); s != "" || e != api.ErrOver {
		t.Errorf("it is %d bytes, %v", len(s), e)
	}
}

// P17.1, P17.4: a frame of each kind, and of each length, is the kind, the length, the higher byte first, and the body; and it is parsed back.
func TestLay(t *testing.T) {
	r := rand.New(rand.NewSource(17))
	for kind := range 256 {
		for _, n := range lengths {
			body := chance(n, r)
			s, e := Lay(kind, body)
			if should := string([]byte{byte(kind), byte(n / 256), byte(n % 256)}) + body; e != api.OK || s != should {
				t.Fatalf("Lay of %d and %d bytes: %d bytes %.20q, %v", kind, n, len(s), s, e)
			}
			if p := parseOf(s); p != (parse{kind, body, api.OK}) {
				t.Fatalf("Parse of %d and %d bytes: %v", kind, n, p)
			}
			if p := splitOf(s); p != (split{kind, body, "", api.OK}) {
				t.Fatalf("Split of %d and %d bytes: %v", kind, n, p)
			}
		}
	}
}

// P17.1, P17.4: a frame of each length that there is.
func TestLayLengths(t *testing.T) {
	all := chance(65535, rand.New(rand.NewSource(171)))
	for n := range len(all) + 1 {
		kind, body := n%256, all[:n]
		s := lay(t, kind, body)
		if s[:3] != string([]byte{byte(kind), byte(n / 256), byte(n % 256)}) || s[3:] != body {
			t.Fatalf("Lay of %d and %d bytes: %d bytes %.20q", kind, n, len(s), s)
		}
		if p := parseOf(s); p != (parse{kind, body, api.OK}) {
			t.Fatalf("Parse of %d and %d bytes: %v", kind, n, p)
		}
	}
}

// P17.1: a kind that is not from 0 to 255 is told, whatever the body; also ahead of one that is too long.
func TestLayArg(t *testing.T) {
	bodies := []string{"", "ab", "\x00"}
	for _, n := range append(slices.Clone(tooLong), 65535) {
		bodies = append(bodies, strings.Repeat("x", n))
	}
	for _, kind := range wrongKinds {
		for _, body := range bodies {
			if s, e := Lay(kind, body); s != "" || e != api.ErrArg {
				t.Errorf("Lay of %d and %d bytes: %d bytes, %v", kind, len(body), len(s), e)
			}
		}
	}
}

// P17.1: of a body of more than 65535 bytes there is none, of all kinds.
func TestLayOver(t *testing.T) {
	for _, n := range tooLong {
		body := strings.Repeat("x", n)
		for kind := range 256 {
			if s, e := Lay(kind, body); s != "" || e != api.ErrOver {
				t.Errorf("Lay of %d and %d bytes: %d bytes, %v", kind, n, len(s), e)
			}
		}
	}
}

// P17.2, P17.3: all rows of a few bytes.
func TestAllRows(t *testing.T) {
	rows := []string{""}
	for at := 0; at < len(rows); at++ {
		asWords(t, rows[at])
		if len(rows[at]) < 8 {
			for _, c := range []string{"\x00", "\x01", "\x02", "\xff"} {
				rows = append(rows, rows[at]+c)
			}
		}
	}
}

// P17.2, P17.3: texts at chance, and such as say how long they are, or nearly so.
func TestRowsAtChance(t *testing.T) {
	r := rand.New(rand.NewSource(172))
	for range 20000 {
		asWords(t, chance(r.Intn(12), r))
		n := r.Intn(1 + r.Intn(1200))
		s := string([]byte{byte(r.Intn(256)), byte(n / 256), byte(n % 256)}) + chance(max(0, n+r.Intn(9)-4), r)
		asWords(t, s)
		asWords(t, s+chance(r.Intn(4), r))
	}
}

// P17.2, P17.4: a frame that is cut, wherever, is too short, and begins with none; nothing else is told.
func TestCut(t *testing.T) {
	r := rand.New(rand.NewSource(173))
	for _, n := range []int{0, 1, 2, 3, 255, 256, 257, 1000, 65535} {
		s := lay(t, r.Intn(256), chance(n, r))
		for cut := range len(s) {
			if p := parseOf(s[:cut]); p != (parse{e: api.ErrShort}) {
				t.Fatalf("Parse of %d bytes, cut at %d: %v", n, cut, p)
			}
			if p := splitOf(s[:cut]); p != (split{e: api.ErrShort}) {
				t.Fatalf("Split of %d bytes, cut at %d: %v", n, cut, p)
			}
			should := count{e: api.ErrShort}
			if cut == 0 {
				should = count{}
			}
			if c := countOf(s[:cut]); c != should {
				t.Fatalf("Count of %d bytes, cut at %d: %v", n, cut, c)
			}
		}
	}
}

// P17.2, P17.4: a frame with something behind it is none, be that a byte, whichever, or a frame; it begins with it still.
func TestSomethingBehind(t *testing.T) {
	r := rand.New(rand.NewSource(174))
	behind := []string{"\x00\x00\x00", "\x07\x00\x02ab", "\x07\x00\x02a", chance(70000, r)}
	for b := range 256 {
		behind = append(behind, string([]byte{byte(b)}))
	}
	for _, n := range lengths {
		kind, body := r.Intn(256), chance(n, r)
		s := lay(t, kind, body)
		for _, more := range behind {
			if p := parseOf(s + more); p != (parse{e: api.ErrForm}) {
				t.Fatalf("Parse of %d bytes, and %.5q: %v", n, more, p)
			}
			if p := splitOf(s + more); p != (split{kind, body, more, api.OK}) {
				t.Fatalf("Split of %d bytes, and %.5q: %v", n, more, p)
			}
		}
	}
}

// P17.4: only what is laid is parsed: whatever is, is laid again just so; and so is what Split takes, with its rest behind it.
func TestOnlyWhatIsLaid(t *testing.T) {
	r := rand.New(rand.NewSource(175))
	parsed := 0
	for range 200000 {
		s := "\x05\x00" + string([]byte{byte(r.Intn(8))}) + chance(r.Intn(10), r)
		if kind, body, e := Parse(s); e == api.OK {
			parsed++
			if again := lay(t, kind, body); again != s {
				t.Fatalf("%q is parsed, and laid it is %q", s, again)
			}
		}
		if kind, body, rest, e := Split(s); e == api.OK && lay(t, kind, body)+rest != s {
			t.Fatalf("%q is split into %d, %q and %q", s, kind, body, rest)
		}
	}
	if parsed < 1000 {
		t.Errorf("only %d were parsed", parsed)
	}
}

// P17.4: no two kinds and bodies have the same frame, also where one body begins with the other, or holds its frame.
func TestNoTwoAlike(t *testing.T) {
	bodies := []string{"", "a", "b", "ab", "\x00", "\x00\x00", "\x00\x00\x00", "\x01", "\x01\x00", "\x00\x01a", strings.Repeat("\x00", 255), strings.Repeat("\x00", 256), strings.Repeat("\x00", 65535)}
	seen := map[string]bool{}
	for kind := range 256 {
		for _, body := range bodies {
			s := lay(t, kind, body)
			if seen[s] {
				t.Errorf("the frame of %d and %.5q is another one's too", kind, body)
			}
			seen[s] = true
		}
	}
}

// frame is what was laid.
type frame struct {
	kind int
	body string
}

// laidAtChance are frames, and the text of them one behind the other.
func laidAtChance(t *testing.T, r *rand.Rand) (l []frame, s string) {
	t.Helper()
	for range r.Intn(12) {
		f := frame{r.Intn(256), chance(r.Intn(1+r.Intn(600)), r)}
		l = append(l, f)
		s += lay(t, f.kind, f.body)
	}
	return l, s
}

// P17.3, P17.4: frames that are laid one behind the other are split back, one by one, and counted.
func TestSplitBack(t *testing.T) {
	r := rand.New(rand.NewSource(176))
	for range 3000 {
		l, s := laidAtChance(t, r)
		for k := range len(l) + 1 {
			if c := countOf(s); c != (count{n: len(l) - k}) {
				t.Fatalf("behind %d of %d frames there are %v", k, len(l), c)
			}
			if k == len(l) {
				break
			}
			kind, body, rest, e := Split(s)
			if (frame{kind, body}) != l[k] || e != api.OK {
				t.Fatalf("the frame %d of %d is %d, %.20q, %v", k, len(l), kind, body, e)
			}
			s = rest
		}
		if s != "" {
			t.Fatalf("behind %d frames there is %.20q", len(l), s)
		}
	}
}

// P17.3: frames of which the last one is cut, wherever, or behind which something is left, are not counted at all.
func TestCountLeft(t *testing.T) {
	r := rand.New(rand.NewSource(177))
	for range 300 {
		l, s := laidAtChance(t, r)
		ends, at := map[int]int{0: 0}, 0
		for k, f := range l {
			at += 3 + len(f.body)
			ends[at] = k + 1
		}
		for cut := range len(s) + 1 {
			n, whole := ends[cut]
			should := count{n: n}
			if !whole {
				should = count{e: api.ErrShort}
			}
			if c := countOf(s[:cut]); c != should {
				t.Fatalf("of %d frames, cut at %d, there are %v; it should be %v", len(l), cut, c, should)
			}
		}
		for _, more := range []string{"\x00", "\x00\x00", "\x00\x00\x01", "\xff\xff\xffabc"} {
			if c := countOf(s + more); c != (count{e: api.ErrShort}) {
				t.Fatalf("of %d frames, and %q, there are %v", len(l), more, c)
			}
		}
	}
}

// P17.3: many frames, the least ones and the greatest ones.
func TestCountMany(t *testing.T) {
	const many = 3 << 20
	least := strings.Repeat("\x00", 3*many)
	if c := countOf(least); c != (count{n: many}) {
		t.Errorf("of %d there are %v", many, c)
	}
	if c := countOf(least + "\x00"); c != (count{e: api.ErrShort}) {
		t.Errorf("of %d, and a byte, there are %v", many, c)
	}
	greatest := strings.Repeat(lay(t, 255, strings.Repeat("\xff", 65535)), 300)
	if c := countOf(greatest); c != (count{n: 300}) {
		t.Errorf("of 300 there are %v", c)
	}
	if c := countOf(greatest[:len(greatest)-1]); c != (count{e: api.ErrShort}) {
		t.Errorf("of 300, but a byte, there are %v", c)
	}
}

// P17.2: what is behind a frame is not bounded as a body is.
func TestSplitAheadOfMuch(t *testing.T) {
	much := strings.Repeat("much ", 1<<20)
	s := lay(t, 9, "ab") + much
	if p := splitOf(s); p != (split{9, "ab", much, api.OK}) {
		t.Errorf("it is %v", p)
	}
	if p := parseOf(s); p != (parse{e: api.ErrForm}) {
		t.Errorf("it is %v", p)
	}
}

// P17.1 to P17.4: nothing is kept from call to call: what was told stays as it is, and the same is told again.
func TestNothingKept(t *testing.T) {
	a, b := lay(t, 7, "ab"), lay(t, 8, "xyz")
	first := splitOf(a + b)
	if parseOf(b) != (parse{8, "xyz", api.OK}) || countOf(b+b+b) != (count{n: 3}) || parseOf(a[:2]) != (parse{e: api.ErrShort}) {
		t.Error("it is told otherwise")
	}
	if a != "\x07\x00\x02ab" || b != "\x08\x00\x03xyz" || first != (split{7, "ab", b, api.OK}) || splitOf(a+b) != first || lay(t, 7, "ab") != a {
		t.Errorf("they are %q, %q, %v", a, b, first)
	}
}

// P17.2, P17.3: frames come as long as they are asked for, and no further.
func TestFramesLeftEarly(t *testing.T) {
	s := strings.Repeat("\x07\x00\x02ab", 5)
	for stop := 1; stop <= 6; stop++ {
		n := 0
		for f := range frames(s) {
			if n++; f.kind != 7 || f.body != "ab" || len(f.rest) != 25-5*n {
				t.Fatalf("the frame %d is %v", n, f)
			}
			if n == stop {
				break
			}
		}
		if n != min(stop, 5) {
			t.Errorf("up to %d there are %d", stop, n)
		}
	}
}
