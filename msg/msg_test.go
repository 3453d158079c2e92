package msg

import (
	"encoding/binary"
	"fmt"
	"math"
	"math/rand"
	"reflect"
	"slices"
	"strings"
	"testing"

	"consign/api"
)

var kinds = []int{api.MsgAnnounce, api.MsgCommit, api.MsgCall, api.MsgOpen, api.MsgResult}

// extremes are numbers at their ends, and such as have little in their lowest bytes.
func extremes() []int {
	return []int{math.MinInt, math.MinInt + 1, math.MinInt32, -1 << 32, -65536, -256, -255, -2, 256, 257, 65535, 65536, 65537, 1<<31 - 1, 1 << 31, 1<<32 - 1, 1 << 32, 1<<32 + 1, 1<<40 + 1, 1<<56 + 1, math.MaxInt - 1, math.MaxInt}
}

// beside are numbers that are not from least to most: one beside, and those at numbers' ends.
func beside(least, most int) []int {
	l := []int{least - 1, most + 1}
	for _, n := range extremes() {
		if n < least || n > most {
			l = append(l, n)
		}
	}
	return l
}

// ends are numbers from least to most, at both ends and between.
func ends(least, most int) []int {
	l := []int{least, most}
	for _, n := range []int{least + 1, 127, 128, 255, 256, 257, 65535, 65536, 1<<24 - 1, most - 1} {
		if n > least && n < most && !slices.Contains(l, n) {
			l = append(l, n)
		}
	}
	return l
}

func request() api.Request {
	return api.Request{From: api.Place{X: 1, Y: 2}, To: api.Place{X: 300, Y: 4}, Pick: api.Window{Early: 5, Late: 70000}, Drop: api.Window{Early: 9, Late: 1 << 20}, Load: 258, Serve: 3}
}

func digest(first byte) (d api.Digest) {
	for at := range d {
		d[at] = first + byte(7*at)
	}
	return d
}

// sample is a message of that kind that may be, with no field of it 0 that may be something else.
func sample(kind int) api.Msg {
	m := api.Msg{Kind: kind, Round: 3}
	switch kind {
	case api.MsgAnnounce:
		m.Req, m.Reserve, m.Request = 2, 65536, request()
	case api.MsgCommit:
		m.Carrier, m.Digest = 5, digest(1)
	case api.MsgCall:
		m.Marks = []api.Mark{{Carrier: 1, Digest: digest(5)}, {Carrier: 4, Digest: digest(200)}, {Carrier: 6, Digest: digest(9)}}
	case api.MsgOpen:
		m.Carrier, m.Bid, m.Nonce = 1, 7, 9
	case api.MsgResult:
		m.Outcome = api.Outcome{State: api.Sold, Winner: 4, Price: 258}
	}
	return m
}

// changed is a message, and a change of it; the marks are a list of their own.
func changed(m api.Msg, change func(m *api.Msg)) api.Msg {
	m.Marks = slices.Clone(m.Marks)
	change(&m)
	return m
}

// same holds two messages against each other; lists that are empty are the same.
func same(a, b api.Msg) bool {
	if len(a.Marks) == 0 && len(b.Marks) == 0 {
		a.Marks, b.Marks = nil, nil
	}
	return reflect.DeepEqual(a, b)
}

func is(n, least, most int) bool { return least <= n && n <= most }

func placeMay(p api.Place) bool { return is(p.X, 0, 1023) && is(p.Y, 0, 1023) }

func windowMay(w api.Window) bool { return 0 <= w.Early && w.Early <= w.Late && w.Late <= 1<<20 }

func requestMay(r api.Request) bool {
	return placeMay(r.From) && placeMay(r.To) && windowMay(r.Pick) && windowMay(r.Drop) && is(r.Load, 1, 1000) && is(r.Serve, 0, 1000)
}

// mayByWords tells whether a message may be, by the document's words: only is what it has of its kind's fields.
func mayByWords(m api.Msg) bool {
	only, right := api.Msg{Kind: m.Kind, Round: m.Round}, false
	switch m.Kind {
	case 1:
		only.Req, only.Reserve, only.Request = m.Req, m.Reserve, m.Request
		right = is(m.Req, 0, 63) && is(m.Reserve, 0, 1<<24) && requestMay(m.Request)
	case 2:
		only.Carrier, only.Digest = m.Carrier, m.Digest
		right = is(m.Carrier, 0, 7)
	case 3:
		only.Marks = m.Marks
		right = true
		for at, mark := range m.Marks {
			right = right && is(mark.Carrier, 0, 7) && (at == 0 || m.Marks[at-1].Carrier < mark.Carrier)
		}
	case 4:
		only.Carrier, only.Bid, only.Nonce = m.Carrier, m.Bid, m.Nonce
		right = is(m.Carrier, 0, 7) && m.Bid <= 1<<32
	case 5:
		only.Outcome = m.Outcome
		o := m.Outcome
		right = (o.State == 2 || o.State == 4) && is(o.Winner, 0, 7) && o.Price <= 1<<24 || o.State == 3 && o.Winner == -1 && o.Price == 0
	}
	return right && is(m.Round, 0, 15) && same(m, only)
}

// bytesByWords are the bytes of a message that may be, or of one whose numbers have room in theirs.
func bytesByWords(m api.Msg) string {
	var b []byte
	one := func(n int) { b = append(b, byte(n)) }
	two := func(n int) { b = binary.BigEndian.AppendUint16(b, uint16(n)) }
	four := func(n int) { b = binary.BigEndian.AppendUint32(b, uint32(n)) }
	eight := func(n uint64) { b = binary.BigEndian.AppendUint64(b, n) }
	one(m.Round)
	switch m.Kind {
	case 1:
		one(m.Req)
		four(m.Reserve)
		r := m.Request
		two(r.From.X)
		two(r.From.Y)
		two(r.To.X)
		two(r.To.Y)
		four(r.Pick.Early)
		four(r.Pick.Late)
		four(r.Drop.Early)
		four(r.Drop.Late)
		two(r.Load)
		two(r.Serve)
	case 2:
		one(m.Carrier)
		b = append(b, m.Digest[:]...)
	case 3:
		one(len(m.Marks))
		for _, mark := range m.Marks {
			one(mark.Carrier)
			b = append(b, mark.Digest[:]...)
		}
	case 4:
		one(m.Carrier)
		eight(m.Bid)
		eight(m.Nonce)
	case 5:
		one(m.Outcome.State)
		one(m.Outcome.Winner + 1)
		eight(m.Outcome.Price)
	}
	return framed(m.Kind, string(b))
}

func framed(kind int, body string) string {
	return string([]byte{byte(kind), byte(len(body) / 256), byte(len(body) % 256)}) + body
}

// sizeByWords is how long a body of a kind is, as far as it tells so much.
func sizeByWords(kind int, body string) int {
	switch kind {
	case 1:
		return 34
	case 2:
		return 34
	case 3:
		if len(body) < 2 {
			return 2
		}
		return 2 + 33*int(body[1])
	case 4:
		return 18
	}
	return 11
}

// readByWords is what a body that is long enough tells.
func readByWords(kind int, body string) api.Msg {
	b := []byte(body)
	one := func(at int) int { return int(b[at]) }
	two := func(at int) int { return int(binary.BigEndian.Uint16(b[at:])) }
	four := func(at int) int { return int(binary.BigEndian.Uint32(b[at:])) }
	eight := func(at int) uint64 { return binary.BigEndian.Uint64(b[at:]) }
	m := api.Msg{Kind: kind, Round: one(0)}
	switch kind {
	case 1:
		m.Req, m.Reserve = one(1), four(2)
		m.Request = api.Request{
			From: api.Place{X: two(6), Y: two(8)}, To: api.Place{X: two(10), Y: two(12)},
			Pick: api.Window{Early: four(14), Late: four(18)}, Drop: api.Window{Early: four(22), Late: four(26)},
			Load: two(30), Serve: two(32),
		}
	case 2:
		m.Carrier, m.Digest = one(1), api.Digest(b[2:34])
	case 3:
		for k := range one(1) {
			at := 2 + 33*k
			m.Marks = append(m.Marks, api.Mark{Carrier: one(at), Digest: api.Digest(b[at+1 : at+33])})
		}
	case 4:
		m.Carrier, m.Bid, m.Nonce = one(1), eight(2), eight(10)
	case 5:
		m.Outcome = api.Outcome{State: one(1), Winner: one(2) - 1, Price: eight(3)}
	}
	return m
}

func decodeByWords(s string) (api.Msg, api.Errno) {
	if len(s) < 3 || len(s) < 3+256*int(s[1])+int(s[2]) {
		return api.Msg{}, api.ErrShort
	}
	kind, body := int(s[0]), s[3:]
	if len(body) > 256*int(s[1])+int(s[2]) || kind < 1 || kind > 5 {
		return api.Msg{}, api.ErrForm
	}
	switch size := sizeByWords(kind, body); {
	case len(body) < size:
		return api.Msg{}, api.ErrShort
	case len(body) > size:
		return api.Msg{}, api.ErrForm
	}
	if m := readByWords(kind, body); mayByWords(m) {
		return m, api.OK
	}
	return api.Msg{}, api.ErrForm
}

// decodes holds Decode against what it should tell.
func decodes(t *testing.T, s string, should api.Msg, code api.Errno) {
	t.Helper()
	if m, e := Decode(s); e != code || !same(m, should) {
		t.Errorf("Decode of %d bytes %.80x: %v, %v; it should be %v, %v", len(s), s, m, e, should, code)
	}
}

// decodesAsWords holds Decode against the document's words, and tells what they say.
func decodesAsWords(t *testing.T, s string) api.Errno {
	t.Helper()
	should, code := decodeByWords(s)
	decodes(t, s, should, code)
	return code
}

// there is for a message that may be: it has its bytes, and comes back from them.
func there(t *testing.T, m api.Msg) {
	t.Helper()
	if !mayByWords(m) {
		t.Fatalf("%v may not be: the test is wrong", m)
	}
	s, e := Encode(m)
	if should := bytesByWords(m); e != api.OK || s != should {
		t.Errorf("Encode(%v) is %x, %v; it should be %x", m, s, e, should)
	}
	decodes(t, bytesByWords(m), m, api.OK)
}

// refused is for a message that may not be.
func refused(t *testing.T, m api.Msg) {
	t.Helper()
	if mayByWords(m) {
		t.Fatalf("%.300s may be: the test is wrong", fmt.Sprint(m))
	}
	if s, e := Encode(m); s != "" || e != api.ErrForm {
		t.Errorf("Encode(%.300s) is %.80x, %v", fmt.Sprint(m), s, e)
	}
}

// P18.1, P18.2: the chapter's examples.
func TestExamples(t *testing.T) {
	open := api.Msg{Kind: api.MsgOpen, Round: 3, Carrier: 1, Bid: 7, Nonce: 9}
	result := api.Msg{Kind: api.MsgResult, Outcome: api.Outcome{State: api.Unsold, Winner: -1}}
	call := api.Msg{Kind: api.MsgCall, Round: 2}
	for s, m := range map[string]api.Msg{
		"\x04\x00\x12\x03\x01\x00\x00\x00\x00\x00\x00\x00\x07\x00\x00\x00\x00\x00\x00\x00\x09": open,
		"\x05\x00\x0b\x00\x03\x00\x00\x00\x00\x00\x00\x00\x00\x00":                             result,
		"\x03\x00\x02\x02\x00": call,
	} {
		if got, e := Encode(m); got != s || e != api.OK {
			t.Errorf("Encode(%v) is %x, %v; it should be %x", m, got, e, s)
		}
		decodes(t, s, m, api.OK)
	}
	decodes(t, "\x03\x00\x02\x02\x01", api.Msg{}, api.ErrShort)
	decodes(t, "\x09\x00\x00", api.Msg{}, api.ErrForm)
	decodes(t, "\x03\x00\x03\x02\x00\x00", api.Msg{}, api.ErrForm)
}

// P18.1, P18.2: each field at both its ends, and between; a round of each kind.
func TestEnds(t *testing.T) {
	for _, kind := range kinds {
		there(t, sample(kind))
		for round := range 16 {
			there(t, changed(sample(kind), func(m *api.Msg) { m.Round = round }))
		}
	}
	for _, f := range numbers() {
		for _, n := range ends(f.least, f.most) {
			there(t, changed(sample(f.kind), func(m *api.Msg) { *f.of(m) = n }))
		}
	}
	for _, n := range []uint64{0, 1, 255, 256, 1<<32 - 1, 1 << 32} {
		there(t, changed(sample(api.MsgOpen), func(m *api.Msg) { m.Bid = n }))
	}
	for _, n := range []uint64{0, 1, 1 << 32, 1<<32 + 1, 1 << 63, math.MaxUint64 - 1, math.MaxUint64} {
		there(t, changed(sample(api.MsgOpen), func(m *api.Msg) { m.Nonce = n }))
	}
}

// number is a field of a kind that is a whole number, and from where to where it is.
type number struct {
	kind, least, most int
	of                func(m *api.Msg) *int
}

// numbers are these, but for rounds and outcomes; each of them may be at its ends while the sample has the others.
func numbers() []number {
	const last = 1 << 20
	return []number{
		{1, 0, 63, func(m *api.Msg) *int { return &m.Req }},
		{1, 0, 1 << 24, func(m *api.Msg) *int { return &m.Reserve }},
		{1, 0, 1023, func(m *api.Msg) *int { return &m.Request.From.X }},
		{1, 0, 1023, func(m *api.Msg) *int { return &m.Request.From.Y }},
		{1, 0, 1023, func(m *api.Msg) *int { return &m.Request.To.X }},
		{1, 0, 1023, func(m *api.Msg) *int { return &m.Request.To.Y }},
		{1, 0, 70000, func(m *api.Msg) *int { return &m.Request.Pick.Early }},
		{1, 5, last, func(m *api.Msg) *int { return &m.Request.Pick.Late }},
		{1, 0, last, func(m *api.Msg) *int { return &m.Request.Drop.Early }},
		{1, 9, last, func(m *api.Msg) *int { return &m.Request.Drop.Late }},
		{1, 1, 1000, func(m *api.Msg) *int { return &m.Request.Load }},
		{1, 0, 1000, func(m *api.Msg) *int { return &m.Request.Serve }},
		{2, 0, 7, func(m *api.Msg) *int { return &m.Carrier }},
		{3, 0, 3, func(m *api.Msg) *int { return &m.Marks[0].Carrier }},
		{3, 2, 5, func(m *api.Msg) *int { return &m.Marks[1].Carrier }},
		{3, 5, 7, func(m *api.Msg) *int { return &m.Marks[2].Carrier }},
		{4, 0, 7, func(m *api.Msg) *int { return &m.Carrier }},
		{5, 0, 7, func(m *api.Msg) *int { return &m.Outcome.Winner }},
	}
}

// P18.1: each field one beside its ends, and at numbers' ends, by which its lowest bytes may be what may be.
func TestBesideEnds(t *testing.T) {
	for _, kind := range kinds {
		for _, n := range beside(0, 15) {
			refused(t, changed(sample(kind), func(m *api.Msg) { m.Round = n }))
		}
	}
	for _, f := range numbers() {
		for _, n := range beside(f.least, f.most) {
			refused(t, changed(sample(f.kind), func(m *api.Msg) { *f.of(m) = n }))
		}
	}
	for _, n := range []uint64{1<<32 + 1, 1 << 33, 1 << 63, math.MaxUint64} {
		refused(t, changed(sample(api.MsgOpen), func(m *api.Msg) { m.Bid = n }))
	}
}

// P18.1: a kind that is none of the five, whatever else there is.
func TestKindsThatAreNone(t *testing.T) {
	refused(t, api.Msg{})
	for _, n := range beside(1, 5) {
		refused(t, api.Msg{Kind: n})
		for _, kind := range kinds {
			refused(t, changed(sample(kind), func(m *api.Msg) { m.Kind = n }))
		}
	}
}

// P18.1: what another kind has, even the least of it, is no part of this one.
func TestOtherFields(t *testing.T) {
	fields := map[string]struct {
		of     []int
		change func(m *api.Msg)
	}{
		"Carrier":        {[]int{2, 4}, func(m *api.Msg) { m.Carrier = 1 }},
		"Carrier -1":     {nil, func(m *api.Msg) { m.Carrier = -1 }},
		"Req":            {[]int{1}, func(m *api.Msg) { m.Req = 1 }},
		"Reserve":        {[]int{1}, func(m *api.Msg) { m.Reserve = 1 }},
		"Request":        {[]int{1}, func(m *api.Msg) { m.Request = request() }},
		"From.X":         {[]int{1}, func(m *api.Msg) { m.Request.From.X++ }},
		"To.Y":           {[]int{1}, func(m *api.Msg) { m.Request.To.Y++ }},
		"Pick.Early":     {[]int{1}, func(m *api.Msg) { m.Request.Pick.Early++ }},
		"Drop.Early":     {[]int{1}, func(m *api.Msg) { m.Request.Drop.Early++ }},
		"Drop.Late":      {nil, func(m *api.Msg) { m.Request.Drop.Late++ }},
		"Load":           {[]int{1}, func(m *api.Msg) { m.Request.Load++ }},
		"Serve":          {[]int{1}, func(m *api.Msg) { m.Request.Serve++ }},
		"first byte":     {[]int{2}, func(m *api.Msg) { m.Digest[0]++ }},
		"last byte":      {[]int{2}, func(m *api.Msg) { m.Digest[31]++ }},
		"a mark":         {nil, func(m *api.Msg) { m.Marks = append(m.Marks, api.Mark{}) }},
		"a mark of 7":    {[]int{3}, func(m *api.Msg) { m.Marks = append(m.Marks, api.Mark{Carrier: 7}) }},
		"Bid":            {[]int{4}, func(m *api.Msg) { m.Bid = 1 }},
		"Nonce":          {[]int{4}, func(m *api.Msg) { m.Nonce = 1 }},
		"greatest":       {[]int{4}, func(m *api.Msg) { m.Nonce = math.MaxUint64 }},
		"State":          {nil, func(m *api.Msg) { m.Outcome.State = api.Waiting + 1 }},
		"Winner":         {[]int{5}, func(m *api.Msg) { m.Outcome.Winner++ }},
		"Winner -1":      {nil, func(m *api.Msg) { m.Outcome.Winner = -1 }},
		"Price":          {[]int{5}, func(m *api.Msg) { m.Outcome.Price++ }},
		"Outcome":        {[]int{5}, func(m *api.Msg) { m.Outcome = api.Outcome{State: api.Unsold, Winner: -1} }},
		"list, but none": {kinds, func(m *api.Msg) { m.Marks = append([]api.Mark{}, m.Marks...) }},
	}
	for name, f := range fields {
		for _, kind := range kinds {
			m := changed(sample(kind), f.change)
			if mayByWords(m) != slices.Contains(f.of, kind) {
				t.Fatalf("%s of the kind %d: the test is wrong", name, kind)
			}
			if slices.Contains(f.of, kind) {
				there(t, m)
			} else {
				refused(t, m)
			}
		}
	}
}

// P18.1, P18.2: all marks that may be: each set of carriers.
func TestMarks(t *testing.T) {
	for set := range 256 {
		var l []api.Mark
		for carrier := range 8 {
			if set>>carrier&1 == 1 {
				l = append(l, api.Mark{Carrier: carrier, Digest: digest(byte(set + carrier))})
			}
		}
		there(t, api.Msg{Kind: api.MsgCall, Round: set % 16, Marks: l})
		for at := range l {
			again := slices.Insert(slices.Clone(l), at, l[at])
			refused(t, api.Msg{Kind: api.MsgCall, Marks: again})
			for _, n := range beside(0, 7) {
				wrong := slices.Clone(l)
				wrong[at].Carrier = n
				refused(t, api.Msg{Kind: api.MsgCall, Marks: wrong})
			}
			if at > 0 {
				turned := slices.Clone(l)
				turned[at-1], turned[at] = turned[at], turned[at-1]
				refused(t, api.Msg{Kind: api.MsgCall, Marks: turned})
			}
		}
	}
	for _, n := range []int{9, 255, 256, 257, 264, 1985, 2048} {
		refused(t, api.Msg{Kind: api.MsgCall, Marks: make([]api.Mark, n)})
		rising := make([]api.Mark, n)
		for at := range rising {
			rising[at].Carrier = at
		}
		refused(t, api.Msg{Kind: api.MsgCall, Marks: rising})
	}
}

// P18.1, P18.2: all states, winners and prices, both as messages and as bytes.
func TestOutcomes(t *testing.T) {
	prices := []uint64{0, 1, 255, 258, 1<<24 - 1, 1 << 24, 1<<24 + 1, 1 << 32, 1 << 63, math.MaxUint64}
	winners := append(extremes(), -1, 0, 1, 2, 3, 4, 5, 6, 7, 8, 9, 254, 255)
	may := 0
	for _, state := range append(extremes(), -1, 0, 1, 2, 3, 4, 5, 6, 7, 255) {
		for _, winner := range winners {
			for _, price := range prices {
				m := api.Msg{Kind: api.MsgResult, Outcome: api.Outcome{State: state, Winner: winner, Price: price}}
				if is(state, 0, 255) && is(winner, -1, 254) {
					decodesAsWords(t, bytesByWords(m))
				}
				if mayByWords(m) {
					may++
					there(t, m)
				} else {
					refused(t, m)
				}
			}
		}
	}
	if may != 2*8*6+1 {
		t.Errorf("%d may be", may)
	}
}

// atChance is a message of some kind that may be.
func atChance(r *rand.Rand) api.Msg {
	m := api.Msg{Kind: kinds[r.Intn(5)], Round: r.Intn(16)}
	window := func() api.Window {
		early := r.Intn(1<<20 + 1)
		return api.Window{Early: early, Late: early + r.Intn(1<<20+1-early)}
	}
	place := func() api.Place { return api.Place{X: r.Intn(1024), Y: r.Intn(1024)} }
	switch m.Kind {
	case api.MsgAnnounce:
		m.Req, m.Reserve = r.Intn(64), r.Intn(1<<24+1)
		m.Request = api.Request{From: place(), To: place(), Pick: window(), Drop: window(), Load: 1 + r.Intn(1000), Serve: r.Intn(1001)}
	case api.MsgCommit:
		m.Carrier = r.Intn(8)
		r.Read(m.Digest[:])
	case api.MsgCall:
		for carrier := range 8 {
			if mark := (api.Mark{Carrier: carrier}); r.Intn(2) == 0 {
				r.Read(mark.Digest[:])
				m.Marks = append(m.Marks, mark)
			}
		}
	case api.MsgOpen:
		m.Carrier, m.Bid, m.Nonce = r.Intn(8), uint64(r.Int63n(1<<32+1)), r.Uint64()
	case api.MsgResult:
		m.Outcome = api.Outcome{State: []int{api.Sold, api.Refused}[r.Intn(2)], Winner: r.Intn(8), Price: uint64(r.Intn(1<<24 + 1))}
		if r.Intn(3) == 0 {
			m.Outcome = api.Outcome{State: api.Unsold, Winner: -1}
		}
	}
	return m
}

// P18.1 to P18.3: messages at chance come back from their bytes.
func TestThereAndBack(t *testing.T) {
	r := rand.New(rand.NewSource(18))
	for range 20000 {
		there(t, atChance(r))
	}
}

// P18.2, P18.3: a message's bytes that are cut, wherever, are too short: by the frame, and, where that is cut with them, by what the kind has.
func TestCut(t *testing.T) {
	for _, kind := range kinds {
		s := bytesByWords(sample(kind))
		for cut := range len(s) {
			decodes(t, s[:cut], api.Msg{}, api.ErrShort)
		}
		for cut := range len(s) - 3 {
			decodes(t, framed(kind, s[3:3+cut]), api.Msg{}, api.ErrShort)
		}
	}
}

// P18.2, P18.3: with one byte more, whichever, or with many, they are none: behind the frame, and within it.
func TestMore(t *testing.T) {
	for _, kind := range kinds {
		s := bytesByWords(sample(kind))
		more := []string{s, strings.Repeat("\x00", 33), strings.Repeat("x", 60000)}
		for b := range 256 {
			more = append(more, string([]byte{byte(b)}))
		}
		for _, behind := range more {
			decodes(t, s+behind, api.Msg{}, api.ErrForm)
			decodes(t, framed(kind, s[3:]+behind), api.Msg{}, api.ErrForm)
		}
	}
}

// P18.2: a kind that is none is told, however long the body, and whatever else is wrong in it; but not ahead of the frame's errors.
func TestDecodeKinds(t *testing.T) {
	for kind := range 256 {
		for n := range 70 {
			body := strings.Repeat("\x01", n)
			s := framed(kind, body)
			if kind < 1 || kind > 5 {
				decodes(t, s, api.Msg{}, api.ErrForm)
				decodes(t, s+"\x00", api.Msg{}, api.ErrForm)
				decodes(t, s[:len(s)-1], api.Msg{}, api.ErrShort)
			}
			decodesAsWords(t, s)
		}
	}
	for n := range 3 {
		decodes(t, strings.Repeat("\x09", n), api.Msg{}, api.ErrShort)
	}
}

// P18.2: what ends too early is told ahead of what may not be in it, and of a kind's field that is wrong; what is wrong with bytes behind it is ErrForm as well.
func TestDecodeOrder(t *testing.T) {
	for _, kind := range kinds {
		s := bytesByWords(sample(kind))
		wrong := "\xff" + s[4:] // a round that may not be
		decodes(t, framed(kind, wrong), api.Msg{}, api.ErrForm)
		decodes(t, framed(kind, wrong+"\x00"), api.Msg{}, api.ErrForm)
		for cut := range len(wrong) {
			decodes(t, framed(kind, wrong[:cut]), api.Msg{}, api.ErrShort)
		}
		decodes(t, framed(kind, wrong)[:len(s)-1], api.Msg{}, api.ErrShort)
	}
}

// P18.2: as many marks as are said: fewer are too short, more are none, and more than there are carriers are none either.
func TestDecodeMarks(t *testing.T) {
	mark := func(carrier int) string { return string([]byte{byte(carrier)}) + strings.Repeat("\x07", 32) }
	for said := range 256 {
		for there := range 12 {
			body := string([]byte{2, byte(said)})
			for k := range there {
				body += mark(k)
			}
			code := decodesAsWords(t, framed(api.MsgCall, body))
			should := api.ErrForm
			switch {
			case there < said:
				should = api.ErrShort
			case there == said && said <= 8:
				should = api.OK
			}
			if code != should {
				t.Fatalf("%d of %d marks: the words say %v", there, said, code)
			}
			decodesAsWords(t, framed(api.MsgCall, body[:len(body)-1]))
		}
	}
	all := string([]byte{2, 255})
	for k := range 255 {
		all += mark(k)
	}
	decodes(t, framed(api.MsgCall, all), api.Msg{}, api.ErrForm)
	decodes(t, framed(api.MsgCall, all[:len(all)-1]), api.Msg{}, api.ErrShort)
	for first := range 256 {
		for next := range 256 {
			decodesAsWords(t, framed(api.MsgCall, "\x02\x02"+mark(first)+mark(next)))
		}
	}
}

// P18.2, P18.3: each byte of a message changed to each other one: what is read is laid again just so.
func TestEachByteChanged(t *testing.T) {
	for _, kind := range kinds {
		s := bytesByWords(sample(kind))
		for at := range len(s) {
			for b := range 256 {
				asWordsAndBack(t, s[:at]+string([]byte{byte(b)})+s[at+1:])
			}
		}
	}
}

// asWordsAndBack holds Decode against the words, and lays again what was read.
func asWordsAndBack(t *testing.T, s string) api.Errno {
	t.Helper()
	code := decodesAsWords(t, s)
	if m, e := Decode(s); e == api.OK {
		if again, e := Encode(m); again != s || e != api.OK {
			t.Errorf("%x is read, and laid again it is %x, %v", s, again, e)
		}
	}
	return code
}

// P18.2: each number of 2, 4 and 8 bytes beside its ends, and such as are negative where they are read with a sign.
func TestDecodeBesideEnds(t *testing.T) {
	for _, f := range numbers() {
		for _, n := range []int{f.least, f.least - 1, f.most, f.most + 1, 1 << 15, 1<<16 - 1, 1<<24 + 1, 1 << 31, 1<<31 + 1, 1<<32 - 1} {
			decodesAsWords(t, bytesByWords(changed(sample(f.kind), func(m *api.Msg) { *f.of(m) = n })))
		}
	}
	for _, bid := range []uint64{1<<32 - 1, 1 << 32, 1<<32 + 1, 1 << 63, 1<<63 + 1, math.MaxUint64} {
		s := bytesByWords(changed(sample(api.MsgOpen), func(m *api.Msg) { m.Bid = bid }))
		if code := decodesAsWords(t, s); (code == api.OK) != (bid <= 1<<32) {
			t.Errorf("of the bid %d it is %v", bid, code)
		}
	}
}

// P18.2: all texts of a few bytes, of some bytes.
func TestAllTexts(t *testing.T) {
	texts := []string{""}
	for at := 0; at < len(texts); at++ {
		decodesAsWords(t, texts[at])
		if len(texts[at]) < 7 {
			for _, c := range []string{"\x00", "\x01", "\x02", "\x03", "\x05"} {
				texts = append(texts, texts[at]+c)
			}
		}
	}
}

// P18.2, P18.3: messages spoilt at chance, and bodies at chance of just the length that their kind has.
func TestSpoiltAtChance(t *testing.T) {
	r := rand.New(rand.NewSource(182))
	seen := map[api.Errno]int{}
	for range 60000 {
		m := atChance(r)
		b := []byte(bytesByWords(m))
		for range r.Intn(3) {
			at := r.Intn(len(b))
			switch r.Intn(4) {
			case 0:
				b = slices.Delete(b, at, at+1)
			case 1:
				b = slices.Insert(b, at, byte(r.Intn(4)))
			default:
				b[at] = byte(r.Intn(8))
			}
		}
		seen[asWordsAndBack(t, string(b))]++
		body := make([]byte, len(bytesByWords(m))-3)
		r.Read(body)
		body[0] &= 15
		asWordsAndBack(t, framed(m.Kind, string(body)))
	}
	if len(seen) != 3 || seen[api.OK] < 1000 || seen[api.ErrShort] < 1000 || seen[api.ErrForm] < 1000 {
		t.Errorf("only these came: %v", seen)
	}
}

// P18.3: how long a message is hangs on its kind, and the number of its marks, alone.
func TestLengths(t *testing.T) {
	r := rand.New(rand.NewSource(183))
	should := map[int]int{api.MsgAnnounce: 37, api.MsgCommit: 37, api.MsgCall: 5, api.MsgOpen: 21, api.MsgResult: 14}
	for range 5000 {
		m := atChance(r)
		s, e := Encode(m)
		if e != api.OK || len(s) != should[m.Kind]+33*len(m.Marks) {
			t.Fatalf("%v has %d bytes, %v", m, len(s), e)
		}
	}
}

// P18.1, P18.2: what is handed in stays as it is, and what is told is nobody else's.
func TestNothingShared(t *testing.T) {
	room := append(make([]api.Mark, 0, 10), sample(api.MsgCall).Marks...)
	m := api.Msg{Kind: api.MsgCall, Round: 3, Marks: room}
	s, _ := Encode(m)
	if !same(m, sample(api.MsgCall)) || room[:4][3] != (api.Mark{}) {
		t.Fatalf("it is changed: %v", m)
	}
	room[0].Carrier, room[1].Digest[3] = 2, 99
	if s != bytesByWords(sample(api.MsgCall)) {
		t.Error("the bytes are changed")
	}
	first, _ := Decode(s)
	first.Marks[0], first.Marks[2].Digest[31] = api.Mark{Carrier: 7}, 0
	_ = append(first.Marks[:1], api.Mark{Carrier: 6})
	decodes(t, s, sample(api.MsgCall), api.OK)
	if again, e := Encode(sample(api.MsgCall)); again != s || e != api.OK {
		t.Errorf("it is %x, %v", again, e)
	}
}

// P18.1: many at once lay one list of marks; that nothing is written into it, not even what is there, go test -race tells.
func TestOneListForMany(t *testing.T) {
	m, done := sample(api.MsgCall), make(chan string)
	for range 8 {
		go func() {
			s, _ := Encode(m)
			done <- s
		}()
	}
	for range 8 {
		if s := <-done; s != bytesByWords(sample(api.MsgCall)) {
			t.Errorf("it is %x", s)
		}
	}
}
