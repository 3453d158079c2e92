package load

import (
	"iter"
	"math"
	"math/rand"
	"slices"
	"strconv"
	"strings"
	"testing"

	"consign/api"
	"consign/order"
	"consign/route"
)

// of is the row that a text tells: P3 is a Pick of 3, D3 its Drop, X3 a stop of it that is neither.
func of(text string) []api.Stop {
	var l []api.Stop
	for _, word := range strings.Fields(text) {
		req, err := strconv.Atoi(word[1:])
		if err != nil {
			panic(err)
		}
		l = append(l, api.Stop{Req: req, Kind: strings.Index("PDX", word[:1])})
	}
	return l
}

// loads are requests that may be, with these loads.
func loads(l ...int) []api.Request {
	var t []api.Request
	for _, load := range l {
		t = append(t, api.Request{To: api.Place{X: 3, Y: 4}, Pick: api.Window{Early: 10, Late: 20}, Drop: api.Window{Late: 40}, Load: load, Serve: 2})
	}
	return t
}

// room is a vehicle that may be, with that much of it; it has no time for anything.
func room(most int) api.Vehicle { return api.Vehicle{Cap: most} }

func extremes() []int {
	return []int{math.MinInt, math.MinInt + 1, math.MinInt32 - 1, math.MinInt32, math.MaxInt32, math.MaxInt32 + 1, math.MaxInt - 1, math.MaxInt}
}

// all have eight requests on board at once; one stop more is too many.
const all = "P0 P1 P2 P3 P4 P5 P6 P7 D3 D1 D7 D0 D6 D2 D5 D4"

// told is what Profile and Peak tell.
type told struct {
	profile []int
	peak    int
	code    api.Errno
}

func (a told) same(b told) bool {
	return slices.Equal(a.profile, b.profile) && a.peak == b.peak && a.code == b.code
}

// ask asks both; where Peak has another error than Profile, that is a code that there is none of.
func ask(l []api.Stop, t []api.Request) told {
	var a told
	var e api.Errno
	a.profile, a.code = Profile(l, t)
	a.peak, e = Peak(l, t)
	if e != a.code {
		a.code = -1
	}
	return a
}

// says is what the document's words say, by asking behind each stop of each request whether it is there.
func says(l []api.Stop, t []api.Request) told {
	if e := route.Check(l); e != api.OK {
		return told{code: e}
	}
	for _, s := range l {
		if s.Req >= len(t) {
			return told{code: api.ErrStop}
		}
	}
	for _, s := range l {
		if order.Check(t[s.Req]) != api.OK {
			return told{code: api.ErrArg}
		}
	}
	var a told
	for k := range l {
		load := 0
		for req := range t {
			if slices.Contains(l[:k+1], api.Stop{Req: req, Kind: 0}) && slices.Contains(l[k+1:], api.Stop{Req: req, Kind: 1}) {
				load += t[req].Load
			}
		}
		a.profile = append(a.profile, load)
		a.peak = max(a.peak, load)
	}
	return a
}

// fitsSays is what they say of a vehicle.
func fitsSays(v api.Vehicle, l []api.Stop, t []api.Request) (int, api.Errno) {
	if e := order.Vehicle(v); e != api.OK {
		return -1, e
	}
	a := says(l, t)
	for k, load := range a.profile {
		if load > v.Cap {
			return k, api.ErrFull
		}
	}
	return -1, a.code
}

// rowsOf goes through all rows of just so many of these stops.
func rowsOf(stops []api.Stop, n int) iter.Seq[[]api.Stop] {
	return func(yield func([]api.Stop) bool) {
		rows := 1
		for range n {
			rows *= len(stops)
		}
		for row := range rows {
			l := make([]api.Stop, n)
			for k := range l {
				l[k] = stops[row%len(stops)]
				row /= len(stops)
			}
			if !yield(l) {
				return
			}
		}
	}
}

// fewStops are all rows of a few stops: of three requests, and of requests and kinds that are none.
func fewStops() iter.Seq[[]api.Stop] {
	return func(yield func([]api.Stop) bool) {
		for n := range 7 {
			for l := range rowsOf(of("P0 D0 P1 D1 P2 D2"), n) {
				if !yield(l) {
					return
				}
			}
		}
		for n := range 5 {
			for l := range rowsOf(append(of("P0 D0 X0 P3 D3 P-1 D-1 X-1 P9"), api.Stop{Req: 0, Kind: -1}), n) {
				if !yield(l) {
					return
				}
			}
		}
	}
}

// anyRoute has so many of the requests below 10, in any order.
func anyRoute(r *rand.Rand, n int) []api.Stop {
	var l []api.Stop
	for _, req := range r.Perm(10)[:n] {
		places := []int{r.Intn(len(l) + 1), r.Intn(len(l) + 1)}
		l = slices.Insert(l, slices.Max(places), api.Stop{Req: req, Kind: 1})
		l = slices.Insert(l, slices.Min(places), api.Stop{Req: req, Kind: 0})
	}
	return l
}

func anyLoads(r *rand.Rand) []api.Request {
	var t []api.Request
	for range 10 {
		t = append(t, loads(1+r.Intn(9)*r.Intn(112))...)
	}
	return t
}

// P8.1 to P8.3: the chapter's examples.
func TestOfTheChapter(t *testing.T) {
	l, two := of("P0 P1 D0 D1"), loads(5, 7)
	if a := ask(l, two); !a.same(told{[]int{5, 12, 7, 0}, 12, api.OK}) {
		t.Errorf("it is %v", a)
	}
	if at, e := Fits(room(11), l, two); at != 1 || e != api.ErrFull {
		t.Errorf("of Cap 11 it is %d, %v", at, e)
	}
	if at, e := Fits(room(12), l, two); at != -1 || e != api.OK {
		t.Errorf("of Cap 12 it is %d, %v", at, e)
	}
	if a := ask(of("P2 D2"), two); !a.same(told{code: api.ErrStop}) {
		t.Errorf("P2 D2 is %v", a)
	}
	if open := Open(l, 3); !slices.Equal(open, []int{1}) {
		t.Errorf("open are %v", open)
	}
}

// P8.1: routes by hand, from none up to the longest one, with the least loads and the greatest.
func TestProfileByHand(t *testing.T) {
	some, greatest := loads(5, 7, 1, 1000), slices.Repeat(loads(1000), 8)
	for _, x := range []struct {
		row     string
		t       []api.Request
		profile []int
		peak    int
	}{
		{"", nil, nil, 0},
		{"", some, nil, 0},
		{"P0 D0", some, []int{5, 0}, 5},
		{"P0 D0", some[:1], []int{5, 0}, 5},
		{"P3 D3", some, []int{1000, 0}, 1000},
		{"P2 D2", some, []int{1, 0}, 1},
		{"P0 D0 P1 D1", some, []int{5, 0, 7, 0}, 7},
		{"P1 D1 P0 D0", some, []int{7, 0, 5, 0}, 7},
		{"P0 P1 D1 D0", some, []int{5, 12, 5, 0}, 12},
		{"P1 P0 D1 D0", some, []int{7, 12, 5, 0}, 12},
		{"P3 D3 P0 P1 P2 D0 D1 D2", some, []int{1000, 0, 5, 12, 13, 8, 1, 0}, 1000},
		{"P0 P1 D0 P2 D1 P3 D2 D3", some, []int{5, 12, 7, 8, 1, 1001, 1000, 0}, 1001},
		{all, greatest, []int{1000, 2000, 3000, 4000, 5000, 6000, 7000, 8000, 7000, 6000, 5000, 4000, 3000, 2000, 1000, 0}, 8000},
		{all, slices.Repeat(loads(1), 8), []int{1, 2, 3, 4, 5, 6, 7, 8, 7, 6, 5, 4, 3, 2, 1, 0}, 8},
		{all, loads(1, 2, 4, 8, 16, 32, 64, 128), []int{1, 3, 7, 15, 31, 63, 127, 255, 247, 245, 117, 116, 52, 48, 16, 0}, 255},
	} {
		if a := ask(of(x.row), x.t); !a.same(told{x.profile, x.peak, api.OK}) {
			t.Errorf("%s is %v; it should be %v, %d", x.row, a, x.profile, x.peak)
		}
	}
	if a := ask([]api.Stop{}, []api.Request{}); !a.same(told{}) {
		t.Errorf("without stops it is %v", a)
	}
}

// P8.1, P8.2: rows that are no routes have route's error: more stops than there may be are told ahead of whatever else is wrong.
func TestRowsThatAreNoRoutes(t *testing.T) {
	ten := slices.Repeat(loads(3), 10)
	rows := map[string]api.Errno{all + " P8 D8": api.ErrCount, all + " P8": api.ErrCount, "P10 D10 " + all: api.ErrCount, strings.Repeat("X-1 ", 17): api.ErrCount, strings.Repeat("X-1 ", 16): api.ErrStop}
	for _, row := range strings.Split("P0,D0,X0,D0 P0,P0 P0 D0,P0 D0 D0,P0 D0 P0 D0,P0 D1,P0 P1 D0,P0 X0,P0 D0 X0,X0 P0 D0,P0 D0 P1,P-1 D-1,P0 D0 P-1 D-1,P10 D10 D0", ",") {
		rows[row] = api.ErrStop
	}
	for row, code := range rows {
		for _, requests := range [][]api.Request{nil, ten[:1], ten} {
			if a := ask(of(row), requests); !a.same(told{code: code}) {
				t.Errorf("%s is %v; it should be %v", row, a, code)
			}
			for _, most := range []int{1, 100000} {
				if at, e := Fits(room(most), of(row), requests); at != -1 || e != code {
					t.Errorf("Fits of %s is %d, %v; it should be %v", row, at, e, code)
				}
			}
		}
	}
	if a := ask(of(all), ten); a.code != api.OK || a.peak != 24 {
		t.Errorf("%s is %v", all, a)
	}
}

// P8.1: a request that is not told: just behind the last one, and above, at any place of a route.
func TestRequestsThatAreNotTold(t *testing.T) {
	l, four := of("P0 P1 D0 P2 D1 P3 D2 D3"), loads(1, 2, 3, 4)
	for n := range 7 {
		code := api.OK
		if n < 4 {
			code = api.ErrStop
		}
		some := append(slices.Clone(four), loads(5, 6)...)[:n]
		if a := ask(l, some); a.code != code || code != api.OK && !a.same(told{code: code}) {
			t.Errorf("of %d requests it is %v; it should be %v", n, a, code)
		}
		if at, e := Fits(room(1), l, some); code != api.OK && (at != -1 || e != code) {
			t.Errorf("of %d requests Fits is %d, %v; it should be %v", n, at, e, code)
		}
	}
	for _, req := range append(extremes(), -1, 4, 5, 64) {
		for place := range len(l) + 1 {
			with := slices.Insert(slices.Clone(l), place, api.Stop{Req: req, Kind: 0}, api.Stop{Req: req, Kind: 1})
			if a := ask(with, four); !a.same(told{code: api.ErrStop}) {
				t.Errorf("%v is %v", with, a)
			}
		}
	}
}

// notToBe are changes by which a request may not be.
func notToBe() []func(r *api.Request) {
	return []func(r *api.Request){
		func(r *api.Request) { *r = api.Request{} },
		func(r *api.Request) { r.From.X = -1 },
		func(r *api.Request) { r.From.Y = 1024 },
		func(r *api.Request) { r.To.X = 1024 },
		func(r *api.Request) { r.To.Y = -1 },
		func(r *api.Request) { r.Pick = api.Window{Early: 8, Late: 7} },
		func(r *api.Request) { r.Pick.Early = -1 },
		func(r *api.Request) { r.Drop.Late = 1<<20 + 1 },
		func(r *api.Request) { r.Load = 0 },
		func(r *api.Request) { r.Load = -1 },
		func(r *api.Request) { r.Load = 1001 },
		func(r *api.Request) { r.Load = math.MaxInt },
		func(r *api.Request) { r.Load = math.MinInt },
		func(r *api.Request) { r.Serve = -1 },
		func(r *api.Request) { r.Serve = 1001 },
	}
}

// P8.1, P8.2: a request that may not be is told if a stop names it, wherever; if none does, it is not asked about.
func TestRequestsThatMayNotBe(t *testing.T) {
	for k, spoil := range notToBe() {
		for bad := range 4 {
			four := loads(5, 7, 1, 1000)
			spoil(&four[bad])
			for _, row := range []string{"", "P0 D0", "P1 D1", "P2 P3 D2 D3", "P3 P2 D3 D2", "P0 P1 D0 P2 D1 P3 D2 D3"} {
				code := api.OK
				if strings.Contains(row, strconv.Itoa(bad)) {
					code = api.ErrArg
				}
				if a := ask(of(row), four); a.code != code || !a.same(says(of(row), four)) {
					t.Errorf("%s, with the request %d spoilt by %d, is %v; it should be %v", row, bad, k, a, code)
				}
				for _, most := range []int{1, 100000} {
					at, e := Fits(room(most), of(row), four)
					if code == api.ErrArg && (at != -1 || e != code) || code == api.OK && most == 100000 && e != code {
						t.Errorf("Fits of %s, with the request %d spoilt by %d, is %d, %v", row, bad, k, at, e)
					}
				}
			}
		}
	}
}

// wrong is what may be wrong, and how it is told; what comes earlier in a list of them is told ahead of the others.
type wrong struct {
	code  api.Errno
	spoil func(v *api.Vehicle, l *[]api.Stop, t []api.Request)
}

func wrongs() []wrong {
	return []wrong{
		{api.ErrPlace, func(v *api.Vehicle, l *[]api.Stop, t []api.Request) { v.Home.X = 1024 }},
		{api.ErrVehicle, func(v *api.Vehicle, l *[]api.Stop, t []api.Request) { v.Start = v.End + 1 }},
		{api.ErrCount, func(v *api.Vehicle, l *[]api.Stop, t []api.Request) {
			*l = append(*l, of("P2 D2 P3 D3 P4 D4 P5 D5 P6 D6 P7 D7 P8")...)
		}},
		{api.ErrStop, func(v *api.Vehicle, l *[]api.Stop, t []api.Request) { *l = append(*l, of("P9 D9")...) }},
		{api.ErrArg, func(v *api.Vehicle, l *[]api.Stop, t []api.Request) { t[0].Serve = -1 }},
		{api.ErrFull, func(v *api.Vehicle, l *[]api.Stop, t []api.Request) { v.Cap = 4 }},
	}
}

// P8.1, P8.2: each thing that is wrong, alone, and each two: the first one of them is told.
func TestErrorsInTheirOrder(t *testing.T) {
	for i, a := range wrongs() {
		for _, b := range wrongs()[i:] {
			v, l, four := room(12), of("P0 P1 D0 D1"), loads(5, 7, 1, 1)
			a.spoil(&v, &l, four)
			if b.code != a.code {
				b.spoil(&v, &l, four)
			}
			where := -1
			if a.code == api.ErrFull {
				where = 0
			}
			if at, e := Fits(v, l, four); at != where || e != a.code {
				t.Errorf("Fits, with %v and %v, is %d, %v", a.code, b.code, at, e)
			}
			ofRow := slices.Contains([]api.Errno{api.ErrCount, api.ErrStop, api.ErrArg}, a.code)
			if row := ask(l, four); ofRow && !row.same(told{code: a.code}) {
				t.Errorf("Profile, with %v and %v, is %v", a.code, b.code, row)
			}
		}
	}
	bad := loads(5, 0)
	for _, row := range []string{"P1 D1 P2 D2", "P2 D2 P1 D1", "P1 P2 D1 D2"} {
		if a := ask(of(row), bad); !a.same(told{code: api.ErrStop}) {
			t.Errorf("%s is %v: a request that is not told comes ahead of one that may not be", row, a)
		}
	}
}

// P8.1, P8.2: over all rows of a few stops, and all kinds of routes, it is as the words say, at each Cap that matters.
func TestAsTheWordsSay(t *testing.T) {
	codes := map[api.Errno]int{}
	held := func(l []api.Stop, requests []api.Request) {
		should := says(l, requests)
		if a := ask(l, requests); !a.same(should) {
			t.Fatalf("%v is %v; it should be %v", l, a, should)
		}
		for _, load := range append(should.profile, 2, 100000) {
			for most := load - 1; most <= load+1; most++ {
				at, e := Fits(room(most), l, requests)
				if where, code := fitsSays(room(most), l, requests); at != where || e != code {
					t.Fatalf("Fits of %v, with Cap %d, is %d, %v; it should be %d, %v", l, most, at, e, where, code)
				}
				codes[e]++
			}
		}
	}
	few := loads(5, 7, 1, 3)
	few[3].Serve = -1
	for l := range fewStops() {
		held(l, few)
	}
	r := rand.New(rand.NewSource(1))
	for range 3000 {
		l, ten := anyRoute(r, r.Intn(9)), anyLoads(r)
		held(l, ten)
		held(l, ten[:r.Intn(11)])
		notToBe()[r.Intn(15)](&ten[r.Intn(10)])
		held(l, ten)
	}
	for _, code := range []api.Errno{api.OK, api.ErrStop, api.ErrArg, api.ErrFull, api.ErrVehicle} {
		if codes[code] < 1000 {
			t.Errorf("told is %v", codes)
		}
	}
}

// P8.2: by hand: the first stop that is too full, be there fuller ones, and a vehicle that is just full.
func TestFitsByHand(t *testing.T) {
	requests := loads(5, 7, 1, 1000)
	for _, x := range []struct {
		row      string
		most, at int
	}{
		{"", 1, -1},
		{"P0 D0", 5, -1},
		{"P0 D0", 4, 0},
		{"P0 D0", 1, 0},
		{"P0 D0", 100000, -1},
		{"P2 D2", 1, -1},
		{"P3 D3", 1000, -1},
		{"P3 D3", 999, 0},
		{"P0 D0 P1 D1", 7, -1},
		{"P0 D0 P1 D1", 6, 2},
		{"P0 D0 P1 D1", 4, 0},
		{"P0 P1 D0 D1", 6, 1},
		{"P0 P1 D1 D0", 12, -1},
		{"P2 P0 P1 P3 D0 D1 D2 D3", 1013, -1},
		{"P2 P0 P1 P3 D0 D1 D2 D3", 1012, 3},
		{"P2 P0 P1 P3 D0 D1 D2 D3", 12, 2},
		{"P2 P0 P1 P3 D0 D1 D2 D3", 5, 1},
		{"P2 D2 P0 D0 P1 D1 P3 D3", 999, 6},
	} {
		code := api.OK
		if x.at >= 0 {
			code = api.ErrFull
		}
		if at, e := Fits(room(x.most), of(x.row), requests); at != x.at || e != code {
			t.Errorf("Fits of %s, with Cap %d, is %d, %v; it should be %d, %v", x.row, x.most, at, e, x.at, code)
		}
	}
}

// P8.2: a vehicle that may not be is told ahead of all, be the row no route, or there be no stops; whether it is in time is not asked.
func TestVehiclesThatMayNotBe(t *testing.T) {
	for code, vehicles := range map[api.Errno][]api.Vehicle{
		api.ErrPlace: {
			{Cap: 1, Home: api.Place{X: -1}}, {Cap: 1, Home: api.Place{Y: 1024}}, {Cap: 0, Home: api.Place{X: math.MaxInt}},
		},
		api.ErrVehicle: {
			{}, {Cap: -1}, {Cap: 100001}, {Cap: math.MinInt}, {Cap: math.MaxInt},
			{Cap: 1, Start: 1}, {Cap: 1, Start: -1}, {Cap: 1, End: 1<<20 + 1}, {Cap: 1, Start: math.MinInt, End: math.MaxInt},
		},
		api.OK: {
			{Cap: 10, Start: 1 << 20, End: 1 << 20}, {Cap: 100000, Home: api.Place{X: 1023, Y: 1023}}, {Cap: 10, Home: api.Place{X: 1023}, End: 12},
		},
	} {
		for _, row := range []string{"", "P0 D0", "P0", "P7 D7", all + " " + all} {
			should := code
			if code == api.OK {
				should = ask(of(row), loads(5)).code
			}
			for _, v := range vehicles {
				if at, e := Fits(v, of(row), loads(5)); at != -1 || e != should {
					t.Errorf("Fits of %v, %s is %d, %v; it should be %v", v, row, at, e, should)
				}
			}
		}
	}
}

// P8.3: by hand: of routes, and of rows that are none, at all places and beside them.
func TestOpenByHand(t *testing.T) {
	for _, x := range []struct {
		row  string
		k    int
		open []int
	}{
		{"", 0, nil},
		{"", 5, nil},
		{"", -5, nil},
		{"P0 P1 D0 D1", -1, nil},
		{"P0 P1 D0 D1", 0, nil},
		{"P0 P1 D0 D1", 1, []int{0}},
		{"P0 P1 D0 D1", 2, []int{0, 1}},
		{"P0 P1 D0 D1", 3, []int{1}},
		{"P0 P1 D0 D1", 4, nil},
		{"P0 P1 D0 D1", 5, nil},
		{"P5 P3 P9 P1", 3, []int{3, 5, 9}},
		{"P5 P3 P9 P1", 4, []int{1, 3, 5, 9}},
		{"P5 P3 P9 P1", 9, []int{1, 3, 5, 9}},
		{"P5 P3 P9 P1", -9, nil},
		{"D3 P3", 1, nil},
		{"D3 P3", 2, []int{3}},
		{"P3 D3 P3", 2, nil},
		{"P3 D3 P3", 3, []int{3}},
		{"P3 P3 D3", 2, []int{3}},
		{"P3 P3 D3", 3, nil},
		{"D3 D3 P3", 3, []int{3}},
		{"P3 X3", 2, []int{3}},
		{"X3 P3 X3 X3", 4, []int{3}},
		{"X3", 1, nil},
		{"P3 D3 X3", 3, nil},
		{"P3 D2", 2, []int{3}},
		{"P0 P-1 D0", 3, []int{-1}},
		{"P9223372036854775807 P0 P-9223372036854775808", 3, []int{math.MinInt, 0, math.MaxInt}},
	} {
		if open := Open(of(x.row), x.k); !slices.Equal(open, x.open) {
			t.Errorf("Open(%s, %d) is %v; it should be %v", x.row, x.k, open, x.open)
		}
	}
	l := of("P3 P1 P2 D1")
	for k, s := range extremes() {
		should := []int{2, 3}
		if s < 0 {
			should = nil
		}
		if open := Open(l, s); !slices.Equal(open, should) {
			t.Errorf("at %d open are %v; they should be %v", s, open, should)
		}
		kinds := append(l[:3:3], api.Stop{Req: 1, Kind: s}, api.Stop{Req: 50 + k, Kind: s})
		if open := Open(kinds, len(kinds)); !slices.Equal(open, []int{1, 2, 3}) {
			t.Errorf("of %v open are %v", kinds, open)
		}
	}
}

// openSays is what the words say: of each number that a stop has, by its last Pick or Drop.
func openSays(l []api.Stop, k int) []int {
	l = l[:max(0, min(k, len(l)))]
	var open []int
	for req := -1; req < 20; req++ {
		last := -1
		for _, s := range l {
			if s.Req == req && (s.Kind == 0 || s.Kind == 1) {
				last = s.Kind
			}
		}
		if last == 0 {
			open = append(open, req)
		}
	}
	return open
}

// P8.3: over all rows of a few stops, and longer ones of any stops, at all places, it is as the words say.
func TestOpenAsTheWordsSay(t *testing.T) {
	most := 0
	held := func(l []api.Stop, k int) {
		open, should := Open(l, k), openSays(l, k)
		if !slices.Equal(open, should) {
			t.Fatalf("Open(%v, %d) is %v; it should be %v", l, k, open, should)
		}
		most = max(most, len(open))
	}
	for l := range fewStops() {
		for k := -1; k <= len(l)+1; k++ {
			held(l, k)
		}
	}
	r := rand.New(rand.NewSource(2))
	for range 20000 {
		l := make([]api.Stop, r.Intn(60))
		for k := range l {
			l[k] = api.Stop{Req: r.Intn(21) - 1, Kind: max(0, r.Intn(6)-3)}
		}
		held(l, r.Intn(len(l)+3)-1)
	}
	if most < 15 {
		t.Errorf("no more than %d are open", most)
	}
	long := make([]api.Stop, 200000)
	for k := range long {
		long[k] = api.Stop{Req: len(long) - k}
	}
	if open := Open(long, 150000); len(open) != 150000 || open[0] != 50001 || !slices.IsSorted(open) {
		t.Errorf("of a long row %d are open", len(open))
	}
}

// P8.4: behind the last stop nothing is on board; what is on board is the loads of what is open, together.
func TestOnBoardIsWhatIsOpen(t *testing.T) {
	r := rand.New(rand.NewSource(3))
	for n := range 3000 {
		l, requests := anyRoute(r, 1+n%8), anyLoads(r)
		profile, e := Profile(l, requests)
		if e != api.OK || len(profile) != len(l) || profile[len(l)-1] != 0 {
			t.Fatalf("%v is %v, %v", l, profile, e)
		}
		for k, load := range profile {
			for _, req := range Open(l, k+1) {
				load -= requests[req].Load
			}
			if load != 0 {
				t.Fatalf("%v is %v, and open behind the stop %d are %v", l, profile, k, Open(l, k+1))
			}
		}
	}
}

// P8.4: a route without one of its requests is nowhere fuller, and fits where the route does.
func TestWithoutIsNowhereFuller(t *testing.T) {
	r := rand.New(rand.NewSource(4))
	for n := range 2000 {
		l, requests := anyRoute(r, 1+n%8), anyLoads(r)
		with, _ := Profile(l, requests)
		peak, _ := Peak(l, requests)
		for _, req := range route.Requests(l) {
			less := route.Without(l, req)
			without, e := Profile(less, requests)
			if e != api.OK || len(without) != len(l)-2 {
				t.Fatalf("%v is %v, %v", less, without, e)
			}
			for k, s := range less {
				if was := with[slices.Index(l, s)]; without[k] > was {
					t.Fatalf("%v, without %d, is fuller behind the stop %d: %d, and not %d", l, req, k, without[k], was)
				}
			}
			if lower, _ := Peak(less, requests); lower > peak {
				t.Fatalf("%v, without %d, has the peak %d, and not %d", l, req, lower, peak)
			}
			if at, e := Fits(room(peak), less, requests); at != -1 || e != api.OK {
				t.Fatalf("%v, without %d, does not fit: %d, %v", l, req, at, e)
			}
		}
	}
}

// P8.1 to P8.3: numbers at their ends, in any stop of a route, neither end in a panic nor go round.
func TestAtNumbersEnds(t *testing.T) {
	for _, n := range extremes() {
		for k := range 4 {
			for _, change := range []func(s *api.Stop){func(s *api.Stop) { s.Req = n }, func(s *api.Stop) { s.Kind = n }} {
				l := of("P0 P1 D0 D1")
				change(&l[k])
				if a := ask(l, loads(5, 7)); !a.same(told{code: api.ErrStop}) {
					t.Errorf("%v is %v", l, a)
				}
				if at, e := Fits(room(5), l, loads(5, 7)); at != -1 || e != api.ErrStop {
					t.Errorf("Fits of %v is %d, %v", l, at, e)
				}
			}
		}
	}
}

// P8.1 to P8.3: what was handed in is as it was, and so is what lies behind it, and what is answered is the caller's.
func TestNothingIsShared(t *testing.T) {
	for _, row := range []string{"", "P0 P1 D0 D1", all, "P1", "P0 P0", "P3 P5 X3 P-1", "P9 D9"} {
		stops, requests := append(of(row), of("X7 X7 P7")...), append(slices.Repeat(loads(1000), 8), api.Request{Load: 7})
		wasStops, wasRequests := slices.Clone(stops), slices.Clone(requests)
		l, eight := stops[:len(stops)-3], requests[:8]
		for _, call := range []func() []int{
			func() []int { profile, _ := Profile(l, eight); return profile },
			func() []int { peak, _ := Peak(l, eight); return []int{peak} },
			func() []int { at, _ := Fits(room(1500), l, eight); return []int{at} },
			func() []int { return Open(l, 2) },
			func() []int { return Open(l, len(l)) },
		} {
			first, second := call(), call()
			should := slices.Clone(first)
			for k := range first[:cap(first)] {
				first[:cap(first)][k] = -5
			}
			if !slices.Equal(second, should) || !slices.Equal(call(), should) {
				t.Errorf("of %s, an answer was changed, and by that another one, from %v", row, should)
			}
			if !slices.Equal(stops, wasStops) || !slices.Equal(requests, wasRequests) {
				t.Fatalf("of %s, there are %v and %v", row, stops, requests)
			}
		}
	}
}
