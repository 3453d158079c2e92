package plan

import (
	"math"
	"math/rand"
	"slices"
	"strconv"
	"strings"
	"testing"

	"consign/api"
	"consign/feas"
	"consign/order"
)

// of is the row that a text tells: P3 is a Pick of 3, D3 its Drop.
func of(text string) []api.Stop {
	var l []api.Stop
	for _, word := range strings.Fields(text) {
		req, err := strconv.Atoi(word[1:])
		if err != nil {
			panic(err)
		}
		l = append(l, api.Stop{Req: req, Kind: strings.Index("PD", word[:1])})
	}
	return l
}

// rowsOf are those that texts tell, a vehicle each.
func rowsOf(texts ...string) [][]api.Stop {
	var rows [][]api.Stop
	for _, text := range texts {
		rows = append(rows, of(text))
	}
	return rows
}

func at(x, y int) api.Place { return api.Place{X: x, Y: y} }

func span(early, late int) api.Window { return api.Window{Early: early, Late: late} }

// extremes are the numbers at the ends of int, and of lesser ones.
func extremes() []int {
	return []int{math.MinInt, math.MinInt + 1, math.MinInt32 - 1, math.MinInt32, math.MaxInt32, math.MaxInt32 + 1, math.MaxInt - 1, math.MaxInt}
}

// made is a plan that may be.
func made(t *testing.T, fleet []api.Vehicle, requests []api.Request) *Plan {
	t.Helper()
	p, e := New(fleet, requests)
	if p == nil || e != api.OK {
		t.Fatalf("New of %v and %v is %v, %v", fleet, requests, p, e)
	}
	return p
}

func sameRows(a, b [][]api.Stop) bool { return slices.EqualFunc(a, b, slices.Equal[[]api.Stop]) }

// state is all that a plan tells of itself, with the prices of all numbers from -1 to one that is none.
type state struct {
	routes [][]api.Stop
	all    []int
	total  int
	has    []bool
	where  []int
	prices []price
}

type price struct {
	vehicle, rise int
	e             api.Errno
}

func stateOf(p *Plan, requests int) state {
	s := state{routes: p.Routes(), all: p.All(), total: p.Total()}
	for req := -1; req <= requests; req++ {
		s.has = append(s.has, p.Has(req))
		s.where = append(s.where, p.Where(req))
		vehicle, rise, e := p.Price(req)
		s.prices = append(s.prices, price{vehicle, rise, e})
	}
	return s
}

func (s state) is(o state) bool {
	return sameRows(s.routes, o.routes) && slices.Equal(s.all, o.all) && s.total == o.total && slices.Equal(s.has, o.has) && slices.Equal(s.where, o.where) && slices.Equal(s.prices, o.prices)
}

// words are a plan as the document's words have it: a row a vehicle, and nothing else.
type words struct {
	fleet []api.Vehicle
	t     []api.Request
	rows  [][]api.Stop
}

func (w words) where(req int) int {
	return slices.IndexFunc(w.rows, func(l []api.Stop) bool {
		return slices.ContainsFunc(l, func(s api.Stop) bool { return s.Req == req })
	})
}

func apart(a, b api.Place) int { return max(a.X-b.X, b.X-a.X) + max(a.Y-b.Y, b.Y-a.Y) }

// trip is what the words say of a row: its end, and whether it is never too full, nor too late.
func (w words) trip(k int, row []api.Stop) (end int, is bool) {
	v := w.fleet[k]
	now, here, load, is := v.Start, v.Home, 0, true
	for _, s := range row {
		r := w.t[s.Req]
		to, within, more := r.From, r.Pick, r.Load
		if s.Kind == 1 {
			to, within, more = r.To, r.Drop, -r.Load
		}
		now = max(now+apart(here, to), within.Early)
		is = is && now <= within.Late
		now, here, load = now+r.Serve, to, load+more
		is = is && load <= v.Cap
	}
	now += apart(here, v.Home)
	return now, is && now <= v.End
}

func (w words) total() int {
	total := 0
	for k, row := range w.rows {
		end, _ := w.trip(k, row)
		total += end - w.fleet[k].Start
	}
	return total
}

// price goes through all vehicles, and all rows that are a vehicle's with the request in them; the row is the one that Put makes.
func (w words) price(req int) (p price, row []api.Stop) {
	if req < 0 || req >= len(w.t) {
		return price{e: api.ErrStop}, nil
	}
	if w.where(req) >= 0 {
		return price{e: api.ErrTwice}, nil
	}
	p.e = api.ErrNone
	for k, l := range w.rows {
		if len(l)+2 > 16 {
			continue
		}
		before, _ := w.trip(k, l)
		for i := range len(l) + 1 {
			for j := i; j <= len(l); j++ {
				with := slices.Concat(l[:i], []api.Stop{{Req: req, Kind: 0}}, l[i:j], []api.Stop{{Req: req, Kind: 1}}, l[j:])
				end, is := w.trip(k, with)
				if is && (row == nil || end-before < p.rise) {
					p, row = price{vehicle: k, rise: end - before}, with
				}
			}
		}
	}
	return p, row
}

func (w words) state() state {
	s := state{routes: w.rows, total: w.total()}
	for req := -1; req <= len(w.t); req++ {
		k := w.where(req)
		if k >= 0 {
			s.all = append(s.all, req)
		}
		s.has = append(s.has, k >= 0)
		s.where = append(s.where, k)
		p, _ := w.price(req)
		s.prices = append(s.prices, p)
	}
	return s
}

// put and take change the rows, and tell what Put and Take tell.
func (w words) put(req int) (rise int, e api.Errno) {
	p, row := w.price(req)
	if p.e == api.OK {
		w.rows[p.vehicle] = row
	}
	return p.rise, p.e
}

func (w words) take(req int) api.Errno {
	k := w.where(req)
	if k < 0 {
		return api.ErrNone
	}
	w.rows[k] = slices.DeleteFunc(slices.Clone(w.rows[k]), func(s api.Stop) bool { return s.Req == req })
	return api.OK
}

// chapter has the vehicles and the requests of the chapter.
func chapter() ([]api.Vehicle, []api.Request) {
	return []api.Vehicle{
		{Home: at(0, 0), Cap: 5, Start: 0, End: 40},
		{Home: at(20, 0), Cap: 5, Start: 0, End: 40},
	}, []api.Request{
		{From: at(5, 0), To: at(9, 0), Pick: span(0, 20), Drop: span(0, 30), Load: 3, Serve: 1},
		{From: at(15, 0), To: at(18, 0), Pick: span(0, 40), Drop: span(0, 40), Load: 2, Serve: 0},
	}
}

// P13.1, P13.2, P13.3: the chapter's examples.
func TestOfTheChapter(t *testing.T) {
	fleet, requests := chapter()
	p := made(t, fleet, requests)
	for req, should := range []price{{0, 20, api.OK}, {1, 10, api.OK}, {0, 0, api.ErrStop}} {
		if vehicle, rise, e := p.Price(req); (price{vehicle, rise, e}) != should {
			t.Errorf("the price of %d is %d, %d, %v", req, vehicle, rise, e)
		}
	}
	for _, x := range []struct {
		req, rise int
		e         api.Errno
	}{{0, 20, api.OK}, {1, 10, api.OK}, {1, 0, api.ErrTwice}} {
		if rise, e := p.Put(x.req); rise != x.rise || e != x.e {
			t.Errorf("put %d is %d, %v", x.req, rise, e)
		}
	}
	if !sameRows(p.Routes(), rowsOf("P0 D0", "P1 D1")) || !slices.Equal(p.All(), []int{0, 1}) || p.Total() != 30 {
		t.Errorf("it has %v, %v, %d", p.Routes(), p.All(), p.Total())
	}
	if e := p.Take(0); e != api.OK {
		t.Errorf("take is %v", e)
	}
	if e := p.Take(0); e != api.ErrNone {
		t.Errorf("take again is %v", e)
	}
	if p.Total() != 10 {
		t.Errorf("the total is %d", p.Total())
	}
	if p, e := New(nil, requests); p != nil || e != api.ErrCount {
		t.Errorf("without vehicles it is %v, %v", p, e)
	}
	if p, e := New(slices.Repeat(fleet[:1], 5), requests); p != nil || e != api.ErrCount {
		t.Errorf("with five vehicles it is %v, %v", p, e)
	}
	fleet[1].Cap = 0
	if p, e := New(fleet, requests); p != nil || e != api.ErrArg {
		t.Errorf("with a Cap of 0 it is %v, %v", p, e)
	}
}

// P13.1: a plan of 1 to 4 vehicles, and of as many requests as one likes, or none; it has a route for each vehicle, without stops, and nothing is in it.
func TestOfHowMany(t *testing.T) {
	fleet, requests := chapter()
	for n := range 100 {
		for _, many := range []int{0, 1, 2, 64, 65, 200} {
			p, e := New(slices.Repeat(fleet[:1], n), slices.Repeat(requests[:1], many))
			if n < 1 || n > 4 {
				if p != nil || e != api.ErrCount {
					t.Errorf("of %d vehicles it is %v, %v", n, p, e)
				}
				continue
			}
			if p == nil || e != api.OK {
				t.Fatalf("of %d vehicles and %d requests it is %v, %v", n, many, p, e)
			}
			if !sameRows(p.Routes(), make([][]api.Stop, n)) || len(p.All()) != 0 || p.Total() != 0 || p.Has(0) || p.Where(0) != -1 {
				t.Errorf("it has %v, %v, %d", p.Routes(), p.All(), p.Total())
			}
			_, _, e = p.Price(many - 1)
			_, _, behind := p.Price(many)
			if (e == api.OK) != (many > 0) || behind != api.ErrStop {
				t.Errorf("of %d requests the last one's price is %v, and behind it %v", many, e, behind)
			}
		}
	}
}

// flaws are changes by which a vehicle, or a request, may not be.
func flaws() ([]func(v *api.Vehicle), []func(r *api.Request)) {
	return []func(v *api.Vehicle){
		func(v *api.Vehicle) { *v = api.Vehicle{} },
		func(v *api.Vehicle) { v.Home.X = -1 },
		func(v *api.Vehicle) { v.Home.Y = 1024 },
		func(v *api.Vehicle) { v.Cap = 0 },
		func(v *api.Vehicle) { v.Cap = 100001 },
		func(v *api.Vehicle) { v.Start = -1 },
		func(v *api.Vehicle) { v.End = v.Start - 1 },
		func(v *api.Vehicle) { v.End = 1<<20 + 1 },
	}, []func(r *api.Request){
		func(r *api.Request) { *r = api.Request{} },
		func(r *api.Request) { r.From.Y = -1 },
		func(r *api.Request) { r.To.X = 1024 },
		func(r *api.Request) { r.Pick.Early = r.Pick.Late + 1 },
		func(r *api.Request) { r.Drop.Late = 1<<20 + 1 },
		func(r *api.Request) { r.Load = 0 },
		func(r *api.Request) { r.Load = 1001 },
		func(r *api.Request) { r.Serve = -1 },
		func(r *api.Request) { r.Serve = 1001 },
	}
}

// P13.1: each vehicle that may not be, and each request, wherever it stands, is told; that there are too many, or too few, is told ahead of it.
func TestWhatMayNotBe(t *testing.T) {
	ofVehicles, ofRequests := flaws()
	for n := range 7 {
		fleet, requests := chapter()
		fleet, requests = slices.Repeat(fleet[:1], n), slices.Repeat(requests[:1], 5)
		told := func(spoilt any) {
			should := api.ErrArg
			if n < 1 || n > 4 {
				should = api.ErrCount
			}
			if p, e := New(fleet, requests); p != nil || e != should {
				t.Errorf("of %d vehicles, with %v, it is %v, %v", n, spoilt, p, e)
			}
		}
		for k := range fleet {
			for _, spoil := range ofVehicles {
				was := fleet[k]
				spoil(&fleet[k])
				told(fleet[k])
				fleet[k] = was
			}
		}
		for k := range requests {
			for _, spoil := range ofRequests {
				was := requests[k]
				spoil(&requests[k])
				told(requests[k])
				requests[k] = was
			}
		}
	}
}

// P13.1: numbers at their ends, in each field, are told, and end in no panic.
func TestAtNumbersEnds(t *testing.T) {
	for _, n := range extremes() {
		fleet, requests := chapter()
		v, r := &fleet[1], &requests[1]
		for _, field := range []*int{&v.Home.X, &v.Home.Y, &v.Cap, &v.Start, &v.End, &r.From.X, &r.From.Y, &r.To.X, &r.To.Y, &r.Pick.Early, &r.Pick.Late, &r.Drop.Early, &r.Drop.Late, &r.Load, &r.Serve} {
			was := *field
			*field = n
			if p, e := New(fleet, requests); p != nil || e != api.ErrArg {
				t.Errorf("with %v and %v it is %v, %v", fleet, requests, p, e)
			}
			*field = was
		}
	}
}

// P13.2, P13.3: numbers that are no request are told as such by all calls, and change nothing; so are they of a plan without requests.
func TestOfNoRequest(t *testing.T) {
	fleet, requests := chapter()
	full := made(t, fleet, requests)
	full.Put(0)
	full.Put(1)
	for _, p := range []*Plan{made(t, fleet, nil), made(t, fleet, requests), full} {
		was := stateOf(p, 2)
		for _, req := range append(extremes(), -2, -1, 2, 3, 64) {
			vehicle, rise, e := p.Price(req)
			more, put := p.Put(req)
			if vehicle != 0 || rise != 0 || e != api.ErrStop || more != 0 || put != api.ErrStop {
				t.Errorf("the price of %d is %d, %d, %v; put it is %d, %v", req, vehicle, rise, e, more, put)
			}
			if e := p.Take(req); e != api.ErrNone || p.Has(req) || p.Where(req) != -1 {
				t.Errorf("take %d is %v; it is there: %v, %d", req, e, p.Has(req), p.Where(req))
			}
		}
		if !stateOf(p, 2).is(was) {
			t.Errorf("it is %v; it was %v", stateOf(p, 2), was)
		}
	}
}

// P13.1, P13.2, P13.3: a plan that is none tells so of all, and none has no copy.
func TestOfNone(t *testing.T) {
	var p *Plan
	for _, req := range append(extremes(), -1, 0, 1) {
		vehicle, rise, e := p.Price(req)
		more, put := p.Put(req)
		if vehicle != 0 || rise != 0 || e != api.ErrNil || more != 0 || put != api.ErrNil || p.Take(req) != api.ErrNil {
			t.Errorf("of %d it is %d, %d, %v; %d, %v; %v", req, vehicle, rise, e, more, put, p.Take(req))
		}
		if p.Has(req) || p.Where(req) != -1 {
			t.Errorf("it has %d: %v, %d", req, p.Has(req), p.Where(req))
		}
	}
	if len(p.All()) != 0 || len(p.Routes()) != 0 || p.Total() != 0 || p.Copy() != nil {
		t.Errorf("it has %v, %v, %d, %v", p.All(), p.Routes(), p.Total(), p.Copy())
	}
}

// P13.2: by hand: which of the vehicles it is, as they are near or far, have room and time or not, or cost as much.
func TestWhichVehicle(t *testing.T) {
	any := span(0, 1000)
	requests := []api.Request{{From: at(50, 0), To: at(60, 0), Pick: any, Drop: any, Load: 4, Serve: 1}}
	near := api.Vehicle{Home: at(60, 0), Cap: 4, Start: 10, End: 32} // its rise is 22, and so is its time
	far := api.Vehicle{Home: at(0, 0), Cap: 9, Start: 3, End: 900}   // its rise is 122
	full := api.Vehicle{Home: at(60, 0), Cap: 3, Start: 0, End: 900}
	late := api.Vehicle{Home: at(60, 0), Cap: 4, Start: 11, End: 32}
	for _, x := range []struct {
		fleet []api.Vehicle
		told  price
	}{
		{[]api.Vehicle{near}, price{0, 22, api.OK}},
		{[]api.Vehicle{near, far}, price{0, 22, api.OK}},
		{[]api.Vehicle{far, near}, price{1, 22, api.OK}},
		{[]api.Vehicle{far, near, near}, price{1, 22, api.OK}},
		{[]api.Vehicle{near, near, far, near}, price{0, 22, api.OK}},
		{[]api.Vehicle{far, far}, price{0, 122, api.OK}},
		{[]api.Vehicle{full, far}, price{1, 122, api.OK}},
		{[]api.Vehicle{late, full, far, late}, price{2, 122, api.OK}},
		{[]api.Vehicle{late, far, full, near}, price{3, 22, api.OK}},
		{[]api.Vehicle{full}, price{0, 0, api.ErrNone}},
		{[]api.Vehicle{late}, price{0, 0, api.ErrNone}},
		{[]api.Vehicle{full, late, late, full}, price{0, 0, api.ErrNone}},
	} {
		p := made(t, x.fleet, requests)
		if vehicle, rise, e := p.Price(0); (price{vehicle, rise, e}) != x.told {
			t.Errorf("of %v the price is %d, %d, %v; it should be %v", x.fleet, vehicle, rise, e, x.told)
		}
		rise, e := p.Put(0)
		if rise != x.told.rise || e != x.told.e || p.Total() != rise || p.Has(0) != (e == api.OK) {
			t.Errorf("of %v put is %d, %v, and the total %d", x.fleet, rise, e, p.Total())
		}
		rows := make([][]api.Stop, len(x.fleet))
		if e == api.OK {
			rows[x.told.vehicle] = of("P0 D0")
			if p.Where(0) != x.told.vehicle {
				t.Errorf("of %v it is by %d", x.fleet, p.Where(0))
			}
		}
		if !sameRows(p.Routes(), rows) {
			t.Errorf("of %v there are %v", x.fleet, p.Routes())
		}
	}
}

// P13.2: a rise of 0 is the least there is, and of several places with it the first one is taken; a vehicle that costs as much, but stands behind, is not.
func TestRiseOfNothing(t *testing.T) {
	any := span(0, 1000)
	v := api.Vehicle{Home: at(0, 0), Cap: 9, End: 1000}
	requests := []api.Request{
		{From: at(10, 0), To: at(20, 0), Pick: any, Drop: any, Load: 1},
		{From: at(12, 0), To: at(15, 0), Pick: any, Drop: any, Load: 1},
		{From: at(0, 0), To: at(0, 0), Pick: any, Drop: any, Load: 1},
	}
	p := made(t, []api.Vehicle{v, v}, requests)
	for _, x := range []struct {
		req, rise int
		rows      [][]api.Stop
	}{
		{0, 40, rowsOf("P0 D0", "")},
		{1, 0, rowsOf("P0 P1 D1 D0", "")},
		{2, 0, rowsOf("P2 D2 P0 P1 D1 D0", "")},
	} {
		rise, e := p.Put(x.req)
		if rise != x.rise || e != api.OK || !sameRows(p.Routes(), x.rows) || p.Total() != 40 || p.Where(x.req) != 0 {
			t.Errorf("put %d is %d, %v: %v", x.req, rise, e, p.Routes())
		}
	}
}

// P13.2: a route of 16 stops takes no more, and another vehicle does, though it costs more; if all are so long, there is none; whoever takes one away lets one more in.
func TestLongRoutes(t *testing.T) {
	any := span(0, 1<<20)
	fleet := []api.Vehicle{{Home: at(9, 9), Cap: 100, End: 1 << 20}, {Home: at(900, 900), Cap: 100, Start: 7, End: 1 << 20}}
	requests := slices.Repeat([]api.Request{{From: at(9, 9), To: at(9, 9), Pick: any, Drop: any, Load: 1}}, 18)
	p := made(t, fleet, requests)
	for req := range 17 {
		should := price{0, 0, api.OK}
		switch {
		case req == 8:
			should = price{1, 2 * 1782, api.OK}
		case req > 8 && req < 16:
			should = price{1, 0, api.OK}
		case req == 16:
			should = price{0, 0, api.ErrNone}
		}
		if vehicle, rise, e := p.Price(req); (price{vehicle, rise, e}) != should {
			t.Errorf("the price of %d is %d, %d, %v; it should be %v", req, vehicle, rise, e, should)
		}
		if rise, e := p.Put(req); rise != should.rise || e != should.e {
			t.Errorf("put %d is %d, %v", req, rise, e)
		}
	}
	if len(p.All()) != 16 || p.Total() != 2*1782 || p.Has(16) {
		t.Errorf("there are %v, %d", p.All(), p.Total())
	}
	if e := p.Take(3); e != api.OK || p.Has(3) {
		t.Errorf("take is %v", e)
	}
	if rise, e := p.Put(17); rise != 0 || e != api.OK || p.Where(17) != 0 {
		t.Errorf("put 17 is %d, %v", rise, e)
	}
	if _, _, e := p.Price(3); e != api.ErrNone {
		t.Errorf("the price of 3 is %v", e)
	}
}

// P13.2: a request that was taken is as one that never was in the plan: it has a price again, is put in again, and taken again; the others keep their order.
func TestTakenAndPutAgain(t *testing.T) {
	any := span(0, 1000)
	v := api.Vehicle{Home: at(0, 0), Cap: 1, End: 1000} // one at a time
	var requests []api.Request
	for k := range 4 {
		requests = append(requests, api.Request{From: at(10*k+10, 0), To: at(10*k+15, 0), Pick: any, Drop: any, Load: 1})
	}
	p := made(t, []api.Vehicle{v}, requests)
	for req := range 4 {
		p.Put(req)
	}
	if !sameRows(p.Routes(), rowsOf("P0 D0 P1 D1 P2 D2 P3 D3")) || p.Total() != 90 {
		t.Fatalf("there are %v, %d", p.Routes(), p.Total())
	}
	for _, x := range []struct {
		req, total int
		all        []int
		row        string
	}{
		{1, 90, []int{0, 2, 3}, "P0 D0 P2 D2 P3 D3"},
		{3, 70, []int{0, 2}, "P0 D0 P2 D2"},
		{0, 70, []int{2}, "P2 D2"},
		{2, 0, nil, ""},
	} {
		if e := p.Take(x.req); e != api.OK || !sameRows(p.Routes(), rowsOf(x.row)) || p.Total() != x.total || !slices.Equal(p.All(), x.all) {
			t.Errorf("take %d is %v: %v, %v, %d", x.req, e, p.Routes(), p.All(), p.Total())
		}
		if e := p.Take(x.req); e != api.ErrNone || p.Has(x.req) || p.Where(x.req) != -1 {
			t.Errorf("take %d again is %v", x.req, e)
		}
	}
	for k, req := range []int{2, 0, 3, 1} {
		rise, e := p.Put(req)
		if rise != []int{70, 0, 20, 0}[k] || e != api.OK || !p.Has(req) {
			t.Errorf("put %d again is %d, %v", req, rise, e)
		}
	}
	if !slices.Equal(p.All(), []int{0, 1, 2, 3}) || p.Total() != 90 {
		t.Errorf("there are %v, %d", p.All(), p.Total())
	}
}

func nearby(r *rand.Rand) api.Place { return at(60+r.Intn(8), 80+r.Intn(8)) }

// anyWords are a fleet, and requests, by which some can be put, and some can't, for want of room, or of time, or of stops; vehicles are alike, or apart by one thing, now and then.
func anyWords(r *rand.Rand, most int) words {
	w := words{rows: make([][]api.Stop, 1+r.Intn(4))}
	haste := 1 + r.Intn(3)*r.Intn(300)
	for k := range w.rows {
		start := r.Intn(30)
		v := api.Vehicle{Home: nearby(r), Cap: 3 + r.Intn(20), Start: start, End: start + 30 + r.Intn(60) + haste}
		if k > 0 && r.Intn(3) > 0 {
			v = w.fleet[k-1]
			*[]*int{&v.Cap, &v.Start, &v.Home.X}[r.Intn(3)] += r.Intn(2)
		}
		w.fleet = append(w.fleet, v)
	}
	for range r.Intn(most + 1) {
		early := r.Intn(60)
		w.t = append(w.t, api.Request{From: nearby(r), To: nearby(r), Pick: span(early, early+r.Intn(40)+haste), Drop: span(early, early+20+r.Intn(60)+haste), Load: 1 + r.Intn(9), Serve: r.Intn(3) * r.Intn(5)})
	}
	return w
}

// P13.2, P13.3: whatever is put and taken, and in whichever order, what is told is as the words say, and so is all that the plan tells behind it.
func TestAsTheWordsSay(t *testing.T) {
	r := rand.New(rand.NewSource(1))
	codes, vehicles := map[api.Errno]int{}, [4]int{}
	for range 250 {
		w := anyWords(r, 12)
		p := made(t, w.fleet, w.t)
		for range 2 * len(w.t) {
			req := r.Intn(len(w.t)+2) - 1
			if r.Intn(4) > 0 {
				rise, e := p.Put(req)
				should, code := w.put(req)
				if rise != should || e != code {
					t.Fatalf("put %d into %v is %d, %v; it should be %d, %v", req, w, rise, e, should, code)
				}
				codes[e]++
				vehicles[max(0, p.Where(req))]++
			} else if e, should := p.Take(req), w.take(req); e != should {
				t.Fatalf("take %d of %v is %v; it should be %v", req, w, e, should)
			}
			if is, should := stateOf(p, len(w.t)), w.state(); !is.is(should) {
				t.Fatalf("%v is %v; it should be %v", w, is, should)
			}
		}
	}
	for _, code := range []api.Errno{api.OK, api.ErrStop, api.ErrTwice, api.ErrNone} {
		if codes[code] < 50 {
			t.Errorf("told is %v", codes)
		}
	}
	if slices.Min(vehicles[:]) < 50 {
		t.Errorf("the vehicles are %v", vehicles)
	}
}

// right tells whether feas finds nothing wrong with each route.
func right(w words, p *Plan) bool {
	for k, l := range p.Routes() {
		if feas.Check(w.fleet[k], l, w.t) != nil {
			return false
		}
	}
	return len(p.Routes()) == len(w.fleet)
}

// P13.4: each route is right, whatever was put and taken; a rise is the price, and by how much the total is more, and never below 0; who takes what was put last has all as it was; without any one of its requests a plan's total is no greater; prices change nothing.
func TestWhatFollows(t *testing.T) {
	r := rand.New(rand.NewSource(2))
	put, refused, less := 0, 0, 0
	for range 200 {
		w := anyWords(r, 12)
		p := made(t, w.fleet, w.t)
		for range 2 * len(w.t) {
			req, was := r.Intn(len(w.t)), stateOf(p, len(w.t))
			if again := stateOf(p, len(w.t)); !again.is(was) {
				t.Fatalf("%v is %v; it was %v", w, again, was)
			}
			rise, e := p.Put(req)
			if told := was.prices[req+1]; told.rise != rise || told.e != e || p.Total() != was.total+rise || rise < 0 || !right(w, p) {
				t.Fatalf("of %v the price of %d is %v; put it is %d, %v, and the total is %d, and was %d", w, req, told, rise, e, p.Total(), was.total)
			}
			if e != api.OK {
				refused++
				if now := stateOf(p, len(w.t)); !now.is(was) {
					t.Fatalf("put %d is %v, and it is %v; it was %v", req, e, now, was)
				}
			} else {
				put++
				back := p
				if r.Intn(2) == 0 {
					back = p.Copy()
				}
				if e := back.Take(req); e != api.OK || !stateOf(back, len(w.t)).is(was) {
					t.Fatalf("take %d is %v, and it is %v; it was %v", req, e, stateOf(back, len(w.t)), was)
				}
			}
			for _, req := range p.All() {
				q := p.Copy()
				if e := q.Take(req); e != api.OK || q.Total() > p.Total() || !right(w, q) {
					t.Fatalf("without %d it is %v, and the total is %d; it was %d", req, e, q.Total(), p.Total())
				}
				if q.Total() < p.Total() {
					less++
				}
			}
			if all := p.All(); len(all) > 0 && r.Intn(6) == 0 {
				p.Take(all[r.Intn(len(all))])
			}
		}
	}
	if put < 300 || refused < 300 || less < 300 {
		t.Errorf("put are %d, refused %d, less %d", put, refused, less)
	}
}

// P13.2: of one vehicle, and without any stops, the price is what it takes to serve the request alone.
func TestAlone(t *testing.T) {
	r := rand.New(rand.NewSource(3))
	some, none := 0, 0
	for range 1000 {
		w := anyWords(r, 9)
		p := made(t, w.fleet[:1], w.t)
		for req, q := range w.t {
			home, is := order.Alone(q, w.fleet[0])
			should := price{0, 0, api.ErrNone}
			if is {
				should = price{0, home - w.fleet[0].Start, api.OK}
				some++
			} else {
				none++
			}
			if vehicle, rise, e := p.Price(req); (price{vehicle, rise, e}) != should {
				t.Fatalf("of %v the price of %d is %d, %d, %v; it should be %v", w, req, vehicle, rise, e, should)
			}
		}
	}
	if some < 300 || none < 300 {
		t.Errorf("there are %d, and %d not", some, none)
	}
}

// P13.3: a copy is like the plan, and each goes its own way from there on; so does a copy of a copy.
func TestCopy(t *testing.T) {
	r := rand.New(rand.NewSource(4))
	changed := 0
	for range 80 {
		w := anyWords(r, 8)
		n := len(w.t)
		if n == 0 {
			continue
		}
		plans := []*Plan{made(t, w.fleet, w.t)}
		for range n {
			plans[0].Put(r.Intn(n))
		}
		plans = append(plans, plans[0].Copy(), plans[0].Copy())
		plans = append(plans, plans[1].Copy())
		for k, p := range plans {
			if slices.Contains(plans[:k], p) || !stateOf(p, n).is(stateOf(plans[0], n)) {
				t.Fatalf("of %v the copy %d is %v", w, k, stateOf(p, n))
			}
		}
		for range 2 * n {
			k, req := r.Intn(len(plans)), r.Intn(n)
			var was []state
			for _, p := range plans {
				was = append(was, stateOf(p, n))
			}
			if _, e := plans[k].Put(req); e != api.OK {
				plans[k].Take(req)
			}
			for j, p := range plans {
				if is := stateOf(p, n); j != k && !is.is(was[j]) {
					t.Fatalf("%d of %d was changed, and %d is %v; it was %v", req, k, j, is, was[j])
				} else if !is.is(was[j]) {
					changed++
				}
			}
		}
	}
	if changed < 200 {
		t.Errorf("changed were %d", changed)
	}
}

// P13.1, P13.3: what was handed in may be changed by its owner, and what is told by the caller, to the end of its room: the plan stays as it is; and what was handed in stays as it was, and so does what lies behind it.
func TestNothingIsChangedNorShared(t *testing.T) {
	r := rand.New(rand.NewSource(5))
	for range 150 {
		w := anyWords(r, 8)
		n := len(w.t)
		fleet, requests := slices.Concat(w.fleet, slices.Repeat(w.fleet[:1], 9)), slices.Concat(w.t, make([]api.Request, 9))
		ownFleet, ownRequests := slices.Clone(fleet), slices.Clone(requests)
		p := made(t, fleet[:len(w.fleet)], requests[:n])
		for req := range n {
			p.Put(req)
		}
		for range n / 2 {
			p.Take(r.Intn(n))
		}
		was := stateOf(p, n)
		if !slices.Equal(fleet, ownFleet) || !slices.Equal(requests, ownRequests) {
			t.Fatalf("there are %v and %v; there were %v and %v", fleet, requests, ownFleet, ownRequests)
		}
		clear(fleet)
		clear(requests)
		q := p.Copy()
		for _, p := range []*Plan{p, q} {
			all, rows := p.All(), p.Routes()
			clear(all[:cap(all)])
			for k, row := range rows {
				rows[k] = append(row, of("P99 D99")...)
				clear(row[:cap(row)])
				if again := p.Routes(); !sameRows(again, was.routes) {
					t.Fatalf("it is %v; it was %v", again, was.routes)
				}
			}
			clear(rows[:cap(rows)])
		}
		if !stateOf(p, n).is(was) || !stateOf(q, n).is(was) {
			t.Fatalf("it is %v, and its copy %v; it was %v", stateOf(p, n), stateOf(q, n), was)
		}
	}
}

// P13.3: of the routes that are told none shares its memory with another one, though they are of vehicles alike.
func TestRoutesLieApart(t *testing.T) {
	any := span(0, 1000)
	v := api.Vehicle{Home: at(0, 0), Cap: 1, End: 25}
	requests := slices.Repeat([]api.Request{{From: at(10, 0), To: at(10, 0), Pick: any, Drop: any, Load: 1, Serve: 2}}, 4)
	p := made(t, slices.Repeat([]api.Vehicle{v}, 4), requests)
	for req := range 4 {
		if rise, e := p.Put(req); rise != 24 || e != api.OK || p.Where(req) != req {
			t.Fatalf("put %d is %d, %v, by %d", req, rise, e, p.Where(req))
		}
	}
	rows := p.Routes()
	for k := range rows {
		rest := slices.Clone(rows)
		for j, row := range rest {
			rest[j] = slices.Clone(row)
		}
		clear(rows[k][:cap(rows[k])])
		for j, row := range rows {
			if j != k && !slices.Equal(row, rest[j]) {
				t.Errorf("the route %d was changed, and %d is %v", k, j, row)
			}
		}
	}
	if p.Total() != 96 || !sameRows(p.Routes(), rowsOf("P0 D0", "P1 D1", "P2 D2", "P3 D3")) {
		t.Errorf("there are %v, %d", p.Routes(), p.Total())
	}
}

// P13.2, P13.3: the greatest fleet, with the greatest numbers, and 64 requests, of which just 32 find a place.
func TestGreatNumbers(t *testing.T) {
	r := api.Request{From: at(1023, 1023), To: at(0, 0), Pick: span(0, 1<<20), Drop: span(0, 1<<20), Load: 1000, Serve: 1000}
	v := api.Vehicle{Home: at(0, 0), Cap: 100000, End: 1 << 20}
	p := made(t, slices.Repeat([]api.Vehicle{v}, 4), slices.Repeat([]api.Request{r}, 64))
	total := 0
	for req := range 64 {
		rise, e := p.Put(req)
		switch {
		case req >= 32:
			if rise != 0 || e != api.ErrNone {
				t.Errorf("put %d is %d, %v", req, rise, e)
			}
		case req%8 == 0: // the first one of a vehicle
			total += 6092
			if rise != 6092 || e != api.OK || p.Where(req) != req/8 {
				t.Errorf("put %d is %d, %v", req, rise, e)
			}
		default:
			total += 2000
			if rise != 2000 || e != api.OK || p.Where(req) != req/8 {
				t.Errorf("put %d is %d, %v", req, rise, e)
			}
		}
		if p.Total() != total {
			t.Errorf("behind %d the total is %d; it should be %d", req, p.Total(), total)
		}
	}
	last := api.Request{From: at(7, 8), To: at(7, 8), Pick: span(1<<20, 1<<20), Drop: span(1<<20, 1<<20), Load: 1}
	w := api.Vehicle{Home: at(7, 8), Cap: 1, Start: 1 << 20, End: 1 << 20}
	q := made(t, []api.Vehicle{{Home: at(7, 8), Cap: 1, End: 1 << 20}, w}, []api.Request{last})
	if rise, e := q.Put(0); rise != 0 || e != api.OK || q.Where(0) != 1 || q.Total() != 0 {
		t.Errorf("put is %d, %v, by %d", rise, e, q.Where(0))
	}
	q = made(t, []api.Vehicle{{Home: at(7, 8), Cap: 1, End: 1 << 20}}, []api.Request{last})
	if rise, e := q.Put(0); rise != 1<<20 || e != api.OK || q.Total() != 1<<20 {
		t.Errorf("put is %d, %v, and the total %d", rise, e, q.Total())
	}
}
