package sched

import (
	"math"
	"math/rand"
	"slices"
	"strconv"
	"strings"
	"testing"

	"consign/api"
)

// of is the row that a text tells: P3 is a Pick of 3, D3 its Drop, X3 a stop of it that is neither.
func of(text string) []api.Stop {
	var l []api.Stop
	for _, word := range strings.Fields(text) {
		req, err := strconv.Atoi(word[1:])
		if err != nil {
			panic(err)
		}
		l = append(l, api.Stop{Req: req, Kind: strings.Index("PDX", word[:1])})
	}
	return l
}

func at(x, y int) api.Place { return api.Place{X: x, Y: y} }

func span(early, late int) api.Window { return api.Window{Early: early, Late: late} }

// extremes are the numbers at the ends of int, and of lesser ones.
func extremes() []int {
	return []int{math.MinInt, math.MinInt + 1, math.MinInt32 - 1, math.MinInt32, math.MaxInt32, math.MaxInt32 + 1, math.MaxInt - 1, math.MaxInt}
}

// told is what Times and Spent tell.
type told struct {
	times            []api.Time
	end              int
	way, wait, serve int
	code             api.Errno
}

func (a told) same(b told) bool {
	return slices.Equal(a.times, b.times) && a.end == b.end && a.way == b.way && a.wait == b.wait && a.serve == b.serve && a.code == b.code
}

// ask asks both; where Spent has another error than Times, that is a code that there is none of.
func ask(v api.Vehicle, l []api.Stop, t []api.Request) told {
	var a told
	var e api.Errno
	a.times, a.end, a.code = Times(v, l, t)
	a.way, a.wait, a.serve, e = Spent(v, l, t)
	if e != a.code {
		a.code = -1
	}
	return a
}

// problem is what is asked about.
type problem struct {
	v api.Vehicle
	l []api.Stop
	t []api.Request
}

func (p problem) ask() told { return ask(p.v, p.l, p.t) }

// cloned may be changed, while the problem stays as it is.
func (p problem) cloned() problem {
	return problem{p.v, slices.Clone(p.l), slices.Clone(p.t)}
}

func within(n, least, most int) bool { return n >= least && n <= most }

func placeMay(p api.Place) bool { return within(p.X, 0, 1023) && within(p.Y, 0, 1023) }

func windowMay(w api.Window) bool { return w.Early >= 0 && w.Late <= 1<<20 && w.Early <= w.Late }

func vehicleMay(v api.Vehicle) bool {
	return placeMay(v.Home) && within(v.Cap, 1, 100000) && v.Start >= 0 && v.End <= 1<<20 && v.Start <= v.End
}

func requestMay(r api.Request) bool {
	return placeMay(r.From) && placeMay(r.To) && windowMay(r.Pick) && windowMay(r.Drop) && within(r.Load, 1, 1000) && within(r.Serve, 0, 1000)
}

// isRoute asks of each stop anew.
func isRoute(l []api.Stop) bool {
	if len(l) > 16 {
		return false
	}
	for _, s := range l {
		var kinds []int
		for _, o := range l {
			if o.Req == s.Req {
				kinds = append(kinds, o.Kind)
			}
		}
		if s.Req < 0 || !slices.Equal(kinds, []int{0, 1}) {
			return false
		}
	}
	return true
}

// where is the place and the window of a stop that has them.
func where(s api.Stop, t []api.Request) (api.Place, api.Window) {
	if s.Kind == 0 {
		return t[s.Req].From, t[s.Req].Pick
	}
	return t[s.Req].To, t[s.Req].Drop
}

// says is what the document's words say, by going minute by minute, so that it is for short times alone.
func (p problem) says() told {
	if !vehicleMay(p.v) || slices.ContainsFunc(p.t, func(r api.Request) bool { return !requestMay(r) }) {
		return told{code: api.ErrArg}
	}
	if !isRoute(p.l) || slices.ContainsFunc(p.l, func(s api.Stop) bool { return s.Req >= len(p.t) }) {
		return told{code: api.ErrStop}
	}
	var a told
	now, here := p.v.Start, p.v.Home
	drive := func(to api.Place) {
		for here != to {
			here = step(here, to)
			now++
			a.way++
		}
	}
	for _, s := range p.l {
		place, w := where(s, p.t)
		drive(place)
		time := api.Time{Arrive: now}
		for now < w.Early {
			now++
			a.wait++
		}
		if now > w.Late {
			return told{code: api.ErrLate}
		}
		time.Begin = now
		for range p.t[s.Req].Serve {
			now++
			a.serve++
		}
		time.Leave = now
		a.times = append(a.times, time)
	}
	drive(p.v.Home)
	if now > p.v.End {
		return told{code: api.ErrLate}
	}
	a.end = now
	return a
}

// step is one minute's way.
func step(from, to api.Place) api.Place {
	switch {
	case from.X < to.X:
		from.X++
	case from.X > to.X:
		from.X--
	case from.Y < to.Y:
		from.Y++
	default:
		from.Y--
	}
	return from
}

// the vehicle and the request of the chapter.
func chapter() problem {
	return problem{
		v: api.Vehicle{Home: at(0, 0), Cap: 1, Start: 10, End: 100},
		l: of("P0 D0"),
		t: []api.Request{{From: at(3, 0), To: at(3, 4), Pick: span(20, 30), Drop: span(0, 60), Load: 1, Serve: 2}},
	}
}

// line has four requests along a line, which a vehicle at its begin picks up on its way out, and drops on its way back.
func line() problem {
	p := problem{v: api.Vehicle{Home: at(0, 0), Cap: 1, Start: 0, End: 1000}, l: of("P0 P1 P2 P3 D3 D2 D1 D0")}
	for k := range 4 {
		p.t = append(p.t, api.Request{From: at(10*k+10, 0), To: at(10*k+10, 5), Pick: span(0, 1000), Drop: span(0, 1000), Load: 1000, Serve: k})
	}
	return p
}

// P7.1, P7.3: the chapter's examples.
func TestOfTheChapter(t *testing.T) {
	p := chapter()
	should := told{[]api.Time{{Arrive: 13, Begin: 20, Leave: 22}, {Arrive: 26, Begin: 26, Leave: 28}}, 35, 14, 7, 4, api.OK}
	if a := p.ask(); !a.same(should) {
		t.Errorf("it is %v; it should be %v", a, should)
	}
	if a := ask(p.v, nil, p.t); !a.same(told{end: 10}) {
		t.Errorf("without stops it is %v", a)
	}
	p.v.End = 34
	if a := p.ask(); !a.same(told{code: api.ErrLate}) {
		t.Errorf("with End 34 it is %v", a)
	}
	p.v.End, p.v.Start = 100, 28
	if a := p.ask(); !a.same(told{code: api.ErrLate}) {
		t.Errorf("with Start 28 it is %v", a)
	}
}

// P7.1, P7.3: without stops the end is Start, whatever requests there are, and all is nothing.
func TestWithoutStops(t *testing.T) {
	for _, start := range []int{0, 1, 10, 1<<20 - 1, 1 << 20} {
		for _, end := range []int{start, (start + 1<<20) / 2, 1 << 20} {
			for _, requests := range [][]api.Request{nil, {}, line().t} {
				for _, l := range [][]api.Stop{nil, {}} {
					v := api.Vehicle{Home: at(1023, 7), Cap: 100000, Start: start, End: end}
					if a := ask(v, l, requests); !a.same(told{end: start}) {
						t.Errorf("from %d to %d it is %v", start, end, a)
					}
				}
			}
		}
	}
}

// P7.1, P7.3: stops that are come to ahead of their windows, at either end of them, and too late; and so for the end.
func TestWindowsByHand(t *testing.T) {
	// it leaves at 10, and is 3 away; 4 further on it drops; from there home is 7 away
	for _, x := range []struct {
		pick, drop api.Window
		serve, end int
		should     told
	}{
		{span(0, 1000), span(0, 1000), 0, 24, told{[]api.Time{{Arrive: 13, Begin: 13, Leave: 13}, {Arrive: 17, Begin: 17, Leave: 17}}, 24, 14, 0, 0, 0}},
		{span(0, 1000), span(0, 1000), 0, 23, told{code: api.ErrLate}},
		{span(0, 1000), span(0, 1000), 5, 34, told{[]api.Time{{Arrive: 13, Begin: 13, Leave: 18}, {Arrive: 22, Begin: 22, Leave: 27}}, 34, 14, 0, 10, 0}},
		{span(0, 1000), span(0, 1000), 5, 33, told{code: api.ErrLate}},
		{span(13, 13), span(22, 22), 5, 34, told{[]api.Time{{Arrive: 13, Begin: 13, Leave: 18}, {Arrive: 22, Begin: 22, Leave: 27}}, 34, 14, 0, 10, 0}},
		{span(13, 20), span(22, 30), 5, 34, told{[]api.Time{{Arrive: 13, Begin: 13, Leave: 18}, {Arrive: 22, Begin: 22, Leave: 27}}, 34, 14, 0, 10, 0}},
		{span(5, 13), span(9, 22), 5, 34, told{[]api.Time{{Arrive: 13, Begin: 13, Leave: 18}, {Arrive: 22, Begin: 22, Leave: 27}}, 34, 14, 0, 10, 0}},
		{span(5, 12), span(9, 22), 5, 34, told{code: api.ErrLate}},
		{span(12, 12), span(9, 22), 5, 34, told{code: api.ErrLate}},
		{span(5, 13), span(9, 21), 5, 34, told{code: api.ErrLate}},
		{span(5, 13), span(21, 21), 5, 34, told{code: api.ErrLate}},
		{span(0, 0), span(0, 0), 0, 1000, told{code: api.ErrLate}},
		{span(14, 14), span(0, 23), 5, 35, told{[]api.Time{{Arrive: 13, Begin: 14, Leave: 19}, {Arrive: 23, Begin: 23, Leave: 28}}, 35, 14, 1, 10, 0}},
		{span(14, 14), span(0, 22), 5, 35, told{code: api.ErrLate}},
		{span(14, 14), span(0, 23), 5, 34, told{code: api.ErrLate}},
		{span(0, 13), span(23, 90), 5, 35, told{[]api.Time{{Arrive: 13, Begin: 13, Leave: 18}, {Arrive: 22, Begin: 23, Leave: 28}}, 35, 14, 1, 10, 0}},
		{span(0, 13), span(23, 90), 5, 34, told{code: api.ErrLate}},
		{span(50, 60), span(100, 100), 1, 108, told{[]api.Time{{Arrive: 13, Begin: 50, Leave: 51}, {Arrive: 55, Begin: 100, Leave: 101}}, 108, 14, 82, 2, 0}},
	} {
		p := chapter()
		p.t[0].Pick, p.t[0].Drop, p.t[0].Serve, p.v.End = x.pick, x.drop, x.serve, x.end
		if a := p.ask(); !a.same(x.should) {
			t.Errorf("%v is %v; it should be %v", p, a, x.should)
		}
	}
}

// P7.1: just in time, and one too late, for each stop of a row, and for the end: those ahead of it being as they like.
func TestEachStopJustInTime(t *testing.T) {
	for _, p := range []problem{line(), long()} {
		free := p.ask()
		if free.code != api.OK {
			t.Fatalf("%v is %v", p, free.code)
		}
		for k, s := range p.l {
			for late := range 3 {
				q := p.cloned()
				w := windowOf(q.t, s)
				*w = span(0, free.times[k].Arrive+late-1)
				should := free
				if late == 0 {
					should = told{code: api.ErrLate}
				}
				if a := q.ask(); !a.same(should) {
					t.Errorf("%v is %v; it should be %v", q, a, should)
				}
			}
		}
		p.v.End = free.end
		if a := p.ask(); !a.same(free) {
			t.Errorf("%v is %v; it should be %v", p, a, free)
		}
		p.v.End--
		if a := p.ask(); !a.same(told{code: api.ErrLate}) {
			t.Errorf("%v is %v", p, a)
		}
	}
}

func windowOf(t []api.Request, s api.Stop) *api.Window {
	if s.Kind == 0 {
		return &t[s.Req].Pick
	}
	return &t[s.Req].Drop
}

// long is a route of as many stops as there may be, all requests of it being under way at once; it starts behind time that nobody needs.
func long() problem {
	p := problem{v: api.Vehicle{Home: at(500, 500), Cap: 100, Start: 77, End: 1 << 20}, l: of("P7 P6 P5 P4 P3 P2 P1 P0 D3 D4 D2 D5 D1 D6 D0 D7")}
	for k := range 8 {
		p.t = append(p.t, api.Request{From: at(100*k, 90*k), To: at(1000-100*k, 3*k), Pick: span(0, 1<<20), Drop: span(0, 1<<20), Load: k + 1, Serve: 125 * k})
	}
	return p
}

// P7.1, P7.3: routes up to the longest one, at the corners of the grid, with the greatest numbers that may be.
func TestGreatNumbers(t *testing.T) {
	r := api.Request{From: at(1023, 1023), To: at(0, 0), Pick: span(0, 1<<20), Drop: span(0, 1<<20), Load: 1000, Serve: 1000}
	p := problem{v: api.Vehicle{Home: at(0, 0), Cap: 100000, End: 1 << 20}}
	var should told
	for k := range 8 {
		p.t = append(p.t, r)
		p.l = append(p.l, of("P"+strconv.Itoa(k)+" D"+strconv.Itoa(k))...)
		left := should.end
		should.times = append(should.times, api.Time{Arrive: left + 2046, Begin: left + 2046, Leave: left + 3046}, api.Time{Arrive: left + 5092, Begin: left + 5092, Leave: left + 6092})
		should.way += 4092
		should.serve += 2000
		should.end = left + 6092
		if a := p.ask(); !a.same(should) {
			t.Fatalf("of %d requests it is %v; it should be %v", k+1, a, should)
		}
	}
	// as late as it may be, with no service, from a home that is where it is dropped: all of it in the last minute
	last := span(1<<20, 1<<20)
	q := problem{v: api.Vehicle{Home: at(5, 5), Cap: 1, Start: 1 << 20, End: 1 << 20}, l: of("P0 D0"), t: []api.Request{{From: at(5, 5), To: at(5, 5), Pick: last, Drop: last, Load: 1}}}
	now := api.Time{Arrive: 1 << 20, Begin: 1 << 20, Leave: 1 << 20}
	if a := q.ask(); !a.same(told{times: []api.Time{now, now}, end: 1 << 20}) {
		t.Errorf("in the last minute it is %v", a)
	}
	// one minute more is too much: of service, of a way there, and of a way back
	for _, spoil := range []func(){
		func() { q.t[0].Serve = 1 },
		func() { q.t[0].From.X++ },
		func() { q.t[0].To.Y-- },
		func() { q.v.Home.X-- },
	} {
		was := q.cloned()
		if spoil(); !q.ask().same(told{code: api.ErrLate}) {
			t.Errorf("%v is %v", q, q.ask())
		}
		q = was
	}
}

// wrong is a way to spoil a problem, and the code that it is told by.
type wrong struct {
	name  string
	code  api.Errno
	spoil func(p *problem)
}

// wrongs are the ways in which a vehicle, a request, and a row may not be; those of one code leave alone what those of another one change.
func wrongs() []wrong {
	l := []wrong{
		{"Home west of the grid", api.ErrArg, func(p *problem) { p.v.Home.X = -1 }},
		{"Home east of the grid", api.ErrArg, func(p *problem) { p.v.Home.X = 1024 }},
		{"Home south of the grid", api.ErrArg, func(p *problem) { p.v.Home.Y = -1 }},
		{"Home north of the grid", api.ErrArg, func(p *problem) { p.v.Home.Y = 1024 }},
		{"Cap 0", api.ErrArg, func(p *problem) { p.v.Cap = 0 }},
		{"Cap too great", api.ErrArg, func(p *problem) { p.v.Cap = 100001 }},
		{"Start below 0", api.ErrArg, func(p *problem) { p.v.Start = -1 }},
		{"Start above End", api.ErrArg, func(p *problem) { p.v.Start = p.v.End + 1 }},
		{"End too great", api.ErrArg, func(p *problem) { p.v.End = 1<<20 + 1 }},
		{"too many stops", api.ErrStop, func(p *problem) { p.l = slices.Repeat(of("P0"), 17) }},
		{"a Drop ahead of its Pick", api.ErrStop, func(p *problem) { slices.Reverse(p.l) }},
		{"no Drop", api.ErrStop, func(p *problem) { p.l = p.l[:len(p.l)-1] }},
		{"no Pick", api.ErrStop, func(p *problem) { p.l = p.l[1:] }},
		{"a stop twice", api.ErrStop, func(p *problem) { p.l = append(p.l[:1:1], p.l...) }},
		{"a Kind that is none", api.ErrStop, func(p *problem) { p.l[0].Kind = 2 }},
		{"a Kind below 0", api.ErrStop, func(p *problem) { p.l[0].Kind = -1 }},
		{"a request below 0", api.ErrStop, func(p *problem) { p.l = append(p.l, pair(-1)...) }},
		{"a request that is just none", api.ErrStop, func(p *problem) { p.l = append(p.l, pair(len(p.t))...) }},
		{"a request far above", api.ErrStop, func(p *problem) { p.l = append(p.l, pair(1<<40)...) }},
		{"the greatest request", api.ErrStop, func(p *problem) { p.l = append(pair(math.MaxInt), p.l...) }},
	}
	for _, which := range []string{"first", "middle", "last"} {
		of := func(p *problem) *api.Request {
			return &p.t[map[string]int{"first": 0, "middle": len(p.t) / 2, "last": len(p.t) - 1}[which]]
		}
		l = append(l,
			wrong{which + " From", api.ErrArg, func(p *problem) { of(p).From.X = -1 }},
			wrong{which + " To", api.ErrArg, func(p *problem) { of(p).To.Y = 1024 }},
			wrong{which + " Pick", api.ErrArg, func(p *problem) { of(p).Pick = span(8, 7) }},
			wrong{which + " Drop", api.ErrArg, func(p *problem) { of(p).Drop.Late = 1<<20 + 1 }},
			wrong{which + " Load 0", api.ErrArg, func(p *problem) { of(p).Load = 0 }},
			wrong{which + " Load too great", api.ErrArg, func(p *problem) { of(p).Load = 1001 }},
			wrong{which + " Serve below 0", api.ErrArg, func(p *problem) { of(p).Serve = -1 }},
			wrong{which + " Serve too great", api.ErrArg, func(p *problem) { of(p).Serve = 1001 }},
		)
	}
	return l
}

func pair(req int) []api.Stop { return []api.Stop{{Req: req, Kind: 0}, {Req: req, Kind: 1}} }

// among has the chapter's request in the middle of others, which no stop names.
func among() problem {
	p := chapter()
	p.l, p.t = pair(4), slices.Concat(line().t, p.t, line().t)
	return p
}

// P7.1, P7.3: each thing that is wrong, alone, and each two: those of arguments are told ahead of those of stops, and both ahead of what is late.
func TestErrorsInTheirOrder(t *testing.T) {
	inTime, home, stop := among(), among(), among()
	home.v.End = 34
	stop.t[4].Pick = span(0, 12)
	for p, code := range map[*problem]api.Errno{&inTime: api.OK, &home: api.ErrLate, &stop: api.ErrLate} {
		if a := p.ask(); a.code != code {
			t.Errorf("%v is %v; it should be %v", p, a, code)
		}
		for _, a := range wrongs() {
			q := p.cloned()
			if a.spoil(&q); !q.ask().same(told{code: a.code}) {
				t.Errorf("%s is %v; it should be %v", a.name, q.ask(), a.code)
			}
			for _, b := range wrongs() {
				if a.code == b.code {
					continue
				}
				q := p.cloned()
				a.spoil(&q)
				if b.spoil(&q); !q.ask().same(told{code: api.ErrArg}) {
					t.Errorf("%s and %s are %v", a.name, b.name, q.ask())
				}
			}
		}
	}
}

// P7.1: what may not be is told ahead of a route that is none, be it ahead of all or behind all, and be it that no stop names it.
func TestRequestsThatMayNotBe(t *testing.T) {
	bad := line().t[0]
	bad.Load = 0
	for _, l := range []string{"", "P0 D0", "P1 D1", "D0 P0", "P9 D9", "P0 P1 D0 D1"} {
		for k := range 3 {
			requests := slices.Insert(slices.Clone(line().t[:2]), k, bad)
			if a := ask(line().v, of(l), requests); !a.same(told{code: api.ErrArg}) {
				t.Errorf("%s with the request %d bad is %v", l, k, a)
			}
		}
	}
	many := slices.Repeat(line().t, 2000)
	if a := ask(line().v, of("P7999 D7999"), many); a.code != api.OK || len(a.times) != 2 {
		t.Errorf("of 8000 requests it is %v", a)
	}
	many[7998].Serve = 1001
	if a := ask(line().v, of("P7999 D7999"), many); !a.same(told{code: api.ErrArg}) {
		t.Errorf("of 8000 requests, with one bad, it is %v", a)
	}
}

// P7.1: requests that are none of t: below 0, just behind the last one, and above, at any place of a route, and without any requests.
func TestRequestsThatAreNone(t *testing.T) {
	p := line()
	for _, req := range append(extremes(), -2, -1, 4, 5, 64, 1000) {
		for place := range len(p.l) + 1 {
			l := slices.Concat(p.l[:place], pair(req), p.l[place:])
			if a := ask(p.v, l, p.t); !a.same(told{code: api.ErrStop}) {
				t.Errorf("%v of %d requests is %v", l, len(p.t), a)
			}
		}
	}
	for n := range 5 {
		code := api.ErrStop
		if n == 4 {
			code = api.OK
		}
		if a := ask(p.v, p.l, p.t[:n]); a.code != code {
			t.Errorf("%v of %d requests is %v", p.l, n, a)
		}
		if a := ask(p.v, of("P0 D0"), p.t[:n]); (a.code == api.OK) != (n > 0) {
			t.Errorf("P0 D0 of %d requests is %v", n, a)
		}
	}
	// what comes too late ahead of it is not looked at
	p.t[0].Pick = span(0, 0)
	for l, code := range map[string]api.Errno{"P0 D0": api.ErrLate, "P0 D0 P4 D4": api.ErrStop, "P0 D0 P3 P3": api.ErrStop, "P0 P4 D4 D0": api.ErrStop} {
		if a := ask(p.v, of(l), p.t); !a.same(told{code: code}) {
			t.Errorf("%s is %v; it should be %v", l, a, code)
		}
	}
}

// P7.1: rows that are no routes, up to those that are one but for their length.
func TestRowsThatAreNoRoutes(t *testing.T) {
	p := long()
	p.t = append(p.t, p.t...)
	for _, l := range []string{"P0", "D0", "D0 P0", "P0 P0 D0", "P0 D0 D0", "P0 D0 P0 D0", "P0 D1", "P0 P1 D0", "P0 X0", "P0 D0 X0", "X0", "P0 D0 X5", "P0 D0 P1"} {
		if a := ask(p.v, of(l), p.t); !a.same(told{code: api.ErrStop}) {
			t.Errorf("%s is %v", l, a)
		}
	}
	if a := p.ask(); a.code != api.OK || len(a.times) != 16 {
		t.Errorf("%v is %v", p.l, a)
	}
	for place := range 17 {
		l := slices.Concat(p.l[:place], of("P8 D8"), p.l[place:])
		if a := ask(p.v, l, p.t); !a.same(told{code: api.ErrStop}) {
			t.Errorf("%v is %v", l, a)
		}
	}
}

// P7.2: of each Kind, and each request, those that are and those that are none; whether a request may be is not asked.
func TestPlaceAndWindow(t *testing.T) {
	requests := line().t
	requests[1].From, requests[1].To = at(-5, 1024), at(math.MinInt, math.MaxInt)
	requests[1].Pick, requests[1].Drop = span(9, 3), span(math.MinInt, math.MaxInt)
	requests[2] = api.Request{}
	for n := range 5 {
		some := requests[:n]
		for _, req := range append(extremes(), -2, -1, 0, 1, 2, 3, 4, 5) {
			for _, kind := range append(extremes(), -2, -1, 0, 1, 2, 3) {
				s := api.Stop{Req: req, Kind: kind}
				var place api.Place
				var w api.Window
				is := within(req, 0, n-1) && (kind == 0 || kind == 1)
				if is {
					place, w = where(s, some)
				}
				if a, there := Place(s, some); a != place || there != is {
					t.Errorf("the place of %v, of %d requests, is %v, %v; it should be %v, %v", s, n, a, there, place, is)
				}
				if a, there := Window(s, some); a != w || there != is {
					t.Errorf("the window of %v, of %d requests, is %v, %v; it should be %v, %v", s, n, a, there, w, is)
				}
			}
		}
	}
	p := chapter()
	if a, is := Place(p.l[1], p.t); a != at(3, 4) || !is {
		t.Errorf("it is dropped at %v, %v", a, is)
	}
	if a, is := Window(p.l[0], p.t); a != span(20, 30) || !is {
		t.Errorf("it is picked up in %v, %v", a, is)
	}
}

// anyProblem is one of up to eight requests: most of the time all windows are met, or missed by little.
func anyProblem(r *rand.Rand) problem {
	n := r.Intn(9)
	p := problem{v: api.Vehicle{Home: near(r), Cap: 1 + r.Intn(9), Start: r.Intn(30)}, t: make([]api.Request, n+r.Intn(3))}
	for k := range p.t {
		p.t[k] = api.Request{From: near(r), To: near(r), Pick: span(r.Intn(9), 9), Drop: span(3, 3+r.Intn(99)), Load: 1 + r.Intn(9), Serve: r.Intn(3) * r.Intn(5)}
	}
	for _, req := range r.Perm(len(p.t))[:n] {
		i := r.Intn(len(p.l) + 1)
		j := i + r.Intn(len(p.l)+1-i)
		p.l = slices.Insert(p.l, j, api.Stop{Req: req, Kind: 1})
		p.l = slices.Insert(p.l, i, api.Stop{Req: req, Kind: 0})
	}
	now, here := p.v.Start, p.v.Home
	for _, s := range p.l {
		place, _ := where(s, p.t)
		now += apart(here, place)
		early := max(0, now+r.Intn(12)-8)
		late := max(early, now+r.Intn(4))
		if r.Intn(40) == 0 {
			late = max(0, max(early, now)-1)
			early = min(early, late)
		}
		*windowOf(p.t, s) = span(early, late)
		now, here = max(now, early)+p.t[s.Req].Serve, place
	}
	p.v.End = max(p.v.Start, now+apart(here, p.v.Home)+r.Intn(8)-1)
	return p
}

func near(r *rand.Rand) api.Place { return at(60+r.Intn(7), 80+r.Intn(7)) }

func apart(a, b api.Place) int {
	far := 0
	for a != b {
		a = step(a, b)
		far++
	}
	return far
}

// spoilt is a problem with one thing changed.
func spoilt(r *rand.Rand, p problem) problem {
	p = p.cloned()
	switch all := wrongs(); {
	case r.Intn(3) > 0 && len(p.l) > 0:
		all[r.Intn(len(all))].spoil(&p)
	case len(p.l) > 0:
		s := p.l[r.Intn(len(p.l))]
		windowOf(p.t, s).Late += r.Intn(7) - 5
	default:
		p.l = append(p.l, of("P0")...)
	}
	return p
}

// P7.1, P7.3: of all kinds of problems, it is as the words say, minute by minute.
func TestAsTheWordsSay(t *testing.T) {
	r := rand.New(rand.NewSource(1))
	codes, longest := map[api.Errno]int{}, 0
	for range 20000 {
		p := anyProblem(r)
		for _, q := range []problem{p, spoilt(r, p)} {
			should := q.says()
			codes[should.code]++
			longest = max(longest, len(should.times))
			if a := q.ask(); !a.same(should) {
				t.Fatalf("%v is %v; it should be %v", q, a, should)
			}
		}
	}
	for _, code := range []api.Errno{api.OK, api.ErrArg, api.ErrStop, api.ErrLate} {
		if codes[code] < 2000 {
			t.Errorf("told is %v", codes)
		}
	}
	if longest != 16 {
		t.Errorf("the longest route that was in time has %d stops", longest)
	}
}

// P7.1: no other times at which a vehicle could be on time are earlier anywhere: by going through all times at which it may begin.
func TestAsEarlyAsItCan(t *testing.T) {
	r := rand.New(rand.NewSource(2))
	tried := 0
	for tried < 300 {
		p := anyProblem(r)
		if len(p.l) == 0 || len(p.l) > 4 {
			continue
		}
		tried++
		times, end, e := Times(p.v, p.l, p.t)
		found := false
		others(p, func(begins []int, home int) {
			found = true
			for k := range times {
				if begins[k] < times[k].Begin {
					t.Fatalf("%v has begins %v, ahead of %v", p, begins, times)
				}
			}
			if home < end {
				t.Fatalf("%v is home at %d, ahead of %d", p, home, end)
			}
		})
		if found != (e == api.OK) {
			t.Fatalf("%v is %v, and some times serve it: %v", p, e, found)
		}
	}
}

// others goes through all times that are in the windows, and far enough apart.
func others(p problem, tell func(begins []int, home int)) {
	var on func(begins []int, left int, here api.Place)
	on = func(begins []int, left int, here api.Place) {
		if len(begins) == len(p.l) {
			if home := left + apart(here, p.v.Home); home <= p.v.End {
				tell(begins, home)
			}
			return
		}
		s := p.l[len(begins)]
		place, w := where(s, p.t)
		for begin := w.Early; begin <= w.Late; begin++ {
			if begin >= left+apart(here, place) {
				on(append(begins[:len(begins):len(begins)], begin), begin+p.t[s.Req].Serve, place)
			}
		}
	}
	on(nil, p.v.Start, p.v.Home)
}

// P7.4: way, wait and serve are the time from Start to the end, and no stop begins ahead of the one ahead of it.
func TestTimesGoOn(t *testing.T) {
	r := rand.New(rand.NewSource(3))
	inTime := 0
	for range 20000 {
		p := anyProblem(r)
		a := p.ask()
		if a.code != api.OK {
			continue
		}
		inTime++
		if a.way+a.wait+a.serve != a.end-p.v.Start || min(a.way, a.wait, a.serve) < 0 {
			t.Fatalf("%v is %v", p, a)
		}
		if len(a.times) != len(p.l) {
			t.Fatalf("%v has %d times", p, len(a.times))
		}
		at := api.Time{Begin: p.v.Start, Leave: p.v.Start}
		for k, time := range a.times {
			_, w := where(p.l[k], p.t)
			if time.Begin < at.Begin || time.Arrive < at.Leave || time.Begin < time.Arrive || time.Leave < time.Begin || !within(time.Begin, w.Early, w.Late) {
				t.Fatalf("%v has times %v", p, a.times)
			}
			at = time
		}
		if !within(a.end, at.Leave, p.v.End) {
			t.Fatalf("%v is home at %d", p, a.end)
		}
	}
	if inTime < 5000 {
		t.Errorf("in time are %d", inTime)
	}
}

// P7.4: who starts later is nowhere earlier, and not in time where who starts earlier is not.
func TestWhoStartsLater(t *testing.T) {
	r := rand.New(rand.NewSource(4))
	both, one := 0, 0
	for range 3000 {
		p := anyProblem(r)
		was := p.ask()
		for p.v.Start < p.v.End {
			p.v.Start++
			a := p.ask()
			if a.code == api.OK && was.code != api.OK {
				t.Fatalf("%v is %v, and with Start one less %v", p, a, was)
			}
			if a.code != api.OK {
				one++
				was = a
				continue
			}
			both++
			for k, time := range a.times {
				if w := was.times[k]; time.Arrive < w.Arrive || time.Begin < w.Begin || time.Leave < w.Leave {
					t.Fatalf("%v has times %v, and with Start one less %v", p, a.times, was.times)
				}
			}
			if a.end < was.end {
				t.Fatalf("%v is home at %d, and with Start one less at %d", p, a.end, was.end)
			}
			was = a
		}
	}
	if both < 1000 || one < 1000 {
		t.Errorf("in time are both %d times, and one at most %d times", both, one)
	}
}

// P7.1, P7.3: numbers at their ends, in each field, neither end in a panic nor go round.
func TestAtNumbersEnds(t *testing.T) {
	for _, n := range extremes() {
		for k, field := range []func(p *problem) *int{
			func(p *problem) *int { return &p.v.Home.X },
			func(p *problem) *int { return &p.v.Home.Y },
			func(p *problem) *int { return &p.v.Cap },
			func(p *problem) *int { return &p.v.Start },
			func(p *problem) *int { return &p.v.End },
			func(p *problem) *int { return &p.t[4].From.X },
			func(p *problem) *int { return &p.t[4].From.Y },
			func(p *problem) *int { return &p.t[4].To.X },
			func(p *problem) *int { return &p.t[4].To.Y },
			func(p *problem) *int { return &p.t[4].Pick.Early },
			func(p *problem) *int { return &p.t[4].Pick.Late },
			func(p *problem) *int { return &p.t[4].Drop.Early },
			func(p *problem) *int { return &p.t[4].Drop.Late },
			func(p *problem) *int { return &p.t[4].Load },
			func(p *problem) *int { return &p.t[4].Serve },
			func(p *problem) *int { return &p.l[0].Req },
			func(p *problem) *int { return &p.l[1].Req },
			func(p *problem) *int { return &p.l[0].Kind },
			func(p *problem) *int { return &p.l[1].Kind },
		} {
			p, code := among(), api.ErrArg
			if k >= 15 {
				code = api.ErrStop
			}
			if *field(&p) = n; !p.ask().same(told{code: code}) {
				t.Errorf("%v is %v; it should be %v", p, p.ask(), code)
			}
		}
	}
}

// P7.1 to P7.3: what was handed in is as it was, and so is what lies behind it, and what is answered is the caller's.
func TestNothingIsShared(t *testing.T) {
	late := long()
	late.v.End = 100
	for _, p := range []problem{chapter(), line(), long(), late, {v: line().v}, {l: of("P0"), t: line().t}} {
		stops := slices.Concat(p.l, slices.Repeat(of("X7"), 20))
		requests := slices.Concat(p.t, slices.Repeat([]api.Request{{Load: 7}}, 20))
		wasStops, wasRequests := slices.Clone(stops), slices.Clone(requests)
		p.l, p.t = stops[:len(p.l)], requests[:len(p.t)]
		same := func(call string) {
			t.Helper()
			if !slices.Equal(stops, wasStops) || !slices.Equal(requests, wasRequests) {
				t.Fatalf("behind %s there are %v and %v", call, stops, requests)
			}
		}
		first, end, e := Times(p.v, p.l, p.t)
		same("Times")
		should := slices.Clone(first)
		second, _, _ := Times(p.v, p.l, p.t)
		for k := range first[:cap(first)] {
			first[:cap(first)][k] = api.Time{Arrive: -5}
		}
		same("a change of an answer")
		if third, again, code := Times(p.v, p.l, p.t); !slices.Equal(second, should) || !slices.Equal(third, should) || again != end || code != e {
			t.Fatalf("an answer was changed, and by that another one, from %v to %v and %v", should, second, third)
		}
		Spent(p.v, p.l, p.t)
		same("Spent")
		for _, s := range p.l {
			Place(s, p.t)
			Window(s, p.t)
			same("Place and Window")
		}
	}
}
