package insert

import (
	"math"
	"math/rand"
	"slices"
	"strconv"
	"strings"
	"testing"

	"consign/api"
	"consign/feas"
	"consign/load"
	"consign/route"
	"consign/sched"
)

// of is the row that a text tells: P3 is a Pick of 3, D3 its Drop, X3 a stop of it that is neither.
func of(text string) []api.Stop {
	var l []api.Stop
	for _, word := range strings.Fields(text) {
		req, err := strconv.Atoi(word[1:])
		if err != nil {
			panic(err)
		}
		l = append(l, api.Stop{Req: req, Kind: strings.Index("PDX", word[:1])})
	}
	return l
}

func pair(req int) []api.Stop { return []api.Stop{{Req: req, Kind: 0}, {Req: req, Kind: 1}} }

func at(x, y int) api.Place { return api.Place{X: x, Y: y} }

func span(early, late int) api.Window { return api.Window{Early: early, Late: late} }

// extremes are the numbers at the ends of int, and of lesser ones.
func extremes() []int {
	return []int{math.MinInt, math.MinInt + 1, math.MinInt32 - 1, math.MinInt32, math.MaxInt32, math.MaxInt32 + 1, math.MaxInt - 1, math.MaxInt}
}

// problem is what is asked about: a vehicle, its route, all requests, and the one that is more, with its places.
type problem struct {
	v         api.Vehicle
	l         []api.Stop
	t         []api.Request
	req, i, j int
}

// told is what Rise and Detour tell.
type told struct {
	rise    int
	code    api.Errno
	detour  int
	further api.Errno
}

// alike is what both tell if neither gets beyond the errors that they share.
func alike(code api.Errno) told { return told{code: code, further: code} }

func (p problem) ask() told {
	var a told
	a.rise, a.code = Rise(p.v, p.l, p.t, p.req, p.i, p.j)
	a.detour, a.further = Detour(p.v, p.l, p.t, p.req, p.i, p.j)
	return a
}

// cloned may be changed, while the problem stays as it is.
func (p problem) cloned() problem {
	p.l, p.t = slices.Clone(p.l), slices.Clone(p.t)
	return p
}

// of is the same of another request, and other places.
func (p problem) of(req, i, j int) problem {
	p.req, p.i, p.j = req, i, j
	return p
}

// put is the same with the request in the route, which is laid place by place.
func (p problem) put() problem {
	var row []api.Stop
	for k := 0; k <= len(p.l); k++ {
		if k == p.i {
			row = append(row, api.Stop{Req: p.req, Kind: 0})
		}
		if k == p.j {
			row = append(row, api.Stop{Req: p.req, Kind: 1})
		}
		if k < len(p.l) {
			row = append(row, p.l[k])
		}
	}
	p.l = row
	return p
}

func apart(a, b api.Place) int { return max(a.X-b.X, b.X-a.X) + max(a.Y-b.Y, b.Y-a.Y) }

// windowOf is the window itself.
func windowOf(t []api.Request, s api.Stop) *api.Window {
	if s.Kind == 0 {
		return &t[s.Req].Pick
	}
	return &t[s.Req].Drop
}

func placeOf(t []api.Request, s api.Stop) api.Place {
	if s.Kind == 0 {
		return t[s.Req].From
	}
	return t[s.Req].To
}

// trip is what the words say of a route whose requests are told: its end, its way, and whether it is ever too full, or too late.
func (p problem) trip() (end, way int, full, late bool) {
	now, here, load := p.v.Start, p.v.Home, 0
	for _, s := range p.l {
		next, w := placeOf(p.t, s), windowOf(p.t, s)
		way += apart(here, next)
		now = max(now+apart(here, next), w.Early)
		late = late || now > w.Late
		now, here = now+p.t[s.Req].Serve, next
		load += (1 - 2*s.Kind) * p.t[s.Req].Load
		full = full || load > p.v.Cap
	}
	way += apart(here, p.v.Home)
	now += apart(here, p.v.Home)
	return now, way, full, late || now > p.v.End
}

// says is what the document's words say, error by error.
func (p problem) says() told {
	if p.req < 0 || p.req > len(p.t)-1 {
		return alike(api.ErrStop)
	}
	for _, s := range p.l {
		if s.Req == p.req {
			return alike(api.ErrStop)
		}
	}
	if _, _, e := sched.Times(p.v, p.l, p.t); e != api.OK {
		return alike(e)
	}
	if len(p.l) > 14 {
		return alike(api.ErrCount)
	}
	if p.i < 0 || p.i > p.j || p.j > len(p.l) {
		return alike(api.ErrStop)
	}
	end, way, _, _ := p.trip()
	longer, further, full, late := p.put().trip()
	a := told{rise: longer - end, detour: further - way}
	if late {
		a.rise, a.code = 0, api.ErrLate
	}
	if full {
		a.rise, a.code = 0, api.ErrFull
	}
	return a
}

// chapter has the vehicle and the requests of the chapter.
func chapter() problem {
	return problem{
		v: api.Vehicle{Home: at(0, 0), Cap: 5, Start: 0, End: 40},
		l: of("P0 D0"),
		t: []api.Request{
			{From: at(5, 0), To: at(9, 0), Pick: span(0, 20), Drop: span(0, 30), Load: 3, Serve: 1},
			{From: at(5, 3), To: at(9, 3), Pick: span(0, 40), Drop: span(0, 40), Load: 2, Serve: 0},
		},
		req: 1,
	}
}

// long is a route of seven requests, all of them under way at once, with an eighth one that is to be put in, and two more; there is time for all, and just room for nine.
func long() problem {
	p := problem{v: api.Vehicle{Home: at(500, 500), Cap: 45, Start: 77, End: 1 << 20}, l: of("P6 P5 P4 P3 P2 P1 P0 D3 D4 D2 D5 D1 D6 D0"), req: 7, i: 3, j: 9}
	for k := range 10 {
		p.t = append(p.t, api.Request{From: at(100*k, 90*k), To: at(1000-100*k, 3*k), Pick: span(0, 1<<20), Drop: span(0, 1<<20), Load: min(k+1, 9), Serve: 100 * k})
	}
	return p
}

// P11.2: the chapter's examples.
func TestOfTheChapter(t *testing.T) {
	less, short, none := chapter(), chapter(), chapter()
	less.v.Cap, short.v.End, none.l = 4, 33, nil
	for _, x := range []struct {
		p      problem
		should told
	}{
		{chapter().of(1, 1, 1), told{rise: 6, detour: 6}},
		{chapter().of(1, 1, 2), told{rise: 12, detour: 12}},
		{chapter().of(1, 2, 2), told{rise: 14, detour: 14}},
		{chapter().of(1, 0, 0), told{rise: 14, detour: 14}},
		{less.of(1, 1, 1), told{0, api.ErrFull, 6, api.OK}},
		{less.of(1, 2, 2), told{rise: 14, detour: 14}},
		{short.of(1, 2, 2), told{0, api.ErrLate, 14, api.OK}},
		{chapter().of(0, 1, 1), alike(api.ErrStop)},
		{chapter().of(2, 1, 1), alike(api.ErrStop)},
		{chapter().of(1, 2, 1), alike(api.ErrStop)},
		{none.of(1, 0, 0), told{rise: 24, detour: 24}},
	} {
		if a := x.p.ask(); a != x.should {
			t.Errorf("%v is %v; it should be %v", x.p, a, x.should)
		}
	}
}

// pairsOf are the pairs that there should be, found among all of two numbers.
func pairsOf(n int) [][2]int {
	var l [][2]int
	if n < 0 || n > 16 {
		return nil
	}
	for both := range (n + 1) * (n + 1) {
		if i, j := both/(n+1), both%(n+1); i <= j {
			l = append(l, [2]int{i, j})
		}
	}
	return l
}

// P11.1: all pairs of each number, in their order; of numbers beyond the bounds, near and far, none; and again the same.
func TestPlaces(t *testing.T) {
	for _, n := range append(extremes(), -17, -3, -2, -1, 0, 1, 2, 3, 4, 5, 6, 7, 8, 9, 10, 11, 12, 13, 14, 15, 16, 17, 18, 32, 1000) {
		places, should := Places(n), pairsOf(n)
		for range 3 {
			var l [][2]int
			for i, j := range places {
				l = append(l, [2]int{i, j})
			}
			if !slices.Equal(l, should) {
				t.Fatalf("of %d they are %v; they should be %v", n, l, should)
			}
		}
	}
	if n := len(pairsOf(16)); n != 153 {
		t.Errorf("of 16 there are %d", n)
	}
}

// P11.1: it may be left at each pair: nothing comes behind that, and whoever goes through it again has all of them.
func TestPlacesAreLeft(t *testing.T) {
	for n := range 17 {
		places, all := Places(n), pairsOf(n)
		for last := range all {
			var l [][2]int
			places(func(i, j int) bool {
				l = append(l, [2]int{i, j})
				return len(l) != last+1
			})
			if !slices.Equal(l, all[:last+1]) {
				t.Fatalf("of %d, left behind %d, they are %v", n, last, l)
			}
		}
	}
}

// P11.1: it is gone through while it is gone through already.
func TestPlacesWithinPlaces(t *testing.T) {
	places, n := Places(3), 0
	for i, j := range places {
		if (pairsOf(3)[n]) != [2]int{i, j} {
			t.Fatalf("the pair %d is %d, %d", n, i, j)
		}
		n++
		m := 0
		for range places {
			if m++; m == n {
				break
			}
		}
		if m != n {
			t.Fatalf("within the pair %d there are %d", n, m)
		}
	}
	if n != 10 {
		t.Errorf("there are %d", n)
	}
}

// P11.2: waits take up what a request costs, or make it cost more than its way; its service costs twice.
func TestWaitsAndServices(t *testing.T) {
	// home is at 0, the route's stops at 5 and 9; a request on the way from 6 to 8 is no way round
	for _, x := range []struct {
		pick, drop api.Window // of the request more
		serve      int
		wait       api.Window // at the Drop of the route
		should     told
	}{
		{span(0, 90), span(0, 90), 0, span(0, 90), told{rise: 0, detour: 0}},
		{span(0, 90), span(0, 90), 3, span(0, 90), told{rise: 6, detour: 0}},
		{span(0, 90), span(0, 90), 3, span(15, 90), told{rise: 1, detour: 0}},
		{span(0, 90), span(0, 90), 3, span(16, 90), told{rise: 0, detour: 0}},
		{span(0, 90), span(0, 90), 3, span(0, 16), told{rise: 6, detour: 0}},
		{span(0, 90), span(0, 90), 3, span(0, 15), told{code: api.ErrLate}},
		{span(20, 90), span(0, 90), 0, span(0, 90), told{rise: 13, detour: 0}},
		{span(20, 90), span(30, 90), 0, span(0, 90), told{rise: 21, detour: 0}},
		{span(20, 90), span(30, 90), 2, span(0, 90), told{rise: 23, detour: 0}},
		{span(20, 90), span(30, 90), 2, span(31, 90), told{rise: 2, detour: 0}},
		{span(20, 90), span(30, 90), 2, span(40, 90), told{rise: 0, detour: 0}},
		{span(0, 7), span(9, 9), 0, span(0, 90), told{rise: 0, detour: 0}},
		{span(0, 6), span(9, 9), 0, span(0, 90), told{code: api.ErrLate}},
		{span(0, 7), span(8, 8), 0, span(0, 90), told{code: api.ErrLate}},
	} {
		p := chapter().of(1, 1, 1)
		p.v.End = 90
		p.t[1] = api.Request{From: at(6, 0), To: at(8, 0), Pick: x.pick, Drop: x.drop, Load: 1, Serve: x.serve}
		p.t[0].Drop = x.wait
		if a := p.ask(); a != x.should {
			t.Errorf("%v is %v; it should be %v", p, a, x.should)
		}
	}
}

// P11.2: each stop, and the end, just in time, and one too late; just room enough, and one too little.
func TestJustInTimeAndJustRoom(t *testing.T) {
	for _, p := range []problem{chapter().of(1, 1, 1), chapter().of(1, 0, 2), long(), long().of(9, 0, 14), long().of(8, 14, 14), long().of(8, 0, 0)} {
		free := p.ask()
		if free != p.says() || free.code != api.OK {
			t.Fatalf("%v is %v", p, free)
		}
		later := func(q problem, name string) {
			if a, should := q.ask(), (told{code: api.ErrLate, detour: free.detour}); a != should && a != alike(api.ErrLate) || a != q.says() {
				t.Errorf("%v, with %s too late, is %v; it should be %v", q, name, a, should)
			}
		}
		times, end, _ := sched.Times(p.v, p.put().l, p.t)
		for k, s := range p.put().l {
			q := p.cloned()
			w := windowOf(q.t, s)
			w.Late = times[k].Begin
			if a := q.ask(); a != free {
				t.Errorf("%v is %v; it should be %v", q, a, free)
			}
			w.Late--
			later(q, "stop "+strconv.Itoa(k))
		}
		p.v.End = end
		if a := p.ask(); a != free {
			t.Errorf("%v is %v; it should be %v", p, a, free)
		}
		p.v.Cap, _ = load.Peak(p.put().l, p.t)
		if a := p.ask(); a != free {
			t.Errorf("%v is %v; it should be %v", p, a, free)
		}
		p.v.Cap--
		if a, should := p.ask(), (told{code: api.ErrFull, detour: free.detour}); a != should {
			t.Errorf("%v is %v; it should be %v", p, a, should)
		}
		p.v.Cap++
		p.v.End--
		later(p, "the end")
	}
}

// P11.2: a route that is too full by itself is so with a request more, wherever that is; its detour is as it is.
func TestTooFullAlready(t *testing.T) {
	p := chapter()
	p.v.Cap = 2
	for i, j := range Places(2) {
		free := chapter().of(1, i, j).ask()
		if a := p.of(1, i, j).ask(); a != (told{code: api.ErrFull, detour: free.detour}) {
			t.Errorf("at %d, %d it is %v", i, j, a)
		}
	}
}

// P11.2: in a route without stops the rise is what the request takes alone; nothing is anywhere but at 0, 0.
func TestWithoutStops(t *testing.T) {
	p := long()
	for _, l := range [][]api.Stop{nil, {}} {
		for req, r := range p.t {
			p.l = l
			detour := apart(p.v.Home, r.From) + apart(r.From, r.To) + apart(r.To, p.v.Home)
			if a := p.of(req, 0, 0).ask(); a != (told{rise: detour + 2*r.Serve, detour: detour}) {
				t.Errorf("alone %d is %v", req, a)
			}
			for _, k := range append(extremes(), -1, 1, 2, 16) {
				for _, places := range [][2]int{{k, 0}, {0, k}, {k, k}} {
					if a := p.of(req, places[0], places[1]).ask(); a != alike(api.ErrStop) {
						t.Errorf("at %v, %d is %v", places, req, a)
					}
				}
			}
		}
	}
}

// P11.2: one request more in routes of each length, at places up to all bounds and beyond; behind 14 stops there are too many, wherever it is put.
func TestBounds(t *testing.T) {
	places := append(extremes(), -2, -1, 0, 1, 2, 3, 5, 8, 11, 12, 13, 14, 15, 16, 17, 18)
	for n := range 9 {
		p := long()
		p.v.Cap, p.l = 100, nil
		for req := range n {
			p.l = append(p.l, pair(req)...)
		}
		for _, i := range places {
			for _, j := range places {
				p := p.of(9, i, j)
				a, should := p.ask(), p.says()
				if n == 8 {
					should = alike(api.ErrCount)
				}
				if a != should {
					t.Fatalf("%v is %v; it should be %v", p, a, should)
				}
				if is := n < 8 && i >= 0 && i <= j && j <= 2*n; is != (a.code == api.OK) {
					t.Fatalf("%v is %v", p, a)
				}
			}
		}
	}
}

// wrong is a way to spoil a problem, the code that it is told by, and how many others are told ahead of it, at least.
type wrong struct {
	name   string
	code   api.Errno
	behind int
	spoil  func(p *problem)
}

// wrongs are told in this order; those of one number leave alone what those of another one change. Those of the greatest two are no concern of a detour.
func wrongs() []wrong {
	return []wrong{
		{"a request below 0", api.ErrStop, 1, func(p *problem) { p.req = -1 }},
		{"a request that is just none", api.ErrStop, 1, func(p *problem) { p.req = len(p.t) }},
		{"the least number", api.ErrStop, 1, func(p *problem) { p.req = math.MinInt }},
		{"the greatest number", api.ErrStop, 1, func(p *problem) { p.req = math.MaxInt }},
		{"a request of the route", api.ErrStop, 1, func(p *problem) { p.req = 3 }},
		{"another request of the route", api.ErrStop, 1, func(p *problem) { p.req = 0 }},
		{"a Pick of it already", api.ErrStop, 1, func(p *problem) { p.l = append(of("P7"), p.l...) }},
		{"a Drop of it already", api.ErrStop, 1, func(p *problem) { p.l = append(p.l, of("D7")...) }},
		{"a stop of it that is none", api.ErrStop, 1, func(p *problem) { p.l = append(p.l, of("X7")...) }},
		{"Home off the grid", api.ErrArg, 2, func(p *problem) { p.v.Home.Y = 1024 }},
		{"Cap too great", api.ErrArg, 2, func(p *problem) { p.v.Cap = 100001 }},
		{"Start above End", api.ErrArg, 2, func(p *problem) { p.v.Start = p.v.End + 1 }},
		{"End too great", api.ErrArg, 2, func(p *problem) { p.v.End = 1<<20 + 1 }},
		{"From off the grid, of one of the route", api.ErrArg, 2, func(p *problem) { p.t[2].From.X = -1 }},
		{"Drop is empty, of the request", api.ErrArg, 2, func(p *problem) { p.t[7].Drop = span(8, 7) }},
		{"Load 0, of the request", api.ErrArg, 2, func(p *problem) { p.t[7].Load = 0 }},
		{"Serve too great, of one that no stop names", api.ErrArg, 2, func(p *problem) { p.t[8].Serve = 1001 }},
		{"17 stops", api.ErrStop, 3, func(p *problem) { p.l = slices.Repeat(of("P0"), 17) }},
		{"18 stops", api.ErrStop, 3, func(p *problem) { p.l = slices.Repeat(of("P0 D0"), 9) }},
		{"a Drop ahead of its Pick", api.ErrStop, 3, func(p *problem) { slices.Reverse(p.l) }},
		{"no Drop", api.ErrStop, 3, func(p *problem) { p.l = p.l[:len(p.l)-1] }},
		{"a Kind below 0", api.ErrStop, 3, func(p *problem) { p.l[0].Kind = -1 }},
		{"a stop of a request below 0", api.ErrStop, 3, func(p *problem) { p.l = append(p.l[:12:12], pair(-1)...) }},
		{"a stop of a request that is just none", api.ErrStop, 3, func(p *problem) { p.l = append(p.l[:12:12], pair(len(p.t))...) }},
		{"a stop too late", api.ErrLate, 4, func(p *problem) { p.t[6].Pick.Late = 0 }},
		{"another stop too late", api.ErrLate, 4, func(p *problem) { p.t[5].Drop = span(0, 0) }},
		{"the end too late", api.ErrLate, 4, func(p *problem) { p.v.End = 100 }},
		{"16 stops", api.ErrCount, 5, func(p *problem) { p.l = append(p.l, pair(9)...) }},
		{"16 stops, one request in the midst", api.ErrCount, 5, func(p *problem) { p.l = append(append(p.l[:9:9], pair(9)...), p.l[9:]...) }},
		{"i below 0", api.ErrStop, 6, func(p *problem) { p.i = -1 }},
		{"i above j", api.ErrStop, 6, func(p *problem) { p.i, p.j = 4, 3 }},
		{"j above the stops", api.ErrStop, 6, func(p *problem) { p.j = 18 }},
		{"both above the stops", api.ErrStop, 6, func(p *problem) { p.i, p.j = 18, 18 }},
		{"both below 0", api.ErrStop, 6, func(p *problem) { p.i, p.j = -2, -1 }},
		{"the least i", api.ErrStop, 6, func(p *problem) { p.i = math.MinInt }},
		{"the greatest j", api.ErrStop, 6, func(p *problem) { p.j = math.MaxInt }},
		{"too little room", api.ErrFull, 7, func(p *problem) { p.v.Cap = 28 }},
		{"a load too great", api.ErrFull, 7, func(p *problem) { p.t[7].Load = 900 }},
		{"the route is too full by itself", api.ErrFull, 7, func(p *problem) { p.t[4].Load = 999 }},
		{"its Pick too late", api.ErrLate, 8, func(p *problem) { p.t[7].Pick = span(0, 80) }},
		{"its Drop too late", api.ErrLate, 8, func(p *problem) { p.t[7].Drop = span(100, 100) }},
	}
}

// toldOf is what should be told of a problem that is spoilt in ways of which this one comes first.
func toldOf(a wrong, detour int) told {
	if a.behind < 7 {
		return alike(a.code)
	}
	return told{code: a.code, detour: detour}
}

// P11.2: each thing that is wrong, alone, and each two, whichever comes about first: the first of them is told.
func TestErrorsInTheirOrder(t *testing.T) {
	p := long()
	free := p.ask()
	if free != p.says() || free.code != api.OK || free.detour < 1 {
		t.Fatalf("%v is %v", p, free)
	}
	for _, a := range wrongs() {
		q, should := p.cloned(), toldOf(a, free.detour)
		if a.spoil(&q); q.ask() != should || q.says() != should {
			t.Errorf("%s is %v; it should be %v", a.name, q.ask(), should)
		}
		for _, b := range wrongs() {
			if a.behind >= b.behind {
				continue
			}
			// what is spoilt by its length is spoilt last, so that it is as long as it says
			q := p.cloned()
			b.spoil(&q)
			a.spoil(&q)
			if q.ask() != should || q.says() != should {
				t.Errorf("%s, and %s, is %v; it should be %v", a.name, b.name, q.ask(), should)
			}
		}
	}
}

func near(r *rand.Rand) api.Place { return at(60+r.Intn(5), 80+r.Intn(5)) }

// anyProblem is one of up to so many requests in the route, and one or more that are not: most of the time all windows of the route are met, by little or by much, and those of others may be.
func anyProblem(r *rand.Rand, most int) problem {
	n := r.Intn(most + 1)
	p := problem{v: api.Vehicle{Home: near(r), Cap: 10 + r.Intn(40), Start: r.Intn(30)}, t: make([]api.Request, n+1+r.Intn(3))}
	for k := range p.t {
		early := r.Intn(60)
		p.t[k] = api.Request{From: near(r), To: near(r), Pick: span(early, early+r.Intn(150)), Drop: span(early, early+r.Intn(250)), Load: 1 + r.Intn(9), Serve: r.Intn(3) * r.Intn(5)}
	}
	order := r.Perm(len(p.t))
	for _, req := range order[:n] {
		i := r.Intn(len(p.l) + 1)
		p = p.of(req, i, i+r.Intn(len(p.l)+1-i)).put()
	}
	now, here := p.v.Start, p.v.Home
	for _, s := range p.l {
		now += apart(here, placeOf(p.t, s))
		early := max(0, now+r.Intn(12)-8)
		late := max(early, now) + []int{r.Intn(12), 20 + r.Intn(40), 100, 200}[r.Intn(4)]
		if r.Intn(90) == 0 {
			early, late = 0, max(0, now-1)
		}
		*windowOf(p.t, s) = span(early, late)
		now, here = max(now, early)+p.t[s.Req].Serve, placeOf(p.t, s)
	}
	p.v.End = max(p.v.Start, now+apart(here, p.v.Home)+r.Intn(80)-1)
	return p.of(order[n], 0, 0)
}

// P11.2: of all kinds of problems, of each request and at all places, up to beyond the bounds, it is as the words say.
func TestAsTheWordsSay(t *testing.T) {
	r := rand.New(rand.NewSource(1))
	rises, detours := map[api.Errno]int{}, map[api.Errno]int{}
	for range 3000 {
		p := anyProblem(r, 8)
		requests := []int{p.req, r.Intn(len(p.t)+4) - 2}
		for _, req := range requests {
			for i := -1; i <= len(p.l)+1; i++ {
				for j := -1; j <= len(p.l)+1; j++ {
					p := p.of(req, i, j)
					a, should := p.ask(), p.says()
					if a != should {
						t.Fatalf("%v is %v; it should be %v", p, a, should)
					}
					rises[a.code]++
					detours[a.further]++
				}
			}
		}
	}
	for _, code := range []api.Errno{api.OK, api.ErrStop, api.ErrLate, api.ErrFull, api.ErrCount} {
		if rises[code] < 5000 || code != api.ErrFull && detours[code] < 5000 {
			t.Errorf("told is %v, and of detours %v", rises, detours)
		}
	}
}

// P11.3: neither is below 0; it may be put there just if the route with it is right; stops ahead of its Pick stay when they were, and those behind, home too, are no earlier.
func TestWhatFollows(t *testing.T) {
	r := rand.New(rand.NewSource(2))
	right, wrong, later := 0, 0, 0
	for range 3000 {
		p := anyProblem(r, 7)
		first, end, e := sched.Times(p.v, p.l, p.t)
		if e != api.OK {
			continue
		}
		for i, j := range Places(len(p.l)) {
			p := p.of(p.req, i, j)
			a := p.ask()
			if a.rise < 0 || a.detour < 0 || a.further != api.OK {
				t.Fatalf("%v is %v", p, a)
			}
			row := p.put()
			if is := feas.Check(p.v, row.l, p.t) == nil; is != (a.code == api.OK) {
				t.Fatalf("%v is %v; that the route with it is right is %v", p, a, is)
			}
			if a.code != api.OK {
				wrong++
				continue
			}
			right++
			times, home, _ := sched.Times(p.v, row.l, p.t)
			if home != end+a.rise || !slices.Equal(times[:i], first[:i]) {
				t.Fatalf("%v is %v; its times are %v, up to %d; they were %v, up to %d", p, a, times, home, first, end)
			}
			rest := slices.Concat(times[i+1:j+1], times[j+2:])
			for k, time := range rest {
				was := first[i+k]
				if time.Arrive < was.Arrive || time.Begin < was.Begin || time.Leave < was.Leave {
					t.Fatalf("%v is %v; its times are %v; they were %v", p, a, times, first)
				}
				later += time.Begin - was.Begin
			}
		}
	}
	if right < 5000 || wrong < 5000 || later < 5000 {
		t.Errorf("right are %d, wrong %d; they are later by %d", right, wrong, later)
	}
}

// P11.3: where no window makes anybody wait, the rise is the detour, and twice Serve.
func TestWithoutWaits(t *testing.T) {
	r := rand.New(rand.NewSource(3))
	tried := 0
	for range 2000 {
		p := anyProblem(r, 7)
		for k := range p.t {
			p.t[k].Pick, p.t[k].Drop = span(0, 1<<20), span(0, 1<<20)
		}
		p.v.End, p.v.Cap = 1<<20, 100
		for i, j := range Places(len(p.l)) {
			tried++
			a := p.of(p.req, i, j).ask()
			if a.code != api.OK || a.rise != a.detour+2*p.t[p.req].Serve {
				t.Fatalf("%v at %d, %d is %v", p, i, j, a)
			}
		}
	}
	if tried < 20000 {
		t.Errorf("tried are %d", tried)
	}
}

// P11.3: in whichever order a route's requests are put in, their rises together are its end less Start; and their detours its way.
func TestInEachOrder(t *testing.T) {
	r := rand.New(rand.NewSource(4))
	tried := 0
	for range 3000 {
		p := anyProblem(r, 8)
		p.v.Cap = 100
		times, end, e := sched.Times(p.v, p.l, p.t)
		if e != api.OK {
			continue
		}
		way := end - p.v.Start
		for _, time := range times {
			way -= time.Leave - time.Arrive
		}
		requests := route.Requests(p.l)
		for range 4 {
			rises, detours := 0, 0
			var there []int
			for _, k := range r.Perm(len(requests)) {
				q := p.without(there, requests[k])
				a := q.ask()
				if a.code != api.OK || a.further != api.OK {
					t.Fatalf("%v is %v", q, a)
				}
				rises += a.rise
				detours += a.detour
				there = append(there, requests[k])
				tried++
			}
			if rises != end-p.v.Start || detours != way {
				t.Fatalf("%v, put in as %v, rises by %d, and is longer by %d; its end is %d, its way %d", p, there, rises, detours, end, way)
			}
		}
	}
	if tried < 20000 {
		t.Errorf("tried are %d", tried)
	}
}

// without has just these requests in the route, and is to put one more where it is among them.
func (p problem) without(there []int, req int) problem {
	var l []api.Stop
	for _, s := range p.l {
		switch {
		case s == api.Stop{Req: req, Kind: 0}:
			p.i = len(l)
		case s == api.Stop{Req: req, Kind: 1}:
			p.j = len(l)
		case slices.Contains(there, s.Req):
			l = append(l, s)
		}
	}
	p.l, p.req = l, req
	return p
}

// P11.2: the longest route, from corner to corner, with the greatest numbers; and a wait from the first minute to the last one.
func TestGreatNumbers(t *testing.T) {
	r := api.Request{From: at(1023, 1023), To: at(0, 0), Pick: span(0, 1<<20), Drop: span(0, 1<<20), Load: 1000, Serve: 1000}
	p := problem{v: api.Vehicle{Home: at(0, 0), Cap: 100000, End: 1 << 20}}
	for k := range 8 {
		p.t = append(p.t, r)
		for i := range p.l {
			if i%2 == 0 {
				p := p.of(k, i, i)
				if a := p.ask(); a != (told{rise: 6092, detour: 4092}) {
					t.Errorf("%v is %v", p, a)
				}
			}
		}
		p = p.of(k, len(p.l), len(p.l))
		if a := p.ask(); a != (told{rise: 6092, detour: 4092}) {
			t.Fatalf("%v is %v", p, a)
		}
		p = p.put()
	}
	here := at(7, 8)
	q := problem{v: api.Vehicle{Home: here, Cap: 2, End: 1 << 20}, l: of("P0 D0"), req: 1}
	q.t = []api.Request{
		{From: here, To: here, Pick: span(0, 1<<20), Drop: span(0, 1<<20), Load: 1},
		{From: here, To: here, Pick: span(0, 1<<20), Drop: span(1<<20, 1<<20), Load: 1},
	}
	for i, j := range Places(2) {
		if a := q.of(1, i, j).ask(); a != (told{rise: 1 << 20}) {
			t.Errorf("at %d, %d it is %v", i, j, a)
		}
	}
}

// P11.2: numbers at their ends, in each field, neither end in a panic nor go round.
func TestAtNumbersEnds(t *testing.T) {
	for _, n := range extremes() {
		for k, field := range []func(p *problem) *int{
			func(p *problem) *int { return &p.v.Home.X },
			func(p *problem) *int { return &p.v.Home.Y },
			func(p *problem) *int { return &p.v.Cap },
			func(p *problem) *int { return &p.v.Start },
			func(p *problem) *int { return &p.v.End },
			func(p *problem) *int { return &p.t[7].From.X },
			func(p *problem) *int { return &p.t[7].From.Y },
			func(p *problem) *int { return &p.t[1].To.X },
			func(p *problem) *int { return &p.t[7].To.Y },
			func(p *problem) *int { return &p.t[7].Pick.Early },
			func(p *problem) *int { return &p.t[1].Pick.Late },
			func(p *problem) *int { return &p.t[7].Drop.Early },
			func(p *problem) *int { return &p.t[7].Drop.Late },
			func(p *problem) *int { return &p.t[7].Load },
			func(p *problem) *int { return &p.t[7].Serve },
			func(p *problem) *int { return &p.l[1].Req },
			func(p *problem) *int { return &p.l[6].Kind },
			func(p *problem) *int { return &p.req },
			func(p *problem) *int { return &p.i },
			func(p *problem) *int { return &p.j },
		} {
			p, code := long(), api.ErrArg
			if k >= 15 {
				code = api.ErrStop
			}
			*field(&p) = n
			if a := p.ask(); a != alike(code) {
				t.Errorf("%v is %v; it should be %v", p, a, code)
			}
		}
	}
}

// P11.2: what was handed in is as it was, and so is what lies behind it; and so the same is told again.
func TestNothingIsChanged(t *testing.T) {
	late, full := long(), long()
	late.v.End, full.v.Cap = 100, 1
	for _, p := range []problem{chapter().of(1, 1, 1), chapter().of(1, 0, 2), chapter().of(1, 2, 2), chapter().of(0, 0, 0), long(), late, full} {
		stops := slices.Concat(p.l, slices.Repeat(of("X7"), 20))
		requests := slices.Concat(p.t, slices.Repeat([]api.Request{{Load: 7}}, 20))
		wasStops, wasRequests := slices.Clone(stops), slices.Clone(requests)
		p.l, p.t = stops[:len(p.l)], requests[:len(p.t)]
		a := p.ask()
		if !slices.Equal(stops, wasStops) || !slices.Equal(requests, wasRequests) {
			t.Fatalf("there are %v and %v; there were %v and %v", stops, requests, wasStops, wasRequests)
		}
		if b := p.ask(); a != b || a != p.says() {
			t.Errorf("%v is %v, and again %v", p, a, b)
		}
	}
}
