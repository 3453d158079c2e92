package cheap

import (
	"math"
	"math/rand"
	"slices"
	"strconv"
	"strings"
	"testing"

	"consign/api"
	"consign/feas"
	"consign/load"
	"consign/order"
	"consign/route"
	"consign/sched"
)

// of is the row that a text tells: P3 is a Pick of 3, D3 its Drop, X3 a stop of it that is neither.
func of(text string) []api.Stop {
	var l []api.Stop
	for _, word := range strings.Fields(text) {
		req, err := strconv.Atoi(word[1:])
		if err != nil {
			panic(err)
		}
		l = append(l, api.Stop{Req: req, Kind: strings.Index("PDX", word[:1])})
	}
	return l
}

func at(x, y int) api.Place { return api.Place{X: x, Y: y} }

func span(early, late int) api.Window { return api.Window{Early: early, Late: late} }

// extremes are the numbers at the ends of int, and of lesser ones.
func extremes() []int {
	return []int{math.MinInt, math.MinInt + 1, math.MinInt32 - 1, math.MinInt32, math.MaxInt32, math.MaxInt32 + 1, math.MaxInt - 1, math.MaxInt}
}

// problem is what is asked about: a vehicle, its route, all requests, and the one that is more.
type problem struct {
	v   api.Vehicle
	l   []api.Stop
	t   []api.Request
	req int
}

// told is what All, Best and Put tell.
type told struct {
	all    []Way
	ofAll  api.Errno
	best   Way
	ofBest api.Errno
	row    []api.Stop
	rise   int
	put    api.Errno
}

func (p problem) ask() told {
	var a told
	a.all, a.ofAll = All(p.v, p.l, p.t, p.req)
	a.best, a.ofBest = Best(p.v, p.l, p.t, p.req)
	a.row, a.rise, a.put = Put(p.v, p.l, p.t, p.req)
	return a
}

func (a told) is(b told) bool {
	return slices.Equal(a.all, b.all) && slices.Equal(a.row, b.row) && a.ofAll == b.ofAll && a.best == b.best && a.ofBest == b.ofBest && a.rise == b.rise && a.put == b.put
}

// alike is what all three tell if nothing may be asked.
func alike(code api.Errno) told { return told{ofAll: code, ofBest: code, put: code} }

// noWay is what they tell if no pair is feasible.
func noWay() told { return told{ofBest: api.ErrNone, put: api.ErrNone} }

// cloned may be changed, while the problem stays as it is.
func (p problem) cloned() problem {
	p.l, p.t = slices.Clone(p.l), slices.Clone(p.t)
	return p
}

// of is the same of another request.
func (p problem) of(req int) problem {
	p.req = req
	return p
}

// laid is the row with a Pick of the request as its stop pick, and a Drop as its stop drop.
func (p problem) laid(pick, drop int) []api.Stop {
	row := make([]api.Stop, len(p.l)+2)
	rest := p.l
	for k := range row {
		switch k {
		case pick:
			row[k] = api.Stop{Req: p.req, Kind: 0}
		case drop:
			row[k] = api.Stop{Req: p.req, Kind: 1}
		default:
			row[k], rest = rest[0], rest[1:]
		}
	}
	return row
}

func apart(a, b api.Place) int { return max(a.X-b.X, b.X-a.X) + max(a.Y-b.Y, b.Y-a.Y) }

func placeOf(t []api.Request, s api.Stop) api.Place {
	if s.Kind == 0 {
		return t[s.Req].From
	}
	return t[s.Req].To
}

// windowOf is the window itself.
func windowOf(t []api.Request, s api.Stop) *api.Window {
	if s.Kind == 0 {
		return &t[s.Req].Pick
	}
	return &t[s.Req].Drop
}

// trip is what the words say of a row whose requests are told: its end, and whether it is never too full, nor too late.
func (p problem) trip(row []api.Stop) (end int, is bool) {
	now, here, load, is := p.v.Start, p.v.Home, 0, true
	for _, s := range row {
		w := windowOf(p.t, s)
		now = max(now+apart(here, placeOf(p.t, s)), w.Early)
		is = is && now <= w.Late
		now, here = now+p.t[s.Req].Serve, placeOf(p.t, s)
		load += (1 - 2*s.Kind) * p.t[s.Req].Load
		is = is && load <= p.v.Cap
	}
	now += apart(here, p.v.Home)
	return now, is && now <= p.v.End
}

// says is what the document's words say: all rows with the request there are laid, and held against each other by their ends.
func (p problem) says() told {
	if p.req < 0 || p.req >= len(p.t) || slices.ContainsFunc(p.l, func(s api.Stop) bool { return s.Req == p.req }) {
		return alike(api.ErrStop)
	}
	switch _, _, e := sched.Times(p.v, p.l, p.t); {
	case e == api.ErrLate:
		return noWay()
	case e != api.OK:
		return alike(e)
	case len(p.l) > 14:
		return alike(api.ErrCount)
	}
	a := noWay()
	before, _ := p.trip(p.l)
	for pick := range len(p.l) + 1 {
		for drop := pick + 1; drop < len(p.l)+2; drop++ {
			row := p.laid(pick, drop)
			end, is := p.trip(row)
			if !is {
				continue
			}
			w := Way{I: pick, J: drop - 1, Rise: end - before}
			a.all = append(a.all, w)
			if a.row == nil || w.Rise < a.rise {
				a.best, a.row, a.rise = w, row, w.Rise
			}
			a.ofBest, a.put = api.OK, api.OK
		}
	}
	return a
}

// chapter has the vehicle and the requests of the chapter, 0 in the route, and 1 that is more.
func chapter() problem {
	any := span(0, 1000)
	return problem{
		v: api.Vehicle{Home: at(0, 0), Cap: 2, Start: 0, End: 100},
		l: of("P0 D0"),
		t: []api.Request{
			{From: at(10, 0), To: at(20, 0), Pick: any, Drop: any, Load: 1},
			{From: at(12, 0), To: at(15, 0), Pick: any, Drop: any, Load: 1},
		},
		req: 1,
	}
}

// long is a route of seven requests, all of them under way at once, with an eighth one that is to be put in, and two more; there is time for all, and just room for nine.
func long() problem {
	p := problem{v: api.Vehicle{Home: at(500, 500), Cap: 45, Start: 77, End: 1 << 20}, l: of("P6 P5 P4 P3 P2 P1 P0 D3 D4 D2 D5 D1 D6 D0"), req: 7}
	for k := range 10 {
		p.t = append(p.t, api.Request{From: at(100*k, 90*k), To: at(1000-100*k, 3*k), Pick: span(0, 1<<20), Drop: span(0, 1<<20), Load: min(k+1, 9), Serve: 100 * k})
	}
	return p
}

// P12.1, P12.2: the chapter's examples.
func TestOfTheChapter(t *testing.T) {
	p := chapter()
	if w, e := Best(p.v, nil, p.t, 1); w != (Way{0, 0, 30}) || e != api.OK {
		t.Errorf("in no stops it is %v, %v", w, e)
	}
	if row, rise, e := Put(p.v, p.l, p.t, 1); !slices.Equal(row, of("P0 P1 D1 D0")) || rise != 0 || e != api.OK {
		t.Errorf("put it is %v, %d, %v", row, rise, e)
	}
	if all, e := All(p.v, p.l, p.t, 1); len(all) != 6 || e != api.OK {
		t.Errorf("all are %v, %v", all, e)
	}
	if w, e := Best(p.v, p.l, p.t, 0); w != (Way{}) || e != api.ErrStop {
		t.Errorf("of 0 it is %v, %v", w, e)
	}
	p.v.Cap = 1
	if all, e := All(p.v, p.l, p.t, 1); !slices.Equal(all, []Way{{0, 0, 10}, {2, 2, 6}}) || e != api.OK {
		t.Errorf("with less room all are %v, %v", all, e)
	}
}

// ways are the pairs that are feasible, by hand, one behind the other: I, J and rise of each.
func ways(numbers ...int) []Way {
	var l []Way
	for k := 0; k < len(numbers); k += 3 {
		l = append(l, Way{numbers[k], numbers[k+1], numbers[k+2]})
	}
	return l
}

// P12.1, P12.2: all ways in their order, by hand, as room, time, and windows let there be more or fewer; of several with the least rise the first one is the best, wherever it stands.
func TestByHand(t *testing.T) {
	for _, x := range []struct {
		name  string
		spoil func(p *problem)
		all   []Way
		best  Way
		row   string
	}{
		{"all", func(p *problem) {}, ways(0, 0, 10, 0, 1, 4, 0, 2, 4, 1, 1, 0, 1, 2, 0, 2, 2, 6), Way{1, 1, 0}, "P0 P1 D1 D0"},
		{"just time for all", func(p *problem) { p.v.End = 50 }, ways(0, 0, 10, 0, 1, 4, 0, 2, 4, 1, 1, 0, 1, 2, 0, 2, 2, 6), Way{1, 1, 0}, "P0 P1 D1 D0"},
		{"no time for the first", func(p *problem) { p.v.End = 49 }, ways(0, 1, 4, 0, 2, 4, 1, 1, 0, 1, 2, 0, 2, 2, 6), Way{1, 1, 0}, "P0 P1 D1 D0"},
		{"no time for a way round", func(p *problem) { p.v.End = 40 }, ways(1, 1, 0, 1, 2, 0), Way{1, 1, 0}, "P0 P1 D1 D0"},
		{"a drop that is late", func(p *problem) { p.t[1].Drop = span(16, 1000) }, ways(0, 0, 11, 0, 1, 4, 0, 2, 4, 1, 1, 1, 1, 2, 0, 2, 2, 6), Way{1, 2, 0}, "P0 P1 D0 D1"},
		{"a pick that is early", func(p *problem) { p.t[1].Pick = span(0, 12) }, ways(0, 0, 10, 0, 1, 4, 0, 2, 4, 1, 1, 0, 1, 2, 0), Way{1, 1, 0}, "P0 P1 D1 D0"},
		{"a drop that is in haste", func(p *problem) { p.t[0].Drop = span(0, 20) }, ways(1, 1, 0, 1, 2, 0, 2, 2, 6), Way{1, 1, 0}, "P0 P1 D1 D0"},
		{"a pick that is in haste", func(p *problem) { p.t[0].Pick = span(0, 13) }, ways(1, 1, 0, 1, 2, 0, 2, 2, 6), Way{1, 1, 0}, "P0 P1 D1 D0"},
		{"a pick that is less in haste", func(p *problem) { p.t[0].Pick = span(0, 14) }, ways(0, 1, 4, 0, 2, 4, 1, 1, 0, 1, 2, 0, 2, 2, 6), Way{1, 1, 0}, "P0 P1 D1 D0"},
		{"no room for both", func(p *problem) { p.t[1].Load = 2 }, ways(0, 0, 10, 2, 2, 6), Way{2, 2, 6}, "P0 D0 P1 D1"},
		{"room that is not there", func(p *problem) { p.t[1].Load = 3 }, nil, Way{}, ""},
		{"haste that is too great", func(p *problem) { p.t[1].Pick = span(0, 11) }, nil, Way{}, ""},
		{"no time at all", func(p *problem) { p.v.End = 39 }, nil, Way{}, ""},
		{"no room for the route", func(p *problem) { p.t[0].Load = 3 }, nil, Way{}, ""},
		{"a wait for all", func(p *problem) { p.t[0].Drop = span(60, 1000) }, ways(0, 0, 0, 0, 1, 0, 0, 2, 0, 1, 1, 0, 1, 2, 0, 2, 2, 6), Way{0, 0, 0}, "P1 D1 P0 D0"},
		{"a wait for the last", func(p *problem) { p.t[1].Drop = span(60, 1000) }, ways(0, 0, 55, 0, 1, 45, 0, 2, 35, 1, 1, 45, 1, 2, 35, 2, 2, 35), Way{0, 2, 35}, "P1 P0 D0 D1"},
		{"the same places", func(p *problem) { p.t[1].From, p.t[1].To = p.t[0].From, p.t[0].To }, ways(0, 0, 20, 0, 1, 0, 0, 2, 0, 1, 1, 0, 1, 2, 0, 2, 2, 20), Way{0, 1, 0}, "P1 P0 D1 D0"},
		{"a service", func(p *problem) { p.t[1].Serve = 5 }, ways(0, 0, 20, 0, 1, 14, 0, 2, 14, 1, 1, 10, 1, 2, 10, 2, 2, 16), Way{1, 1, 10}, "P0 P1 D1 D0"},
	} {
		p := chapter()
		x.spoil(&p)
		should := noWay()
		if x.all != nil {
			should = told{all: x.all, best: x.best, row: of(x.row), rise: x.best.Rise}
		}
		if a := p.ask(); !a.is(should) || !p.says().is(should) {
			t.Errorf("%s: %v is %v; it should be %v", x.name, p, a, should)
		}
	}
}

// flaw is what may be wrong with a problem, and what is told then; errors are told in the order of their ranks.
type flaw struct {
	name  string
	rank  int
	code  api.Errno
	spoil func(p *problem)
}

func flaws() []flaw {
	return []flaw{
		{"a request below 0", 1, api.ErrStop, func(p *problem) { p.req = -1 }},
		{"a request that is none", 1, api.ErrStop, func(p *problem) { p.req = len(p.t) }},
		{"a request of the route", 1, api.ErrStop, func(p *problem) { p.req = p.l[5].Req }},
		{"a vehicle that may not be", 2, api.ErrArg, func(p *problem) { p.v.Cap = 0 }},
		{"a request of the route that may not be", 2, api.ErrArg, func(p *problem) { p.t[3].Load = 0 }},
		{"the request may not be", 2, api.ErrArg, func(p *problem) { p.t[7].Serve = -1 }},
		{"another one that may not be", 2, api.ErrArg, func(p *problem) { p.t[9].From.X = -1 }},
		{"a row that is none", 3, api.ErrStop, func(p *problem) { p.l[0], p.l[13] = p.l[13], p.l[0] }},
		{"a stop of a kind that is none", 3, api.ErrStop, func(p *problem) { p.l[8].Kind = 2 }},
		{"a stop of a request that is none", 3, api.ErrStop, func(p *problem) { p.l[5].Req, p.l[11].Req = len(p.t), len(p.t) }},
		{"a stop too few", 3, api.ErrStop, func(p *problem) { p.l = p.l[:13] }},
		{"too many stops for a route", 3, api.ErrStop, func(p *problem) { p.l = append(p.l, of("P8 D8 P9 D9")...) }},
		{"a route that is late", 4, api.ErrNone, func(p *problem) { p.v.End = p.v.Start + 1 }},
		{"a stop that is late", 4, api.ErrNone, func(p *problem) { p.t[0].Drop.Late = 100 }},
		{"no room for two more", 5, api.ErrCount, func(p *problem) { p.l = append(p.l, of("P8 D8")...) }},
		{"a route that is too full", 6, api.ErrNone, func(p *problem) { p.v.Cap = 27 }},
		{"no room", 6, api.ErrNone, func(p *problem) { p.v.Cap = 7 }},
		{"the request is too late", 6, api.ErrNone, func(p *problem) { p.t[7].Pick.Late = 0 }},
		{"the request is late at last", 6, api.ErrNone, func(p *problem) { p.t[7].Drop = span(1<<20, 1<<20) }},
	}
}

func (f flaw) told() told {
	if f.code == api.ErrNone {
		return noWay()
	}
	return alike(f.code)
}

// P12.1, P12.2: each thing that is wrong, alone, and each two, whichever comes about first: the first of them is told, and that a way is late, or full, is none; a route that is late is told ahead of what has no room for two stops more.
func TestErrorsInTheirOrder(t *testing.T) {
	p := long()
	if a := p.ask(); !a.is(p.says()) || len(a.all) < 50 || a.put != api.OK {
		t.Fatalf("%v is %v", p, a)
	}
	for _, a := range flaws() {
		q := p.cloned()
		if a.spoil(&q); !q.ask().is(a.told()) || !q.says().is(a.told()) {
			t.Errorf("%s is %v; it should be %v", a.name, q.ask(), a.told())
		}
		for _, b := range flaws() {
			if a.rank >= b.rank {
				continue
			}
			// what is spoilt by its length is spoilt last, so that it is as long as it says
			q := p.cloned()
			b.spoil(&q)
			a.spoil(&q)
			if !q.ask().is(a.told()) || !q.says().is(a.told()) {
				t.Errorf("%s, and %s, is %v; it should be %v", a.name, b.name, q.ask(), a.told())
			}
		}
	}
}

func near(r *rand.Rand) api.Place { return at(60+r.Intn(5), 80+r.Intn(5)) }

// anyProblem is one of up to so many requests in the route, and one or more that are not: most of the time all windows of the route are met, by little or by much, and those of others may be.
func anyProblem(r *rand.Rand, most int) problem {
	n := r.Intn(most + 1)
	p := problem{v: api.Vehicle{Home: near(r), Cap: 10 + r.Intn(40), Start: r.Intn(30)}, t: make([]api.Request, n+1+r.Intn(3))}
	for k := range p.t {
		early := r.Intn(60)
		p.t[k] = api.Request{From: near(r), To: near(r), Pick: span(early, early+r.Intn(150)), Drop: span(early, early+r.Intn(250)), Load: 1 + r.Intn(9), Serve: r.Intn(3) * r.Intn(5)}
	}
	requests := r.Perm(len(p.t))
	for _, req := range requests[:n] {
		pick := r.Intn(len(p.l) + 1)
		p.l = p.of(req).laid(pick, pick+1+r.Intn(len(p.l)+1-pick))
	}
	now, here := p.v.Start, p.v.Home
	for _, s := range p.l {
		now += apart(here, placeOf(p.t, s))
		early := max(0, now+r.Intn(12)-8)
		late := max(early, now) + []int{r.Intn(12), 20 + r.Intn(40), 100, 200}[r.Intn(4)]
		if r.Intn(90) == 0 {
			early, late = 0, max(0, now-1)
		}
		*windowOf(p.t, s) = span(early, late)
		now, here = max(now, early)+p.t[s.Req].Serve, placeOf(p.t, s)
	}
	p.v.End = max(p.v.Start, now+apart(here, p.v.Home)+r.Intn(80)-1)
	return p.of(requests[n])
}

// P12.1, P12.2: of all kinds of problems, and of each request, it is as the words say; of many of them there are several that are best, and the first of these is neither the first nor the last of all.
func TestAsTheWordsSay(t *testing.T) {
	r := rand.New(rand.NewSource(1))
	codes, within := map[api.Errno]int{}, 0
	for range 2000 {
		p := anyProblem(r, 8)
		for req := -1; req <= len(p.t); req++ {
			p := p.of(req)
			a, should := p.ask(), p.says()
			if !a.is(should) {
				t.Fatalf("%v is %v; it should be %v", p, a, should)
			}
			codes[a.ofBest]++
			k := slices.Index(a.all, a.best)
			if k > 0 && slices.ContainsFunc(a.all[k+1:], func(w Way) bool { return w.Rise == a.rise }) {
				within++
			}
		}
	}
	for _, code := range []api.Errno{api.OK, api.ErrStop, api.ErrNone, api.ErrCount} {
		if codes[code] < 100 {
			t.Errorf("told is %v", codes)
		}
	}
	if within < 300 {
		t.Errorf("among others, and ahead of one that is alike, %d are best", within)
	}
}

// P12.3: no rise is below 0; what is put is a route that is right, whose end is later by just the rise, and which is that of before without the request.
func TestWhatIsPut(t *testing.T) {
	r := rand.New(rand.NewSource(2))
	put, waited := 0, 0
	for range 2000 {
		p := anyProblem(r, 7)
		a := p.ask()
		for _, w := range a.all {
			if w.Rise < 0 || w.I < 0 || w.I > w.J || w.J > len(p.l) {
				t.Fatalf("%v is %v", p, a)
			}
		}
		if a.put != api.OK {
			continue
		}
		_, before, _ := sched.Times(p.v, p.l, p.t)
		times, end, e := sched.Times(p.v, a.row, p.t)
		if e != api.OK || !feas.Right(p.v, a.row, p.t, times) || feas.Check(p.v, a.row, p.t) != nil {
			t.Fatalf("%v is %v; its times are %v, %v", p, a, times, e)
		}
		if end != before+a.rise || !slices.Equal(route.Without(a.row, p.req), p.l) {
			t.Fatalf("%v is %v; its end is %d, and was %d", p, a, end, before)
		}
		put++
		if a.rise == 0 {
			waited++
		}
	}
	if put < 500 || waited < 50 {
		t.Errorf("put are %d, %d of them without a rise", put, waited)
	}
}

// P12.3: who has more room, or more time at the end, has all ways that another one has, with the same rises, and in the same order; and so nothing costs more.
func TestMoreRoomAndMoreTime(t *testing.T) {
	r := rand.New(rand.NewSource(3))
	kept, gained := 0, 0
	for range 2000 {
		p := anyProblem(r, 7)
		less := p.ask()
		q := p
		switch r.Intn(3) {
		case 0:
			q.v.Cap += 1 + r.Intn(20)
		case 1:
			q.v.End += 1 + r.Intn(40)
		default:
			q.v.Cap, q.v.End = 100000, 1<<20
		}
		more := q.ask()
		if less.ofAll != api.OK {
			if !more.is(less) {
				t.Fatalf("%v is %v, and with more %v", p, less, more)
			}
			continue
		}
		rest := slices.DeleteFunc(slices.Clone(more.all), func(w Way) bool { return !slices.Contains(less.all, w) })
		if !slices.Equal(rest, less.all) || less.put == api.OK && (more.put != api.OK || more.rise > less.rise) {
			t.Fatalf("%v is %v, and with more %v", p, less, more)
		}
		kept += len(less.all)
		gained += len(more.all) - len(less.all)
	}
	if kept < 5000 || gained < 2000 {
		t.Errorf("kept are %d, gained %d", kept, gained)
	}
}

// P12.1: the bounds of each way: with just the room, or just the time, that it takes, it is there, and with one less it is not.
func TestJustEnough(t *testing.T) {
	r := rand.New(rand.NewSource(4))
	ends, caps := 0, 0
	for range 150 {
		p := anyProblem(r, 5)
		p.v.Cap, p.v.End = 100, 1<<20
		a := p.ask()
		for _, w := range a.all {
			row := p.laid(w.I, w.J+1)
			_, end, _ := sched.Times(p.v, row, p.t)
			peak, _ := load.Peak(row, p.t)
			for _, bound := range []*int{&p.v.End, &p.v.Cap} {
				was, least := *bound, end
				if bound == &p.v.Cap {
					least = peak
				}
				*bound = least
				with, _ := All(p.v, p.l, p.t, p.req)
				*bound = least - 1
				without, _ := All(p.v, p.l, p.t, p.req)
				if !slices.Contains(with, w) || slices.Contains(without, w) {
					t.Fatalf("%v has %v; with just enough there are %v, with one less %v", p, w, with, without)
				}
				*bound = was
			}
			ends, caps = ends+end, caps+peak
		}
	}
	if ends == 0 || caps == 0 {
		t.Errorf("tried are ends of %d, loads of %d", ends, caps)
	}
}

// P12.1: of no stops there is one way, if any, and what it costs is what a vehicle takes that serves it alone.
func TestInNoStops(t *testing.T) {
	r := rand.New(rand.NewSource(5))
	some, none := 0, 0
	for range 3000 {
		p := anyProblem(r, 0)
		p.v.Cap = 1 + r.Intn(12)
		home, is := order.Alone(p.t[p.req], p.v)
		should := noWay()
		if is {
			rise := home - p.v.Start
			should = told{all: ways(0, 0, rise), best: Way{0, 0, rise}, row: p.laid(0, 1), rise: rise}
			some++
		} else {
			none++
		}
		if a := p.ask(); !a.is(should) {
			t.Fatalf("%v is %v; it should be %v", p, a, should)
		}
	}
	if some < 300 || none < 300 {
		t.Errorf("there are %d, and %d not", some, none)
	}
}

// P12.1, P12.2: the longest route there may be, from corner to corner, with the greatest numbers: all 120 pairs have their rises; and one that waits from the first minute to the last one.
func TestGreatNumbers(t *testing.T) {
	r := api.Request{From: at(1023, 1023), To: at(0, 0), Pick: span(0, 1<<20), Drop: span(0, 1<<20), Load: 1000, Serve: 1000}
	p := problem{v: api.Vehicle{Home: at(0, 0), Cap: 100000, End: 1 << 20}}
	for k := range 8 {
		p.t = append(p.t, r)
		p.req = k
		a := p.ask()
		if n := (len(p.l) + 1) * (len(p.l) + 2) / 2; len(a.all) != n || !a.is(p.says()) {
			t.Fatalf("%v is %v", p, a)
		}
		// whoever drops it at home on a way that there is drives no further
		if k > 0 && a.rise != 2000 || k == 0 && a.rise != 6092 {
			t.Fatalf("%v is %v", p, a)
		}
		p.l = a.row
	}
	if a := p.of(7).ask(); !a.is(alike(api.ErrStop)) {
		t.Errorf("of 7 it is %v", a)
	}
	p.t = append(p.t, r)
	if a := p.of(8).ask(); !a.is(alike(api.ErrCount)) {
		t.Errorf("of 8 it is %v", a)
	}
	here := at(7, 8)
	q := problem{v: api.Vehicle{Home: here, Cap: 2, End: 1 << 20}, l: of("P0 D0"), req: 1}
	q.t = []api.Request{
		{From: here, To: here, Pick: span(0, 1<<20), Drop: span(0, 1<<20), Load: 1},
		{From: here, To: here, Pick: span(0, 1<<20), Drop: span(1<<20, 1<<20), Load: 1},
	}
	a := q.ask()
	if !a.is(q.says()) || len(a.all) != 6 || a.best != (Way{0, 0, 1 << 20}) {
		t.Errorf("%v is %v", q, a)
	}
}

// P12.1, P12.2: numbers at their ends, in each field, neither end in a panic nor go round; nor do lists that are none, or too long by far.
func TestAtNumbersEnds(t *testing.T) {
	for _, n := range extremes() {
		for k, field := range []func(p *problem) *int{
			func(p *problem) *int { return &p.v.Home.X },
			func(p *problem) *int { return &p.v.Home.Y },
			func(p *problem) *int { return &p.v.Cap },
			func(p *problem) *int { return &p.v.Start },
			func(p *problem) *int { return &p.v.End },
			func(p *problem) *int { return &p.t[7].From.X },
			func(p *problem) *int { return &p.t[1].To.Y },
			func(p *problem) *int { return &p.t[7].Pick.Early },
			func(p *problem) *int { return &p.t[7].Drop.Late },
			func(p *problem) *int { return &p.t[9].Load },
			func(p *problem) *int { return &p.t[7].Serve },
			func(p *problem) *int { return &p.l[1].Req },
			func(p *problem) *int { return &p.l[6].Kind },
			func(p *problem) *int { return &p.req },
		} {
			p, code := long(), api.ErrArg
			if k > 10 {
				code = api.ErrStop
			}
			*field(&p) = n
			if a := p.ask(); !a.is(alike(code)) {
				t.Errorf("%v is %v; it should be %v", p, a, code)
			}
		}
	}
	for _, n := range []int{15, 17, 18, 1000} {
		p := long()
		p.l = slices.Repeat(of("P0 D0"), n)[:n]
		if a := p.ask(); !a.is(alike(api.ErrStop)) {
			t.Errorf("of %d stops it is %v", n, a)
		}
	}
	if a := (problem{}).ask(); !a.is(alike(api.ErrStop)) {
		t.Errorf("of nothing it is %v", a)
	}
	if a := (problem{t: chapter().t}).ask(); !a.is(alike(api.ErrArg)) {
		t.Errorf("without a vehicle it is %v", a)
	}
}

// P12.1, P12.2: what was handed in is as it was, and so is what lies behind it; what is told is the caller's: whoever changes it changes nothing else, and the same is told again.
func TestNothingIsChangedNorShared(t *testing.T) {
	late, full, bare := long(), long(), chapter()
	late.v.End, full.v.Cap, bare.l = 100, 1, nil
	for _, p := range []problem{chapter(), chapter().of(0), bare, long(), long().of(9), late, full} {
		stops := slices.Concat(p.l, slices.Repeat(of("X7"), 20))
		requests := slices.Concat(p.t, slices.Repeat([]api.Request{{Load: 7}}, 20))
		wasStops, wasRequests := slices.Clone(stops), slices.Clone(requests)
		p.l, p.t = stops[:len(p.l)], requests[:len(p.t)]
		first, again := p.ask(), p.ask()
		clear(first.all[:cap(first.all)])
		clear(first.row[:cap(first.row)])
		if !slices.Equal(stops, wasStops) || !slices.Equal(requests, wasRequests) {
			t.Fatalf("there are %v and %v; there were %v and %v", stops, requests, wasStops, wasRequests)
		}
		if should := p.says(); !again.is(should) || !p.ask().is(should) {
			t.Errorf("%v is %v, and again %v; it should be %v", p, again, p.ask(), should)
		}
	}
}
