package feas

import (
	"errors"
	"iter"
	"math"
	"math/rand"
	"slices"
	"strconv"
	"strings"
	"testing"

	"consign/api"
	"consign/load"
	"consign/route"
	"consign/sched"
)

// of is the row that a text tells: P3 is a Pick of 3, D3 its Drop, X3 a stop of it that is neither.
func of(text string) []api.Stop {
	var l []api.Stop
	for _, word := range strings.Fields(text) {
		req, err := strconv.Atoi(word[1:])
		if err != nil {
			panic(err)
		}
		l = append(l, api.Stop{Req: req, Kind: strings.Index("PDX", word[:1])})
	}
	return l
}

func at(x, y int) api.Place { return api.Place{X: x, Y: y} }

func span(early, late int) api.Window { return api.Window{Early: early, Late: late} }

// times are those of three numbers each.
func times(l ...int) []api.Time {
	var t []api.Time
	for three := range slices.Chunk(l, 3) {
		t = append(t, api.Time{Arrive: three[0], Begin: three[1], Leave: three[2]})
	}
	return t
}

func fault(code api.Errno, phase, index int) api.Fault {
	return api.Fault{Code: code, Phase: phase, Index: index}
}

// extremes are the numbers at the ends of int, and of lesser ones.
func extremes() []int {
	return []int{math.MinInt, math.MinInt + 1, math.MinInt32 - 1, math.MinInt32, math.MaxInt32, math.MaxInt32 + 1, math.MaxInt - 1, math.MaxInt}
}

// problem is what is asked about.
type problem struct {
	v api.Vehicle
	l []api.Stop
	t []api.Request
}

// check is what Check tells: a zero fault, if it has nothing to say.
func (p problem) check() api.Fault { return api.Told(Check(p.v, p.l, p.t)) }

func (p problem) right(times []api.Time) bool { return Right(p.v, p.l, p.t, times) }

// cloned may be changed, while the problem stays as it is.
func (p problem) cloned() problem {
	return problem{p.v, slices.Clone(p.l), slices.Clone(p.t)}
}

func within(n, least, most int) bool { return n >= least && n <= most }

func placeMay(p api.Place) bool { return within(p.X, 0, 1023) && within(p.Y, 0, 1023) }

func windowMay(w api.Window) bool { return w.Early >= 0 && w.Late <= 1<<20 && w.Early <= w.Late }

func vehicleMay(v api.Vehicle) bool {
	return placeMay(v.Home) && within(v.Cap, 1, 100000) && v.Start >= 0 && v.End <= 1<<20 && v.Start <= v.End
}

func requestMay(r api.Request) bool {
	return placeMay(r.From) && placeMay(r.To) && windowMay(r.Pick) && windowMay(r.Drop) && within(r.Load, 1, 1000) && within(r.Serve, 0, 1000)
}

func apart(a, b api.Place) int { return max(a.X-b.X, b.X-a.X) + max(a.Y-b.Y, b.Y-a.Y) }

// where is the place and the window of a stop that has them.
func where(s api.Stop, t []api.Request) (api.Place, api.Window) {
	if s.Kind == 0 {
		return t[s.Req].From, t[s.Req].Pick
	}
	return t[s.Req].To, t[s.Req].Drop
}

// windowOf is the window itself.
func windowOf(t []api.Request, s api.Stop) *api.Window {
	if s.Kind == 0 {
		return &t[s.Req].Pick
	}
	return &t[s.Req].Drop
}

// aboard are the requests of a row that are there behind it, by asking for each stop whether its other one is behind it.
func aboard(l []api.Stop) []int {
	var open []int
	for k, s := range l {
		if s.Kind == 0 && !slices.Contains(l[k:], api.Stop{Req: s.Req, Kind: 1}) {
			open = append(open, s.Req)
		}
	}
	return open
}

// left is from where, and when, the row's last stop is left as early as it can be; it asks the row without that stop first.
func (p problem) left(l []api.Stop) (api.Place, int) {
	if len(l) == 0 {
		return p.v.Home, p.v.Start
	}
	last := l[len(l)-1]
	from, then := p.left(l[:len(l)-1])
	place, w := where(last, p.t)
	return place, max(then+apart(from, place), w.Early) + p.t[last.Req].Serve
}

// stopSays is what the document's words say of a stop, if there is nothing to say of those ahead of it.
func (p problem) stopSays(k int) api.Errno {
	s, ahead := p.l[k], p.l[:k]
	if k >= 16 {
		return api.ErrCount
	}
	if s.Req < 0 || s.Req >= len(p.t) || !within(s.Kind, 0, 1) {
		return api.ErrStop
	}
	if s.Kind == 0 && slices.Contains(ahead, s) || s.Kind == 1 && !slices.Contains(aboard(ahead), s.Req) {
		return api.ErrStop
	}
	full := 0
	for _, req := range aboard(p.l[:k+1]) {
		full += p.t[req].Load
	}
	if full > p.v.Cap {
		return api.ErrFull
	}
	from, then := p.left(ahead)
	if place, w := where(s, p.t); then+apart(from, place) > w.Late {
		return api.ErrLate
	}
	return api.OK
}

// says is what they say of all.
func (p problem) says() api.Fault {
	if !vehicleMay(p.v) {
		return fault(api.ErrArg, 0, 0)
	}
	if bad := slices.IndexFunc(p.t, func(r api.Request) bool { return !requestMay(r) }); bad >= 0 {
		return fault(api.ErrArg, 1, bad)
	}
	for k := range p.l {
		if code := p.stopSays(k); code != api.OK {
			return fault(code, 2, k)
		}
	}
	if len(aboard(p.l)) > 0 {
		return fault(api.ErrStop, 3, len(p.l))
	}
	if last, then := p.left(p.l); then+apart(last, p.v.Home) > p.v.End {
		return fault(api.ErrLate, 3, len(p.l))
	}
	return api.Fault{}
}

// earliestTimes are those of a problem of which there is nothing to say.
func (p problem) earliestTimes() []api.Time {
	var l []api.Time
	for k, s := range p.l {
		from, then := p.left(p.l[:k])
		place, w := where(s, p.t)
		come := then + apart(from, place)
		begin := max(come, w.Early)
		l = append(l, api.Time{Arrive: come, Begin: begin, Leave: begin + p.t[s.Req].Serve})
	}
	return l
}

// mayBeServed is what the words say of all but the times.
func (p problem) mayBeServed() bool {
	if code := p.says().Code; code != api.OK && code != api.ErrLate {
		return false
	}
	// what is told ahead of the rest may be that a stop is late: behind it there may be anything
	early := p.cloned()
	early.v.End = 1 << 20
	for k := range early.t {
		early.t[k].Pick, early.t[k].Drop = span(0, 1<<20), span(0, 1<<20)
	}
	return early.says().Code == api.OK
}

// keeps is what they say of the times, of what may be served.
func (p problem) keeps(times []api.Time) bool {
	if len(times) != len(p.l) {
		return false
	}
	here, left := p.v.Home, p.v.Start
	for k, s := range p.l {
		place, w := where(s, p.t)
		a, b, c := times[k].Arrive, times[k].Begin, times[k].Leave
		if a < left+apart(here, place) || b < a || b < w.Early || b > w.Late || c != b+p.t[s.Req].Serve {
			return false
		}
		here, left = place, c
	}
	return left+apart(here, p.v.Home) <= p.v.End
}

func (p problem) serves(times []api.Time) bool { return p.mayBeServed() && p.keeps(times) }

// chapter has the vehicle and the request of the chapter.
func chapter() problem {
	return problem{
		v: api.Vehicle{Home: at(0, 0), Cap: 5, Start: 0, End: 40},
		l: of("P0 D0"),
		t: []api.Request{{From: at(5, 0), To: at(9, 0), Pick: span(0, 20), Drop: span(0, 30), Load: 3, Serve: 1}},
	}
}

// line has four requests along a line, with wide windows, and a vehicle at its begin that starts late.
func line() problem {
	p := problem{v: api.Vehicle{Home: at(0, 0), Cap: 100, Start: 7, End: 1000}, l: of("P0 P1 D0 P2 D2 P3 D1 D3")}
	for k := range 4 {
		p.t = append(p.t, api.Request{From: at(10*k+10, 0), To: at(10*k+10, 5), Pick: span(0, 900), Drop: span(0, 900), Load: 10 * (k + 1), Serve: k})
	}
	return p
}

// long is a route of as many stops as there may be, all requests of it being under way at once.
func long() problem {
	p := problem{v: api.Vehicle{Home: at(500, 500), Cap: 36, Start: 77, End: 1 << 20}, l: of("P7 P6 P5 P4 P3 P2 P1 P0 D3 D4 D2 D5 D1 D6 D0 D7")}
	for k := range 9 {
		p.t = append(p.t, api.Request{From: at(100*k, 90*k), To: at(1000-100*k, 3*k), Pick: span(0, 1<<20), Drop: span(0, 1<<20), Load: k + 1, Serve: 125 * (k % 9)})
	}
	return p
}

// P9.1, P9.2: the chapter's examples.
func TestOfTheChapter(t *testing.T) {
	for _, x := range []struct {
		name   string
		change func(p *problem)
		should api.Fault
	}{
		{"its Pick, its Drop", func(p *problem) {}, api.Fault{}},
		{"the Drop alone", func(p *problem) { p.l = of("D0") }, fault(api.ErrStop, 2, 0)},
		{"the Pick alone", func(p *problem) { p.l = of("P0") }, fault(api.ErrStop, 3, 1)},
		{"with Cap 2", func(p *problem) { p.v.Cap = 2 }, fault(api.ErrFull, 2, 0)},
		{"with Pick 0 to 4", func(p *problem) { p.t[0].Pick.Late = 4 }, fault(api.ErrLate, 2, 0)},
		{"with End 19", func(p *problem) { p.v.End = 19 }, fault(api.ErrLate, 3, 2)},
	} {
		p := chapter()
		x.change(&p)
		if f := p.check(); f != x.should {
			t.Errorf("%s is %v; it should be %v", x.name, f, x.should)
		}
	}
	for _, x := range []struct {
		times []api.Time
		right bool
	}{
		{times(5, 5, 6, 10, 10, 11), true},
		{times(5, 7, 8, 12, 12, 13), true},
		{times(4, 5, 6, 10, 10, 11), false},
		{times(5, 5, 7, 11, 11, 12), false},
		{times(5, 5, 6), false},
	} {
		if right := chapter().right(x.times); right != x.right {
			t.Errorf("%v is %t", x.times, right)
		}
	}
}

// P9.1: what is told is nil itself, or an error that is found as a fault, and as its number.
func TestWhatIsTold(t *testing.T) {
	p := chapter()
	if err := Check(p.v, p.l, p.t); err != nil {
		t.Errorf("it is %v", err)
	}
	p.v.Cap = 2
	err := Check(p.v, p.l, p.t)
	var f *api.Fault
	if err == nil || !errors.As(err, &f) || *f != fault(api.ErrFull, 2, 0) || !errors.Is(err, api.ErrFull) || err.Error() != api.ErrFull.Error() {
		t.Fatalf("it is %v", err)
	}
	f.Code, f.Phase, f.Index = api.ErrNil, 9, 9
	if again := p.check(); again != fault(api.ErrFull, 2, 0) {
		t.Errorf("a fault was changed, and by that another one, to %v", again)
	}
}

// P9.1, P9.2: without stops home is come to at Start, wherever it is; some requests may be told all the same.
func TestWithoutStops(t *testing.T) {
	for _, start := range []int{0, 1, 1<<20 - 1, 1 << 20} {
		for _, end := range []int{start, (start + 1<<20) / 2, 1 << 20} {
			for _, requests := range [][]api.Request{nil, {}, line().t} {
				for _, l := range [][]api.Stop{nil, {}} {
					p := problem{v: api.Vehicle{Home: at(1023, 7), Cap: 1, Start: start, End: end}, l: l, t: requests}
					if f := p.check(); f != (api.Fault{}) {
						t.Errorf("from %d to %d it is %v", start, end, f)
					}
					if !p.right(nil) || !p.right([]api.Time{}) {
						t.Errorf("from %d to %d no times do not serve it", start, end)
					}
					if p.right(times(start, start, start)) {
						t.Errorf("from %d to %d a time serves no stop", start, end)
					}
				}
			}
		}
	}
}

// wrong is a way to spoil a problem, and what is told of it then.
type wrong struct {
	name  string
	fault api.Fault
	spoil func(p *problem)
}

// wrongVehicles are told ahead of all else.
func wrongVehicles() []wrong {
	var l []wrong
	for name, spoil := range map[string]func(v *api.Vehicle){
		"Home west of the grid":  func(v *api.Vehicle) { v.Home.X = -1 },
		"Home east of the grid":  func(v *api.Vehicle) { v.Home.X = 1024 },
		"Home south of the grid": func(v *api.Vehicle) { v.Home.Y = -1 },
		"Home north of the grid": func(v *api.Vehicle) { v.Home.Y = 1024 },
		"Cap 0":                  func(v *api.Vehicle) { v.Cap = 0 },
		"Cap too great":          func(v *api.Vehicle) { v.Cap = 100001 },
		"Start below 0":          func(v *api.Vehicle) { v.Start = -1 },
		"Start above End":        func(v *api.Vehicle) { v.Start = v.End + 1 },
		"End too great":          func(v *api.Vehicle) { v.End = 1<<20 + 1 },
		"a zero vehicle":         func(v *api.Vehicle) { *v = api.Vehicle{} },
	} {
		l = append(l, wrong{name, fault(api.ErrArg, 0, 0), func(p *problem) { spoil(&p.v) }})
	}
	return l
}

// notToBe are changes by which a request may not be.
func notToBe() map[string]func(r *api.Request) {
	return map[string]func(r *api.Request){
		"a zero request":     func(r *api.Request) { *r = api.Request{} },
		"From off the grid":  func(r *api.Request) { r.From.X = -1 },
		"To off the grid":    func(r *api.Request) { r.To.Y = 1024 },
		"Pick is empty":      func(r *api.Request) { r.Pick = span(8, 7) },
		"Pick below 0":       func(r *api.Request) { r.Pick.Early = -1 },
		"Drop too great":     func(r *api.Request) { r.Drop.Late = 1<<20 + 1 },
		"Load 0":             func(r *api.Request) { r.Load = 0 },
		"Load below 0":       func(r *api.Request) { r.Load = -5 },
		"Load too great":     func(r *api.Request) { r.Load = 1001 },
		"Serve below 0":      func(r *api.Request) { r.Serve = -1 },
		"Serve too great":    func(r *api.Request) { r.Serve = 1001 },
		"Pick and Drop none": func(r *api.Request) { r.Pick, r.Drop = span(-9, -8), span(5, 4) },
	}
}

func wrongRequests(k int) []wrong {
	var l []wrong
	for name, spoil := range notToBe() {
		l = append(l, wrong{name + " of " + strconv.Itoa(k), fault(api.ErrArg, 1, k), func(p *problem) { spoil(&p.t[k]) }})
	}
	return l
}

// wrongStops are, of a line's rows, what is wrong with the stop k, in the order in which it is told.
func wrongStops(k int) []wrong {
	var l []wrong
	for name, s := range map[string]api.Stop{
		"a Kind that is none":        {Req: 0, Kind: 2},
		"a Kind below 0":             {Req: 0, Kind: -1},
		"a request below 0":          {Req: -1, Kind: 0},
		"a Drop of one below 0":      {Req: -1, Kind: 1},
		"a request that is none":     {Req: 5, Kind: 0},
		"a Drop of one that is none": {Req: 5, Kind: 1},
		"the greatest request":       {Req: math.MaxInt, Kind: 0},
		"the least request":          {Req: math.MinInt, Kind: 1},
		"a Drop of one not picked":   {Req: 4, Kind: 1},
	} {
		l = append(l, wrong{name, fault(api.ErrStop, 2, k), func(p *problem) { p.l[k] = s }})
	}
	return l
}

// spoilt goes through all that may be wrong with a problem, in the order in which it is told; nothing is told of what is spoilt once only behind a stop.
func spoilt() [][]wrong {
	l := [][]wrong{wrongVehicles()}
	for k := range 5 {
		l = append(l, wrongRequests(k))
	}
	for k := range 8 {
		l = append(l, wrongStops(k))
	}
	return append(l,
		[]wrong{{"somebody stays on board", fault(api.ErrStop, 3, 9), func(p *problem) { p.l = append(p.l, of("P4")...) }}},
		[]wrong{{"home is too far", fault(api.ErrLate, 3, 8), func(p *problem) { p.v.End = 150 }}},
	)
}

// five is a line with a request more, which no stop names.
func five() problem {
	p := line()
	p.t = append(p.t, api.Request{From: at(0, 3), To: at(4, 0), Pick: span(0, 1000), Drop: span(0, 1000), Load: 1})
	return p
}

// P9.1, P9.2: each thing that is wrong, alone, and each two: what comes first is told, and no times serve it.
func TestFaultsInTheirOrder(t *testing.T) {
	if f := five().check(); f != (api.Fault{}) {
		t.Fatalf("unspoilt it is %v", f)
	}
	good := five().earliestTimes()
	all := spoilt()
	for i, firsts := range all {
		for _, a := range firsts {
			p := five()
			a.spoil(&p)
			if f := p.check(); f != a.fault {
				t.Errorf("with %s it is %v; it should be %v", a.name, f, a.fault)
			}
			if p.right(good) || p.right(append(good, times(900, 900, 900)...)) || p.right(nil) {
				t.Errorf("with %s times serve it", a.name)
			}
			for _, seconds := range all[i+1:] {
				for _, b := range seconds {
					p := five()
					b.spoil(&p)
					a.spoil(&p)
					if f := p.check(); f != a.fault {
						t.Errorf("with %s and %s it is %v; it should be %v", a.name, b.name, f, a.fault)
					}
				}
			}
		}
	}
}

// P9.1: at one stop it is told by ErrStop ahead of ErrFull, by that ahead of ErrLate; at an earlier stop whatever it is by is told first.
func TestFaultsOfStops(t *testing.T) {
	full := func(p *problem) { p.v.Cap = 29 }
	late := func(k int) func(p *problem) {
		return func(p *problem) { *windowOf(p.t, p.l[k]) = span(0, 0) }
	}
	set := func(k int, s api.Stop) func(p *problem) { return func(p *problem) { p.l[k] = s } }
	both := func(a, b func(p *problem)) func(p *problem) { return func(p *problem) { a(p); b(p) } }
	for _, x := range []struct {
		name   string
		change func(p *problem)
		should api.Fault
	}{
		{"full at 1", full, fault(api.ErrFull, 2, 1)},
		{"late at 1", late(1), fault(api.ErrLate, 2, 1)},
		{"late and full at 1", both(late(1), full), fault(api.ErrFull, 2, 1)},
		{"late at 0, full at 1", both(late(0), full), fault(api.ErrLate, 2, 0)},
		{"late at 2, full at 1", both(late(2), full), fault(api.ErrFull, 2, 1)},
		{"late at 1, no stop at 2", both(late(1), set(2, api.Stop{Req: 9})), fault(api.ErrLate, 2, 1)},
		{"no stop, and full at 1", both(full, set(1, api.Stop{Req: 9})), fault(api.ErrStop, 2, 1)},
		{"picked again, being full with it at 1", both(full, set(1, api.Stop{Req: 0})), fault(api.ErrStop, 2, 1)},
		{"picked again, and late, at 1", both(late(0), func(p *problem) { p.l = of("P1 P1") }), fault(api.ErrStop, 2, 1)},
		{"dropped again, and late, at 3", both(func(p *problem) { p.l[3] = p.l[2] }, func(p *problem) { p.t[0].Drop = span(0, 48) }), fault(api.ErrStop, 2, 3)},
		{"late at 7, full at 1", both(late(7), full), fault(api.ErrFull, 2, 1)},
		{"late at 7", late(7), fault(api.ErrLate, 2, 7)},
		{"late at 7, and home", both(late(7), func(p *problem) { p.v.End = 100 }), fault(api.ErrLate, 2, 7)},
		{"full at 1, and home too late", both(full, func(p *problem) { p.v.End = 100 }), fault(api.ErrFull, 2, 1)},
		{"on board, and home too late", func(p *problem) { p.v.End, p.l = 10, p.l[:2] }, fault(api.ErrStop, 3, 2)},
		{"home too late behind two", func(p *problem) { p.v.End, p.l = 10, of("P0 D0") }, fault(api.ErrLate, 3, 2)},
	} {
		p := line()
		x.change(&p)
		if f := p.check(); f != x.should {
			t.Errorf("%s is %v; it should be %v", x.name, f, x.should)
		}
	}
}

// still is with all of it at one place, and taking no time: any times that are alike serve it, if anything does.
func (p problem) still() problem {
	p = p.cloned()
	for k := range p.t {
		p.t[k].From, p.t[k].To, p.t[k].Pick, p.t[k].Drop, p.t[k].Serve = p.v.Home, p.v.Home, span(0, 900), span(0, 900), 0
	}
	p.v.End = 1000
	return p
}

// P9.1, P9.2: rows by hand: who is picked, or dropped, too often, or ahead of it, or stays on board.
func TestRowsByHand(t *testing.T) {
	for row, should := range map[string]api.Fault{
		"":                              {},
		"P0 D0":                         {},
		"P3 D3":                         {},
		"P1 P0 D1 D0":                   {},
		"P0 P1 P2 P3 D0 D1 D2 D3":       {},
		"P0 D0 P1 D1 P2 D2 P3 D3":       {},
		"P0":                            fault(api.ErrStop, 3, 1),
		"P0 P1":                         fault(api.ErrStop, 3, 2),
		"P0 P1 D0":                      fault(api.ErrStop, 3, 3),
		"P0 P1 D1":                      fault(api.ErrStop, 3, 3),
		"P0 D0 P1 D1 P2 D2 P3":          fault(api.ErrStop, 3, 7),
		"D0":                            fault(api.ErrStop, 2, 0),
		"D0 P0":                         fault(api.ErrStop, 2, 0),
		"P0 P0":                         fault(api.ErrStop, 2, 1),
		"P0 P0 D0 D0":                   fault(api.ErrStop, 2, 1),
		"P0 D0 D0":                      fault(api.ErrStop, 2, 2),
		"P0 D0 P0":                      fault(api.ErrStop, 2, 2),
		"P0 D0 P0 D0":                   fault(api.ErrStop, 2, 2),
		"P0 P1 D0 P0 D1 D0":             fault(api.ErrStop, 2, 3),
		"P0 D1":                         fault(api.ErrStop, 2, 1),
		"P0 D1 P1 D0":                   fault(api.ErrStop, 2, 1),
		"P0 X0 D0":                      fault(api.ErrStop, 2, 1),
		"X0":                            fault(api.ErrStop, 2, 0),
		"P4 D4":                         fault(api.ErrStop, 2, 0),
		"P0 D0 P4 D4":                   fault(api.ErrStop, 2, 2),
		"P-1 D-1":                       fault(api.ErrStop, 2, 0),
		"P0 D-1":                        fault(api.ErrStop, 2, 1),
		"P0 D4":                         fault(api.ErrStop, 2, 1),
		"P0 D0 P1 D1 P2 D2 P3 D3 P0 D0": fault(api.ErrStop, 2, 8),
	} {
		p := line()
		p.l = of(row)
		f := p.check()
		if f != should {
			t.Errorf("%s is %v; it should be %v", row, f, should)
		}
		still := p.still()
		if still.right(slices.Repeat(times(500, 500, 500), len(p.l))) != (should.Code == api.OK) {
			t.Errorf("%s, if it is all at one place, is right or not", row)
		}
	}
}

// P9.1, P9.2: as many stops as there may be, and more: the first one too many is told, whatever it is, unless something ahead of it is wrong.
func TestHowManyStops(t *testing.T) {
	p := long()
	if f := p.check(); f != (api.Fault{}) || !p.right(p.earliestTimes()) {
		t.Fatalf("of 16 stops it is %v", f)
	}
	for _, more := range []string{"P8", "P8 D8", "P8 D8 P8 D8", "X3", "D0", "P-1", "P9", "P0 D0", strings.Repeat("P8 ", 500)} {
		q := p.cloned()
		q.l = append(q.l, of(more)...)
		if f := q.check(); f != fault(api.ErrCount, 2, 16) {
			t.Errorf("with %s it is %v", more, f)
		}
		q.v.Cap = 1
		if f := q.check(); f != fault(api.ErrFull, 2, 0) {
			t.Errorf("with %s, and Cap 1, it is %v", more, f)
		}
		q.v.Cap = 36
		q.t[7].Drop = span(0, 100)
		if f := q.check(); f != fault(api.ErrLate, 2, 15) {
			t.Errorf("with %s, the last stop being late, it is %v", more, f)
		}
		q.l[15] = q.l[14]
		if f := q.check(); f != fault(api.ErrStop, 2, 15) {
			t.Errorf("with %s, the last stop being none, it is %v", more, f)
		}
	}
	// nine requests one behind the other, with nothing else wrong
	q := long()
	q.l = nil
	for k := range 9 {
		q.l = append(q.l, of("P"+strconv.Itoa(k)+" D"+strconv.Itoa(k))...)
		should := api.Fault{}
		if k == 8 {
			should = fault(api.ErrCount, 2, 16)
		}
		if f := q.check(); f != should {
			t.Errorf("of %d requests it is %v", k+1, f)
		}
		if right := q.right(q.earliestTimes()); right != (k < 8) {
			t.Errorf("of %d requests it is %t", k+1, right)
		}
	}
	q.l[15].Kind = 0
	q.v.End = 5
	if f := q.check(); f != fault(api.ErrArg, 0, 0) {
		t.Errorf("a vehicle that may not be, with too many stops, is %v", f)
	}
}

// P9.1: more than there is room for: at each stop where more is on board than ever before.
func TestHowFull(t *testing.T) {
	for _, x := range []struct {
		row  string
		full []int
	}{
		{"P0 P1 D0 P2 D2 P3 D1 D3", []int{10, 30, 20, 50, 20, 60, 40, 0}},
		{"P3 D3 P2 D2 P1 D1 P0 D0", []int{40, 0, 30, 0, 20, 0, 10, 0}},
		{"P0 P1 P2 P3 D3 D2 D1 D0", []int{10, 30, 60, 100, 60, 30, 10, 0}},
	} {
		for most := 1; most <= 101; most++ {
			p := line()
			p.l, p.v.Cap = of(x.row), most
			should := api.Fault{}
			if first := slices.IndexFunc(x.full, func(n int) bool { return n > most }); first >= 0 {
				should = fault(api.ErrFull, 2, first)
			}
			if f := p.check(); f != should {
				t.Errorf("%s, with Cap %d, is %v; it should be %v", x.row, most, f, should)
			}
			if p.right(p.earliestTimes()) != (should.Code == api.OK) {
				t.Errorf("%s, with Cap %d, is right or not", x.row, most)
			}
		}
	}
	// eight of the greatest loads, and room for just as many
	p := long()
	for k := range p.t {
		p.t[k].Load = 1000
	}
	for most, should := range map[int]api.Fault{8000: {}, 100000: {}, 7999: fault(api.ErrFull, 2, 7), 1000: fault(api.ErrFull, 2, 1), 999: fault(api.ErrFull, 2, 0)} {
		if p.v.Cap = most; p.check() != should {
			t.Errorf("with Cap %d it is %v", most, p.check())
		}
	}
}

// P9.1, P9.2: each stop just in time, and one too late, and just at the begin of its window; and so for the end.
func TestEachStopJustInTime(t *testing.T) {
	for _, p := range []problem{chapter(), line(), long()} {
		free := p.earliestTimes()
		if f := p.check(); f != (api.Fault{}) || !p.right(free) {
			t.Fatalf("%v is %v", p, f)
		}
		for k, s := range p.l {
			come := free[k].Arrive
			for late := come - 2; late <= come+2; late++ {
				q := p.cloned()
				*windowOf(q.t, s) = span(0, late)
				should := api.Fault{}
				if late < come {
					should = fault(api.ErrLate, 2, k)
				}
				if f := q.check(); f != should {
					t.Errorf("%v is %v; it should be %v", q, f, should)
				}
				if q.right(free) != (late >= come) {
					t.Errorf("%v, by %v, is right or not", q, free)
				}
			}
			for early := come - 2; early <= come+2; early++ {
				q := p.cloned()
				windowOf(q.t, s).Early = early
				if f := q.check(); f != (api.Fault{}) {
					t.Errorf("%v is %v", q, f)
				}
				if q.right(free) != (early <= come) {
					t.Errorf("%v, by %v, is right or not", q, free)
				}
				if !q.right(q.earliestTimes()) {
					t.Errorf("%v, by %v, is not right", q, q.earliestTimes())
				}
			}
		}
		here, left := p.left(p.l)
		home := left + apart(here, p.v.Home)
		for end := home - 2; end <= home+2; end++ {
			q := p.cloned()
			q.v.End = end
			should := api.Fault{}
			if end < home {
				should = fault(api.ErrLate, 3, len(p.l))
			}
			if f := q.check(); f != should || q.right(free) != (end >= home) {
				t.Errorf("with End %d it is %v, and right: %t", end, f, q.right(free))
			}
		}
	}
}

// P9.1: who waits for a window is later at all that is behind it.
func TestWhoWaits(t *testing.T) {
	p := chapter()
	p.t[0].Pick = span(18, 18)
	for late, should := range map[int]api.Fault{22: fault(api.ErrLate, 2, 1), 23: {}, 24: {}} {
		if p.t[0].Drop = span(0, late); p.check() != should {
			t.Errorf("dropped by %d it is %v; it should be %v", late, p.check(), should)
		}
	}
	p.t[0].Drop = span(29, 29)
	for end, should := range map[int]api.Fault{38: fault(api.ErrLate, 3, 2), 39: {}, 40: {}} {
		if p.v.End = end; p.check() != should {
			t.Errorf("with End %d it is %v; it should be %v", end, p.check(), should)
		}
	}
	p.v.Start, p.v.End = 14, 40
	if f := p.check(); f != fault(api.ErrLate, 2, 0) {
		t.Errorf("with Start 14 it is %v", f)
	}
	if p.v.Start = 13; p.check() != (api.Fault{}) {
		t.Errorf("with Start 13 it is %v", p.check())
	}
}

// P9.2: times by hand: what each clause lets, and just not.
func TestTimesByHand(t *testing.T) {
	for _, x := range []struct {
		times []api.Time
		right bool
	}{
		{times(5, 20, 21, 25, 25, 26), true},
		{times(5, 21, 22, 26, 26, 27), false},
		{times(20, 20, 21, 25, 30, 31), true},
		{times(20, 20, 21, 25, 31, 32), false},
		{times(20, 20, 21, 24, 30, 31), false},
		{times(20, 20, 21, 30, 30, 31), true},
		{times(20, 20, 21, 31, 30, 31), false},
		{times(21, 20, 21, 30, 30, 31), false},
		{times(6, 5, 6, 10, 10, 11), false},
		{times(5, 5, 6, 11, 10, 11), false},
		{times(5, 5, 6, 10, 10, 10), false},
		{times(5, 5, 6, 10, 10, 12), false},
		{times(5, 5, 5, 10, 10, 11), false},
		{times(5, 5, 6, 9, 10, 11), false},
		{times(5, 5, 6, 9, 9, 10), false},
		{times(4, 4, 5, 10, 10, 11), false},
		{times(0, 0, 1, 5, 5, 6), false},
		{times(10, 10, 11, 5, 5, 6), false},
		{times(0, 0, 0, 0, 0, 0), false},
		{times(5, 5, 6, 10, 10, 11, 20, 20, 20), false},
		{times(5, 5, 6, 10, 10, 11, 0, 0, 0), false},
		{times(0, 0, 0, 5, 5, 6, 10, 10, 11), false},
		{nil, false},
		{[]api.Time{}, false},
	} {
		if right := chapter().right(x.times); right != x.right {
			t.Errorf("%v is %t", x.times, right)
		}
	}
	// what lies behind the list is not in it
	row := times(5, 5, 6, 10, 10, 11)
	if chapter().right(row[:1]) {
		t.Error("times behind a list count")
	}
}

// P9.2: a row of times is right just if each number is as it has to be: over all changes of each by a little, of one stop, and of two.
func TestTimesThatAreChanged(t *testing.T) {
	for _, p := range []problem{chapter(), line()} {
		// a window that is just over, one that has just begun, and a way home with a minute to spare
		good := p.earliestTimes()
		p.t[0].Pick, p.t[0].Drop.Early = span(good[0].Begin, good[0].Begin+2), good[0].Begin+2
		good = p.earliestTimes()
		here, left := p.left(p.l)
		p.v.End = left + apart(here, p.v.Home) + 1
		if !p.right(good) {
			t.Errorf("%v of %v is not right", good, p)
		}
		right, wrong := 0, 0
		for a := range 3 * len(good) {
			for b := range 3 * len(good) {
				for da := -3; da <= 3; da++ {
					for db := -3; db <= 3; db++ {
						l := slices.Clone(good)
						*part(l, a) += da
						*part(l, b) += db
						should := p.serves(l)
						if p.right(l) != should {
							t.Fatalf("%v of %v is %t", l, p, !should)
						}
						if should {
							right++
						} else {
							wrong++
						}
					}
				}
			}
		}
		if right < 50 || wrong < 500 {
			t.Errorf("%d are right, %d are not", right, wrong)
		}
	}
}

// part is one number of times.
func part(l []api.Time, k int) *int {
	return []*int{&l[k/3].Arrive, &l[k/3].Begin, &l[k/3].Leave}[k%3]
}

// anyProblem has few requests close by, with short windows, so that much of it is just in time, or just not.
func anyProblem(r *rand.Rand, requests int) problem {
	side := 1 + r.Intn(6)
	place := func() api.Place { return at(r.Intn(side), r.Intn(side)) }
	window := func() api.Window { early := r.Intn(30); return span(early, early+r.Intn(60)) }
	p := problem{v: api.Vehicle{Home: place(), Cap: 1 + r.Intn(9), Start: r.Intn(10)}}
	p.v.End = p.v.Start + r.Intn(120)
	for range requests + r.Intn(3) {
		p.t = append(p.t, api.Request{From: place(), To: place(), Pick: window(), Drop: window(), Load: 1 + r.Intn(4), Serve: r.Intn(4)})
	}
	for _, req := range r.Perm(len(p.t))[:requests] {
		places := []int{r.Intn(len(p.l) + 1), r.Intn(len(p.l) + 1)}
		p.l = slices.Insert(p.l, slices.Max(places), api.Stop{Req: req, Kind: 1})
		p.l = slices.Insert(p.l, slices.Min(places), api.Stop{Req: req, Kind: 0})
	}
	return p
}

// widened is with more time for all, so that long routes are in time too.
func widened(r *rand.Rand, p problem) problem {
	for k := range p.t {
		p.t[k].Pick.Late += r.Intn(200)
		p.t[k].Drop.Late += r.Intn(200)
	}
	p.v.End += r.Intn(200)
	p.v.Cap += r.Intn(20)
	return p
}

// disturbed has a stop that is another one, or more, or less, or a request that may not be.
func disturbed(r *rand.Rand, p problem) problem {
	p = p.cloned()
	switch n := r.Intn(6); {
	case n == 0 && len(p.t) > 0:
		p.t[r.Intn(len(p.t))].Load = -r.Intn(2)
	case n == 1:
		p.v.Cap = -r.Intn(2)
	case n == 2 && len(p.l) > 0:
		p.l[r.Intn(len(p.l))] = api.Stop{Req: r.Intn(len(p.t)+2) - 1, Kind: r.Intn(4) - 1}
	case n == 3 && len(p.l) > 0:
		k := r.Intn(len(p.l))
		p.l = slices.Delete(p.l, k, k+1)
	case n == 4 && len(p.l) > 0:
		a, b := r.Intn(len(p.l)), r.Intn(len(p.l))
		p.l[a], p.l[b] = p.l[b], p.l[a]
	default:
		p.l = slices.Insert(p.l, r.Intn(len(p.l)+1), api.Stop{Req: r.Intn(len(p.t)+2) - 1, Kind: r.Intn(2)})
	}
	return p
}

// P9.1: of all kinds of problems, it is as the words say.
func TestCheckAsTheWordsSay(t *testing.T) {
	r := rand.New(rand.NewSource(1))
	seen, longest := map[api.Errno]int{}, 0
	for n := range 30000 {
		p := widened(r, anyProblem(r, n%10))
		for _, q := range []problem{p, disturbed(r, p), disturbed(r, disturbed(r, p))} {
			should := q.says()
			if f := q.check(); f != should {
				t.Fatalf("%v is %v; it should be %v", q, f, should)
			}
			seen[should.Code]++
			if should.Code == api.OK {
				longest = max(longest, len(q.l))
			}
		}
	}
	for _, code := range []api.Errno{api.OK, api.ErrArg, api.ErrStop, api.ErrFull, api.ErrLate, api.ErrCount} {
		if seen[code] < 300 {
			t.Errorf("told is %v", seen)
		}
	}
	if longest != 16 {
		t.Errorf("the longest route of which there is nothing to say has %d stops", longest)
	}
}

// rowsOf goes through all rows of just so many of these stops.
func rowsOf(stops []api.Stop, n int) iter.Seq[[]api.Stop] {
	return func(yield func([]api.Stop) bool) {
		rows := 1
		for range n {
			rows *= len(stops)
		}
		for row := range rows {
			l := make([]api.Stop, n)
			for k := range l {
				l[k] = stops[row%len(stops)]
				row /= len(stops)
			}
			if !yield(l) {
				return
			}
		}
	}
}

// P9.1, P9.2: over all rows of a few stops it is as the words say, with room and time enough, and with less of both.
func TestAllRowsOfAFewStops(t *testing.T) {
	p := line()
	p.t = p.t[:3]
	small := p.cloned()
	small.v.Cap, small.v.End = 40, 70
	small.t[1].Pick.Late, small.t[0].Drop.Late = 30, 60
	held := func(l []api.Stop) {
		for _, q := range []problem{p, small} {
			q.l = l
			should := q.says()
			if f := q.check(); f != should {
				t.Fatalf("%v is %v; it should be %v", q, f, should)
			}
			if should.Code == api.OK && !q.right(q.earliestTimes()) {
				t.Fatalf("%v is not right", q)
			}
			still := q.still()
			if still.right(slices.Repeat(times(500, 500, 500), len(l))) != (still.says().Code == api.OK) {
				t.Fatalf("%v is right or not", still)
			}
		}
	}
	for n := range 7 {
		for l := range rowsOf(of("P0 D0 P1 D1 P2 D2"), n) {
			held(l)
		}
	}
	for n := range 5 {
		for l := range rowsOf(append(of("P0 D0 X0 P3 D3 P-1 D-1 X-1"), api.Stop{Req: 0, Kind: -1}), n) {
			held(l)
		}
	}
}

// tiny are problems of which all times can be gone through.
func tiny(r *rand.Rand) problem {
	p := anyProblem(r, r.Intn(3))
	for k := range p.t {
		p.t[k].Pick, p.t[k].Drop = span(0, 1<<20), span(0, 1<<20)
		p.t[k].Serve = r.Intn(3)
	}
	// windows around when a stop may be come to, just over now and then
	for k, s := range p.l {
		here, left := p.left(p.l[:k])
		place, _ := where(s, p.t)
		early := max(0, left+apart(here, place)-2+r.Intn(5))
		*windowOf(p.t, s) = span(early, early+r.Intn(5))
	}
	here, left := p.left(p.l)
	p.v.End = left + apart(here, p.v.Home) - 1 + r.Intn(6)
	p.v.Cap += 3
	return p
}

// allTimes goes through all times whose Begins lie in their windows, or just beside, and whose Arrives go from just ahead of the earliest one to just behind the Begin.
func (p problem) allTimes(tell func(l []api.Time)) {
	var on func(l []api.Time, left int, here api.Place)
	on = func(l []api.Time, left int, here api.Place) {
		if len(l) == len(p.l) {
			tell(l)
			return
		}
		s := p.l[len(l)]
		place, w := where(s, p.t)
		come := left + apart(here, place)
		for begin := max(w.Early, come) - 1; begin <= w.Late+1; begin++ {
			for _, arrive := range []int{come - 1, come, begin, begin + 1} {
				leave := begin + p.t[s.Req].Serve
				on(append(l[:len(l):len(l)], api.Time{Arrive: arrive, Begin: begin, Leave: leave}), leave, place)
			}
		}
	}
	on(nil, p.v.Start, p.v.Home)
}

// P9.2, P9.3, P8: over all times, each is right as the words say; some are just if Check has nothing to say; then the earliest ones are, and no others are earlier anywhere.
func TestSomeTimesServeJustIfTheEarliestDo(t *testing.T) {
	r := rand.New(rand.NewSource(2))
	some, none := 0, 0
	for range 500 {
		p := tiny(r)
		f, served, may := p.check(), 0, p.mayBeServed()
		earliest := p.earliestTimes()
		p.allTimes(func(l []api.Time) {
			right := p.right(l)
			if right != (may && p.keeps(l)) {
				t.Fatalf("%v of %v is %t", l, p, right)
			}
			if !right {
				return
			}
			served++
			for k, at := range l {
				if at.Arrive < earliest[k].Arrive || at.Begin < earliest[k].Begin || at.Leave < earliest[k].Leave {
					t.Fatalf("%v serves %v, ahead of %v", l, p, earliest)
				}
			}
		})
		if (f.Code == api.OK) != (served > 0) || p.right(earliest) != (served > 0) {
			t.Fatalf("%v is %v, and %d times serve it; by the earliest ones it is %t", p, f, served, p.right(earliest))
		}
		if served > 0 && len(p.l) > 2 {
			some++
		} else if len(p.l) > 2 {
			none++
		}
	}
	if some < 50 || none < 50 {
		t.Errorf("of %d problems times serve, of %d none do", some, none)
	}
}

// feasible are problems of which there is nothing to say, with times that serve, and that are later here and there than the earliest ones.
func feasible(t *testing.T, seed int64, tell func(r *rand.Rand, p problem, l []api.Time)) {
	r := rand.New(rand.NewSource(seed))
	found := 0
	for n := 0; found < 2000; n++ {
		p := widened(r, anyProblem(r, n%9))
		if p.check().Code != api.OK {
			continue
		}
		found++
		l := p.earliestTimes()
		for range 10 {
			if later := p.loiter(r, r.Intn(4)); p.serves(later) {
				l = later
			}
		}
		if !p.right(l) {
			t.Fatalf("%v does not serve %v", l, p)
		}
		tell(r, p, l)
	}
}

// loiter is as early as it can, but for some time that is lost at each stop, ahead of it and there.
func (p problem) loiter(r *rand.Rand, most int) []api.Time {
	var l []api.Time
	here, left := p.v.Home, p.v.Start
	for _, s := range p.l {
		place, w := where(s, p.t)
		come := left + apart(here, place) + r.Intn(most+1)
		begin := max(come, w.Early) + r.Intn(most+1)
		here, left = place, begin+p.t[s.Req].Serve
		l = append(l, api.Time{Arrive: come, Begin: begin, Leave: left})
	}
	return l
}

// P9.3: what serves a route serves what is left of it without a request.
func TestWithoutARequest(t *testing.T) {
	feasible(t, 3, func(r *rand.Rand, p problem, l []api.Time) {
		for req := range p.t {
			q := problem{v: p.v, l: route.Without(p.l, req), t: p.t}
			var less []api.Time
			for k, s := range p.l {
				if s.Req != req {
					less = append(less, l[k])
				}
			}
			if f := q.check(); f != (api.Fault{}) || !q.right(less) {
				t.Fatalf("%v, without %d, is %v, and right by %v: %t", p, req, f, less, q.right(less))
			}
		}
	})
}

// P9.3: more room, wider windows, and a longer shift never hurt.
func TestMoreNeverHurts(t *testing.T) {
	feasible(t, 4, func(r *rand.Rand, p problem, l []api.Time) {
		for range 10 {
			q := p.cloned()
			if n := r.Intn(8); n == 0 || len(q.t) == 0 {
				q.v.Cap += r.Intn(50)
			} else if n == 1 {
				q.v.Start -= r.Intn(q.v.Start + 1)
			} else if n == 2 {
				q.v.End += r.Intn(50)
			} else {
				w := []*api.Window{&q.t[n%len(q.t)].Pick, &q.t[n%len(q.t)].Drop}[r.Intn(2)]
				w.Early -= r.Intn(w.Early + 1)
				w.Late += r.Intn(50)
			}
			if f := q.check(); f != (api.Fault{}) || !q.right(l) {
				t.Fatalf("%v, made wider to %v, is %v, and right by %v: %t", p, q, f, l, q.right(l))
			}
		}
	})
}

// P8, P9.3: it has nothing to say just if sched and load have not, and sched's times serve.
func TestAsTheOthersSay(t *testing.T) {
	r := rand.New(rand.NewSource(5))
	codes := map[api.Errno]int{}
	for n := range 20000 {
		p := widened(r, anyProblem(r, n%9))
		if n%3 == 0 {
			p = disturbed(r, p)
		}
		at, end, late := sched.Times(p.v, p.l, p.t)
		_, full := load.Fits(p.v, p.l, p.t)
		f := p.check()
		codes[f.Code]++
		if (f.Code == api.OK) != (late == api.OK && full == api.OK) {
			t.Fatalf("%v is %v, and by the others %v, %v", p, f, late, full)
		}
		if f.Code != api.OK {
			continue
		}
		if !p.right(at) {
			t.Fatalf("%v does not serve %v", at, p)
		}
		if p.v.End = end; !p.right(at) {
			t.Fatalf("%v does not serve %v", at, p)
		}
		if p.v.End--; p.right(at) {
			t.Fatalf("%v serves %v", at, p)
		}
	}
	if codes[api.OK] < 2000 {
		t.Errorf("told is %v", codes)
	}
}

// P9.1, P9.2: the greatest numbers that may be: corners of the grid, the longest services, the last minute.
func TestGreatNumbers(t *testing.T) {
	r := api.Request{From: at(1023, 1023), To: at(0, 0), Pick: span(0, 1<<20), Drop: span(0, 1<<20), Load: 1000, Serve: 1000}
	p := problem{v: api.Vehicle{Home: at(0, 0), Cap: 1000, Start: 1<<20 - 8*6092, End: 1 << 20}}
	for k := range 8 {
		p.t = append(p.t, r)
		p.l = append(p.l, of("P"+strconv.Itoa(k)+" D"+strconv.Itoa(k))...)
	}
	l := p.earliestTimes()
	if f := p.check(); f != (api.Fault{}) || !p.right(l) || l[15].Leave != 1<<20 {
		t.Errorf("it is %v, and left at %d", f, l[15].Leave)
	}
	p.v.Start++
	if f := p.check(); f != fault(api.ErrLate, 3, 16) || p.right(l) || p.right(p.earliestTimes()) {
		t.Errorf("a minute later it is %v", f)
	}
	last := span(1<<20, 1<<20)
	q := problem{v: api.Vehicle{Home: at(5, 5), Cap: 1, Start: 1 << 20, End: 1 << 20}, l: of("P0 D0"), t: []api.Request{{From: at(5, 5), To: at(5, 5), Pick: last, Drop: last, Load: 1}}}
	now := times(1<<20, 1<<20, 1<<20, 1<<20, 1<<20, 1<<20)
	if f := q.check(); f != (api.Fault{}) || !q.right(now) {
		t.Errorf("in the last minute it is %v", f)
	}
	for want, spoil := range map[api.Fault]func(q *problem){
		fault(api.ErrLate, 2, 1): func(q *problem) { q.t[0].Serve = 1 },
		fault(api.ErrLate, 2, 0): func(q *problem) { q.t[0].From.X++ },
		fault(api.ErrLate, 3, 2): func(q *problem) { q.v.Home, q.v.Start, q.t[0].From.X, q.v.Cap = at(6, 5), 1<<20-1, 5, 9 },
	} {
		bad := q.cloned()
		spoil(&bad)
		if f := bad.check(); f != want || bad.right(now) {
			t.Errorf("spoilt it is %v; it should be %v", f, want)
		}
	}
}

// fields are the numbers of a problem, with what is told of each if it is no number that may be.
func fields(p *problem) map[*int]api.Fault {
	l := map[*int]api.Fault{
		&p.l[0].Req: fault(api.ErrStop, 2, 0), &p.l[0].Kind: fault(api.ErrStop, 2, 0),
		&p.l[7].Req: fault(api.ErrStop, 2, 7), &p.l[7].Kind: fault(api.ErrStop, 2, 7),
	}
	for _, n := range []*int{&p.v.Home.X, &p.v.Home.Y, &p.v.Cap, &p.v.Start, &p.v.End} {
		l[n] = fault(api.ErrArg, 0, 0)
	}
	r := &p.t[2]
	for _, n := range []*int{&r.From.X, &r.From.Y, &r.To.X, &r.To.Y, &r.Pick.Early, &r.Pick.Late, &r.Drop.Early, &r.Drop.Late, &r.Load, &r.Serve} {
		l[n] = fault(api.ErrArg, 1, 2)
	}
	return l
}

// P9.1, P9.2: numbers at their ends, in each field, and in each time, neither end in a panic nor go round.
func TestAtNumbersEnds(t *testing.T) {
	good := line().earliestTimes()
	for _, n := range extremes() {
		p := line()
		for field, should := range fields(&p) {
			was := *field
			*field = n
			if f := p.check(); f != should || p.right(good) {
				t.Errorf("%v is %v; it should be %v", p, f, should)
			}
			*field = was
		}
		for a := range 3 * len(good) {
			for b := range 3 * len(good) {
				for _, m := range extremes() {
					l := slices.Clone(good)
					*part(l, a), *part(l, b) = n, m
					if p.right(l) {
						t.Fatalf("%v is right", l)
					}
				}
			}
		}
		// a Leave that goes round to where the next stop may well be come to
		if p.right(slices.Repeat(times(n, n, n), 8)) || chapter().right(times(5, n, n+1, 10, 10, 11)) || chapter().right(times(n, 5, 6, 10, 10, 11)) {
			t.Errorf("by %d it is right", n)
		}
	}
}

// P9.1, P9.2: of long lists, all requests are asked about, and rows are left where there are too many stops.
func TestLongLists(t *testing.T) {
	p := chapter()
	p.t = slices.Repeat(p.t, 100000)
	p.l = of("P99999 D99999")
	if f := p.check(); f != (api.Fault{}) || !p.right(times(5, 5, 6, 10, 10, 11)) {
		t.Errorf("of the last request it is %v", f)
	}
	p.t[70000].Load = 0
	if f := p.check(); f != fault(api.ErrArg, 1, 70000) || p.right(times(5, 5, 6, 10, 10, 11)) {
		t.Errorf("with one that may not be it is %v", f)
	}
	p = long()
	p.l = append(p.l, make([]api.Stop, 1000000)...)
	if f := p.check(); f != fault(api.ErrCount, 2, 16) || p.right(make([]api.Time, len(p.l))) {
		t.Errorf("of many stops it is %v", f)
	}
}

// P9.1, P9.2: what was handed in is as it was, and so is what lies behind it; asked again, it is the same.
func TestNothingIsChanged(t *testing.T) {
	late := long()
	late.v.End = 100
	for _, p := range []problem{chapter(), line(), long(), late, {v: line().v}, {v: line().v, l: of("P0"), t: line().t}} {
		stops := slices.Concat(p.l, slices.Repeat(of("X7"), 20))
		requests := slices.Concat(p.t, slices.Repeat([]api.Request{{Load: 7}}, 20))
		at := slices.Concat(p.earliestTimes(), slices.Repeat(times(1, 2, 3), 20))
		wasStops, wasRequests, wasTimes := slices.Clone(stops), slices.Clone(requests), slices.Clone(at)
		p.l, p.t = stops[:len(p.l)], requests[:len(p.t)]
		f, right := p.check(), p.right(at[:len(p.l)])
		for range 3 {
			if p.check() != f || p.right(at[:len(p.l)]) != right {
				t.Errorf("asked again, %v is else", p)
			}
		}
		if !slices.Equal(stops, wasStops) || !slices.Equal(requests, wasRequests) || !slices.Equal(at, wasTimes) {
			t.Errorf("there are %v, %v and %v", stops, requests, at)
		}
	}
}
