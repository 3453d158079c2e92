package price

import (
	"cmp"
	"math"
	"math/rand"
	"slices"
	"strconv"
	"strings"
	"testing"

	"consign/api"
	"consign/feas"
	"consign/order"
	"consign/plan"
	"consign/sched"
)

// of is the row that a text tells: P3 is a Pick of 3, D3 its Drop, X3 a stop of it that is neither.
func of(text string) []api.Stop {
	var l []api.Stop
	for _, word := range strings.Fields(text) {
		req, err := strconv.Atoi(word[1:])
		if err != nil {
			panic(err)
		}
		l = append(l, api.Stop{Req: req, Kind: strings.Index("PDX", word[:1])})
	}
	return l
}

// rowsOf are those that texts tell, a vehicle each.
func rowsOf(texts ...string) [][]api.Stop {
	var rows [][]api.Stop
	for _, text := range texts {
		rows = append(rows, of(text))
	}
	return rows
}

func at(x, y int) api.Place { return api.Place{X: x, Y: y} }

func span(early, late int) api.Window { return api.Window{Early: early, Late: late} }

// extremes are the numbers at the ends of int, and of lesser ones.
func extremes() []int {
	return []int{math.MinInt, math.MinInt + 1, math.MinInt32 - 1, math.MinInt32, math.MaxInt32, math.MaxInt32 + 1, math.MaxInt - 1, math.MaxInt}
}

func clonedRows(rows [][]api.Stop) [][]api.Stop {
	var like [][]api.Stop
	for _, row := range rows {
		like = append(like, slices.Clone(row))
	}
	return like
}

func sameRows(a, b [][]api.Stop) bool { return slices.EqualFunc(a, b, slices.Equal[[]api.Stop]) }

// problem is what is asked about.
type problem struct {
	fleet []api.Vehicle
	rows  [][]api.Stop
	t     []api.Request
	req   int
}

func (p problem) of(req int) problem {
	p.req = req
	return p
}

// cloned may be changed, while the problem stays as it is.
func (p problem) cloned() problem {
	return problem{slices.Clone(p.fleet), clonedRows(p.rows), slices.Clone(p.t), p.req}
}

func (p problem) same(o problem) bool {
	return slices.Equal(p.fleet, o.fleet) && sameRows(p.rows, o.rows) && slices.Equal(p.t, o.t) && p.req == o.req
}

// told is what Brute and Least tell.
type told struct {
	brute         uint64
	vehicle, i, j int
	is            bool
}

// noWay is told where there is no bid.
var noWay = told{brute: 1 << 32}

func (p problem) ask() told {
	a := told{brute: Brute(p.fleet, p.rows, p.t, p.req)}
	a.vehicle, a.i, a.j, a.is = Least(p.fleet, p.rows, p.t, p.req)
	return a
}

func within(n, least, most int) bool { return n >= least && n <= most }

func placeMay(p api.Place) bool { return within(p.X, 0, 1023) && within(p.Y, 0, 1023) }

func windowMay(w api.Window) bool { return w.Early >= 0 && w.Late <= 1<<20 && w.Early <= w.Late }

func vehicleMay(v api.Vehicle) bool {
	return placeMay(v.Home) && within(v.Cap, 1, 100000) && v.Start >= 0 && v.End <= 1<<20 && v.Start <= v.End
}

func requestMay(r api.Request) bool {
	return placeMay(r.From) && placeMay(r.To) && windowMay(r.Pick) && windowMay(r.Drop) && within(r.Load, 1, 1000) && within(r.Serve, 0, 1000)
}

func apart(a, b api.Place) int { return max(a.X-b.X, b.X-a.X) + max(a.Y-b.Y, b.Y-a.Y) }

// isRoute asks for each stop of a row whether its other one is where it should be.
func (p problem) isRoute(row []api.Stop) bool {
	for k, s := range row {
		other := slices.Index(row, api.Stop{Req: s.Req, Kind: 1 - s.Kind})
		if !within(s.Kind, 0, 1) || !within(s.Req, 0, len(p.t)-1) || slices.Index(row, s) != k || other < 0 || (other < k) != (s.Kind == 1) {
			return false
		}
	}
	return len(row) <= 16
}

// trip is what the document's words say of a vehicle's row: its end, and whether it is a route that is never too full, nor too late.
func (p problem) trip(v api.Vehicle, row []api.Stop) (end int, is bool) {
	if !p.isRoute(row) {
		return 0, false
	}
	now, here, load, is := v.Start, v.Home, 0, true
	for _, s := range row {
		r := p.t[s.Req]
		to, window, more := r.From, r.Pick, r.Load
		if s.Kind == 1 {
			to, window, more = r.To, r.Drop, -r.Load
		}
		now = max(now+apart(here, to), window.Early)
		is = is && now <= window.Late
		now, here, load = now+r.Serve, to, load+more
		is = is && load <= v.Cap
	}
	now += apart(here, v.Home)
	return now, is && now <= v.End
}

// has tells in how many of the rows a request is.
func (p problem) has(req int) int {
	n := 0
	for _, row := range p.rows {
		if slices.ContainsFunc(row, func(s api.Stop) bool { return s.Req == req }) {
			n++
		}
	}
	return n
}

// mayBe is what the words say of vehicles and routes.
func (p problem) mayBe() bool {
	bad := slices.ContainsFunc(p.fleet, func(v api.Vehicle) bool { return !vehicleMay(v) }) || slices.ContainsFunc(p.t, func(r api.Request) bool { return !requestMay(r) })
	if bad || !within(len(p.fleet), 1, 4) || len(p.rows) != len(p.fleet) {
		return false
	}
	for k, row := range p.rows {
		if _, is := p.trip(p.fleet[k], row); !is {
			return false
		}
		for _, s := range row {
			if p.has(s.Req) != 1 {
				return false
			}
		}
	}
	return true
}

// laid is a row with the request at two places.
func (p problem) laid(row []api.Stop, i, j int) []api.Stop {
	return slices.Concat(row[:i], []api.Stop{{Req: p.req, Kind: 0}}, row[i:j], []api.Stop{{Req: p.req, Kind: 1}}, row[j:])
}

// ways are all those that there are, the last one first: which one is told hangs on no order in which they are found.
func (p problem) ways() []told {
	if !p.mayBe() || !within(p.req, 0, len(p.t)-1) || p.has(p.req) > 0 {
		return nil
	}
	var all []told
	for k, row := range p.rows {
		without, _ := p.trip(p.fleet[k], row)
		for j := range len(row) + 1 {
			for i := range j + 1 {
				if end, is := p.trip(p.fleet[k], p.laid(row, i, j)); is {
					all = append(all, told{uint64(end - without), k, i, j, true})
				}
			}
		}
	}
	slices.Reverse(all)
	return all
}

// says is what the words say of all.
func (p problem) says() told {
	all := p.ways()
	if len(all) == 0 {
		return noWay
	}
	return slices.MinFunc(all, func(a, b told) int {
		return cmp.Or(cmp.Compare(a.brute, b.brute), cmp.Compare(a.vehicle, b.vehicle), cmp.Compare(a.i, b.i), cmp.Compare(a.j, b.j))
	})
}

// wide are windows that are always open.
func wide() api.Window { return span(0, 1<<20) }

// chapter has the vehicles and the requests of the chapter.
func chapter() problem {
	return problem{
		fleet: []api.Vehicle{{Home: at(0, 0), Cap: 5, End: 100}, {Home: at(20, 0), Cap: 5, End: 100}},
		rows:  rowsOf("", ""),
		t: []api.Request{
			{From: at(10, 0), To: at(20, 0), Pick: wide(), Drop: wide(), Load: 1},
			{From: at(0, 5), To: at(0, 9), Pick: wide(), Drop: wide(), Load: 1},
		},
	}
}

// four has four vehicles on their ways, and two requests that nobody has; all of it is right.
func four() problem {
	p := problem{rows: rowsOf("P0 P1 D0 D1", "P2 D2 P3 D3", "", "P5 P4 D4 D5"), req: 6}
	for k := range 4 {
		p.fleet = append(p.fleet, api.Vehicle{Home: at(100*k+100, 50), Cap: 9, Start: k, End: 900})
	}
	for k := range 8 {
		p.t = append(p.t, api.Request{From: at(100+50*k, 20), To: at(120+40*k, 70), Pick: span(5, 800), Drop: span(7, 850), Load: k%4 + 1, Serve: k})
	}
	return p
}

// made is a plan that may be.
func made(t *testing.T, fleet []api.Vehicle, requests []api.Request) *plan.Plan {
	t.Helper()
	p, e := plan.New(fleet, requests)
	if p == nil || e != api.OK {
		t.Fatalf("of %v and %v the plan is %v, %v", fleet, requests, p, e)
	}
	return p
}

// P14.1, P14.2: the chapter's examples.
func TestOfTheChapter(t *testing.T) {
	p := chapter()
	for req, should := range []told{{20, 1, 0, 0, true}, {18, 0, 0, 0, true}, noWay} {
		if a := p.of(req).ask(); a != should || p.of(req).says() != should {
			t.Errorf("of %d it is %v; it should be %v", req, a, should)
		}
	}
	q := made(t, p.fleet, p.t)
	if bid := Bid(q, 0); bid != 20 {
		t.Errorf("the bid is %d", bid)
	}
	q.Put(0)
	if bid := Bid(q, 0); bid != 1<<32 {
		t.Errorf("once it was put in, the bid is %d", bid)
	}
	first := problem{fleet: p.fleet[:1], rows: p.rows[:1], t: p.t}
	if a := first.ask(); a != (told{40, 0, 0, 0, true}) {
		t.Errorf("of the first vehicle alone it is %v", a)
	}
}

// P14.1: a plan that is none has no bid for anything, be it a request or not.
func TestBidOfNone(t *testing.T) {
	for _, req := range append(extremes(), -1, 0, 1, 64) {
		if bid := Bid(nil, req); bid != 1<<32 {
			t.Errorf("of %d it is %d", req, bid)
		}
	}
}

// P14.1: each error of a price is a bid that is none: numbers that are no request, requests that are in the plan, and such as no vehicle takes, for want of room, or of time; a request that was taken out has a bid again.
func TestBidOfErrors(t *testing.T) {
	p := chapter()
	p.t = append(p.t, p.t[0], p.t[0], p.t[0])
	p.t[2].Load, p.t[3].Pick.Late, p.t[4].Drop = 6, 9, span(101, 110)
	q := made(t, p.fleet, p.t)
	q.Put(1)
	for _, req := range append(extremes(), -2, -1, 5, 6, 64, 1, 2, 3, 4) {
		_, _, e := q.Price(req)
		if bid := Bid(q, req); bid != 1<<32 || e == api.OK {
			t.Errorf("of %d it is %d, and the price %v", req, bid, e)
		}
	}
	q.Take(1)
	if bid := Bid(q, 1); bid != 18 {
		t.Errorf("of what was taken out it is %d", bid)
	}
	for _, req := range extremes() {
		if bid := Bid(made(t, p.fleet, nil), req); bid != 1<<32 {
			t.Errorf("of no requests it is %d", bid)
		}
	}
}

// P14.2: there are from 1 to 4 vehicles, and as many routes: neither of them too few, nor too many.
func TestOfHowMany(t *testing.T) {
	for vehicles := range 8 {
		for routes := range 8 {
			p := chapter()
			p.fleet, p.rows = slices.Repeat(p.fleet[:1], vehicles), make([][]api.Stop, routes)
			should := told{40, 0, 0, 0, true}
			if vehicles < 1 || vehicles > 4 || routes != vehicles {
				should = noWay
			}
			if a := p.ask(); a != should || p.says() != should {
				t.Errorf("of %d vehicles and %d routes it is %v; it should be %v", vehicles, routes, a, should)
			}
		}
	}
	p := chapter()
	p.fleet, p.rows = slices.Repeat(p.fleet, 500), make([][]api.Stop, 1000)
	if a := p.ask(); a != noWay {
		t.Errorf("of a thousand vehicles it is %v", a)
	}
}

// P14.2: numbers that are no request, and requests that a route has, have no bid; those that no route has do.
func TestWhichRequests(t *testing.T) {
	p := four()
	if !p.mayBe() {
		t.Fatalf("%v may not be", p)
	}
	for _, req := range append(extremes(), -2, -1, 8, 9, 64, 0, 1, 2, 3, 4, 5) {
		if a := p.of(req).ask(); a != noWay || p.of(req).says() != noWay {
			t.Errorf("of %d it is %v", req, a)
		}
	}
	for _, req := range []int{6, 7} {
		if a := p.of(req).ask(); !a.is || a.brute >= 1000 || a != p.of(req).says() {
			t.Errorf("of %d it is %v; it should be %v", req, a, p.of(req).says())
		}
	}
	p.t = nil
	p.rows = make([][]api.Stop, 4)
	for _, req := range append(extremes(), -1, 0, 1) {
		if a := p.of(req).ask(); a != noWay {
			t.Errorf("of no requests %d is %v", req, a)
		}
	}
}

// spoilers are changes by which vehicles and routes may not be.
func spoilers() map[string]func(p *problem, k int) {
	l := map[string]func(p *problem, k int){
		"the row has a Kind that is none":       func(p *problem, k int) { p.rows[k] = append(p.rows[k], of("X7")...) },
		"the row has a request below 0":         func(p *problem, k int) { p.rows[k] = append(of("P-1 D-1"), p.rows[k]...) },
		"the row has a request that is none":    func(p *problem, k int) { p.rows[k] = append(p.rows[k], of("P8 D8")...) },
		"somebody is dropped that wasn't there": func(p *problem, k int) { p.rows[k] = append(p.rows[k], of("D7")...) },
		"somebody is dropped ahead of the Pick": func(p *problem, k int) { p.rows[k] = append(p.rows[k], of("D7 P7")...) },
		"somebody is picked up, and stays":      func(p *problem, k int) { p.rows[k] = append(of("P7"), p.rows[k]...) },
		"somebody is picked up twice":           func(p *problem, k int) { p.rows[k] = append(of("P7 P7 D7"), p.rows[k]...) },
		"somebody goes twice":                   func(p *problem, k int) { p.rows[k] = append(p.rows[k], of("P7 D7 P7 D7")...) },
		"there is nobody but numbers' ends":     func(p *problem, k int) { p.rows[k] = []api.Stop{{Req: math.MinInt}, {Req: math.MinInt, Kind: 1}} },
		"the vehicle is too small for the row":  func(p *problem, k int) { p.rows[k], p.fleet[k].Cap = append(p.rows[k], of("P7 D7")...), 3 },
		"the vehicle is back too late":          func(p *problem, k int) { p.rows[k], p.fleet[k].End = append(p.rows[k], of("P7 D7")...), 20 },
		"the row has a request that is too late": func(p *problem, k int) {
			p.rows[k], p.t[7].Pick = append(p.rows[k], of("P7 D7")...), span(0, 3)
		},
		"the row has a Drop that is too late": func(p *problem, k int) {
			p.rows[k], p.t[7].Drop = append(p.rows[k], of("P7 D7")...), span(0, 3)
		},
		"the row has a request of the next one": func(p *problem, k int) {
			p.rows[k], p.rows[(k+1)%4] = append(of("P7 D7"), p.rows[k]...), append(p.rows[(k+1)%4], of("P7 D7")...)
		},
		"the row has a request of one far off": func(p *problem, k int) {
			p.rows[k], p.rows[(k+2)%4] = append(p.rows[k], of("P7 D7")...), append(of("P7 D7"), p.rows[(k+2)%4]...)
		},
		"the row is too long": func(p *problem, k int) {
			for range 9 {
				p.rows[k] = append(p.rows[k], of("P"+strconv.Itoa(len(p.t))+" D"+strconv.Itoa(len(p.t)))...)
				p.t = append(p.t, p.t[7])
			}
		},
	}
	for name, spoil := range map[string]func(v *api.Vehicle){
		"zero": func(v *api.Vehicle) { *v = api.Vehicle{} }, "off the grid": func(v *api.Vehicle) { v.Home.X = 1024 }, "below the grid": func(v *api.Vehicle) { v.Home.Y = -1 },
		"of no room": func(v *api.Vehicle) { v.Cap = 0 }, "too great": func(v *api.Vehicle) { v.Cap = 100001 }, "there too early": func(v *api.Vehicle) { v.Start = -1 },
		"gone ahead of its Start": func(v *api.Vehicle) { v.End = v.Start - 1 }, "there too long": func(v *api.Vehicle) { v.End = 1<<20 + 1 },
	} {
		l["the vehicle is "+name] = func(p *problem, k int) { spoil(&p.fleet[k]) }
	}
	for name, spoil := range map[string]func(r *api.Request){
		"zero": func(r *api.Request) { *r = api.Request{} }, "from below the grid": func(r *api.Request) { r.From.Y = -1 }, "to off the grid": func(r *api.Request) { r.To.X = 1024 },
		"never picked up": func(r *api.Request) { r.Pick.Early = r.Pick.Late + 1 }, "dropped too late": func(r *api.Request) { r.Drop.Late = 1<<20 + 1 },
		"nothing": func(r *api.Request) { r.Load = 0 }, "too great": func(r *api.Request) { r.Load = 1001 },
		"served for less than nothing": func(r *api.Request) { r.Serve = -1 }, "served too long": func(r *api.Request) { r.Serve = 1001 },
	} {
		for _, far := range []int{0, 4} {
			l["the request, or that "+strconv.Itoa(far)+" behind it, is "+name] = func(p *problem, k int) { spoil(&p.t[k+far]) }
		}
	}
	return l
}

// P14.2: whatever is wrong with one of the vehicles, routes, or requests, there is no bid, though other vehicles would do, and what is asked for is all right.
func TestWhatMayNotBe(t *testing.T) {
	for name, spoil := range spoilers() {
		for k := range 4 {
			p := four().cloned()
			spoil(&p, k)
			for _, req := range []int{6, 7} {
				if a := p.of(req).ask(); a != noWay || p.of(req).says() != noWay {
					t.Errorf("%d: %s: of %d it is %v, and should be %v", k, name, req, a, p.of(req).says())
				}
			}
		}
	}
}

// P14.2: numbers at their ends, in each field, are told as no bid, and end in no panic.
func TestAtNumbersEnds(t *testing.T) {
	for _, n := range extremes() {
		p := four().cloned()
		v, r := &p.fleet[2], &p.t[7]
		for k, field := range []*int{&v.Home.X, &v.Home.Y, &v.Cap, &v.Start, &v.End, &r.From.X, &r.From.Y, &r.To.X, &r.To.Y, &r.Pick.Early, &r.Pick.Late, &r.Drop.Early, &r.Drop.Late, &r.Load, &r.Serve, &p.rows[0][2].Req, &p.rows[3][0].Kind, &p.req} {
			was := *field
			*field = n
			if a := p.ask(); a != noWay {
				t.Errorf("with %d in the field %d it is %v", n, k, a)
			}
			*field = was
		}
	}
	if a := (problem{}).ask(); a != noWay {
		t.Errorf("of nothing it is %v", a)
	}
}

// P14.2: by hand: which of the vehicles it is, as they are near or far, have room and time or not, or cost as much.
func TestWhichVehicle(t *testing.T) {
	requests := []api.Request{{From: at(50, 0), To: at(60, 0), Pick: wide(), Drop: wide(), Load: 4, Serve: 1}}
	near := api.Vehicle{Home: at(60, 0), Cap: 4, Start: 10, End: 32} // its rise is 22, and so is its time
	far := api.Vehicle{Home: at(0, 0), Cap: 9, Start: 3, End: 900}   // its rise is 122
	full := api.Vehicle{Home: at(60, 0), Cap: 3, Start: 0, End: 900}
	late := api.Vehicle{Home: at(60, 0), Cap: 4, Start: 11, End: 32}
	for _, x := range []struct {
		fleet []api.Vehicle
		told  told
	}{
		{[]api.Vehicle{near}, told{22, 0, 0, 0, true}},
		{[]api.Vehicle{near, far}, told{22, 0, 0, 0, true}},
		{[]api.Vehicle{far, near}, told{22, 1, 0, 0, true}},
		{[]api.Vehicle{far, near, near}, told{22, 1, 0, 0, true}},
		{[]api.Vehicle{near, near, far, near}, told{22, 0, 0, 0, true}},
		{[]api.Vehicle{far, far}, told{122, 0, 0, 0, true}},
		{[]api.Vehicle{full, far}, told{122, 1, 0, 0, true}},
		{[]api.Vehicle{late, full, far, late}, told{122, 2, 0, 0, true}},
		{[]api.Vehicle{late, far, full, near}, told{22, 3, 0, 0, true}},
		{[]api.Vehicle{full}, noWay},
		{[]api.Vehicle{late}, noWay},
		{[]api.Vehicle{full, late, late, full}, noWay},
	} {
		p := problem{fleet: x.fleet, rows: make([][]api.Stop, len(x.fleet)), t: requests}
		if a := p.ask(); a != x.told || p.says() != x.told {
			t.Errorf("of %v it is %v; it should be %v", x.fleet, a, x.told)
		}
		if bid := Bid(made(t, p.fleet, p.t), 0); bid != x.told.brute {
			t.Errorf("of %v the bid is %d; it should be %d", x.fleet, bid, x.told.brute)
		}
	}
}

// P14.2: by hand: which of the places it is, on the way of another one: the first Pick, and the first Drop, among those with the same rise; a wait may cost nothing, and a Pick ahead may be dropped at last.
func TestWhichPlaces(t *testing.T) {
	for _, x := range []struct {
		name   string
		change func(p *problem)
		should told
	}{
		{"it lies between", func(p *problem) {}, told{0, 0, 1, 1, true}},
		{"it begins at home", func(p *problem) { p.t[1].From = at(0, 0) }, told{0, 0, 0, 1, true}},
		{"it ends at home", func(p *problem) { p.t[1].To = at(0, 0) }, told{0, 0, 1, 2, true}},
		{"it begins ahead, and ends behind all", func(p *problem) { p.t[1].From, p.t[1].To = at(5, 0), at(5, 0); p.t[1].Drop.Early = 30 }, told{0, 0, 0, 2, true}},
		{"it is at home", func(p *problem) { p.t[1].From, p.t[1].To = at(0, 0), at(0, 0) }, told{0, 0, 0, 0, true}},
		{"no room between", func(p *problem) { p.fleet[0].Cap = 1 }, told{6, 0, 2, 2, true}},
		{"no room between, nor time behind", func(p *problem) { p.fleet[0].Cap, p.t[1].Drop.Late = 1, 30 }, told{10, 0, 0, 0, true}},
		{"no room, and just the time", func(p *problem) { p.fleet[0].Cap, p.fleet[0].End = 1, 46 }, told{6, 0, 2, 2, true}},
		{"no room, and not the time", func(p *problem) { p.fleet[0].Cap, p.fleet[0].End = 1, 45 }, noWay},
		{"too great", func(p *problem) { p.t[1].Load = 3 }, noWay},
		{"a wait for all", func(p *problem) { p.t[0].Drop = span(60, 100) }, told{0, 0, 0, 0, true}},
		{"a wait for the last one", func(p *problem) { p.t[1].Drop = span(60, 100) }, told{35, 0, 0, 2, true}},
		{"a service", func(p *problem) { p.t[1].Serve = 5 }, told{10, 0, 1, 1, true}},
	} {
		p := problem{fleet: []api.Vehicle{{Home: at(0, 0), Cap: 2, End: 100}}, rows: rowsOf("P0 D0"), req: 1}
		p.t = []api.Request{{From: at(10, 0), To: at(20, 0), Pick: wide(), Drop: wide(), Load: 1}, {From: at(12, 0), To: at(15, 0), Pick: wide(), Drop: wide(), Load: 1}}
		x.change(&p)
		if a := p.ask(); a != x.should || p.says() != x.should {
			t.Errorf("%s: it is %v; it should be %v", x.name, a, x.should)
		}
	}
}

// P14.2: a rise of nothing is a bid too, and of vehicles with it the first one is told, even if others have more stops on their ways.
func TestRiseOfNothing(t *testing.T) {
	v := api.Vehicle{Home: at(0, 0), Cap: 9, End: 1000}
	p := problem{fleet: []api.Vehicle{v, v, v, v}, rows: rowsOf("P0 D0", "P1 D1 P3 D3", "P2 D2", ""), req: 4}
	for k := range 4 {
		p.t = append(p.t, api.Request{From: at(0, 10*k+5), To: at(0, 10*k+9), Pick: wide(), Drop: wide(), Load: 1})
	}
	p.t = append(p.t, api.Request{From: at(0, 12), To: at(0, 16), Pick: wide(), Drop: wide(), Load: 1})
	for _, x := range []struct {
		to     api.Place
		should told
	}{{at(0, 16), told{0, 1, 0, 1, true}}, {at(0, 20), told{0, 1, 0, 2, true}}, {at(0, 40), told{2, 1, 0, 3, true}}, {at(0, 13), told{0, 1, 0, 0, true}}} {
		p.t[4].To = x.to
		if a := p.ask(); a != x.should || p.says() != x.should {
			t.Errorf("to %v it is %v; it should be %v", x.to, a, x.should)
		}
	}
}

// P14.2: a route of 16 stops takes no more, and another vehicle does, though it costs more; if all are so long, there is no bid.
func TestLongRoutes(t *testing.T) {
	v, w := api.Vehicle{Home: at(9, 9), Cap: 100, End: 1 << 20}, api.Vehicle{Home: at(900, 900), Cap: 100, Start: 7, End: 1 << 20}
	var long []api.Stop
	for req := range 8 {
		long = append(long, api.Stop{Req: req}, api.Stop{Req: req, Kind: 1})
	}
	p := problem{fleet: []api.Vehicle{v, w}, rows: [][]api.Stop{long, nil}, req: 16}
	p.t = slices.Repeat([]api.Request{{From: at(9, 9), To: at(9, 9), Pick: wide(), Drop: wide(), Load: 1}}, 17)
	last := slices.Clone(long)
	for k := range last {
		last[k].Req += 8
	}
	for _, x := range []struct {
		rows   [][]api.Stop
		should told
	}{
		{[][]api.Stop{long, nil}, told{2 * 1782, 1, 0, 0, true}},
		{[][]api.Stop{long[:14], nil}, told{0, 0, 0, 0, true}},
		{[][]api.Stop{long, last[:14]}, told{0, 1, 0, 0, true}},
		{[][]api.Stop{long, last}, noWay},
		{[][]api.Stop{long, append(slices.Clone(last), of("P16 D16")...)}, noWay},
	} {
		p.rows = x.rows
		if a := p.ask(); a != x.should || p.says() != x.should {
			t.Errorf("of %v it is %v; it should be %v", p.rows, a, x.should)
		}
	}
}

// P14.1, P14.2: the greatest fleet, with the greatest numbers, and the greatest rise that there is; more requests than a scene has may be asked about too.
func TestGreatNumbers(t *testing.T) {
	r := api.Request{From: at(1023, 1023), To: at(0, 0), Pick: wide(), Drop: wide(), Load: 1000, Serve: 1000}
	v := api.Vehicle{Home: at(0, 0), Cap: 100000, End: 1 << 20}
	q := made(t, slices.Repeat([]api.Vehicle{v}, 4), slices.Repeat([]api.Request{r}, 70))
	for req := range 33 {
		p := problem{fleet: slices.Repeat([]api.Vehicle{v}, 4), rows: q.Routes(), t: slices.Repeat([]api.Request{r}, 70), req: req}
		should := uint64(2000)
		switch {
		case req == 32:
			should = 1 << 32
		case req%8 == 0: // the first one of a vehicle
			should = 6092
		}
		if a := p.ask(); a.brute != should || a != p.says() || Bid(q, req) != should {
			t.Errorf("of %d it is %v, the bid %d; it should be %d, %v", req, a, Bid(q, req), should, p.says())
		}
		q.Put(req)
	}
	last := api.Request{From: at(7, 8), To: at(7, 8), Pick: span(1<<20, 1<<20), Drop: span(1<<20, 1<<20), Load: 1}
	w := api.Vehicle{Home: at(7, 8), Cap: 1, End: 1 << 20}
	p := problem{fleet: []api.Vehicle{w}, rows: rowsOf(""), t: []api.Request{last}}
	if a, bid := p.ask(), Bid(made(t, p.fleet, p.t), 0); a != (told{1 << 20, 0, 0, 0, true}) || bid != 1<<20 {
		t.Errorf("it is %v, and the bid %d", a, bid)
	}
}

func nearby(r *rand.Rand) api.Place { return at(60+r.Intn(6), 80+r.Intn(6)) }

// anyRows lays requests into rows, two places each; the rest nobody has.
func anyRows(r *rand.Rand, vehicles, requests int) [][]api.Stop {
	rows := make([][]api.Stop, vehicles)
	for _, req := range r.Perm(requests)[:r.Intn(requests+1)] {
		k := r.Intn(vehicles)
		i := r.Intn(len(rows[k]) + 1)
		j := i + r.Intn(len(rows[k])+1-i)
		rows[k] = problem{req: req}.laid(rows[k], i, j)
	}
	return rows
}

// anyProblem is one whose routes are right most of the time, by little or by much: whichever was laid, windows and shifts are such that it can be served; vehicles are alike now and then.
func anyProblem(r *rand.Rand) problem {
	n := 1 + r.Intn(9)
	p := problem{req: r.Intn(n)}
	for range n {
		early := r.Intn(40)
		p.t = append(p.t, api.Request{From: nearby(r), To: nearby(r), Pick: span(early, early+r.Intn(120)), Drop: span(early, early+r.Intn(200)), Load: 1 + r.Intn(9), Serve: r.Intn(3) * r.Intn(4)})
	}
	p.rows = anyRows(r, 1+r.Intn(4), n)
	home := nearby(r)
	for _, row := range p.rows {
		v := api.Vehicle{Home: home, Cap: 8 + r.Intn(40), Start: r.Intn(3) * r.Intn(9)}
		if r.Intn(2) == 0 {
			v.Home = nearby(r)
		}
		now, here := v.Start, v.Home
		for _, s := range row {
			q := &p.t[s.Req]
			to, w := q.From, &q.Pick
			if s.Kind == 1 {
				to, w = q.To, &q.Drop
			}
			now += apart(here, to)
			*w = span(max(0, now+r.Intn(12)-8), now+5+r.Intn(90))
			now, here = max(now, w.Early)+q.Serve, to
		}
		v.End = now + apart(here, v.Home) + r.Intn(70)
		if r.Intn(50) == 0 {
			v.End = max(v.Start, v.End-70)
		}
		p.fleet = append(p.fleet, v)
	}
	return p
}

// P14.2: of all kinds of problems, and of each request, it is as the words say; of many of them there are several that are best, on one vehicle and on several.
func TestAsTheWordsSay(t *testing.T) {
	r := rand.New(rand.NewSource(1))
	vehicles, none, alike, others := [4]int{}, 0, 0, 0
	for range 2500 {
		p := anyProblem(r)
		for req := range p.t {
			p := p.of(req)
			a, should := p.ask(), p.says()
			if a != should {
				t.Fatalf("%v is %v; it should be %v", p, a, should)
			}
			if !a.is {
				none++
				continue
			}
			vehicles[a.vehicle]++
			for _, w := range p.ways() {
				switch {
				case w.brute == a.brute && w.vehicle == a.vehicle && w != a:
					alike++
				case w.brute == a.brute && w.vehicle != a.vehicle:
					others++
				}
			}
		}
	}
	if slices.Min(vehicles[:]) < 100 || none < 500 || alike < 1000 || others < 300 {
		t.Errorf("the vehicles are %v, none %d, alike %d, others %d", vehicles, none, alike, others)
	}
}

// P14.2: what is told is there by feas, and by sched; the route with the request there is right, and its end is later by just the rise.
func TestTheRiseIsThatOfTheEnds(t *testing.T) {
	r := rand.New(rand.NewSource(2))
	some := 0
	for range 2500 {
		p := anyProblem(r)
		a := p.ask()
		if !a.is {
			continue
		}
		v, row := p.fleet[a.vehicle], p.rows[a.vehicle]
		with := p.laid(row, a.i, a.j)
		_, before, _ := sched.Times(v, row, p.t)
		_, end, e := sched.Times(v, with, p.t)
		if e != api.OK || feas.Check(v, with, p.t) != nil || uint64(end-before) != a.brute {
			t.Fatalf("%v is %v; its end is %d, %v, and was %d", p, a, end, e, before)
		}
		some++
	}
	if some < 500 {
		t.Errorf("tried are %d", some)
	}
}

// P14.2: of no stops, and one vehicle, it is what the vehicle takes to serve the request alone.
func TestAlone(t *testing.T) {
	r := rand.New(rand.NewSource(3))
	some, none := 0, 0
	for range 3000 {
		p := anyProblem(r)
		p.fleet, p.rows = p.fleet[:1], make([][]api.Stop, 1)
		home, is := order.Alone(p.t[p.req], p.fleet[0])
		should := noWay
		if is {
			should = told{uint64(home - p.fleet[0].Start), 0, 0, 0, true}
			some++
		} else {
			none++
		}
		if a := p.ask(); a != should {
			t.Fatalf("%v is %v; it should be %v", p, a, should)
		}
	}
	if some < 300 || none < 300 {
		t.Errorf("there are %d, and %d not", some, none)
	}
}

// P14.2: the bounds of what is told: with just the time, or just the room, that it takes, it is told; with one less it costs more, or is told elsewhere, or nowhere.
func TestJustEnough(t *testing.T) {
	r := rand.New(rand.NewSource(4))
	tried := 0
	for range 1500 {
		p := anyProblem(r)
		a := p.ask()
		if !a.is {
			continue
		}
		v := &p.fleet[a.vehicle]
		_, end, _ := sched.Times(*v, p.laid(p.rows[a.vehicle], a.i, a.j), p.t)
		was := v.End
		v.End = end
		with := p.ask()
		v.End = max(end-1, v.Start)
		without := p.ask()
		if with != a || without != p.says() || end > v.Start && without == a {
			t.Fatalf("%v is %v; with just the time it is %v, with less %v", p, a, with, without)
		}
		v.End = was
		for ; v.Cap > 0; v.Cap-- {
			if b := p.ask(); b != p.says() {
				t.Fatalf("%v is %v; it should be %v", p, b, p.says())
			}
		}
		tried++
	}
	if tried < 300 {
		t.Errorf("tried are %d", tried)
	}
}

// anyFleet are a fleet, and requests, of which some can be put into a plan, and some can't, for want of room, or time, or stops.
func anyFleet(r *rand.Rand) problem {
	p := problem{rows: make([][]api.Stop, 1+r.Intn(4))}
	haste := 1 + r.Intn(3)*r.Intn(300)
	for k := range p.rows {
		start := r.Intn(30)
		v := api.Vehicle{Home: nearby(r), Cap: 3 + r.Intn(20), Start: start, End: start + 30 + r.Intn(60) + haste}
		if k > 0 && r.Intn(3) > 0 {
			v = p.fleet[k-1]
			*[]*int{&v.Cap, &v.Start, &v.Home.X}[r.Intn(3)] += r.Intn(2)
		}
		p.fleet = append(p.fleet, v)
	}
	for range 1 + r.Intn(12) {
		early := r.Intn(60)
		p.t = append(p.t, api.Request{From: nearby(r), To: nearby(r), Pick: span(early, early+r.Intn(40)+haste), Drop: span(early, early+20+r.Intn(60)+haste), Load: 1 + r.Intn(9), Serve: r.Intn(3) * r.Intn(5)})
	}
	return p
}

// P14.3, P14.1 (P4, P8): whatever was put and taken: what a plan bids is Brute of its vehicles and routes, and its price, and just what its total rises by; Put puts it where Least says; who only bids changes nothing.
func TestBidIsBruteAndTheRise(t *testing.T) {
	r := rand.New(rand.NewSource(5))
	put, refused := 0, 0
	for range 200 {
		p := anyFleet(r)
		q := made(t, p.fleet, p.t)
		for range 2 * len(p.t) {
			p.req, p.rows = r.Intn(len(p.t)+2)-1, q.Routes()
			a, total := p.ask(), q.Total()
			_, rise, priced := q.Price(p.req)
			bid := Bid(q, p.req)
			if bid != a.brute || a != p.says() || !sameRows(q.Routes(), p.rows) || q.Total() != total || Bid(q, p.req) != bid {
				t.Fatalf("%v is %v, and the bid %d; it should be %v", p, a, bid, p.says())
			}
			more, e := q.Put(p.req)
			if e != api.OK {
				refused++
				if bid != 1<<32 || priced != e {
					t.Fatalf("of %v the bid is %d; but put is %v", p, bid, e)
				}
				if q.Has(p.req) && r.Intn(2) == 0 {
					q.Take(p.req)
				}
				continue
			}
			put++
			p.rows[a.vehicle] = p.laid(p.rows[a.vehicle], a.i, a.j)
			if uint64(rise) != bid || uint64(more) != bid || uint64(q.Total()-total) != bid || !sameRows(q.Routes(), p.rows) || Bid(q, p.req) != 1<<32 {
				t.Fatalf("of %v the bid is %d; put is %d, and the total %d, and was %d: %v", p, bid, more, q.Total(), total, q.Routes())
			}
		}
	}
	if put < 500 || refused < 500 {
		t.Errorf("put are %d, refused %d", put, refused)
	}
}

// P14.3: one vehicle more, whatever its route, and wherever it stands, never makes a bid higher; nor does a shift that ends later.
func TestMoreVehiclesAndLongerShifts(t *testing.T) {
	r := rand.New(rand.NewSource(6))
	kept, lower := [2]int{}, [2]int{}
	for range 5000 {
		less := anyProblem(r)
		if !less.mayBe() || less.has(less.req) > 0 {
			continue
		}
		more, how, k := less.cloned(), r.Intn(2), r.Intn(len(less.fleet))
		if how == 1 {
			more.fleet[k].End += 1 + r.Intn(60)
		} else {
			less.fleet, less.rows = slices.Delete(slices.Clone(less.fleet), k, k+1), slices.Delete(clonedRows(less.rows), k, k+1)
		}
		was, now := less.ask(), more.ask()
		if now.brute > was.brute {
			t.Fatalf("%v is %v, and %v is %v", less, was, more, now)
		}
		if now.brute < was.brute {
			lower[how]++
		} else {
			kept[how]++
		}
	}
	if slices.Min(kept[:]) < 200 || slices.Min(lower[:]) < 50 {
		t.Errorf("kept are %v, lower %v", kept, lower)
	}
}

// P14.3: the same of plans without routes: with one vehicle more, or longer shifts, no bid is higher.
func TestMoreVehiclesOfPlans(t *testing.T) {
	r := rand.New(rand.NewSource(7))
	for range 500 {
		p := anyFleet(r)
		more, longer := made(t, p.fleet, p.t), slices.Clone(p.fleet)
		for k := range longer {
			longer[k].End += r.Intn(90)
		}
		later := made(t, longer, p.t)
		less := made(t, p.fleet[:max(1, len(p.fleet)-1)], p.t)
		for req := range p.t {
			if Bid(more, req) > Bid(less, req) || Bid(later, req) > Bid(more, req) {
				t.Fatalf("of %v the bids for %d are %d, %d, %d", p, req, Bid(less, req), Bid(more, req), Bid(later, req))
			}
		}
	}
}

// P14.1, P14.2: what was handed in is as it was, and so is what lies behind it; and the same is told again.
func TestNothingIsChanged(t *testing.T) {
	r := rand.New(rand.NewSource(8))
	for range 500 {
		p := anyProblem(r)
		whole := p.cloned()
		for k, row := range p.rows {
			whole.rows[k] = slices.Concat(row, slices.Repeat(of("X7"), 20))
		}
		whole.fleet = slices.Concat(p.fleet, make([]api.Vehicle, 4))
		whole.rows = slices.Concat(whole.rows, make([][]api.Stop, 4))
		whole.t = slices.Concat(p.t, make([]api.Request, 20))
		was, n := whole.cloned(), len(p.fleet)
		p.fleet, p.t, p.rows = whole.fleet[:n], whole.t[:len(p.t)], slices.Clone(p.rows)
		for k, row := range p.rows {
			p.rows[k] = whole.rows[k][:len(row)]
		}
		a, again := p.ask(), p.ask()
		if a != again || a != p.says() || !whole.same(was) {
			t.Fatalf("%v is %v, and again %v; there are %v, and were %v", p, a, again, whole, was)
		}
	}
}
