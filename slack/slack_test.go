package slack

import (
	"math"
	"math/rand"
	"slices"
	"strconv"
	"strings"
	"testing"

	"consign/api"
	"consign/feas"
	"consign/sched"
)

// of is the row that a text tells: P3 is a Pick of 3, D3 its Drop, X3 a stop of it that is neither.
func of(text string) []api.Stop {
	var l []api.Stop
	for _, word := range strings.Fields(text) {
		req, err := strconv.Atoi(word[1:])
		if err != nil {
			panic(err)
		}
		l = append(l, api.Stop{Req: req, Kind: strings.Index("PDX", word[:1])})
	}
	return l
}

func at(x, y int) api.Place { return api.Place{X: x, Y: y} }

func span(early, late int) api.Window { return api.Window{Early: early, Late: late} }

// times are those of three numbers each.
func times(l ...int) []api.Time {
	var t []api.Time
	for three := range slices.Chunk(l, 3) {
		t = append(t, api.Time{Arrive: three[0], Begin: three[1], Leave: three[2]})
	}
	return t
}

// extremes are the numbers at the ends of int, and of lesser ones.
func extremes() []int {
	return []int{math.MinInt, math.MinInt + 1, math.MinInt32 - 1, math.MinInt32, math.MaxInt32, math.MaxInt32 + 1, math.MaxInt - 1, math.MaxInt}
}

// told is what Latest and Float tell.
type told struct {
	latest, float []int
	code          api.Errno
}

func (a told) same(b told) bool {
	return slices.Equal(a.latest, b.latest) && slices.Equal(a.float, b.float) && a.code == b.code
}

// pushed is what Push tells.
type pushed struct {
	times []api.Time
	end   int
	code  api.Errno
}

func (a pushed) same(b pushed) bool {
	return slices.Equal(a.times, b.times) && a.end == b.end && a.code == b.code
}

// problem is what is asked about.
type problem struct {
	v api.Vehicle
	l []api.Stop
	t []api.Request
}

// ask asks both; where Float has another error than Latest, that is a code that there is none of.
func (p problem) ask() told {
	var a told
	var e api.Errno
	a.latest, a.code = Latest(p.v, p.l, p.t)
	if a.float, e = Float(p.v, p.l, p.t); e != a.code {
		a.code = -1
	}
	return a
}

func (p problem) push(i, by int) pushed {
	var a pushed
	a.times, a.end, a.code = Push(p.v, p.l, p.t, i, by)
	return a
}

// earliest is what a push of nothing should be.
func (p problem) earliest() pushed {
	var a pushed
	a.times, a.end, a.code = sched.Times(p.v, p.l, p.t)
	return a
}

// cloned may be changed, while the problem stays as it is.
func (p problem) cloned() problem {
	return problem{p.v, slices.Clone(p.l), slices.Clone(p.t)}
}

func apart(a, b api.Place) int { return max(a.X-b.X, b.X-a.X) + max(a.Y-b.Y, b.Y-a.Y) }

// windowOf is the window itself.
func windowOf(t []api.Request, s api.Stop) *api.Window {
	if s.Kind == 0 {
		return &t[s.Req].Pick
	}
	return &t[s.Req].Drop
}

// where is a stop's place; home is behind the last one.
func (p problem) where(k int) api.Place {
	switch {
	case k == len(p.l):
		return p.v.Home
	case p.l[k].Kind == 0:
		return p.t[p.l[k].Req].From
	}
	return p.t[p.l[k].Req].To
}

// latestSays is what the document's words say of a stop of a route that is in time; it asks the stop behind it first.
func (p problem) latestSays(k int) int {
	next := p.v.End
	if k+1 < len(p.l) {
		next = p.latestSays(k + 1)
	}
	w := windowOf(p.t, p.l[k])
	return min(w.Late, next-p.t[p.l[k].Req].Serve-apart(p.where(k), p.where(k+1)))
}

// says is what they say of all stops.
func (p problem) says() told {
	first := p.earliest()
	a := told{code: first.code}
	for k, time := range first.times {
		a.latest = append(a.latest, p.latestSays(k))
		a.float = append(a.float, a.latest[k]-time.Begin)
	}
	return a
}

// pushSays is what they say of a push: who goes on later than he needs goes on as he would if a window were open only then.
func (p problem) pushSays(i, by int) pushed {
	first := p.earliest()
	if first.code != api.OK {
		return pushed{code: first.code}
	}
	if i < 0 || i > len(p.l)-1 || by < 0 || by > 1<<20 {
		return pushed{code: api.ErrArg}
	}
	begin, q := first.times[i].Begin+by, p.cloned()
	w := windowOf(q.t, q.l[i])
	if begin > w.Late {
		return pushed{code: api.ErrLate}
	}
	w.Early = begin
	return q.earliest()
}

// chapter has the vehicle and the request of the chapter.
func chapter() problem {
	return problem{
		v: api.Vehicle{Home: at(0, 0), Cap: 1, Start: 0, End: 40},
		l: of("P0 D0"),
		t: []api.Request{{From: at(5, 0), To: at(9, 0), Pick: span(0, 20), Drop: span(0, 30), Load: 1, Serve: 1}},
	}
}

// line has four requests along a line, which a vehicle at its begin picks up on its way out, and drops on its way back.
func line() problem {
	p := problem{v: api.Vehicle{Home: at(0, 0), Cap: 1, Start: 7, End: 1000}, l: of("P0 P1 P2 P3 D3 D2 D1 D0")}
	for k := range 4 {
		p.t = append(p.t, api.Request{From: at(10*k+10, 0), To: at(10*k+10, 5), Pick: span(0, 1000), Drop: span(0, 1000), Load: 1000, Serve: k})
	}
	return p
}

// long is a route of as many stops as there may be, all requests of it being under way at once.
func long() problem {
	p := problem{v: api.Vehicle{Home: at(500, 500), Cap: 36, Start: 77, End: 1 << 20}, l: of("P7 P6 P5 P4 P3 P2 P1 P0 D3 D4 D2 D5 D1 D6 D0 D7")}
	for k := range 8 {
		p.t = append(p.t, api.Request{From: at(100*k, 90*k), To: at(1000-100*k, 3*k), Pick: span(0, 1<<20), Drop: span(0, 1<<20), Load: k + 1, Serve: 125 * k})
	}
	return p
}

// P10.1, P10.2: the chapter's examples, and the other stop of them.
func TestOfTheChapter(t *testing.T) {
	p := chapter()
	if a := p.ask(); !a.same(told{[]int{20, 30}, []int{15, 20}, api.OK}) {
		t.Errorf("it is %v", a)
	}
	for _, x := range []struct {
		i, by  int
		should pushed
	}{
		{0, 0, pushed{times(5, 5, 6, 10, 10, 11), 20, api.OK}},
		{0, 1, pushed{times(5, 6, 7, 11, 11, 12), 21, api.OK}},
		{0, 15, pushed{times(5, 20, 21, 25, 25, 26), 35, api.OK}},
		{0, 16, pushed{code: api.ErrLate}},
		{1, 0, pushed{times(5, 5, 6, 10, 10, 11), 20, api.OK}},
		{1, 20, pushed{times(5, 5, 6, 10, 30, 31), 40, api.OK}},
		{1, 21, pushed{code: api.ErrLate}},
		{2, 0, pushed{code: api.ErrArg}},
		{-1, 0, pushed{code: api.ErrArg}},
		{0, -1, pushed{code: api.ErrArg}},
	} {
		if a := p.push(x.i, x.by); !a.same(x.should) {
			t.Errorf("pushed at %d by %d it is %v; it should be %v", x.i, x.by, a, x.should)
		}
	}
}

// P10.1: whichever of a window, the next stop, and End says how late a stop may be, and where two of them say the same.
func TestLatestByHand(t *testing.T) {
	// it picks up at 5; 4 further on it drops; from there home is 9 away
	for _, x := range []struct {
		pick, drop api.Window
		serve, end int
		should     told
	}{
		{span(0, 100), span(0, 100), 0, 18, told{[]int{5, 9}, []int{0, 0}, 0}},
		{span(0, 100), span(0, 100), 0, 40, told{[]int{27, 31}, []int{22, 22}, 0}},
		{span(0, 100), span(0, 100), 2, 40, told{[]int{23, 29}, []int{18, 18}, 0}},
		{span(0, 100), span(0, 29), 2, 40, told{[]int{23, 29}, []int{18, 18}, 0}},
		{span(0, 100), span(0, 28), 2, 40, told{[]int{22, 28}, []int{17, 17}, 0}},
		{span(0, 100), span(0, 30), 2, 40, told{[]int{23, 29}, []int{18, 18}, 0}},
		{span(0, 23), span(0, 30), 2, 40, told{[]int{23, 29}, []int{18, 18}, 0}},
		{span(0, 22), span(0, 30), 2, 40, told{[]int{22, 29}, []int{17, 18}, 0}},
		{span(0, 5), span(0, 30), 2, 40, told{[]int{5, 29}, []int{0, 18}, 0}},
		{span(5, 5), span(11, 11), 2, 22, told{[]int{5, 11}, []int{0, 0}, 0}},
		{span(0, 100), span(11, 11), 2, 40, told{[]int{5, 11}, []int{0, 0}, 0}},
		// it waits: the Pick may be late by that, the Drop not
		{span(0, 100), span(25, 25), 2, 40, told{[]int{19, 25}, []int{14, 0}, 0}},
		{span(0, 9), span(25, 26), 2, 40, told{[]int{9, 26}, []int{4, 1}, 0}},
		{span(8, 100), span(25, 25), 2, 40, told{[]int{19, 25}, []int{11, 0}, 0}},
		{span(19, 100), span(25, 25), 2, 36, told{[]int{19, 25}, []int{0, 0}, 0}},
		// too late for anything
		{span(0, 100), span(0, 100), 0, 17, told{code: api.ErrLate}},
		{span(0, 4), span(0, 100), 0, 40, told{code: api.ErrLate}},
		{span(0, 100), span(0, 8), 0, 40, told{code: api.ErrLate}},
		{span(20, 100), span(25, 25), 2, 40, told{code: api.ErrLate}},
	} {
		p := chapter()
		p.t[0].Pick, p.t[0].Drop, p.t[0].Serve, p.v.End = x.pick, x.drop, x.serve, x.end
		if a := p.ask(); !a.same(x.should) {
			t.Errorf("%v is %v; it should be %v", p, a, x.should)
		}
	}
}

// P10.1: along a route of two requests with different services, with one window in the midst that all ahead of it have to wait for.
func TestLatestAlongALine(t *testing.T) {
	p := line()
	p.l = p.l[2:6]
	p.t[2].To.X = 25
	// P2 P3 D3 D2: 30 away from home, then 10, 5, 15, and 30 back; they take 2, 3, 3, and 2, and begin at 37, 49, 57, and 75
	if a := p.ask(); !a.same(told{[]int{930, 942, 950, 968}, []int{893, 893, 893, 893}, 0}) {
		t.Errorf("it is %v", a)
	}
	p.t[3].Drop = span(500, 600)
	// now they begin at 37, 49, 500, and 518
	if a := p.ask(); !a.same(told{[]int{580, 592, 600, 968}, []int{543, 543, 100, 450}, 0}) {
		t.Errorf("with a window in the midst it is %v", a)
	}
}

// P10.2: times that are waited for are taken up by a push, stop by stop, and only what is more than that goes on.
func TestPushUpToWaits(t *testing.T) {
	p := line()
	p.l = p.l[2:6]
	p.t[3].Pick, p.t[3].Drop, p.t[2].Drop = span(60, 100), span(75, 90), span(0, 96)
	// from 37 it waits for 11 at P3, and for 7 at D3
	for _, x := range []struct {
		i, by  int
		should pushed
	}{
		{0, 0, pushed{times(37, 37, 39, 49, 60, 63, 68, 75, 78, 88, 88, 90), 125, api.OK}},
		{0, 3, pushed{times(37, 40, 42, 52, 60, 63, 68, 75, 78, 88, 88, 90), 125, api.OK}},
		{0, 11, pushed{times(37, 48, 50, 60, 60, 63, 68, 75, 78, 88, 88, 90), 125, api.OK}},
		{0, 12, pushed{times(37, 49, 51, 61, 61, 64, 69, 75, 78, 88, 88, 90), 125, api.OK}},
		{0, 18, pushed{times(37, 55, 57, 67, 67, 70, 75, 75, 78, 88, 88, 90), 125, api.OK}},
		{0, 19, pushed{times(37, 56, 58, 68, 68, 71, 76, 76, 79, 89, 89, 91), 126, api.OK}},
		{0, 26, pushed{times(37, 63, 65, 75, 75, 78, 83, 83, 86, 96, 96, 98), 133, api.OK}},
		{0, 27, pushed{code: api.ErrLate}},
		{1, 7, pushed{times(37, 37, 39, 49, 67, 70, 75, 75, 78, 88, 88, 90), 125, api.OK}},
		{1, 8, pushed{times(37, 37, 39, 49, 68, 71, 76, 76, 79, 89, 89, 91), 126, api.OK}},
		{1, 15, pushed{times(37, 37, 39, 49, 75, 78, 83, 83, 86, 96, 96, 98), 133, api.OK}},
		{1, 16, pushed{code: api.ErrLate}},
		{2, 8, pushed{times(37, 37, 39, 49, 60, 63, 68, 83, 86, 96, 96, 98), 133, api.OK}},
		{2, 9, pushed{code: api.ErrLate}},
		{3, 8, pushed{times(37, 37, 39, 49, 60, 63, 68, 75, 78, 88, 96, 98), 133, api.OK}},
		{3, 9, pushed{code: api.ErrLate}},
	} {
		if a := p.push(x.i, x.by); !a.same(x.should) {
			t.Errorf("pushed at %d by %d it is %v; it should be %v", x.i, x.by, a, x.should)
		}
	}
}

// P10.2: a push is too late just where it is too late for the stop itself, for each one behind it, or for the end: each of them in turn alone.
func TestPushJustInTime(t *testing.T) {
	for _, p := range []problem{line(), long()} {
		free := p.earliest()
		for i := range p.l {
			for k := i; k <= len(p.l); k++ {
				q := p.cloned()
				if k == len(p.l) {
					q.v.End = free.end + 9
				} else {
					windowOf(q.t, q.l[k]).Late = free.times[k].Begin + 9
				}
				should := pushed{times: slices.Clone(free.times), end: free.end + 9}
				for n := i; n < len(p.l); n++ {
					time := &should.times[n]
					time.Begin += 9
					time.Leave += 9
					if n > i {
						time.Arrive += 9
					}
				}
				if a := q.push(i, 9); !a.same(should) {
					t.Errorf("%v pushed at %d by 9 is %v; it should be %v", q, i, a, should)
				}
				if a := q.push(i, 10); !a.same(pushed{code: api.ErrLate}) {
					t.Errorf("%v pushed at %d by 10 is %v", q, i, a)
				}
				if a := q.ask(); a.code != api.OK || a.float[i] != 9 {
					t.Errorf("%v is %v", q, a)
				}
			}
		}
	}
}

// P10.2: what is no stop, and what is no push, at the bounds and beyond; it is told ahead of what is late.
func TestBoundsOfPush(t *testing.T) {
	for _, p := range []problem{chapter(), line(), long(), wide()} {
		n := len(p.l)
		for _, i := range append(extremes(), -2, -1, 0, 1, n-1, n, n+1, 16, 17) {
			for _, by := range append(extremes(), -1<<20, -2, -1, 0, 1, 1<<20-1, 1<<20, 1<<20+1) {
				if a, should := p.push(i, by), p.pushSays(i, by); !a.same(should) {
					t.Errorf("%v pushed at %d by %d is %v; it should be %v", p, i, by, a, should)
				}
			}
		}
	}
	// a shift without a minute to lose: whatever is above 0 is late, and what is above MaxTime is none
	p := chapter()
	p.v.End = 20
	for by, code := range map[int]api.Errno{0: api.OK, 1: api.ErrLate, 1 << 20: api.ErrLate, 1<<20 + 1: api.ErrArg, -1: api.ErrArg} {
		if a := p.push(0, by); a.code != code {
			t.Errorf("pushed by %d it is %v; it should be %v", by, a, code)
		}
	}
}

// wide has all times there are, and needs none of them: stops that take nothing where the vehicle is at home.
func wide() problem {
	all := span(0, 1<<20)
	r := api.Request{From: at(7, 8), To: at(7, 8), Pick: all, Drop: all, Load: 1}
	return problem{api.Vehicle{Home: at(7, 8), Cap: 2, Start: 0, End: 1 << 20}, of("P0 P1 D1 D0"), []api.Request{r, r}}
}

// P10.1, P10.2: from the first minute to the last one, and the longest routes with the greatest numbers.
func TestGreatNumbers(t *testing.T) {
	p, last := wide(), 1<<20
	if a := p.ask(); !a.same(told{slices.Repeat([]int{last}, 4), slices.Repeat([]int{last}, 4), api.OK}) {
		t.Errorf("it is %v", a)
	}
	for i := range 4 {
		should := pushed{times: make([]api.Time, 4), end: last}
		should.times[i] = api.Time{Begin: last, Leave: last}
		for k := i + 1; k < 4; k++ {
			should.times[k] = api.Time{Arrive: last, Begin: last, Leave: last}
		}
		if a := p.push(i, last); !a.same(should) {
			t.Errorf("pushed at %d it is %v; it should be %v", i, a, should)
		}
	}
	r := api.Request{From: at(1023, 1023), To: at(0, 0), Pick: span(0, last), Drop: span(0, last), Load: 1000, Serve: 1000}
	q := problem{v: api.Vehicle{Home: at(0, 0), Cap: 100000, End: last}}
	for k := range 8 {
		q.t = append(q.t, r)
		q.l = append(q.l, of("P"+strconv.Itoa(k)+" D"+strconv.Itoa(k))...)
		var should told
		left := last - 6092*(k+1)
		for n := range k + 1 {
			should.latest = append(should.latest, left+6092*n+2046, left+6092*n+5092)
			should.float = append(should.float, left, left)
		}
		if a := q.ask(); !a.same(should) {
			t.Fatalf("of %d requests it is %v; it should be %v", k+1, a, should)
		}
		for i := range q.l {
			if a := q.push(i, left); a.code != api.OK || a.end != last {
				t.Errorf("of %d requests, pushed at %d, it is %v", k+1, i, a)
			}
			if a := q.push(i, left+1); !a.same(pushed{code: api.ErrLate}) {
				t.Errorf("of %d requests, pushed at %d by one more, it is %v", k+1, i, a)
			}
		}
	}
}

// P10.1, P10.2: without stops there is nothing to be late, nor to push; and home is at the end of no way.
func TestWithoutStops(t *testing.T) {
	for _, start := range []int{0, 1, 1<<20 - 1, 1 << 20} {
		for _, requests := range [][]api.Request{nil, {}, line().t} {
			for _, l := range [][]api.Stop{nil, {}} {
				p := problem{v: api.Vehicle{Home: at(1023, 7), Cap: 1, Start: start, End: 1 << 20}, l: l, t: requests}
				if a := p.ask(); !a.same(told{}) {
					t.Errorf("from %d on it is %v", start, a)
				}
				for _, i := range append(extremes(), -1, 0, 1) {
					for _, by := range append(extremes(), -1, 0, 1, 1<<20) {
						if a := p.push(i, by); !a.same(pushed{code: api.ErrArg}) {
							t.Errorf("from %d on, pushed at %d by %d, it is %v", start, i, by, a)
						}
					}
				}
				p.v.Cap = 0
				if a, b := p.ask(), p.push(0, 0); !a.same(told{code: api.ErrArg}) || !b.same(pushed{code: api.ErrArg}) {
					t.Errorf("with Cap 0 it is %v, and %v", a, b)
				}
			}
		}
	}
}

// wrong is a way to spoil a problem, and the code that it is told by.
type wrong struct {
	name  string
	code  api.Errno
	spoil func(p *problem)
}

// wrongs are the ways in which a vehicle, a request, and a row may not be; those of one code leave alone what those of another one change.
func wrongs() []wrong {
	return []wrong{
		{"Home off the grid", api.ErrArg, func(p *problem) { p.v.Home.X = -1 }},
		{"Cap 0", api.ErrArg, func(p *problem) { p.v.Cap = 0 }},
		{"Start below 0", api.ErrArg, func(p *problem) { p.v.Start = -1 }},
		{"Start above End", api.ErrArg, func(p *problem) { p.v.Start = p.v.End + 1 }},
		{"End too great", api.ErrArg, func(p *problem) { p.v.End = 1<<20 + 1 }},
		{"From off the grid", api.ErrArg, func(p *problem) { p.t[0].From.X = 1024 }},
		{"To off the grid", api.ErrArg, func(p *problem) { p.t[4].To.Y = -1 }},
		{"Pick is empty", api.ErrArg, func(p *problem) { p.t[1].Pick = span(8, 7) }},
		{"Drop too great", api.ErrArg, func(p *problem) { p.t[3].Drop.Late = 1<<20 + 1 }},
		{"Load 0", api.ErrArg, func(p *problem) { p.t[2].Load = 0 }},
		{"Serve too great, of one that no stop names", api.ErrArg, func(p *problem) { p.t[4].Serve = 1001 }},
		{"too many stops", api.ErrStop, func(p *problem) { p.l = slices.Repeat(of("P0"), 17) }},
		{"a Drop ahead of its Pick", api.ErrStop, func(p *problem) { slices.Reverse(p.l) }},
		{"no Drop", api.ErrStop, func(p *problem) { p.l = p.l[:len(p.l)-1] }},
		{"no Pick", api.ErrStop, func(p *problem) { p.l = p.l[1:] }},
		{"a stop twice", api.ErrStop, func(p *problem) { p.l = append(p.l[:1:1], p.l...) }},
		{"a Kind that is none", api.ErrStop, func(p *problem) { p.l[0].Kind = 2 }},
		{"a Kind below 0", api.ErrStop, func(p *problem) { p.l[0].Kind = -1 }},
		{"a request below 0", api.ErrStop, func(p *problem) { p.l = append(p.l, pair(-1)...) }},
		{"a request that is just none", api.ErrStop, func(p *problem) { p.l = append(p.l, pair(len(p.t))...) }},
		{"the greatest request", api.ErrStop, func(p *problem) { p.l = append(pair(math.MaxInt), p.l...) }},
		{"a stop too late", api.ErrLate, func(p *problem) { p.t[0].Pick.Late = 0 }},
	}
}

func pair(req int) []api.Stop { return []api.Stop{{Req: req, Kind: 0}, {Req: req, Kind: 1}} }

// P10.1, P10.2: each thing that is wrong, alone, and each two, is told as Times tells it, and ahead of a push that is none, or too late.
func TestErrorsOfTimes(t *testing.T) {
	p := line()
	p.t = append(p.t, p.t[0])
	alike := func(name string, q problem, code api.Errno) {
		t.Helper()
		if e := q.earliest().code; e != code {
			t.Fatalf("%s: Times tells %v; it should be %v", name, e, code)
		}
		if a := q.ask(); !a.same(told{code: code}) {
			t.Fatalf("%s is %v; it should be %v", name, a, code)
		}
		for _, i := range []int{math.MinInt, -1, 0, 3, len(q.l) - 1, len(q.l), math.MaxInt} {
			for _, by := range []int{math.MinInt, -1, 0, 5, 1 << 20, 1<<20 + 1, math.MaxInt} {
				if a := q.push(i, by); !a.same(pushed{code: code}) {
					t.Fatalf("%s, pushed at %d by %d, is %v; it should be %v", name, i, by, a, code)
				}
			}
		}
	}
	for _, a := range wrongs() {
		q := p.cloned()
		a.spoil(&q)
		alike(a.name, q, a.code)
		for _, b := range wrongs() {
			// ErrArg, ErrStop, ErrLate: so they come, and so they are numbered
			if a.code < b.code {
				q := p.cloned()
				a.spoil(&q)
				b.spoil(&q)
				alike(a.name+" and "+b.name, q, a.code)
			}
		}
	}
}

// anyProblem is one of up to eight requests: most of the time all windows are met, by little or by much.
func anyProblem(r *rand.Rand, most int) problem {
	n := r.Intn(most + 1)
	p := problem{v: api.Vehicle{Home: near(r), Cap: 1 + r.Intn(9), Start: r.Intn(30)}, t: make([]api.Request, n+r.Intn(3))}
	for k := range p.t {
		p.t[k] = api.Request{From: near(r), To: near(r), Pick: span(r.Intn(9), 9), Drop: span(3, 3+r.Intn(99)), Load: 1 + r.Intn(9), Serve: r.Intn(3) * r.Intn(5)}
	}
	for _, req := range r.Perm(len(p.t))[:n] {
		i := r.Intn(len(p.l) + 1)
		j := i + r.Intn(len(p.l)+1-i)
		p.l = slices.Insert(p.l, j, api.Stop{Req: req, Kind: 1})
		p.l = slices.Insert(p.l, i, api.Stop{Req: req, Kind: 0})
	}
	now := p.v.Start
	here := p.v.Home
	for k, s := range p.l {
		now += apart(here, p.where(k))
		early := max(0, now+r.Intn(12)-8)
		late := max(early, now+r.Intn(4)*r.Intn(5))
		if r.Intn(60) == 0 {
			late = max(0, max(early, now)-1)
			early = min(early, late)
		}
		*windowOf(p.t, s) = span(early, late)
		now, here = max(now, early)+p.t[s.Req].Serve, p.where(k)
	}
	p.v.End = max(p.v.Start, now+apart(here, p.v.Home)+r.Intn(12)-1)
	return p
}

func near(r *rand.Rand) api.Place { return at(60+r.Intn(5), 80+r.Intn(5)) }

// P10.1, P10.2: of all kinds of problems, it is as the words say.
func TestAsTheWordsSay(t *testing.T) {
	r := rand.New(rand.NewSource(1))
	asked, shoved, longest := map[api.Errno]int{}, map[api.Errno]int{}, 0
	for range 20000 {
		p := anyProblem(r, 8)
		should := p.says()
		asked[should.code]++
		longest = max(longest, len(should.latest))
		if a := p.ask(); !a.same(should) {
			t.Fatalf("%v is %v; it should be %v", p, a, should)
		}
		for range 4 {
			i, by := r.Intn(len(p.l)+2)-1, r.Intn(16)-1
			should := p.pushSays(i, by)
			shoved[should.code]++
			if a := p.push(i, by); !a.same(should) {
				t.Fatalf("%v pushed at %d by %d is %v; it should be %v", p, i, by, a, should)
			}
		}
	}
	for _, code := range []api.Errno{api.OK, api.ErrLate} {
		if asked[code] < 2000 || shoved[code] < 5000 {
			t.Errorf("told is %v, and of pushes %v", asked, shoved)
		}
	}
	if longest != 16 {
		t.Errorf("the longest route that was in time has %d stops", longest)
	}
}

// P10.1, P10.2: by going through all times that serve a route: no stop begins later than it says in any of them, and of those in which one begins so late at least, a push has the earliest ones.
func TestAmongAllTimes(t *testing.T) {
	r := rand.New(rand.NewSource(2))
	for tried := 0; tried < 200; {
		p := anyProblem(r, 2)
		a, first := p.ask(), p.earliest()
		if a.code != api.OK || len(p.l) == 0 {
			continue
		}
		tried++
		// feas asks for room too, of which slack knows nothing
		room := p.v
		room.Cap = 100
		last := make([]int, len(p.l))
		all := p.all()
		for _, l := range all {
			for k, time := range l {
				last[k] = max(last[k], time.Begin)
			}
		}
		if !slices.Equal(a.latest, last) {
			t.Fatalf("%v is %v; it should be %v", p, a.latest, last)
		}
		for i := range p.l {
			for by := range a.float[i] + 1 {
				q := p.push(i, by)
				if q.code != api.OK || !feas.Right(room, p.l, p.t, q.times) {
					t.Fatalf("%v pushed at %d by %d is %v, which does not serve it", p, i, by, q)
				}
				for _, l := range all {
					if l[i].Begin >= first.times[i].Begin+by && earlier(l, q.times) {
						t.Fatalf("%v pushed at %d by %d is %v; %v is earlier", p, i, by, q, l)
					}
				}
			}
		}
	}
}

// earlier tells whether a stop begins earlier than in others.
func earlier(l, than []api.Time) bool {
	for k := range l {
		if l[k].Begin < than[k].Begin {
			return true
		}
	}
	return false
}

// all are the times that serve a route, if one comes to a stop at once, whenever one begins there.
func (p problem) all() [][]api.Time {
	var all [][]api.Time
	var on func(l []api.Time, left int, here api.Place)
	on = func(l []api.Time, left int, here api.Place) {
		k := len(l)
		arrive := left + apart(here, p.where(k))
		if k == len(p.l) {
			if arrive <= p.v.End {
				all = append(all, l)
			}
			return
		}
		w := windowOf(p.t, p.l[k])
		for begin := max(arrive, w.Early); begin <= w.Late; begin++ {
			leave := begin + p.t[p.l[k].Req].Serve
			on(append(l[:k:k], api.Time{Arrive: arrive, Begin: begin, Leave: leave}), leave, p.where(k))
		}
	}
	on(nil, p.v.Start, p.v.Home)
	return all
}

// P10.3: a stop may be pushed by its Float, and by no more; no Float is below 0.
func TestPushByFloat(t *testing.T) {
	r := rand.New(rand.NewSource(3))
	tried := 0
	for range 5000 {
		p := anyProblem(r, 8)
		a := p.ask()
		for i, float := range a.float {
			tried++
			if float < 0 {
				t.Fatalf("%v is %v", p, a)
			}
			for by := range float + 5 {
				should := api.OK
				if by > float {
					should = api.ErrLate
				}
				if q := p.push(i, by); q.code != should {
					t.Fatalf("%v, of which %v is told, pushed at %d by %d is %v", p, a, i, by, q)
				}
			}
		}
	}
	if tried < 20000 {
		t.Errorf("tried are %d", tried)
	}
}

// P10.2, P10.3: a push moves no stop behind by more, and not ahead, and none ahead at all; nor is the stop itself come to later; one of nothing moves none.
func TestWhatAPushMoves(t *testing.T) {
	r := rand.New(rand.NewSource(4))
	less, as := 0, 0
	for range 5000 {
		p := anyProblem(r, 8)
		a, first := p.ask(), p.earliest()
		for i, float := range a.float {
			if q := p.push(i, 0); !q.same(first) {
				t.Fatalf("%v pushed by nothing at %d is %v", p, i, q)
			}
			q := p.push(i, float)
			if !slices.Equal(q.times[:i], first.times[:i]) || q.times[i].Arrive != first.times[i].Arrive || q.times[i].Begin != first.times[i].Begin+float {
				t.Fatalf("%v pushed at %d by %d is %v", p, i, float, q)
			}
			before := float
			for k, time := range q.times[i:] {
				was := first.times[i+k]
				by := time.Begin - was.Begin
				if by < 0 || by > before || time.Leave-was.Leave != by || k > 0 && time.Arrive-was.Arrive != before {
					t.Fatalf("%v pushed at %d by %d is %v; it was %v", p, i, float, q, first)
				}
				if by < before {
					less++
				} else if k > 0 && by > 0 {
					as++
				}
				before = by
			}
			if q.end-first.end != before {
				t.Fatalf("%v pushed at %d by %d is %v; it was %v", p, i, float, q, first)
			}
		}
	}
	if less < 1000 || as < 1000 {
		t.Errorf("moved by less are %d, and by as much %d", less, as)
	}
}

// P10.1, P10.2: numbers at their ends, in each field, neither end in a panic nor go round.
func TestAtNumbersEnds(t *testing.T) {
	for _, n := range extremes() {
		for k, field := range []func(p *problem) *int{
			func(p *problem) *int { return &p.v.Home.X },
			func(p *problem) *int { return &p.v.Home.Y },
			func(p *problem) *int { return &p.v.Cap },
			func(p *problem) *int { return &p.v.Start },
			func(p *problem) *int { return &p.v.End },
			func(p *problem) *int { return &p.t[1].From.X },
			func(p *problem) *int { return &p.t[1].From.Y },
			func(p *problem) *int { return &p.t[1].To.X },
			func(p *problem) *int { return &p.t[1].To.Y },
			func(p *problem) *int { return &p.t[1].Pick.Early },
			func(p *problem) *int { return &p.t[1].Pick.Late },
			func(p *problem) *int { return &p.t[1].Drop.Early },
			func(p *problem) *int { return &p.t[1].Drop.Late },
			func(p *problem) *int { return &p.t[1].Load },
			func(p *problem) *int { return &p.t[1].Serve },
			func(p *problem) *int { return &p.l[1].Req },
			func(p *problem) *int { return &p.l[6].Req },
			func(p *problem) *int { return &p.l[1].Kind },
			func(p *problem) *int { return &p.l[6].Kind },
		} {
			p, code := line(), api.ErrArg
			if k >= 15 {
				code = api.ErrStop
			}
			*field(&p) = n
			if a := p.ask(); !a.same(told{code: code}) {
				t.Errorf("%v is %v; it should be %v", p, a, code)
			}
			if a := p.push(1, 3); !a.same(pushed{code: code}) {
				t.Errorf("%v pushed is %v; it should be %v", p, a, code)
			}
		}
	}
}

// P10.1, P10.2: what was handed in is as it was, and so is what lies behind it, and what is answered is the caller's.
func TestNothingIsShared(t *testing.T) {
	late := long()
	late.v.End = 100
	for _, p := range []problem{chapter(), line(), long(), late, {v: line().v}, {l: of("P0"), t: line().t}} {
		stops := slices.Concat(p.l, slices.Repeat(of("X7"), 20))
		requests := slices.Concat(p.t, slices.Repeat([]api.Request{{Load: 7}}, 20))
		wasStops, wasRequests := slices.Clone(stops), slices.Clone(requests)
		p.l, p.t = stops[:len(p.l)], requests[:len(p.t)]
		first, push, over := p.ask(), p.push(1, 2), p.push(1, 1<<20)
		should, shouldPush := told{slices.Clone(first.latest), slices.Clone(first.float), first.code}, pushed{slices.Clone(push.times), push.end, push.code}
		second, secondPush := p.ask(), p.push(1, 2)
		for _, l := range [][]int{first.latest, first.float} {
			for k := range l[:cap(l)] {
				l[:cap(l)][k] = -5
			}
		}
		for k := range push.times[:cap(push.times)] {
			push.times[:cap(push.times)][k] = api.Time{Arrive: -5}
		}
		if !second.same(should) || !secondPush.same(shouldPush) || !p.ask().same(should) || !p.push(1, 2).same(shouldPush) || !p.push(1, 1<<20).same(over) {
			t.Fatalf("an answer of %v was changed, and by that another one", p)
		}
		if !slices.Equal(stops, wasStops) || !slices.Equal(requests, wasRequests) {
			t.Fatalf("there are %v and %v; there were %v and %v", stops, requests, wasStops, wasRequests)
		}
	}
}

// The stops that come from the last one on may be left, and gone through again.
func TestFromLast(t *testing.T) {
	p := line()
	stops := fromLast(len(p.l), trip{p.v, p.l, p.t}.visit)
	for leave := range len(p.l) + 1 {
		next := len(p.l) - 1
		for k, at := range stops {
			if k != next || at.place != p.where(k) {
				t.Fatalf("the stop %d is at %v; the next one should be %d", k, at.place, next)
			}
			if next == leave {
				break
			}
			next--
		}
		if next != leave && leave < len(p.l) {
			t.Errorf("it was left at %d; it should be at %d", next, leave)
		}
	}
}
