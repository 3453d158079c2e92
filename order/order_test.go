package order

import (
	"math"
	"math/rand"
	"testing"

	"consign/api"
)

const last = 1 << 20

func at(x, y int) api.Place { return api.Place{X: x, Y: y} }

func of(early, late int) api.Window { return api.Window{Early: early, Late: late} }

// request is the chapter's own.
func request() api.Request {
	return api.Request{From: at(0, 0), To: at(3, 4), Pick: of(10, 20), Drop: of(0, 40), Load: 5, Serve: 2}
}

// vehicle is the chapter's own.
func vehicle() api.Vehicle {
	return api.Vehicle{Home: at(0, 1), Cap: 5, Start: 0, End: 60}
}

func otherRequest(change func(r *api.Request)) api.Request { return changed(request(), change) }

func otherVehicle(change func(v *api.Vehicle)) api.Vehicle { return changed(vehicle(), change) }

func changed[A any](a A, change func(a *A)) A {
	change(&a)
	return a
}

// extremes are numbers at which what is reckoned would go round.
func extremes() []int {
	return []int{math.MinInt, math.MinInt + 1, math.MinInt + last, math.MinInt32, math.MaxInt32, math.MaxInt - last, math.MaxInt - 1, math.MaxInt}
}

func wrongPlaces() []api.Place {
	l := []api.Place{at(-1, 0), at(0, -1), at(1024, 0), at(0, 1024), at(-1, -1), at(1024, 1024), at(-1, 1024)}
	for _, n := range extremes() {
		l = append(l, at(n, 0), at(0, n), at(n, n))
	}
	return l
}

func wrongWindows() []api.Window {
	l := []api.Window{of(-1, 0), of(-1, 40), of(0, last+1), of(1, 0), of(20, 10), of(last, last-1), of(last+1, last+1), of(-1, -1), of(last, 0)}
	for _, n := range extremes() {
		l = append(l, of(n, 20), of(10, n), of(n, n))
	}
	return l
}

// wrongNumbers are those beside a span, and at numbers' ends.
func wrongNumbers(least, most int) []int {
	return append(extremes(), least-1, most+1, least-2, most+2)
}

// wrong is a change by which a request, or a vehicle, may not be, and what is told of it; those of a lower rank are told first.
type wrong[A any] struct {
	rank   int
	code   api.Errno
	change func(a *A)
}

func wrongRequests() []wrong[api.Request] {
	var l []wrong[api.Request]
	for _, p := range wrongPlaces() {
		l = append(l, wrong[api.Request]{0, api.ErrPlace, func(r *api.Request) { r.From = p }})
		l = append(l, wrong[api.Request]{0, api.ErrPlace, func(r *api.Request) { r.To = p }})
	}
	for _, w := range wrongWindows() {
		l = append(l, wrong[api.Request]{1, api.ErrWindow, func(r *api.Request) { r.Pick = w }})
		l = append(l, wrong[api.Request]{1, api.ErrWindow, func(r *api.Request) { r.Drop = w }})
	}
	for _, n := range wrongNumbers(1, 1000) {
		l = append(l, wrong[api.Request]{2, api.ErrLoad, func(r *api.Request) { r.Load = n }})
	}
	for _, n := range wrongNumbers(0, 1000) {
		l = append(l, wrong[api.Request]{2, api.ErrLoad, func(r *api.Request) { r.Serve = n }})
	}
	return l
}

func wrongVehicles() []wrong[api.Vehicle] {
	var l []wrong[api.Vehicle]
	for _, p := range wrongPlaces() {
		l = append(l, wrong[api.Vehicle]{0, api.ErrPlace, func(v *api.Vehicle) { v.Home = p }})
	}
	for _, n := range wrongNumbers(1, 100000) {
		l = append(l, wrong[api.Vehicle]{1, api.ErrVehicle, func(v *api.Vehicle) { v.Cap = n }})
	}
	for _, w := range wrongWindows() {
		l = append(l, wrong[api.Vehicle]{2, api.ErrVehicle, func(v *api.Vehicle) { v.Start, v.End = w.Early, w.Late }})
	}
	return l
}

// P4.1: the chapter's example, and each number at both its ends.
func TestCheckOfThoseThatMayBe(t *testing.T) {
	for _, change := range []func(r *api.Request){
		func(r *api.Request) {},
		func(r *api.Request) { r.From = at(1023, 1023) },
		func(r *api.Request) { r.From, r.To = at(1023, 0), at(0, 1023) },
		func(r *api.Request) { r.To = at(0, 0) },
		func(r *api.Request) { r.To = at(1023, 1023) },
		func(r *api.Request) { r.Pick = of(0, 0) },
		func(r *api.Request) { r.Pick = of(0, last) },
		func(r *api.Request) { r.Pick = of(last, last) },
		func(r *api.Request) { r.Drop = of(0, 0) },
		func(r *api.Request) { r.Drop = of(0, last) },
		func(r *api.Request) { r.Drop = of(last, last) },
		func(r *api.Request) { r.Pick, r.Drop = of(30, 40), of(0, 10) },
		func(r *api.Request) { r.Load = 1 },
		func(r *api.Request) { r.Load = 1000 },
		func(r *api.Request) { r.Serve = 0 },
		func(r *api.Request) { r.Serve = 1 },
		func(r *api.Request) { r.Serve = 1000 },
		func(r *api.Request) { *r = api.Request{Load: 1} },
		func(r *api.Request) {
			*r = api.Request{From: at(1023, 1023), To: at(1023, 1023), Pick: of(last, last), Drop: of(last, last), Load: 1000, Serve: 1000}
		},
	} {
		if r := otherRequest(change); Check(r) != api.OK {
			t.Errorf("Check(%v) is %v", r, Check(r))
		}
	}
}

// P4.1: each number one beside its ends, and at numbers' ends; of two things that may not be, what is told is the first one's.
func TestCheckOfThoseThatMayNotBe(t *testing.T) {
	if c := Check(api.Request{}); c != api.ErrLoad {
		t.Errorf("Check of a zero request is %v", c)
	}
	askWrong(t, Check, request(), wrongRequests())
}

// P4.1: a place, a window and a load of one request that may not be, one behind another one.
func TestCheckInOrder(t *testing.T) {
	r := api.Request{From: at(0, 0), To: at(0, 1024), Pick: of(0, 9), Drop: of(9, 0), Load: 1001, Serve: -1}
	for _, x := range []struct {
		code api.Errno
		mend func()
	}{
		{api.ErrPlace, func() { r.To = at(0, 1023); r.From = at(-1, 0) }},
		{api.ErrPlace, func() { r.From = at(0, 0) }},
		{api.ErrWindow, func() { r.Drop = of(0, 9); r.Pick = of(0, last+1) }},
		{api.ErrWindow, func() { r.Pick = of(0, last) }},
		{api.ErrLoad, func() { r.Load = 1000 }},
		{api.ErrLoad, func() { r.Serve = 1000; r.Load = 0 }},
		{api.ErrLoad, func() { r.Load = 1 }},
		{api.OK, func() {}},
	} {
		if c := Check(r); c != x.code {
			t.Errorf("Check(%v) is %v; it should be %v", r, c, x.code)
		}
		x.mend()
	}
}

// P4.1: the chapter's example, and each number at both its ends.
func TestVehicleOfThoseThatMayBe(t *testing.T) {
	for _, change := range []func(v *api.Vehicle){
		func(v *api.Vehicle) {},
		func(v *api.Vehicle) { v.Home = at(0, 0) },
		func(v *api.Vehicle) { v.Home = at(1023, 1023) },
		func(v *api.Vehicle) { v.Cap = 1 },
		func(v *api.Vehicle) { v.Cap = 100000 },
		func(v *api.Vehicle) { v.Start, v.End = 0, 0 },
		func(v *api.Vehicle) { v.Start, v.End = 60, 60 },
		func(v *api.Vehicle) { v.Start, v.End = 0, last },
		func(v *api.Vehicle) { v.Start, v.End = last, last },
		func(v *api.Vehicle) { v.Start, v.End = last-1, last },
	} {
		if v := otherVehicle(change); Vehicle(v) != api.OK {
			t.Errorf("Vehicle(%v) is %v", v, Vehicle(v))
		}
	}
}

// P4.1: each number one beside its ends, Start behind End, numbers' ends; a home that may not be is told ahead of the others.
func TestVehicleOfThoseThatMayNotBe(t *testing.T) {
	if c := Vehicle(api.Vehicle{}); c != api.ErrVehicle {
		t.Errorf("Vehicle of a zero one is %v", c)
	}
	askWrong(t, Vehicle, vehicle(), wrongVehicles())
}

// askWrong asks of a with each change by which it may not be, and with each two: the one of the lower rank is told.
func askWrong[A any](t *testing.T, ask func(a A) api.Errno, a A, l []wrong[A]) {
	for _, x := range l {
		if b := changed(a, x.change); ask(b) != x.code {
			t.Errorf("%v is told as %v; it should be %v", b, ask(b), x.code)
		}
		for _, y := range l {
			if y.rank < x.rank {
				continue
			}
			if b := changed(changed(a, y.change), x.change); ask(b) != x.code {
				t.Fatalf("%v is told as %v; it should be %v", b, ask(b), x.code)
			}
		}
	}
}

// P4.2: the chapter's examples, a load just at Cap, home just at End, begins just in their windows, one late, requests within one place.
func TestAloneByHand(t *testing.T) {
	for _, x := range []struct {
		name string
		r    func(r *api.Request)
		v    func(v *api.Vehicle)
		home int
		is   bool
	}{
		{"the chapter's", func(r *api.Request) {}, func(v *api.Vehicle) {}, 27, true},
		{"a load above Cap", func(r *api.Request) { r.Load = 6 }, func(v *api.Vehicle) {}, 0, false},
		{"a load below Cap", func(r *api.Request) { r.Load = 4 }, func(v *api.Vehicle) {}, 27, true},
		{"the greatest load at Cap", func(r *api.Request) { r.Load = 1000 }, func(v *api.Vehicle) { v.Cap = 1000 }, 27, true},
		{"the greatest load above Cap", func(r *api.Request) { r.Load = 1000 }, func(v *api.Vehicle) { v.Cap = 999 }, 0, false},
		{"home at End", func(r *api.Request) {}, func(v *api.Vehicle) { v.End = 27 }, 27, true},
		{"home behind End", func(r *api.Request) {}, func(v *api.Vehicle) { v.End = 26 }, 0, false},
		{"there as Pick begins", func(r *api.Request) {}, func(v *api.Vehicle) { v.Start = 9 }, 27, true},
		{"there one behind", func(r *api.Request) {}, func(v *api.Vehicle) { v.Start = 10 }, 28, true},
		{"there as Pick ends", func(r *api.Request) {}, func(v *api.Vehicle) { v.Start = 19 }, 37, true},
		{"there behind Pick", func(r *api.Request) {}, func(v *api.Vehicle) { v.Start = 20 }, 0, false},
		{"there as Drop ends", func(r *api.Request) { r.Drop = of(0, 19) }, func(v *api.Vehicle) {}, 27, true},
		{"there behind Drop", func(r *api.Request) { r.Drop = of(0, 18) }, func(v *api.Vehicle) {}, 0, false},
		{"there as Drop begins", func(r *api.Request) { r.Drop = of(19, 40) }, func(v *api.Vehicle) {}, 27, true},
		{"there ahead of Drop", func(r *api.Request) { r.Drop = of(20, 40) }, func(v *api.Vehicle) {}, 28, true},
		{"a wait at both", func(r *api.Request) { r.Drop = of(40, 40) }, func(v *api.Vehicle) {}, 48, true},
		{"without service", func(r *api.Request) { r.Serve = 0 }, func(v *api.Vehicle) {}, 23, true},
		{"within one place", func(r *api.Request) { r.To = r.From }, func(v *api.Vehicle) {}, 15, true},
		{"within one place, which is home", func(r *api.Request) { r.From, r.To = at(0, 1), at(0, 1) }, func(v *api.Vehicle) {}, 14, true},
		{"within home, without service or wait", func(r *api.Request) { *r = api.Request{Load: 1} }, func(v *api.Vehicle) { *v = api.Vehicle{Cap: 1} }, 0, true},
		{"within home, one late", func(r *api.Request) { *r = api.Request{Load: 1} }, func(v *api.Vehicle) { *v = api.Vehicle{Cap: 1, Start: 1, End: 1} }, 0, false},
		{"within home, with service", func(r *api.Request) { *r = api.Request{Load: 1, Serve: 1, Drop: of(0, 1)} }, func(v *api.Vehicle) { *v = api.Vehicle{Cap: 1, End: 2} }, 2, true},
		{"within home, with service, one behind End", func(r *api.Request) { *r = api.Request{Load: 1, Serve: 1, Drop: of(0, 1)} }, func(v *api.Vehicle) { *v = api.Vehicle{Cap: 1, End: 1} }, 0, false},
		{"within home, service as long as Drop", func(r *api.Request) { *r = api.Request{Load: 1, Serve: 1} }, func(v *api.Vehicle) { *v = api.Vehicle{Cap: 1, End: 9} }, 0, false},
		{"windows the wrong way round", func(r *api.Request) { r.Drop = of(0, 9) }, func(v *api.Vehicle) {}, 0, false},
		{"the last time of all", func(r *api.Request) { *r = api.Request{Pick: of(last, last), Drop: of(last, last), Load: 1} }, func(v *api.Vehicle) { *v = api.Vehicle{Cap: 1, End: last} }, last, true},
		{"the last time of all, and home", func(r *api.Request) { *r = api.Request{Pick: of(last, last), Drop: of(last, last), Load: 1} }, func(v *api.Vehicle) { *v = api.Vehicle{Home: at(0, 1), Cap: 1, End: last} }, 0, false},
		{"behind the last time of all", func(r *api.Request) { r.Pick, r.Drop = of(0, last), of(0, last) }, func(v *api.Vehicle) { v.Start, v.End = last, last }, 0, false},
		{"all over the grid", func(r *api.Request) {
			r.From, r.To, r.Pick, r.Drop = at(1023, 0), at(0, 1023), of(0, 5000), of(0, 5000)
		}, func(v *api.Vehicle) { v.Home, v.End = at(1023, 1023), 4096 }, 4096, true},
	} {
		r, v := otherRequest(x.r), otherVehicle(x.v)
		if home, is := Alone(r, v); home != x.home || is != x.is {
			t.Errorf("%s: Alone(%v, %v) is %d, %v; it should be %d, %v", x.name, r, v, home, is, x.home, x.is)
		}
	}
}

// P4.2: of requests and vehicles that may not be, whichever it is: none, and not even where a trip would be in time.
func TestAloneOfThoseThatMayNotBe(t *testing.T) {
	for _, x := range wrongRequests() {
		r := otherRequest(x.change)
		for _, v := range []api.Vehicle{vehicle(), {Cap: 100000, End: last}} {
			if home, is := Alone(r, v); home != 0 || is {
				t.Errorf("Alone(%v, %v) is %d, %v", r, v, home, is)
			}
		}
	}
	for _, x := range wrongVehicles() {
		v := otherVehicle(x.change)
		if home, is := Alone(request(), v); home != 0 || is {
			t.Errorf("Alone of the vehicle %v is %d, %v", v, home, is)
		}
		for _, y := range wrongRequests() {
			if home, is := Alone(otherRequest(y.change), v); home != 0 || is {
				t.Fatalf("Alone(%v, %v) is %d, %v", otherRequest(y.change), v, home, is)
			}
		}
	}
}

// P4.2: the chapter's example, requests within one place, all over the grid, each number at both its ends, and requests that may not be.
func TestLeast(t *testing.T) {
	for _, x := range []struct {
		change func(r *api.Request)
		least  int
	}{
		{func(r *api.Request) {}, 11},
		{func(r *api.Request) { r.Serve = 0 }, 7},
		{func(r *api.Request) { r.Serve = 1 }, 9},
		{func(r *api.Request) { r.Serve = 1000 }, 2007},
		{func(r *api.Request) { r.To = r.From }, 4},
		{func(r *api.Request) { r.To, r.Serve = r.From, 0 }, 0},
		{func(r *api.Request) { r.From, r.To = r.To, r.From }, 11},
		{func(r *api.Request) { r.To, r.Serve = at(1023, 1023), 1000 }, 4046},
		{func(r *api.Request) { r.Load = 1000 }, 11},
		{func(r *api.Request) { r.Pick, r.Drop = of(last, last), of(0, 0) }, 11},
	} {
		if r := otherRequest(x.change); Least(r) != x.least {
			t.Errorf("Least(%v) is %d; it should be %d", r, Least(r), x.least)
		}
	}
	for _, x := range wrongRequests() {
		if r := otherRequest(x.change); Least(r) != 0 {
			t.Errorf("Least(%v) is %d, though it may not be", r, Least(r))
		}
	}
}

// P4.3: the chapter's example, windows that are just not empty when they are tight and just are, and those that are tight already.
func TestTightByHand(t *testing.T) {
	for _, x := range []struct {
		name   string
		change func(r *api.Request)
		pick   api.Window
		drop   api.Window
		is     bool
	}{
		{"the chapter's", func(r *api.Request) {}, of(10, 20), of(19, 40), true},
		{"tight already", func(r *api.Request) { r.Drop = of(19, 40) }, of(10, 20), of(19, 40), true},
		{"Drop begins later", func(r *api.Request) { r.Drop = of(20, 40) }, of(10, 20), of(20, 40), true},
		{"Drop begins earlier", func(r *api.Request) { r.Drop = of(18, 40) }, of(10, 20), of(19, 40), true},
		{"Pick ends as it may", func(r *api.Request) { r.Drop = of(0, 29) }, of(10, 20), of(19, 29), true},
		{"Pick ends later", func(r *api.Request) { r.Drop = of(0, 28) }, of(10, 19), of(19, 28), true},
		{"just not empty", func(r *api.Request) { r.Drop = of(0, 19) }, of(10, 10), of(19, 19), true},
		{"just empty", func(r *api.Request) { r.Drop = of(0, 18) }, of(0, 0), of(0, 0), false},
		{"without service, just not empty", func(r *api.Request) { r.Drop, r.Serve = of(0, 17), 0 }, of(10, 10), of(17, 17), true},
		{"without service, just empty", func(r *api.Request) { r.Drop, r.Serve = of(0, 16), 0 }, of(0, 0), of(0, 0), false},
		{"one service alone counts", func(r *api.Request) { r.Serve = 10 }, of(10, 20), of(27, 40), true},
		{"the longest service", func(r *api.Request) { r.Serve = 1000 }, of(0, 0), of(0, 0), false},
		{"within one place", func(r *api.Request) { r.To = r.From }, of(10, 20), of(12, 40), true},
		{"within one place, without service", func(r *api.Request) { r.To, r.Serve = r.From, 0 }, of(10, 20), of(10, 40), true},
		{"at the first time of all", func(r *api.Request) { *r = api.Request{Load: 1} }, of(0, 0), of(0, 0), true},
		{"one behind it", func(r *api.Request) { *r = api.Request{Load: 1, Serve: 1} }, of(0, 0), of(0, 0), false},
		{"Pick would end ahead of all times", func(r *api.Request) { r.Pick, r.Drop = of(0, 20), of(0, 8) }, of(0, 0), of(0, 0), false},
		{"Pick ends at the first time of all", func(r *api.Request) { r.Pick, r.Drop = of(0, 20), of(0, 9) }, of(0, 0), of(9, 9), true},
		{"Drop would begin behind all times", func(r *api.Request) { r.Pick, r.Drop = of(last-8, last), of(0, last) }, of(0, 0), of(0, 0), false},
		{"Drop begins at the last time of all", func(r *api.Request) { r.Pick, r.Drop = of(last-9, last), of(0, last) }, of(last-9, last-9), of(last, last), true},
		{"at the last time of all", func(r *api.Request) {
			r.To, r.Pick, r.Drop, r.Serve = r.From, of(last, last), of(0, last), 0
		}, of(last, last), of(last, last), true},
		{"all times", func(r *api.Request) { r.Pick, r.Drop = of(0, last), of(0, last) }, of(0, last-9), of(9, last), true},
		{"all over the grid, all times", func(r *api.Request) {
			r.To, r.Pick, r.Drop, r.Serve = at(1023, 1023), of(0, last), of(0, last), 1000
		}, of(0, last-3046), of(3046, last), true},
	} {
		r := otherRequest(x.change)
		should := api.Request{}
		if x.is {
			should = r
			should.Pick, should.Drop = x.pick, x.drop
		}
		if tight, is := Tight(r); tight != should || is != x.is {
			t.Errorf("%s: Tight(%v) is %v, %v; it should be %v, %v", x.name, r, tight, is, should, x.is)
		}
	}
}

// P4.3: of a request that may not be: none.
func TestTightOfThoseThatMayNotBe(t *testing.T) {
	for _, x := range append(wrongRequests(), wrong[api.Request]{change: func(r *api.Request) { *r = api.Request{} }}) {
		r := otherRequest(x.change)
		if tight, is := Tight(r); is || tight != (api.Request{}) {
			t.Errorf("Tight(%v) is %v, %v, though it may not be", r, tight, is)
		}
	}
}

// few are requests and vehicles of a few places and times, so that all times can be gone through.
func few(r *rand.Rand) (api.Request, api.Vehicle) {
	somewhere := func() api.Place { return at(r.Intn(4), r.Intn(3)) }
	sometimes := func() api.Window {
		early := r.Intn(15)
		return of(early, early+r.Intn(15))
	}
	q := api.Request{From: somewhere(), To: somewhere(), Pick: sometimes(), Drop: sometimes(), Load: 1 + r.Intn(3), Serve: r.Intn(4)}
	shift := sometimes()
	return q, api.Vehicle{Home: somewhere(), Cap: 1 + r.Intn(4), Start: shift.Early / 2, End: 2 * shift.Late}
}

// far tells by steps of its own how far it is.
func far(a, b api.Place) int {
	return int(math.Abs(float64(a.X-b.X)) + math.Abs(float64(a.Y-b.Y)))
}

// begins calls with all times at which both ends of a request may begin, of somebody who has both in time.
func begins(q api.Request, call func(pick, drop int)) {
	for pick := q.Pick.Early; pick <= q.Pick.Late; pick++ {
		for drop := q.Drop.Early; drop <= q.Drop.Late; drop++ {
			if drop >= pick+q.Serve+far(q.From, q.To) {
				call(pick, drop)
			}
		}
	}
}

// P4.2: home is as early as it can be over all times at which both ends may begin, found by going through them.
func TestAloneIsTheEarliest(t *testing.T) {
	r := rand.New(rand.NewSource(2))
	served := 0
	for range 20000 {
		q, v := few(r)
		should, shouldBe := 0, false
		begins(q, func(pick, drop int) {
			home := drop + q.Serve + far(q.To, v.Home)
			if q.Load > v.Cap || v.Start+far(v.Home, q.From) > pick || home > v.End || shouldBe && should <= home {
				return
			}
			should, shouldBe = home, true
		})
		if home, is := Alone(q, v); home != should || is != shouldBe {
			t.Fatalf("Alone(%v, %v) is %d, %v; it should be %d, %v", q, v, home, is, should, shouldBe)
		}
		if shouldBe {
			served++
		}
	}
	if served < 2000 || served > 18000 {
		t.Errorf("%d of them are served", served)
	}
}

// P4.3: windows are from the first to the last time at which somebody begins who begins the other one in time, found by going through all times.
func TestTightIsWhatIsLeft(t *testing.T) {
	r := rand.New(rand.NewSource(3))
	left := 0
	for range 20000 {
		q, _ := few(r)
		should, shouldBe := q, false
		should.Pick, should.Drop = of(last, 0), of(last, 0)
		begins(q, func(pick, drop int) {
			shouldBe = true
			should.Pick = of(min(should.Pick.Early, pick), max(should.Pick.Late, pick))
			should.Drop = of(min(should.Drop.Early, drop), max(should.Drop.Late, drop))
		})
		if !shouldBe {
			should = api.Request{}
		}
		if tight, is := Tight(q); tight != should || is != shouldBe {
			t.Fatalf("Tight(%v) is %v, %v; it should be %v, %v", q, tight, is, should, shouldBe)
		}
		if shouldBe {
			left++
		}
	}
	if left < 2000 || left > 18000 {
		t.Errorf("%d of them are left", left)
	}
}

// great are requests and vehicles over the whole grid and all times.
func great(r *rand.Rand) (api.Request, api.Vehicle) {
	somewhere := func() api.Place { return at(r.Intn(1024), r.Intn(1024)) }
	sometimes := func(most int) api.Window {
		early := r.Intn(most)
		return of(early, early+r.Intn(most+1-early))
	}
	most := []int{5000, 20000, last}[r.Intn(3)]
	q := api.Request{From: somewhere(), To: somewhere(), Pick: sometimes(most), Drop: sometimes(most), Load: 1 + r.Intn(1000), Serve: r.Intn(1001)}
	return q, api.Vehicle{Home: somewhere(), Cap: 1 + r.Intn(1500), Start: r.Intn(most / 2), End: most/2 + r.Intn(most/2+1)}
}

// both goes through requests and vehicles of a few times, and of all.
func both(call func(q api.Request, v api.Vehicle)) {
	r := rand.New(rand.NewSource(4))
	for range 10000 {
		call(few(r))
		call(great(r))
	}
}

// P4.4: whoever serves it serves what is tight of it, in the same time, and the other way round; where nothing is left, nobody does.
func TestTightIsServedAlike(t *testing.T) {
	both(func(q api.Request, v api.Vehicle) {
		home, is := Alone(q, v)
		tight, left := Tight(q)
		if !left && is {
			t.Fatalf("%v is served by %v, though nothing of it is left", q, v)
		}
		if o, also := Alone(tight, v); o != home || also != is {
			t.Fatalf("%v is served by %v at %d, %v, and what is tight of it at %d, %v", q, v, home, is, o, also)
		}
	})
}

// P4.4: Tight of Tight is Tight; it takes as much, and differs in its windows alone, which lie within those that it had.
func TestTightOfTight(t *testing.T) {
	both(func(q api.Request, v api.Vehicle) {
		tight, is := Tight(q)
		if again, also := Tight(tight); again != tight || also != is {
			t.Fatalf("Tight(%v) is %v, %v, and Tight of that is %v, %v", q, tight, is, again, also)
		}
		if !is {
			return
		}
		if Check(tight) != api.OK || Least(tight) != Least(q) {
			t.Fatalf("Tight(%v) is %v", q, tight)
		}
		if tight.Pick.Early != q.Pick.Early || tight.Pick.Late > q.Pick.Late || tight.Drop.Early < q.Drop.Early || tight.Drop.Late != q.Drop.Late {
			t.Fatalf("Tight(%v) is %v", q, tight)
		}
	})
}

// P4.4: who begins earlier is home no later, and serves whatever one serves who begins later.
func TestEarlierIsNoLater(t *testing.T) {
	both(func(q api.Request, v api.Vehicle) {
		late, is := Alone(q, v)
		if !is {
			return
		}
		if late < v.Start+far(v.Home, q.From)+Least(q)+far(q.To, v.Home) {
			t.Fatalf("%v is served by %v at %d", q, v, late)
		}
		for _, start := range []int{v.Start - 1, v.Start / 2, 0} {
			sooner := v
			sooner.Start = max(start, 0)
			if home, also := Alone(q, sooner); !also || home > late {
				t.Fatalf("%v is served by %v at %d, and by %v at %d, %v", q, v, late, sooner, home, also)
			}
		}
	})
}

// P4.1 to P4.3: what is far off, and all of a request and a vehicle at numbers' ends, neither ends in a panic nor goes round.
func TestAtNumbersEnds(t *testing.T) {
	for _, n := range extremes() {
		for _, m := range extremes() {
			r := api.Request{From: at(n, m), To: at(m, n), Pick: of(n, m), Drop: of(m, n), Load: n, Serve: m}
			v := api.Vehicle{Home: at(n, m), Cap: m, Start: n, End: m}
			if Check(r) != api.ErrPlace || Vehicle(v) != api.ErrPlace || Least(r) != 0 {
				t.Errorf("%v, %v: %v, %v, %d", r, v, Check(r), Vehicle(v), Least(r))
			}
			if home, is := Alone(r, v); home != 0 || is {
				t.Errorf("Alone(%v, %v) is %d, %v", r, v, home, is)
			}
			if tight, is := Tight(r); is || tight != (api.Request{}) {
				t.Errorf("Tight(%v) is %v, %v", r, tight, is)
			}
		}
	}
}
