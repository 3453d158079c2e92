package scene

import (
	"errors"
	"math"
	"math/rand"
	"reflect"
	"slices"
	"strconv"
	"testing"

	"consign/api"
)

func request() api.Request {
	return api.Request{From: api.Place{X: 1, Y: 2}, To: api.Place{X: 3, Y: 4}, Pick: api.Window{Late: 90}, Drop: api.Window{Late: 90}, Load: 2, Serve: 1}
}

func vehicle() api.Vehicle { return api.Vehicle{Home: api.Place{X: 5, Y: 6}, Cap: 9, End: 200} }

func requests(n int) []api.Request { return slices.Repeat([]api.Request{request()}, n) }

func fleet(n int) []api.Vehicle { return slices.Repeat([]api.Vehicle{vehicle()}, n) }

// upTo are the numbers below n.
func upTo(n int) []int {
	l := make([]int, n)
	for k := range l {
		l[k] = k
	}
	return l
}

// lots are one of each of so many requests.
func lots(n int) []api.Lot {
	var l []api.Lot
	for r := range n {
		l = append(l, api.Lot{Req: r, Reserve: r})
	}
	return l
}

// usual is a scene that may be, made anew for each that asks.
func usual() api.Scene {
	return api.Scene{
		Requests: requests(6),
		Carriers: []api.Carrier{{Fleet: fleet(2), Own: []int{4, 0}}, {Fleet: fleet(1)}, {Fleet: fleet(4), Own: []int{3, 1, 2}}, {Fleet: fleet(3), Own: []int{5}}},
		Lots:     []api.Lot{{Req: 2, Reserve: 50}, {Req: 5, Reserve: 0}, {Req: 0, Reserve: 7}},
		Commit:   3,
		Reveal:   4,
		Draws:    [][]uint64{{1}, nil, {2, 3}, {}},
	}
}

// chapters is the scene of the chapter's examples.
func chapters() api.Scene {
	return api.Scene{
		Carriers: []api.Carrier{{Fleet: []api.Vehicle{{Cap: 5, End: 99}}}},
		Commit:   1,
		Reveal:   1,
		Draws:    [][]uint64{nil},
	}
}

// carriers makes a scene of so many, of which the first one owns everything.
func carriers(n, requests int) api.Scene {
	s := api.Scene{Commit: 1, Reveal: 1}
	for range n {
		s.Carriers = append(s.Carriers, api.Carrier{Fleet: fleet(1)})
		s.Draws = append(s.Draws, nil)
	}
	s.Requests = slices.Repeat([]api.Request{request()}, requests)
	if n > 0 {
		s.Carriers[0].Own = upTo(requests)
	}
	return s
}

func changed(s api.Scene, change func(s *api.Scene)) api.Scene {
	change(&s)
	return s
}

func told(code api.Errno, phase, index int) api.Fault {
	return api.Fault{Code: code, Phase: phase, Index: index}
}

// extremes are the numbers at the ends of int, and of lesser ones.
func extremes() []int {
	return []int{math.MinInt, math.MinInt + 1, math.MinInt32, math.MaxInt32, math.MaxInt - 1, math.MaxInt}
}

// beside are numbers just outside of a span, and the extremes.
func beside(least, most int) []int { return append(extremes(), least-1, most+1) }

// wrong is a change by which a scene may not be, and what is told of it.
type wrong struct {
	fault  api.Fault
	change func(s *api.Scene)
}

// wrongs are in the order in which they are told: each touches another part than those ahead of it, or less of the same part.
func wrongs() []wrong {
	l := append(wrongLists(), wrongFleets()...)
	l = append(l, wrongTerms()...)
	l = append(l, wrongRequests()...)
	for c := range usual().Carriers {
		l = append(l, wrongVehicles(c)...)
		l = append(l, wrongOwns(c)...)
	}
	l = append(l, ownerless()...)
	return append(l, wrongLots()...)
}

func wrongLists() []wrong {
	var l []wrong
	for _, change := range []func(s *api.Scene){
		func(s *api.Scene) { *s = carriers(8, 65) },
		func(s *api.Scene) { *s = carriers(0, 0) },
		func(s *api.Scene) { *s = carriers(9, 0) },
		func(s *api.Scene) { s.Requests = requests(65) },
		func(s *api.Scene) { s.Requests = requests(1000) },
		func(s *api.Scene) { s.Lots = lots(17) },
		func(s *api.Scene) { s.Lots = make([]api.Lot, 1000) },
		func(s *api.Scene) { s.Carriers = nil },
		func(s *api.Scene) { s.Carriers, s.Draws = nil, nil },
		func(s *api.Scene) { s.Carriers = append(s.Carriers, make([]api.Carrier, 5)...) },
		func(s *api.Scene) { s.Draws = usual().Draws[:3] },
		func(s *api.Scene) { s.Draws = append(usual().Draws, nil) },
		func(s *api.Scene) { s.Draws = nil },
	} {
		l = append(l, wrong{told(api.ErrCount, 0, 0), change})
	}
	return l
}

func wrongFleets() []wrong {
	var l []wrong
	for c := range usual().Carriers {
		for _, n := range []int{0, 5, 6, 1000} {
			l = append(l, wrong{told(api.ErrCount, 0, c), func(s *api.Scene) { s.Carriers[c].Fleet = fleet(n) }})
		}
	}
	return l
}

func wrongTerms() []wrong {
	var l []wrong
	for _, n := range beside(1, 64) {
		l = append(l,
			wrong{told(api.ErrArg, 0, 0), func(s *api.Scene) { s.Commit = n }},
			wrong{told(api.ErrArg, 0, 0), func(s *api.Scene) { s.Reveal = n }})
	}
	for _, n := range beside(0, 1) {
		l = append(l, wrong{told(api.ErrArg, 0, 0), func(s *api.Scene) { s.Scheme = n }})
	}
	return l
}

func wrongRequests() []wrong {
	var l []wrong
	for k := range usual().Requests {
		for _, x := range []struct {
			code   api.Errno
			change func(r *api.Request)
		}{
			{api.ErrPlace, func(r *api.Request) { r.From.X, r.Pick.Late, r.Load = -1, -1, 0 }},
			{api.ErrPlace, func(r *api.Request) { r.To.Y = 1024 }},
			{api.ErrWindow, func(r *api.Request) { r.Pick.Early, r.Serve = 91, -1 }},
			{api.ErrWindow, func(r *api.Request) { r.Drop.Late = math.MaxInt }},
			{api.ErrLoad, func(r *api.Request) { r.Load = 1001 }},
			{api.ErrLoad, func(r *api.Request) { r.Serve = math.MinInt }},
			{api.ErrLoad, func(r *api.Request) { *r = api.Request{} }},
		} {
			l = append(l, wrong{told(x.code, 1, k), func(s *api.Scene) { s.Requests[k] = request(); x.change(&s.Requests[k]) }})
		}
	}
	return l
}

func wrongVehicles(c int) []wrong {
	var l []wrong
	for k := range usual().Carriers[c].Fleet {
		for _, x := range []struct {
			code   api.Errno
			change func(v *api.Vehicle)
		}{
			{api.ErrPlace, func(v *api.Vehicle) { v.Home.Y, v.Cap = math.MinInt, 0 }},
			{api.ErrVehicle, func(v *api.Vehicle) { v.Cap = 100001 }},
			{api.ErrVehicle, func(v *api.Vehicle) { v.Start = 201 }},
			{api.ErrVehicle, func(v *api.Vehicle) { *v = api.Vehicle{} }},
		} {
			l = append(l, wrong{told(x.code, 2, c), func(s *api.Scene) {
				s.Carriers[c].Fleet[k] = vehicle()
				x.change(&s.Carriers[c].Fleet[k])
			}})
		}
	}
	return l
}

// wrongOwns has of a carrier first what is told ahead of its own requests, then what is told behind them.
func wrongOwns(c int) []wrong {
	var l []wrong
	for _, n := range beside(0, len(usual().Requests)-1) {
		l = append(l, wrong{told(api.ErrNone, 2, c), func(s *api.Scene) { s.Carriers[c].Own = append([]int{n}, s.Carriers[c].Own...) }})
	}
	for _, of := range usual().Carriers[:c+1] {
		for _, r := range of.Own {
			l = append(l, wrong{told(api.ErrTwice, 2, c), func(s *api.Scene) { ownMore(s, c, r) }})
		}
	}
	for _, n := range beside(0, len(usual().Requests)-1) {
		l = append(l, wrong{told(api.ErrNone, 2, c), func(s *api.Scene) { ownMore(s, c, n) }})
	}
	return l
}

// ownMore lets all carriers up to this one have what they usually own, so that what it has more is all that is wrong there.
func ownMore(s *api.Scene, c, request int) {
	for k := range c + 1 {
		s.Carriers[k].Own = usual().Carriers[k].Own
	}
	s.Carriers[c].Own = append(s.Carriers[c].Own, request)
}

func ownerless() []wrong {
	var l []wrong
	for r := range usual().Requests {
		l = append(l, wrong{told(api.ErrCount, 2, r), func(s *api.Scene) {
			for c := range s.Carriers {
				s.Carriers[c].Own = slices.DeleteFunc(s.Carriers[c].Own, func(n int) bool { return n == r })
			}
		}})
	}
	return l
}

func wrongLots() []wrong {
	var l []wrong
	for k := range usual().Lots {
		for _, n := range beside(0, len(usual().Requests)-1) {
			l = append(l, wrong{told(api.ErrNone, 3, k), func(s *api.Scene) { s.Lots[k].Req = n }})
		}
		for before := range k {
			l = append(l, wrong{told(api.ErrTwice, 3, k), func(s *api.Scene) { s.Lots[k].Req = usual().Lots[before].Req }})
		}
		for _, n := range beside(0, 1<<24) {
			l = append(l, wrong{told(api.ErrOver, 3, k), func(s *api.Scene) { s.Lots[k].Reserve = n }})
		}
	}
	return l
}

// P5.1: the chapter's examples.
func TestCheckOfTheChapter(t *testing.T) {
	may := api.Request{Load: 1}
	for _, x := range []struct {
		name   string
		change func(s *api.Scene)
		fault  api.Fault
	}{
		{"that", func(s *api.Scene) {}, api.Fault{}},
		{"an empty list of draws", func(s *api.Scene) { s.Draws = [][]uint64{{}} }, api.Fault{}},
		{"a request that nobody owns", func(s *api.Scene) { s.Requests = []api.Request{may} }, told(api.ErrCount, 2, 0)},
		{"it is owned", func(s *api.Scene) {
			s.Requests, s.Carriers[0].Own = []api.Request{may}, []int{0}
		}, api.Fault{}},
		{"two lots of it", func(s *api.Scene) {
			s.Requests, s.Carriers[0].Own, s.Lots = []api.Request{may}, []int{0}, []api.Lot{{}, {}}
		}, told(api.ErrTwice, 3, 1)},
		{"without carriers", func(s *api.Scene) { s.Carriers = nil }, told(api.ErrCount, 0, 0)},
		{"Commit 0", func(s *api.Scene) { s.Commit = 0 }, told(api.ErrArg, 0, 0)},
		{"a zero scene", func(s *api.Scene) { *s = api.Scene{} }, told(api.ErrCount, 0, 0)},
	} {
		if f := api.Told(Check(changed(chapters(), x.change))); f != x.fault {
			t.Errorf("%s: told is %+v; it should be %+v", x.name, f, x.fault)
		}
	}
}

// P5.1: each count and each number at both its ends.
func TestCheckOfThoseThatMayBe(t *testing.T) {
	for k, change := range []func(s *api.Scene){
		func(s *api.Scene) {},
		func(s *api.Scene) { *s = carriers(1, 0) },
		func(s *api.Scene) { *s = carriers(1, 1) },
		func(s *api.Scene) { *s = carriers(1, 64) },
		func(s *api.Scene) { *s = carriers(8, 0) },
		func(s *api.Scene) { *s = carriers(8, 64); s.Lots = lots(16) },
		func(s *api.Scene) { s.Lots = nil },
		func(s *api.Scene) { s.Lots = []api.Lot{} },
		func(s *api.Scene) { s.Lots = lots(1) },
		func(s *api.Scene) { s.Lots = lots(6) },
		func(s *api.Scene) { s.Carriers[1].Fleet = fleet(4) },
		func(s *api.Scene) { s.Carriers[2].Fleet = fleet(1) },
		func(s *api.Scene) { s.Carriers[1].Own = []int{} },
		func(s *api.Scene) { s.Commit = 1 },
		func(s *api.Scene) { s.Commit = 64 },
		func(s *api.Scene) { s.Reveal = 1 },
		func(s *api.Scene) { s.Reveal = 64 },
		func(s *api.Scene) { s.Scheme = api.SchemeHandle },
		func(s *api.Scene) { s.Lots[0].Reserve = 0 },
		func(s *api.Scene) { s.Lots[1].Reserve = 1 << 24 },
		func(s *api.Scene) { s.Draws[0] = make([]uint64, 1000) },
		func(s *api.Scene) { s.Draws[3] = []uint64{math.MaxUint64, 0, 0} },
		func(s *api.Scene) { s.Draws = make([][]uint64, 4) },
		func(s *api.Scene) {
			s.Requests[3] = api.Request{From: api.Place{X: 1023, Y: 1023}, Pick: api.Window{Early: 1 << 20, Late: 1 << 20}, Load: 1000, Serve: 1000}
		},
		func(s *api.Scene) { s.Carriers[3].Fleet[2] = api.Vehicle{Cap: 100000, Start: 1 << 20, End: 1 << 20} },
		func(s *api.Scene) { s.Carriers[0].Fleet[1] = api.Vehicle{Cap: 1} },
	} {
		if err := Check(changed(usual(), change)); err != nil {
			t.Errorf("the change %d: %+v", k, api.Told(err))
		}
	}
}

// P5.1: all that may be wrong, alone, and two by two: the first one is told.
func TestCheckOfThoseThatMayNotBe(t *testing.T) {
	l := wrongs()
	for k, x := range l {
		if f := api.Told(Check(changed(usual(), x.change))); f != x.fault {
			t.Errorf("the wrong %d is told as %+v; it should be %+v", k, f, x.fault)
		}
		for j, y := range l[k+1:] {
			s := changed(changed(usual(), y.change), x.change)
			if f := api.Told(Check(s)); f != x.fault {
				t.Fatalf("the wrongs %d and %d are told as %+v; it should be %+v", k, k+1+j, f, x.fault)
			}
		}
	}
}

// P5.1: of one carrier's own requests, and of one lot's numbers, the first place is told, whatever is wrong there.
func TestCheckByPlaces(t *testing.T) {
	for _, x := range []struct {
		name   string
		change func(s *api.Scene)
		fault  api.Fault
	}{
		{"twice, then none", func(s *api.Scene) { s.Carriers[0].Own = []int{4, 4, 6} }, told(api.ErrTwice, 2, 0)},
		{"none, then twice", func(s *api.Scene) { s.Carriers[0].Own = []int{6, 4, 4} }, told(api.ErrNone, 2, 0)},
		{"none between twice", func(s *api.Scene) { s.Carriers[0].Own = []int{4, -1, 4} }, told(api.ErrNone, 2, 0)},
		{"none, two times", func(s *api.Scene) { s.Carriers[3].Own = []int{5, 9, 9} }, told(api.ErrNone, 2, 3)},
		{"the other one's, then none", func(s *api.Scene) { s.Carriers[2].Own = []int{4, -1} }, told(api.ErrTwice, 2, 2)},
		{"owned ahead by who is told first", func(s *api.Scene) { s.Carriers[1].Own = []int{5} }, told(api.ErrTwice, 2, 3)},
		{"owned three times", func(s *api.Scene) { s.Carriers[1].Own = []int{5, 5} }, told(api.ErrTwice, 2, 1)},
		{"a vehicle behind an own one", func(s *api.Scene) { s.Carriers[2].Fleet[3].Cap = 0; s.Carriers[0].Own = []int{6} }, told(api.ErrNone, 2, 0)},
		{"a vehicle ahead of an own one", func(s *api.Scene) { s.Carriers[2].Fleet[3].Cap = 0; s.Carriers[2].Own = []int{6} }, told(api.ErrVehicle, 2, 2)},
		{"one owned by none, and one twice", func(s *api.Scene) { s.Carriers[3].Own = []int{1} }, told(api.ErrTwice, 2, 3)},
		{"two owned by none", func(s *api.Scene) { s.Carriers[2].Own = []int{3} }, told(api.ErrCount, 2, 1)},
		{"no request, but an own one", func(s *api.Scene) { s.Requests = nil }, told(api.ErrNone, 2, 0)},
		{"no request, but a lot", func(s *api.Scene) { *s = carriers(1, 0); s.Lots = lots(1) }, told(api.ErrNone, 3, 0)},
		{"a lot of no request, at no reserve", func(s *api.Scene) { s.Lots[1] = api.Lot{Req: 6, Reserve: -1} }, told(api.ErrNone, 3, 1)},
		{"a lot again, at no reserve", func(s *api.Scene) { s.Lots[1] = api.Lot{Req: 2, Reserve: -1} }, told(api.ErrTwice, 3, 1)},
		{"a lot at no reserve, then again", func(s *api.Scene) { s.Lots[0].Reserve = 1<<24 + 1; s.Lots[1].Req = 2 }, told(api.ErrOver, 3, 0)},
		{"two lots of the same none", func(s *api.Scene) { s.Lots = []api.Lot{{Req: 1}, {Req: 7}, {Req: 7}} }, told(api.ErrNone, 3, 1)},
		{"a lot three times", func(s *api.Scene) { s.Lots = []api.Lot{{Req: 3}, {Req: 1}, {Req: 3}, {Req: 3}} }, told(api.ErrTwice, 3, 2)},
	} {
		if f := api.Told(Check(changed(usual(), x.change))); f != x.fault {
			t.Errorf("%s: told is %+v; it should be %+v", x.name, f, x.fault)
		}
	}
}

// P5.1: an error is, or wraps, a fault of its own, which the caller may change; its text and its number are the fault's.
func TestCheckTellsFaults(t *testing.T) {
	for _, x := range wrongs() {
		s := changed(usual(), x.change)
		err := Check(s)
		var f *api.Fault
		if !errors.As(err, &f) || *f != x.fault {
			t.Fatalf("%v has not the fault %+v", err, x.fault)
		}
		if !errors.Is(err, x.fault.Code) || err.Error() != x.fault.Code.Error() {
			t.Fatalf("%v is not of the number %v", err, x.fault.Code)
		}
		*f = told(api.ErrNil, 9, 9)
		if g := api.Told(Check(s)); g != x.fault {
			t.Fatalf("behind a change of what was told it is %+v; it should be %+v", g, x.fault)
		}
	}
}

// oddOwns are own requests, all numbers of which are asked of a scene of so many requests.
func oddOwns(n int, own ...[]int) api.Scene {
	s := api.Scene{Requests: make([]api.Request, n)}
	for _, l := range own {
		s.Carriers = append(s.Carriers, api.Carrier{Own: l})
	}
	return s
}

// P5.2: owners of scenes that may be, and of those that may not: nobody's requests, those of several, numbers of none, more than there may be.
func TestOwnersByHand(t *testing.T) {
	many := slices.Repeat([]int{-1}, 100)
	many[99], many[64] = 19, 0
	for _, x := range []struct {
		name   string
		s      api.Scene
		owners []int
	}{
		{"the usual scene", usual(), []int{0, 2, 2, 2, 0, 3}},
		{"the chapter's", chapters(), nil},
		{"the greatest", carriers(8, 64), make([]int, 64)},
		{"a zero scene", api.Scene{}, nil},
		{"without carriers", oddOwns(2), []int{-1, -1}},
		{"without requests", oddOwns(0, []int{0, 1}), nil},
		{"nobody's", oddOwns(3, nil, []int{1}), []int{-1, 1, -1}},
		{"of one, twice", oddOwns(2, []int{1}, []int{0, 0}), []int{1, 0}},
		{"of two", oddOwns(2, []int{1}, []int{0, 1}), []int{1, 0}},
		{"of three, the last one's first", oddOwns(2, nil, []int{0}, []int{1, 0}, []int{1, 0}), []int{1, 2}},
		{"numbers of none", oddOwns(2, []int{-1, 2}, append(extremes(), 1), extremes()), []int{-1, 1}},
		{"a number below 0 alone", oddOwns(1, []int{-1}), []int{-1}},
		{"a number behind the last one alone", oddOwns(1, []int{1}), []int{-1}},
		{"too many of all", oddOwns(100, append(slices.Repeat([][]int{{64}}, 19), []int{99, 64})...), many},
	} {
		if l := Owners(x.s); !slices.Equal(l, x.owners) {
			t.Errorf("%s: the owners are %v; they should be %v", x.name, l, x.owners)
		}
	}
}

// P5.2: whatever else may not be, owners are told, as of the same scene with nothing else in it.
func TestOwnersOfThoseThatMayNotBe(t *testing.T) {
	for k, x := range wrongs() {
		s := changed(usual(), x.change)
		if l, m := Owners(s), ownersByHand(s); !slices.Equal(l, m) {
			t.Errorf("the wrong %d: the owners are %v; they should be %v", k, l, m)
		}
	}
}

// ownersByHand goes from the last carrier to the first one, so that the first one stays.
func ownersByHand(s api.Scene) []int {
	l := slices.Repeat([]int{-1}, len(s.Requests))
	for r := range l {
		for c := len(s.Carriers) - 1; c >= 0; c-- {
			if slices.Contains(s.Carriers[c].Own, r) {
				l[r] = c
			}
		}
	}
	return l
}

// P5.1, P5.2: scenes with several things wrong at random, held against a search through all of them, place by place.
func TestAtRandom(t *testing.T) {
	random := rand.New(rand.NewSource(5))
	l := wrongs()
	may := 0
	for k := range 20000 {
		s := someScene(random)
		if k%2 == 0 {
			s = usual()
			shuffle(random, s)
			for range random.Intn(4) {
				if x := l[random.Intn(len(l))]; x.fault.Phase > 0 {
					x.change(&s)
				}
			}
		}
		f, want := api.Told(Check(s)), faultByHand(s)
		if f != want {
			t.Fatalf("%+v is told as %+v; it should be %+v", s, f, want)
		}
		if f.Code == api.OK {
			may++
		}
		if o := Owners(s); !slices.Equal(o, ownersByHand(s)) {
			t.Fatalf("the owners of %+v are %v; they should be %v", s, o, ownersByHand(s))
		}
	}
	if may < 100 {
		t.Errorf("only %d of the scenes may be", may)
	}
}

// someScene has now and then wrong own requests and lots.
func someScene(random *rand.Rand) api.Scene {
	s := carriers(1+random.Intn(8), random.Intn(10))
	s.Carriers[0].Own = nil
	for c := range s.Carriers {
		s.Carriers[c].Fleet = fleet(1 + random.Intn(4))
	}
	for _, r := range random.Perm(len(s.Requests)) {
		c := random.Intn(len(s.Carriers))
		s.Carriers[c].Own = append(s.Carriers[c].Own, r)
		if random.Intn(40) == 0 {
			s.Carriers[c].Own = append(s.Carriers[c].Own, random.Intn(len(s.Requests)+2)-1)
		}
	}
	for _, r := range random.Perm(len(s.Requests))[:random.Intn(len(s.Requests)+1)] {
		s.Lots = append(s.Lots, api.Lot{Req: r, Reserve: random.Intn(1<<24 + 1)})
		if random.Intn(40) == 0 {
			s.Lots = append(s.Lots, api.Lot{Req: random.Intn(len(s.Requests)+2) - 1})
		}
	}
	return s
}

// faultByHand is that of a scene whose counts and terms may be, with the requests and vehicles of wrongs: all faults are told, the first one is taken.
func faultByHand(s api.Scene) api.Fault {
	l := []api.Fault{}
	none := func(r int) bool { return r < 0 || r >= len(s.Requests) }
	for k, r := range s.Requests {
		if r.From.X < 0 || r.To.Y > 1023 {
			l = append(l, told(api.ErrPlace, 1, k))
		} else if r.Pick.Early > r.Pick.Late || r.Drop.Late > 1<<20 {
			l = append(l, told(api.ErrWindow, 1, k))
		} else if r.Load < 1 || r.Load > 1000 || r.Serve < 0 {
			l = append(l, told(api.ErrLoad, 1, k))
		}
	}
	ahead := []int{}
	for c, of := range s.Carriers {
		for _, v := range of.Fleet {
			if v.Home.Y < 0 {
				l = append(l, told(api.ErrPlace, 2, c))
			} else if v.Cap < 1 || v.Cap > 100000 || v.Start > v.End {
				l = append(l, told(api.ErrVehicle, 2, c))
			}
		}
		for _, r := range of.Own {
			if none(r) {
				l = append(l, told(api.ErrNone, 2, c))
			} else if slices.Contains(ahead, r) {
				l = append(l, told(api.ErrTwice, 2, c))
			}
			ahead = append(ahead, r)
		}
	}
	for r := range s.Requests {
		if !slices.Contains(ahead, r) {
			l = append(l, told(api.ErrCount, 2, r))
		}
	}
	for k, lot := range s.Lots {
		same := func(o api.Lot) bool { return o.Req == lot.Req }
		if none(lot.Req) {
			l = append(l, told(api.ErrNone, 3, k))
		} else if slices.ContainsFunc(s.Lots[:k], same) {
			l = append(l, told(api.ErrTwice, 3, k))
		} else if lot.Reserve < 0 || lot.Reserve > 1<<24 {
			l = append(l, told(api.ErrOver, 3, k))
		}
	}
	return append(l, api.Fault{})[0]
}

// P5.3: in scenes that may be each request has one owner, each lot is of another request, and no order makes a difference.
func TestOrderMakesNoDifference(t *testing.T) {
	random := rand.New(rand.NewSource(6))
	may := 0
	for range 5000 {
		s := someScene(random)
		for c, of := range s.Carriers {
			for k := range of.Fleet {
				s.Carriers[c].Fleet[k].Cap = 1 + random.Intn(9)
			}
		}
		if Check(s) != nil {
			continue
		}
		may++
		for r, c := range Owners(s) {
			if n := holders(s, r); len(n) != 1 || n[0] != c {
				t.Fatalf("%v have the request %d, which is owned by %d", n, r, c)
			}
		}
		for _, lot := range s.Lots {
			if n := slices.DeleteFunc(slices.Clone(s.Lots), func(o api.Lot) bool { return o.Req != lot.Req }); len(n) != 1 {
				t.Fatalf("the request %d is that of the lots %v", lot.Req, n)
			}
		}
		owners := Owners(s)
		shuffle(random, s)
		if err := Check(s); err != nil || !slices.Equal(Owners(s), owners) {
			t.Fatalf("in another order told is %+v, and the owners %v; they should be %v", api.Told(err), Owners(s), owners)
		}
	}
	if may < 100 {
		t.Errorf("only %d of the scenes may be", may)
	}
}

// holders has a carrier as often as its own requests have r.
func holders(s api.Scene, r int) []int {
	var l []int
	for c, of := range s.Carriers {
		for _, n := range of.Own {
			if n == r {
				l = append(l, c)
			}
		}
	}
	return l
}

func shuffle(random *rand.Rand, s api.Scene) {
	for _, of := range s.Carriers {
		random.Shuffle(len(of.Fleet), func(i, j int) { of.Fleet[i], of.Fleet[j] = of.Fleet[j], of.Fleet[i] })
		random.Shuffle(len(of.Own), func(i, j int) { of.Own[i], of.Own[j] = of.Own[j], of.Own[i] })
	}
	random.Shuffle(len(s.Lots), func(i, j int) { s.Lots[i], s.Lots[j] = s.Lots[j], s.Lots[i] })
}

// P5.1, P5.2: a scene is not changed, whether it may be or not, and owners that are changed change nothing.
func TestNothingIsChanged(t *testing.T) {
	for _, x := range append(wrongs(), wrong{api.Fault{}, func(s *api.Scene) {}}) {
		s, same := changed(usual(), x.change), changed(usual(), x.change)
		err := Check(s)
		l := Owners(s)
		if !reflect.DeepEqual(s, same) {
			t.Fatalf("%+v has become %+v", same, s)
		}
		for k := range l {
			l[k] = 7
		}
		if !reflect.DeepEqual(s, same) || !slices.Equal(Owners(s), ownersByHand(same)) || api.Told(err) != x.fault {
			t.Fatalf("with changed owners of %+v they are %v", s, Owners(s))
		}
	}
}

// P5.1: the texts of the numbers that a scene tells.
func TestTexts(t *testing.T) {
	for code, change := range map[api.Errno]func(s *api.Scene){
		api.ErrCount: func(s *api.Scene) { s.Draws = nil },
		api.ErrArg:   func(s *api.Scene) { s.Scheme = api.Schemes },
		api.ErrOver:  func(s *api.Scene) { s.Lots[0].Reserve = -1 },
	} {
		text := "consign " + strconv.Itoa(100 + int(code))[1:]
		if err := Check(changed(usual(), change)); err == nil || err.Error() != text {
			t.Errorf("the error is %v; it should be %s", err, text)
		}
	}
}
