package route

import (
	"iter"
	"math"
	"math/rand"
	"slices"
	"strconv"
	"strings"
	"testing"

	"consign/api"
)

func pick(req int) api.Stop { return api.Stop{Req: req, Kind: 0} }

func drop(req int) api.Stop { return api.Stop{Req: req, Kind: 1} }

// of is the row that a text tells: P3 is a Pick of 3, D3 its Drop, X3 a stop of it that is neither.
func of(text string) []api.Stop {
	var l []api.Stop
	for _, word := range strings.Fields(text) {
		req, err := strconv.Atoi(word[1:])
		if err != nil {
			panic(err)
		}
		l = append(l, api.Stop{Req: req, Kind: strings.Index("PDX", word[:1])})
	}
	return l
}

// routeOf has so many requests, each dropped ahead of the next one's Pick, or all of them picked up ahead of all Drops.
func routeOf(n int, apart bool) []api.Stop {
	var l, drops []api.Stop
	for k := range n {
		l = append(l, pick(k))
		if apart {
			l = append(l, drop(k))
		} else {
			drops = append(drops, drop(k))
		}
	}
	return append(l, drops...)
}

// extremes are the numbers at the ends of int, and of lesser ones.
func extremes() []int {
	return []int{math.MinInt, math.MinInt + 1, math.MinInt32 - 1, math.MinInt32, math.MaxInt32, math.MaxInt32 + 1, math.MaxInt - 1, math.MaxInt}
}

// stopsOf are all stops of these requests and kinds.
func stopsOf(reqs, kinds []int) []api.Stop {
	var l []api.Stop
	for _, r := range reqs {
		for _, k := range kinds {
			l = append(l, api.Stop{Req: r, Kind: k})
		}
	}
	return l
}

// rowsOf goes through all rows of up to so many of these stops; a row is to be kept by nobody.
func rowsOf(stops []api.Stop, most int) iter.Seq[[]api.Stop] {
	return func(yield func([]api.Stop) bool) {
		var longer func(l []api.Stop) bool
		longer = func(l []api.Stop) bool {
			if !yield(l) {
				return false
			}
			for _, s := range stops {
				if len(l) < most && !longer(append(l, s)) {
					return false
				}
			}
			return true
		}
		longer(make([]api.Stop, 0, most))
	}
}

// small are all rows of a few stops: of requests and kinds that are none, too, and longer ones of three requests.
func small() iter.Seq[[]api.Stop] {
	return func(yield func([]api.Stop) bool) {
		for l := range rowsOf(stopsOf([]int{-1, 0, 1}, []int{-1, 0, 1, 2}), 4) {
			if !yield(l) {
				return
			}
		}
		for l := range rowsOf(stopsOf([]int{0, 2, 5}, []int{0, 1}), 6) {
			if !yield(l) {
				return
			}
		}
	}
}

// anyRoute has so many requests, in any order, with any numbers.
func anyRoute(r *rand.Rand, n int) []api.Stop {
	var l []api.Stop
	for _, req := range r.Perm(64)[:n] {
		i := r.Intn(len(l) + 1)
		j := i + r.Intn(len(l)+1-i)
		l = slices.Insert(l, j, drop(req))
		l = slices.Insert(l, i, pick(req))
	}
	return l
}

// great are routes up to beyond the limit, and rows that are one change off.
func great() iter.Seq[[]api.Stop] {
	return func(yield func([]api.Stop) bool) {
		r := rand.New(rand.NewSource(1))
		for range 4000 {
			l := anyRoute(r, r.Intn(10))
			if !yield(l) || !yield(spoilt(r, l)) {
				return
			}
		}
	}
}

func spoilt(r *rand.Rand, l []api.Stop) []api.Stop {
	l = slices.Clone(l)
	if len(l) == 0 {
		return append(l, drop(r.Intn(64)))
	}
	k := r.Intn(len(l))
	switch r.Intn(6) {
	case 0:
		return slices.Delete(l, k, k+1)
	case 1:
		return slices.Insert(l, k, l[r.Intn(len(l))])
	case 2:
		l[k].Kind = r.Intn(6) - 2
	case 3:
		l[k].Req = r.Intn(70) - 3
	case 4:
		j := r.Intn(len(l))
		l[k], l[j] = l[j], l[k]
	default:
		l[k].Req = extremes()[r.Intn(8)]
	}
	return l
}

// all are the rows over which each promise is held against the document's words.
func all() iter.Seq[[]api.Stop] {
	return func(yield func([]api.Stop) bool) {
		for _, rows := range []iter.Seq[[]api.Stop]{small(), great()} {
			for l := range rows {
				if !yield(l) {
					return
				}
			}
		}
	}
}

// asked are the requests of a row, and some that it may not have.
func asked(l []api.Stop) []int {
	reqs := []int{-1, 0, 1, 3}
	for _, s := range l {
		reqs = append(reqs, s.Req)
	}
	slices.Sort(reqs)
	return slices.Compact(reqs)
}

// at is where the first such stop stands.
func at(l []api.Stop, s api.Stop) int {
	for k := range l {
		if l[k].Req == s.Req && l[k].Kind == s.Kind {
			return k
		}
	}
	return -1
}

func count(l []api.Stop, s api.Stop) int {
	n := 0
	for k := range l {
		if l[k] == s {
			n++
		}
	}
	return n
}

// says is what the document's words say of a row: its code, by going through it anew for each stop.
func says(l []api.Stop) api.Errno {
	if len(l) > 16 {
		return api.ErrCount
	}
	for _, s := range l {
		may := s.Req >= 0 && (s.Kind == 0 || s.Kind == 1)
		if !may || count(l, pick(s.Req)) != 1 || count(l, drop(s.Req)) != 1 || at(l, pick(s.Req)) > at(l, drop(s.Req)) {
			return api.ErrStop
		}
	}
	return api.OK
}

// has tells whether any stop is of it.
func has(l []api.Stop, req int) bool {
	return slices.ContainsFunc(l, func(s api.Stop) bool { return s.Req == req })
}

// laid is a row with a request more, place by place.
func laid(l []api.Stop, req, i, j int) []api.Stop {
	var row []api.Stop
	for place := 0; place <= len(l); place++ {
		if place == i {
			row = append(row, pick(req))
		}
		if place == j {
			row = append(row, drop(req))
		}
		if place < len(l) {
			row = append(row, l[place])
		}
	}
	return row
}

// P6.1, P6.2, P6.3: the chapter's examples, and that of the whole.
func TestOfTheChapter(t *testing.T) {
	if l := of("P3 P1 D3 D1"); Check(l) != api.OK || !slices.Equal(Requests(l), []int{3, 1}) {
		t.Errorf("%v is %v, of %v", l, Check(l), Requests(l))
	}
	for _, text := range []string{"D3 P3", "P3", "P3 D3 P3 D3"} {
		if l := of(text); Check(l) != api.ErrStop || len(Requests(l)) != 0 {
			t.Errorf("%s is %v, of %v", text, Check(l), Requests(l))
		}
	}
	for _, x := range []struct {
		req, i, j int
		row       string
		is        bool
	}{
		{1, 1, 1, "P3 P1 D1 D3", true},
		{1, 0, 2, "P1 P3 D3 D1", true},
		{1, 1, 0, "", false},
		{3, 0, 0, "", false},
	} {
		if row, is := With(of("P3 D3"), x.req, x.i, x.j); is != x.is || !slices.Equal(row, of(x.row)) {
			t.Errorf("With(P3 D3, %d, %d, %d) is %v, %v", x.req, x.i, x.j, row, is)
		}
	}
}

// P6.1: each way in which a row is a route, and in which it is none.
func TestCheckByHand(t *testing.T) {
	for _, x := range []struct {
		row      string
		code     api.Errno
		requests []int
	}{
		{"", api.OK, nil},
		{"P0 D0", api.OK, []int{0}},
		{"P9223372036854775807 D9223372036854775807", api.OK, []int{math.MaxInt}},
		{"P7 D7 P2 D2", api.OK, []int{7, 2}},
		{"P7 P2 D2 D7", api.OK, []int{7, 2}},
		{"P2 P7 D2 D7", api.OK, []int{2, 7}},
		{"P5 P0 D5 P9 D0 P3 D3 D9", api.OK, []int{5, 0, 9, 3}},
		{"P0", api.ErrStop, nil},
		{"D0", api.ErrStop, nil},
		{"D0 P0", api.ErrStop, nil},
		{"P0 P0", api.ErrStop, nil},
		{"D0 D0", api.ErrStop, nil},
		{"P0 D1", api.ErrStop, nil},
		{"P0 P0 D0", api.ErrStop, nil},
		{"P0 D0 D0", api.ErrStop, nil},
		{"P0 D0 P0", api.ErrStop, nil},
		{"D0 P0 D0", api.ErrStop, nil},
		{"P0 P0 D0 D0", api.ErrStop, nil},
		{"P0 D0 P0 D0", api.ErrStop, nil},
		{"P0 D0 X0", api.ErrStop, nil},
		{"P0 D0 X0 X0", api.ErrStop, nil},
		{"P0 X0", api.ErrStop, nil},
		{"X0 P0 D0", api.ErrStop, nil},
		{"P0 P1 D0", api.ErrStop, nil},
		{"P0 P1 D0 D0", api.ErrStop, nil},
		{"P0 D0 D1 P1", api.ErrStop, nil},
		{"D1 P1 P0 D0", api.ErrStop, nil},
		{"P-1 D-1", api.ErrStop, nil},
		{"P0 D0 P-1 D-1", api.ErrStop, nil},
		{"P-9223372036854775808 D-9223372036854775808", api.ErrStop, nil},
	} {
		if l := of(x.row); Check(l) != x.code || !slices.Equal(Requests(l), x.requests) {
			t.Errorf("%q is %v, of %v; it should be %v, of %v", x.row, Check(l), Requests(l), x.code, x.requests)
		}
	}
	if Check([]api.Stop{}) != api.OK || len(Requests([]api.Stop{})) != 0 {
		t.Errorf("a row without stops is %v", Check([]api.Stop{}))
	}
}

// P6.1: just as many stops as there may be, and more: that is told ahead of whatever else is wrong.
func TestCheckOfManyStops(t *testing.T) {
	sixteen := []int{0, 1, 2, 3, 4, 5, 6, 7}
	for _, apart := range []bool{true, false} {
		if l := routeOf(8, apart); len(l) != 16 || Check(l) != api.OK || !slices.Equal(Requests(l), sixteen) {
			t.Errorf("%v is %v, of %v", l, Check(l), Requests(l))
		}
		if l := append(routeOf(7, apart), drop(7), pick(7)); Check(l) != api.ErrStop || len(Requests(l)) != 0 {
			t.Errorf("%v is %v, of %v", l, Check(l), Requests(l))
		}
		for _, n := range []int{9, 10, 50, 5000} {
			if l := routeOf(n, apart); Check(l) != api.ErrCount || len(Requests(l)) != 0 {
				t.Errorf("a route of %d requests, but for its length, is %v, of %v", n, Check(l), Requests(l))
			}
		}
		for _, s := range stopsOf([]int{-1, 0, 8}, []int{-1, 0, 1, 2}) {
			for k := range 17 {
				if l := slices.Insert(routeOf(8, apart), k, s); Check(l) != api.ErrCount || len(Requests(l)) != 0 {
					t.Errorf("%v is %v, of %v", l, Check(l), Requests(l))
				}
			}
		}
	}
	for _, s := range append(stopsOf(extremes(), []int{0, 1, 2}), stopsOf([]int{0}, extremes())...) {
		for n, code := range map[int]api.Errno{1: api.ErrStop, 15: api.ErrStop, 16: api.ErrStop, 17: api.ErrCount, 18: api.ErrCount} {
			if l := slices.Repeat([]api.Stop{s}, n); Check(l) != code || len(Requests(l)) != 0 {
				t.Errorf("%d times %v is %v, of %v; it should be %v", n, s, Check(l), Requests(l), code)
			}
		}
	}
}

// P6.1: a Kind that is none, at numbers' ends and beside those that are, and a request below 0, anywhere in a route.
func TestCheckOfOneWrongStop(t *testing.T) {
	for _, route := range [][]api.Stop{of("P0 D0"), of("P3 P1 D3 D1"), routeOf(8, false)} {
		for k := range route {
			for _, kind := range append(extremes(), -2, -1, 2, 3, 4) {
				l := slices.Clone(route)
				l[k].Kind = kind
				if Check(l) != api.ErrStop || len(Requests(l)) != 0 {
					t.Errorf("%v is %v, of %v", l, Check(l), Requests(l))
				}
			}
		}
		for req := range 4 {
			for _, below := range []int{-1, -2, -64, math.MinInt32, math.MinInt} {
				l := slices.Clone(route)
				for k := range l {
					if l[k].Req == req {
						l[k].Req = below
					}
				}
				if has(route, req) && (Check(l) != api.ErrStop || len(Requests(l)) != 0) {
					t.Errorf("%v is %v, of %v", l, Check(l), Requests(l))
				}
			}
		}
	}
}

// P6.1: over all rows of a few stops, and routes of many and what is one change off, it is as the words say.
func TestCheckAsTheWordsSay(t *testing.T) {
	told := map[api.Errno]int{}
	for l := range all() {
		code := says(l)
		told[code]++
		if Check(l) != code {
			t.Fatalf("%v is %v; it should be %v", l, Check(l), code)
		}
		var requests []int
		for _, s := range l {
			if code == api.OK && s.Kind == 0 {
				requests = append(requests, s.Req)
			}
		}
		if r := Requests(l); !slices.Equal(r, requests) {
			t.Fatalf("%v is of %v; it should be of %v", l, r, requests)
		}
	}
	if told[api.OK] < 3000 || told[api.ErrStop] < 3000 || told[api.ErrCount] < 500 {
		t.Errorf("told is %v", told)
	}
}

// P6.2: routes, rows that are none, requests that are not there, and rows that are too long.
func TestWithoutAndAtByHand(t *testing.T) {
	for _, x := range []struct {
		row     string
		req     int
		without string
		pick    int
		drop    int
	}{
		{"", 0, "", -1, -1},
		{"", -1, "", -1, -1},
		{"P0 D0", 0, "", 0, 1},
		{"P0 D0", 1, "P0 D0", -1, -1},
		{"P0 D0", -1, "P0 D0", -1, -1},
		{"P3 P1 D3 D1", 3, "P1 D1", 0, 2},
		{"P3 P1 D3 D1", 1, "P3 D3", 1, 3},
		{"P3 P1 D3 D1", 0, "P3 P1 D3 D1", -1, -1},
		{"D3 P3", 3, "", 1, 0},
		{"P3", 3, "", 0, -1},
		{"D3", 3, "", -1, 0},
		{"X3", 3, "", -1, -1},
		{"X3 D3 X3 P3", 3, "", 3, 1},
		{"D1 P0 P1 X1 D1 P1 D0 D1", 1, "P0 D0", 2, 0},
		{"P2 D2 P2 D2 P1", 2, "P1", 0, 1},
		{"P-1 D-1 P0", -1, "P0", 0, 1},
		{"P-1 D-1 P0", 0, "P-1 D-1", 2, -1},
		{"P9223372036854775807 D-9223372036854775808 P0", math.MaxInt, "D-9223372036854775808 P0", 0, -1},
		{"P9223372036854775807 D-9223372036854775808 P0", math.MinInt, "P9223372036854775807 P0", -1, 1},
	} {
		l := of(x.row)
		if row := Without(l, x.req); !slices.Equal(row, of(x.without)) {
			t.Errorf("Without(%s, %d) is %v; it should be %s", x.row, x.req, row, x.without)
		}
		if pick, drop := At(l, x.req); pick != x.pick || drop != x.drop {
			t.Errorf("At(%s, %d) is %d, %d; it should be %d, %d", x.row, x.req, pick, drop, x.pick, x.drop)
		}
	}
	long := append(routeOf(5000, false), routeOf(5000, false)...)
	if row := Without(long, 77); len(row) != 19996 || has(row, 77) {
		t.Errorf("%d stops are left of %d", len(row), len(long))
	}
	if pick, drop := At(long, 4999); pick != 4999 || drop != 9999 {
		t.Errorf("it is picked up at %d, and dropped at %d", pick, drop)
	}
}

// P6.2: over all rows of a few stops, and routes of many and what is one change off, it is as the words say.
func TestWithoutAndAtAsTheWordsSay(t *testing.T) {
	for l := range all() {
		for _, req := range asked(l) {
			var others []api.Stop
			for _, s := range l {
				if s.Req != req {
					others = append(others, s)
				}
			}
			if row := Without(l, req); !slices.Equal(row, others) {
				t.Fatalf("Without(%v, %d) is %v; it should be %v", l, req, row, others)
			}
			if p, d := At(l, req); p != at(l, pick(req)) || d != at(l, drop(req)) {
				t.Fatalf("At(%v, %d) is %d, %d", l, req, p, d)
			}
		}
	}
}

// P6.3: at all places of a few rows, and beside them: at both ends, at the same one, and the wrong way round.
func TestWithByHand(t *testing.T) {
	for _, x := range []struct {
		row       string
		req, i, j int
		with      string
		is        bool
	}{
		{"", 0, 0, 0, "P0 D0", true},
		{"", math.MaxInt, 0, 0, "P9223372036854775807 D9223372036854775807", true},
		{"", 0, 0, 1, "", false},
		{"", 0, 1, 1, "", false},
		{"", 0, -1, 0, "", false},
		{"", 0, -1, -1, "", false},
		{"", 0, 0, -1, "", false},
		{"", -1, 0, 0, "", false},
		{"", math.MinInt, 0, 0, "", false},
		{"P3 D3", 1, 0, 0, "P1 D1 P3 D3", true},
		{"P3 D3", 1, 0, 1, "P1 P3 D1 D3", true},
		{"P3 D3", 1, 1, 2, "P3 P1 D3 D1", true},
		{"P3 D3", 1, 2, 2, "P3 D3 P1 D1", true},
		{"P3 D3", 0, 0, 2, "P0 P3 D3 D0", true},
		{"P3 D3", 1, 0, 3, "", false},
		{"P3 D3", 1, 2, 3, "", false},
		{"P3 D3", 1, 3, 3, "", false},
		{"P3 D3", 1, 2, 1, "", false},
		{"P3 D3", 1, 2, 0, "", false},
		{"P3 D3", 1, -1, 1, "", false},
		{"P3 D3", -1, 1, 1, "", false},
		{"P3 D3", 3, 1, 1, "", false},
		{"P3", 3, 0, 0, "", false},
		{"D3", 3, 0, 0, "", false},
		{"X3", 3, 0, 0, "", false},
		{"P3", 1, 1, 1, "P3 P1 D1", true},
		{"D3 P3 X3 P-1", 1, 1, 3, "D3 P1 P3 X3 D1 P-1", true},
		{"P-1", -1, 0, 0, "", false},
	} {
		if row, is := With(of(x.row), x.req, x.i, x.j); is != x.is || !slices.Equal(row, of(x.with)) {
			t.Errorf("With(%s, %d, %d, %d) is %v, %v; it should be %s, %v", x.row, x.req, x.i, x.j, row, is, x.with, x.is)
		}
	}
}

// P6.3: just as many stops as there may be, and more, of routes and of rows that are none.
func TestWithOfManyStops(t *testing.T) {
	long := routeOf(8, true)
	for n := range 20 {
		rows := [][]api.Stop{slices.Repeat(of("D3"), n), slices.Repeat(of("X-1"), n)}
		if n <= len(long) {
			rows = append(rows, long[:n], routeOf(8, false)[:n])
		}
		for _, l := range rows {
			for i := -1; i <= n+1; i++ {
				for j := -1; j <= n+1; j++ {
					row, is := With(l, 9, i, j)
					if is != (n <= 14 && i >= 0 && i <= j && j <= n) {
						t.Fatalf("With(%v, 9, %d, %d) is %v, %v", l, i, j, row, is)
					}
					if is && !slices.Equal(row, laid(l, 9, i, j)) || !is && len(row) != 0 {
						t.Fatalf("With(%v, 9, %d, %d) is %v, %v", l, i, j, row, is)
					}
				}
			}
		}
	}
	if row, is := With(routeOf(5000, false), 5000, 0, 0); is || len(row) != 0 {
		t.Errorf("of a row of 10000 stops: %v, %v", row, is)
	}
}

// P6.3: over all rows of a few stops, and routes of many and what is one change off, it is as the words say.
func TestWithAsTheWordsSay(t *testing.T) {
	r := rand.New(rand.NewSource(2))
	for l := range all() {
		for _, req := range asked(l) {
			i, j := r.Intn(len(l)+3)-1, r.Intn(len(l)+3)-1
			if r.Intn(2) == 0 {
				i, j = min(i, j), max(i, j)
			}
			row, is := With(l, req, i, j)
			should := 0 <= i && i <= j && j <= len(l) && req >= 0 && !has(l, req) && len(l) <= 14
			if is != should || is && !slices.Equal(row, laid(l, req, i, j)) || !is && len(row) != 0 {
				t.Fatalf("With(%v, %d, %d, %d) is %v, %v", l, req, i, j, row, is)
			}
		}
	}
}

// P6.2, P6.3: places and requests at numbers' ends neither end in a panic nor go round.
func TestAtNumbersEnds(t *testing.T) {
	for _, l := range [][]api.Stop{nil, of("P3 D3"), of("D3"), routeOf(7, true), routeOf(8, true)} {
		for _, n := range extremes() {
			if row := Without(l, n); !slices.Equal(row, l) {
				t.Errorf("Without(%v, %d) is %v", l, n, row)
			}
			if pick, drop := At(l, n); pick != -1 || drop != -1 {
				t.Errorf("At(%v, %d) is %d, %d", l, n, pick, drop)
			}
			if row, is := With(l, n, 0, len(l)); is != (n > 0 && len(l) < 15) || is && !slices.Equal(row, laid(l, n, 0, len(l))) {
				t.Errorf("With(%v, %d, 0, %d) is %v, %v", l, n, len(l), row, is)
			}
			for _, m := range append(extremes(), -1, 0, 1, len(l)) {
				for _, places := range [][2]int{{n, m}, {m, n}} {
					if row, is := With(l, 20, places[0], places[1]); is || len(row) != 0 {
						t.Errorf("With(%v, 20, %d, %d) is %v, %v", l, places[0], places[1], row, is)
					}
				}
			}
		}
	}
}

// P6.4: Without undoes With, of any row, and At tells where With put both.
func TestWithoutUndoesWith(t *testing.T) {
	undone := 0
	for l := range all() {
		for i := 0; i <= len(l); i++ {
			for j := i; j <= len(l); j++ {
				row, is := With(l, 99, i, j)
				if !is {
					continue
				}
				undone++
				if back := Without(row, 99); !slices.Equal(back, l) {
					t.Fatalf("With(%v, 99, %d, %d) is %v, and without it %v", l, i, j, row, back)
				}
				if pick, drop := At(row, 99); pick != i || drop != j+1 {
					t.Fatalf("With(%v, 99, %d, %d) has it at %d, %d", l, i, j, pick, drop)
				}
			}
		}
	}
	if undone < 100000 {
		t.Errorf("%d are undone", undone)
	}
}

// P6.3, P6.4: a row with a request more is a route just if the row is; a route without one of its requests is one, too, of the others in their order.
func TestRoutesStayRoutes(t *testing.T) {
	for l := range all() {
		if len(l) <= 14 {
			if row, is := With(l, 99, len(l)/2, len(l)); !is || Check(row) != Check(l) {
				t.Fatalf("%v is %v, and with a request more %v, %v", l, Check(l), row, Check(row))
			}
		}
		requests := Requests(l)
		for k, req := range requests {
			row := Without(l, req)
			if Check(row) != api.OK || !slices.Equal(Requests(row), slices.Delete(slices.Clone(requests), k, k+1)) {
				t.Fatalf("%v is a route, and without %d it is %v, %v", l, req, row, Check(row))
			}
		}
	}
}

// P6.4: each route with a request comes by With of that without it by just one pair of places.
func TestOnePairOfPlaces(t *testing.T) {
	for l := range all() {
		for _, req := range Requests(l) {
			less, pairs := Without(l, req), 0
			for i := 0; i <= len(less); i++ {
				for j := i; j <= len(less); j++ {
					if row, is := With(less, req, i, j); is && slices.Equal(row, l) {
						pairs++
					}
				}
			}
			if pairs != 1 {
				t.Fatalf("%v comes by %d pairs of places from %v", l, pairs, less)
			}
		}
	}
}

// P6.4: each route comes by putting in its requests one by one, whichever is put in first.
func TestRoutesComeByWith(t *testing.T) {
	r := rand.New(rand.NewSource(3))
	for range 2000 {
		l := anyRoute(r, r.Intn(9))
		requests := Requests(l)
		r.Shuffle(len(requests), func(i, j int) { requests[i], requests[j] = requests[j], requests[i] })
		var row []api.Stop
		for k, req := range requests {
			so := l
			for _, later := range requests[k+1:] {
				so = Without(so, later)
			}
			pick, drop := At(so, req)
			longer, is := With(row, req, pick, drop-1)
			if !is || !slices.Equal(longer, so) {
				t.Fatalf("With(%v, %d, %d, %d) is %v, %v; it should be %v", row, req, pick, drop-1, longer, is, so)
			}
			row = longer
		}
	}
}

// P6.1 to P6.3: a row that was handed in is as it was, and so is what lies behind it, and what is answered is the caller's.
func TestNothingIsShared(t *testing.T) {
	for _, l := range [][]api.Stop{of("P3 P1 D3 D1"), of("D3 X1 P3 P-1"), routeOf(7, true), routeOf(8, false), {}} {
		room := slices.Concat(l, slices.Repeat(of("X7"), 20))
		was, row := slices.Clone(room), room[:len(l)]
		same := func(call string) {
			if !slices.Equal(room, was) {
				t.Fatalf("behind %s of %v there is %v", call, was[:len(l)], room)
			}
		}
		Check(row)
		same("Check")
		for _, requests := range [][]int{Requests(row), Requests(row)} {
			for k := range requests {
				requests[k] = -5
			}
		}
		same("Requests")
		for req := -1; req < 10; req++ {
			At(row, req)
			same("At")
			unlikeRoom(t, room, was, func() []api.Stop { return Without(row, req) })
			for i := 0; i <= len(l); i++ {
				for j := i; j <= len(l); j++ {
					unlikeRoom(t, room, was, func() []api.Stop { with, _ := With(row, req, i, j); return with })
				}
			}
		}
	}
}

// unlikeRoom changes what is answered, up to where its room ends, and asks again.
func unlikeRoom(t *testing.T, room, was []api.Stop, answer func() []api.Stop) {
	t.Helper()
	first, should := answer(), slices.Clone(answer())
	if !slices.Equal(room, was) {
		t.Fatalf("a row was changed from %v to %v", was, room)
	}
	second := answer()
	first = first[:cap(first)]
	for k := range first {
		first[k] = drop(-5)
	}
	if !slices.Equal(room, was) {
		t.Fatalf("an answer was changed, and by that a row, from %v to %v", was, room)
	}
	if !slices.Equal(second, should) {
		t.Fatalf("an answer was changed, and by that another one, from %v to %v", should, second)
	}
}
