package place

import (
	"math"
	"math/rand"
	"slices"
	"testing"

	"consign/api"
)

const last = api.Side - 1

func at(x, y int) api.Place { return api.Place{X: x, Y: y} }

// row is places by their X and Y in turn.
func row(l ...int) []api.Place {
	var out []api.Place
	for i := 0; i < len(l); i += 2 {
		out = append(out, at(l[i], l[i+1]))
	}
	return out
}

func corners() []api.Place { return row(0, 0, 0, last, last, 0, last, last) }

// some are the corners, what lies beside them and at the sides, and places between.
func some() []api.Place {
	var l []api.Place
	for _, x := range []int{0, 1, 511, 512, last - 1, last} {
		for _, y := range []int{0, 2, 512, last - 2, last} {
			l = append(l, at(x, y))
		}
	}
	r := rand.New(rand.NewSource(1))
	for range 30 {
		l = append(l, at(r.Intn(api.Side), r.Intn(api.Side)))
	}
	return l
}

// off are places of which X, or Y, or both, are beside the grid or at the numbers' ends.
func off() []api.Place {
	var l []api.Place
	bad := []int{-1, api.Side, -api.Side, api.Side + 1, 1 << 32, -1 << 32, math.MinInt, math.MinInt + 1, math.MaxInt, math.MaxInt - 1}
	for _, n := range bad {
		l = append(l, at(n, 0), at(0, n), at(n, last), at(last, n), at(n, 7), at(7, n))
		for _, m := range bad {
			l = append(l, at(n, m))
		}
	}
	return l
}

// P2.1: the sides of the grid are in it, and what is one beside them is not.
func TestMay(t *testing.T) {
	for _, p := range some() {
		if !May(p) {
			t.Errorf("May(%v) is false", p)
		}
	}
	for _, p := range off() {
		if May(p) {
			t.Errorf("May(%v) is true", p)
		}
	}
	for x := -3; x < api.Side+3; x++ {
		for y := -3; y < api.Side+3; y++ {
			if should := x >= 0 && x <= 1023 && y >= 0 && y <= 1023; May(at(x, y)) != should {
				t.Fatalf("May(%d %d) is %v", x, y, !should)
			}
		}
	}
}

// P2.1: the chapter's examples, and the corners.
func TestDistByHand(t *testing.T) {
	for _, x := range []struct {
		a, b api.Place
		far  int
	}{
		{at(2, 3), at(5, 1), 5},
		{at(5, 1), at(2, 3), 5},
		{at(0, 0), at(1024, 0), 0},
		{at(7, 7), at(7, 7), 0},
		{at(7, 7), at(7, 8), 1},
		{at(8, 7), at(7, 7), 1},
		{at(0, 0), at(1023, 1023), 2046},
		{at(1023, 0), at(0, 1023), 2046},
		{at(0, 1023), at(1023, 1023), 1023},
		{at(0, 1023), at(0, 0), 1023},
		{at(3, 1), at(0, 5), 7},
	} {
		if far := Dist(x.a, x.b); far != x.far {
			t.Errorf("Dist(%v, %v) is %d; it should be %d", x.a, x.b, far, x.far)
		}
	}
}

// stepsFrom are the least steps to each place of the grid, found by going out from p.
func stepsFrom(p api.Place) map[api.Place]int {
	far := map[api.Place]int{p: 0}
	edge := []api.Place{p}
	for len(edge) > 0 {
		q := edge[0]
		edge = edge[1:]
		for _, next := range row(q.X-1, q.Y, q.X+1, q.Y, q.X, q.Y-1, q.X, q.Y+1) {
			if _, is := far[next]; !is && next.X >= 0 && next.X < api.Side && next.Y >= 0 && next.Y < api.Side {
				far[next] = far[q] + 1
				edge = append(edge, next)
			}
		}
	}
	return far
}

// P2.1: it is as far as it takes steps at least.
func TestDistIsLeastSteps(t *testing.T) {
	for _, p := range row(300, 700, last, 0) {
		for q, far := range stepsFrom(p) {
			if Dist(p, q) != far {
				t.Fatalf("Dist(%v, %v) is %d; it takes %d steps", p, q, Dist(p, q), far)
			}
		}
	}
}

// P2.1, P2.2: of places that may not be there is nothing, whichever of both it is.
func TestOffTheGrid(t *testing.T) {
	for i, p := range off() {
		for _, q := range append(some()[:10], off()[i/2], p, at(0, 0)) {
			if Dist(p, q) != 0 || Dist(q, p) != 0 {
				t.Errorf("Dist of %v and %v is %d, %d", p, q, Dist(p, q), Dist(q, p))
			}
			if Way(p, q) != nil || Way(q, p) != nil {
				// the places behind this one lie so far off that a way to them would not end
				t.Fatalf("there is a way between %v and %v", p, q)
			}
		}
		for far := -1; far <= 17; far++ {
			if Near(p, far) != nil {
				t.Errorf("Near(%v, %d) has places", p, far)
			}
		}
	}
}

// P2.2: the chapter's examples, each of both directions, and ways with one part or none.
func TestWayByHand(t *testing.T) {
	for _, x := range []struct {
		a, b api.Place
		l    []api.Place
	}{
		{at(2, 3), at(4, 2), row(2, 3, 3, 3, 4, 3, 4, 2)},
		{at(4, 2), at(2, 3), row(4, 2, 3, 2, 2, 2, 2, 3)},
		{at(2, 2), at(4, 3), row(2, 2, 3, 2, 4, 2, 4, 3)},
		{at(4, 3), at(3, 1), row(4, 3, 3, 3, 3, 2, 3, 1)},
		{at(-1, 0), at(0, 0), nil},
		{at(0, 0), at(0, 1024), nil},
		{at(5, 5), at(5, 5), row(5, 5)},
		{at(5, 5), at(7, 5), row(5, 5, 6, 5, 7, 5)},
		{at(7, 5), at(5, 5), row(7, 5, 6, 5, 5, 5)},
		{at(5, 5), at(5, 7), row(5, 5, 5, 6, 5, 7)},
		{at(5, 7), at(5, 5), row(5, 7, 5, 6, 5, 5)},
		{at(1022, 1023), at(1023, 1022), row(1022, 1023, 1023, 1023, 1023, 1022)},
		{at(1, 0), at(0, 1), row(1, 0, 0, 0, 0, 1)},
	} {
		if l := Way(x.a, x.b); !slices.Equal(l, x.l) {
			t.Errorf("Way(%v, %v) is %v; it should be %v", x.a, x.b, l, x.l)
		}
	}
}

// P2.2, P2.3: a way has Dist and 1 places, goes along X ahead of Y, and does not leave the grid.
func TestWay(t *testing.T) {
	for _, a := range some() {
		for _, b := range some() {
			l := Way(a, b)
			if len(l) != Dist(a, b)+1 || l[0] != a || l[len(l)-1] != b {
				t.Fatalf("Way(%v, %v) has %d places", a, b, len(l))
			}
			turn := max(a.X-b.X, b.X-a.X)
			for i, p := range l {
				if i <= turn && p.Y != a.Y || i >= turn && p.X != b.X || !May(p) {
					t.Fatalf("Way(%v, %v) comes to %v behind %d steps", a, b, p, i)
				}
				if i > 0 && Dist(l[i-1], p) != 1 {
					t.Fatalf("Way(%v, %v) goes from %v to %v", a, b, l[i-1], p)
				}
			}
		}
	}
}

// P2.3: each part of a way is as short; and it is the way from its first place to its last one.
func TestPartsOfWays(t *testing.T) {
	for _, ends := range [][]api.Place{row(2, 3, 40, 20), row(40, 20, 2, 3), row(9, 60, 30, 5), row(0, last, 20, last-20), row(8, 8, 8, 30), row(last, 4, last-30, 4)} {
		l := Way(ends[0], ends[1])
		for i := range l {
			for j := i; j < len(l); j++ {
				if Dist(l[i], l[j]) != j-i {
					t.Errorf("%v and %v are %d steps apart on a way, and %d in all", l[i], l[j], j-i, Dist(l[i], l[j]))
				}
				if !slices.Equal(Way(l[i], l[j]), l[i:j+1]) {
					t.Errorf("Way(%v, %v) is no part of the way that holds it", l[i], l[j])
				}
			}
		}
	}
}

// P2.3: 0 of a place and itself alone, the same both ways, and no shorter by a third place.
func TestDistIsADistance(t *testing.T) {
	l := some()
	for _, a := range l {
		for _, b := range l {
			if (Dist(a, b) == 0) != (a == b) || Dist(a, b) < 0 || Dist(a, b) != Dist(b, a) {
				t.Errorf("Dist of %v and %v is %d, and %d the other way", a, b, Dist(a, b), Dist(b, a))
			}
			for _, c := range l {
				if Dist(a, c)+Dist(c, b) < Dist(a, b) {
					t.Errorf("from %v to %v it is shorter by %v", a, b, c)
				}
			}
		}
	}
}

// P2.2: the chapter's example, a corner each, and bounds of far.
func TestNearByHand(t *testing.T) {
	for _, x := range []struct {
		p   api.Place
		far int
		l   []api.Place
	}{
		{at(0, 0), 1, row(0, 0, 0, 1, 1, 0)},
		{at(0, 0), 0, row(0, 0)},
		{at(9, 8), 0, row(9, 8)},
		{at(9, 8), 1, row(8, 8, 9, 7, 9, 8, 9, 9, 10, 8)},
		{at(0, 1023), 1, row(0, 1022, 0, 1023, 1, 1023)},
		{at(1023, 0), 1, row(1022, 0, 1023, 0, 1023, 1)},
		{at(1023, 1023), 1, row(1022, 1023, 1023, 1022, 1023, 1023)},
		{at(1023, 1023), 0, row(1023, 1023)},
		{at(0, 0), -1, nil},
		{at(9, 8), -1, nil},
		{at(9, 8), -16, nil},
		{at(9, 8), 17, nil},
		{at(9, 8), 18, nil},
		{at(9, 8), math.MaxInt, nil},
		{at(9, 8), math.MinInt, nil},
		{at(1023, 1023), math.MaxInt, nil},
		{at(1024, 0), 1, nil},
		{at(-1, 0), 1, nil},
		{at(0, -1), 16, nil},
	} {
		if l := Near(x.p, x.far); !slices.Equal(l, x.l) {
			t.Errorf("Near(%v, %d) is %v; it should be %v", x.p, x.far, l, x.l)
		}
	}
}

// searched goes through more than what may be near, in order, and asks of each how far it is.
func searched(p api.Place, far int) []api.Place {
	var l []api.Place
	for x := p.X - 20; x <= p.X+20; x++ {
		for y := p.Y - 20; y <= p.Y+20; y++ {
			dx, dy := max(x-p.X, p.X-x), max(y-p.Y, p.Y-y)
			if q := at(x, y); May(q) && dx+dy <= far {
				l = append(l, q)
			}
		}
	}
	return l
}

// P2.2: with each far that may be, in the midst of the grid, at its sides, and beside them.
func TestNear(t *testing.T) {
	var l []api.Place
	for _, n := range []int{0, 1, 5, 15, 16, 17, 500, last - 17, last - 16, last - 15, last - 1, last} {
		l = append(l, at(n, 300), at(300, n), at(n, n), at(n, last-n))
	}
	for _, p := range append(l, some()...) {
		for far := 0; far <= 16; far++ {
			if got := Near(p, far); !slices.Equal(got, searched(p, far)) {
				t.Errorf("Near(%v, %d) is %v", p, far, got)
			}
		}
	}
	if n := len(Near(at(100, 100), 16)); n != 2*16*17+1 {
		t.Errorf("%d places are near with a far of 16", n)
	}
	for _, p := range corners() {
		if n := len(Near(p, 16)); n != 17*18/2 {
			t.Errorf("%d places are near the corner %v", n, p)
		}
	}
}

// The rules that hold everywhere: what is answered is the caller's.
func TestAnswersAreTheCallers(t *testing.T) {
	a, b := at(3, 4), at(9, 1)
	way, near := Way(a, b), Near(a, 3)
	clear(Way(a, b))
	clear(Near(a, 3))
	if !slices.Equal(way, Way(a, b)) || !slices.Equal(near, Near(a, 3)) {
		t.Error("what was answered ahead has changed what is answered")
	}
	if way[0] != a || near[0] != at(0, 4) {
		t.Error("what is answered has changed what was answered ahead")
	}
}

// The way is left where no more of it is asked for, in either part and at their ends.
func TestWayIsLeft(t *testing.T) {
	a, b := at(3, 4), at(6, 1)
	all := Way(a, b)
	for n := 1; n <= len(all); n++ {
		var l []api.Place
		for p := range onTheWay(a, b) {
			if l = append(l, p); len(l) == n {
				break
			}
		}
		if !slices.Equal(l, all[:n]) {
			t.Errorf("the first %d of the way are %v", n, l)
		}
	}
}
