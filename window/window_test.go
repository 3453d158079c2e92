package window

import (
	"math"
	"math/rand"
	"testing"

	"consign/api"
)

const last = 1 << 20

func of(early, late int) api.Window { return api.Window{Early: early, Late: late} }

// small are all windows of a few times, at the beginning of the grid of times and at its end.
func small() []api.Window {
	var l []api.Window
	for _, first := range []int{0, last - 6} {
		for early := range 7 {
			for late := early; late < 7; late++ {
				l = append(l, of(first+early, first+late))
			}
		}
	}
	return l
}

// some are windows at both ends, the greatest one, windows of one time, and windows between.
func some() []api.Window {
	l := []api.Window{of(0, last), of(0, last-1), of(1, last), of(0, 0), of(last, last), of(0, 1), of(last-1, last), of(500, 500), of(500, 501), of(3, 8)}
	r := rand.New(rand.NewSource(1))
	for range 40 {
		early := r.Intn(last + 1)
		l = append(l, of(early, early+r.Intn(last+1-early)))
	}
	return l
}

// extremes are numbers at which what is reckoned would go round.
func extremes() []int {
	return []int{math.MinInt, math.MinInt + 1, math.MinInt + last, math.MinInt + last + 1, math.MaxInt - last - 1, math.MaxInt - last, math.MaxInt - 1, math.MaxInt}
}

// wrong are windows that may not be: an end beside the grid, or both, or ends that cross.
func wrong() []api.Window {
	l := []api.Window{of(-1, 0), of(-1, 5), of(-1, -1), of(-5, -1), of(0, -1), of(1, 0), of(6, 5), of(last, 0), of(last, last-1), of(last+1, last), of(0, last+1), of(last, last+1), of(last+1, last+1), of(-1, last), of(-1, last+1), of(last+1, -1)}
	for _, n := range extremes() {
		l = append(l, of(n, 5), of(5, n), of(n, n), of(n, last), of(0, n))
		for _, m := range extremes() {
			l = append(l, of(n, m))
		}
	}
	return l
}

// times are those at both ends of a window and beside them, at both ends of the grid and beside them, and at numbers' ends.
func times(w api.Window) []int {
	return append(extremes(), w.Early-2, w.Early-1, w.Early, w.Early+1, (w.Early+w.Late)/2, w.Late-1, w.Late, w.Late+1, w.Late+2, -1, 0, 1, last-1, last, last+1)
}

// P3.1: both ends of the grid of times are in it, what is one beside is not, nor do ends cross.
func TestMay(t *testing.T) {
	for _, w := range append(some(), small()...) {
		if !May(w) {
			t.Errorf("May(%v) is false", w)
		}
	}
	for _, w := range wrong() {
		if May(w) {
			t.Errorf("May(%v) is true", w)
		}
	}
	for _, first := range []int{-4, 500, 1<<20 - 4} {
		for early := first; early < first+9; early++ {
			for late := first; late < first+9; late++ {
				should := early >= 0 && early <= late && late <= 1048576
				if May(of(early, late)) != should {
					t.Errorf("May(%d to %d) is %v", early, late, !should)
				}
			}
		}
	}
}

// P3.1: the chapter's example, windows of one time, both ends of the grid, windows that may not be.
func TestHasByHand(t *testing.T) {
	for _, x := range []struct {
		w  api.Window
		t  int
		is bool
	}{
		{of(3, 8), 2, false},
		{of(3, 8), 3, true},
		{of(3, 8), 4, true},
		{of(3, 8), 7, true},
		{of(3, 8), 8, true},
		{of(3, 8), 9, false},
		{of(5, 5), 4, false},
		{of(5, 5), 5, true},
		{of(5, 5), 6, false},
		{of(0, 0), -1, false},
		{of(0, 0), 0, true},
		{of(0, 0), 1, false},
		{of(0, last), -1, false},
		{of(0, last), 0, true},
		{of(0, last), last, true},
		{of(0, last), last + 1, false},
		{of(last, last), last - 1, false},
		{of(last, last), last, true},
		{of(0, last), math.MinInt, false},
		{of(0, last), math.MaxInt, false},
		{of(-1, 8), 3, false},
		{of(-1, 8), 0, false},
		{of(3, last+1), 5, false},
		{of(8, 3), 5, false},
		{of(8, 3), 8, false},
		{of(8, 3), 3, false},
	} {
		if is := Has(x.w, x.t); is != x.is {
			t.Errorf("Has(%v, %d) is %v", x.w, x.t, is)
		}
	}
}

// P3.1: over times at all ends.
func TestHas(t *testing.T) {
	for _, w := range append(some(), small()...) {
		for _, n := range times(w) {
			if should := n >= w.Early && n <= w.Late; Has(w, n) != should {
				t.Errorf("Has(%v, %d) is %v", w, n, !should)
			}
		}
	}
	for _, w := range wrong() {
		for _, n := range append(extremes(), -1, 0, 1, 3, 5, last-1, last, last+1) {
			if Has(w, n) {
				t.Errorf("Has(%v, %d) is true of a window that may not be", w, n)
			}
		}
	}
}

// P3.2: the chapter's examples, windows that just meet and just do not, one in another one.
func TestMeetByHand(t *testing.T) {
	for _, x := range []struct {
		a, b, m api.Window
		is      bool
	}{
		{of(3, 8), of(5, 20), of(5, 8), true},
		{of(3, 4), of(5, 6), of(0, 0), false},
		{of(3, 5), of(5, 6), of(5, 5), true},
		{of(3, 6), of(5, 6), of(5, 6), true},
		{of(3, 8), of(3, 8), of(3, 8), true},
		{of(3, 8), of(4, 7), of(4, 7), true},
		{of(3, 8), of(3, 5), of(3, 5), true},
		{of(3, 8), of(6, 6), of(6, 6), true},
		{of(3, 8), of(9, 9), of(0, 0), false},
		{of(3, 8), of(2, 2), of(0, 0), false},
		{of(7, 7), of(7, 7), of(7, 7), true},
		{of(7, 7), of(8, 8), of(0, 0), false},
		{of(0, 0), of(0, 0), of(0, 0), true},
		{of(0, 0), of(0, last), of(0, 0), true},
		{of(0, 0), of(1, last), of(0, 0), false},
		{of(last, last), of(0, last), of(last, last), true},
		{of(last, last), of(0, last-1), of(0, 0), false},
		{of(0, last), of(0, last), of(0, last), true},
		{of(0, last), of(-1, 5), of(0, 0), false},
		{of(3, 8), of(5, last+1), of(0, 0), false},
		{of(3, 8), of(6, 5), of(0, 0), false},
		{of(6, 5), of(6, 5), of(0, 0), false},
	} {
		for _, l := range [][2]api.Window{{x.a, x.b}, {x.b, x.a}} {
			if m, is := Meet(l[0], l[1]); m != x.m || is != x.is {
				t.Errorf("Meet(%v, %v) is %v, %v; it should be %v, %v", l[0], l[1], m, is, x.m, x.is)
			}
		}
	}
}

// common are the first and the last time that are in both, found by going through all of a few.
func common(a, b api.Window, first int) (api.Window, bool) {
	w, is := api.Window{}, false
	for n := first; n < first+7; n++ {
		if n < a.Early || n > a.Late || n < b.Early || n > b.Late {
			continue
		}
		if !is {
			w, is = of(n, n), true
		}
		w.Late = n
	}
	return w, is
}

// P3.2: what is in both, time by time; what may not be meets nothing.
func TestMeet(t *testing.T) {
	for _, a := range small() {
		for _, b := range small() {
			should, shouldBe := common(a, b, 0)
			if a.Early >= 7 {
				should, shouldBe = common(a, b, last-6)
			}
			if m, is := Meet(a, b); m != should || is != shouldBe {
				t.Errorf("Meet(%v, %v) is %v, %v; it should be %v, %v", a, b, m, is, should, shouldBe)
			}
		}
	}
	for _, a := range append(some(), wrong()...) {
		for _, b := range wrong() {
			for _, l := range [][2]api.Window{{a, b}, {b, a}} {
				if m, is := Meet(l[0], l[1]); is || m != (api.Window{}) {
					t.Errorf("Meet(%v, %v) is %v, %v, where one may not be", l[0], l[1], m, is)
				}
			}
		}
	}
}

// meetAll goes on from none as from a window that is none.
func meetAll(a, b, c api.Window) (api.Window, bool) {
	m, is := Meet(a, b)
	if !is {
		return api.Window{}, false
	}
	return Meet(m, c)
}

// P3.3: the same whichever comes first, of two and of three; and of three in either grouping.
func TestMeetInWhateverOrder(t *testing.T) {
	l := append(small()[:28:28], some()[:10]...)
	for _, a := range l {
		for _, b := range l {
			m, is := Meet(a, b)
			if o, also := Meet(b, a); m != o || is != also {
				t.Fatalf("Meet of %v, %v is %v, %v, and %v, %v the other way", a, b, m, is, o, also)
			}
			for _, c := range l {
				all, is := meetAll(a, b, c)
				for _, x := range [][3]api.Window{{a, c, b}, {b, a, c}, {b, c, a}, {c, a, b}, {c, b, a}} {
					if o, also := meetAll(x[0], x[1], x[2]); o != all || is != also {
						t.Fatalf("%v, %v, %v meet in %v, %v, and in another order in %v, %v", a, b, c, all, is, o, also)
					}
				}
			}
		}
	}
}

// P3.2: the chapter's example, ahead of, at and behind both ends, and windows that may not be.
func TestWaitByHand(t *testing.T) {
	for _, x := range []struct {
		w     api.Window
		t     int
		begin int
		is    bool
	}{
		{of(3, 8), 1, 3, true},
		{of(3, 8), 2, 3, true},
		{of(3, 8), 3, 3, true},
		{of(3, 8), 4, 4, true},
		{of(3, 8), 7, 7, true},
		{of(3, 8), 8, 8, true},
		{of(3, 8), 9, 0, false},
		{of(3, 8), 0, 3, true},
		{of(3, 8), -1, 3, true},
		{of(3, 8), math.MinInt, 3, true},
		{of(3, 8), math.MaxInt, 0, false},
		{of(5, 5), 4, 5, true},
		{of(5, 5), 5, 5, true},
		{of(5, 5), 6, 0, false},
		{of(0, 0), -1, 0, true},
		{of(0, 0), 0, 0, true},
		{of(0, 0), 1, 0, false},
		{of(0, last), 0, 0, true},
		{of(0, last), last, last, true},
		{of(0, last), last + 1, 0, false},
		{of(last, last), math.MinInt, last, true},
		{of(last, last), last, last, true},
		{of(-1, 8), 5, 0, false},
		{of(-1, 8), -1, 0, false},
		{of(3, last+1), 5, 0, false},
		{of(8, 3), 1, 0, false},
		{of(8, 3), 5, 0, false},
		{of(8, 3), 9, 0, false},
	} {
		if begin, is := Wait(x.w, x.t); begin != x.begin || is != x.is {
			t.Errorf("Wait(%v, %d) is %d, %v; it should be %d, %v", x.w, x.t, begin, is, x.begin, x.is)
		}
	}
}

// P3.2: the least time in it that is not below, found by going through all of a few.
func TestWait(t *testing.T) {
	for _, w := range small() {
		for n := w.Early - 9; n < w.Late+9; n++ {
			should, shouldBe := 0, false
			for at := w.Late; at >= w.Early; at-- {
				if at >= n {
					should, shouldBe = at, true
				}
			}
			if begin, is := Wait(w, n); begin != should || is != shouldBe {
				t.Errorf("Wait(%v, %d) is %d, %v; it should be %d, %v", w, n, begin, is, should, shouldBe)
			}
		}
	}
	for _, w := range wrong() {
		for _, n := range append(extremes(), -1, 0, 1, 3, 5, last-1, last, last+1) {
			if begin, is := Wait(w, n); is || begin != 0 {
				t.Errorf("Wait(%v, %d) is %d, %v, where the window may not be", w, n, begin, is)
			}
		}
	}
}

// P3.3: who comes later does not begin earlier; who waits begins in the window, and whoever comes in it at once.
func TestWaitGoesOn(t *testing.T) {
	for _, w := range append(some(), small()...) {
		for _, early := range times(w) {
			begin, is := Wait(w, early)
			if is != (early <= w.Late) || is && (!Has(w, begin) || begin < early) {
				t.Errorf("Wait(%v, %d) is %d, %v", w, early, begin, is)
			}
			if Has(w, early) && begin != early {
				t.Errorf("Wait(%v, %d) is %d, though it is in it", w, early, begin)
			}
			for _, late := range times(w) {
				if after, also := Wait(w, late); late >= early && also && (!is || after < begin) {
					t.Errorf("who comes to %v at %d begins at %d, %v, and who comes at %d at %d", w, early, begin, is, late, after)
				}
			}
		}
	}
}

// P3.2: the chapter's examples, shifts that end at both ends of the grid and one beyond, and numbers' ends.
func TestShiftByHand(t *testing.T) {
	for _, x := range []struct {
		w  api.Window
		d  int
		s  api.Window
		is bool
	}{
		{of(3, 8), -3, of(0, 5), true},
		{of(3, 8), -4, of(0, 0), false},
		{of(3, 8), -2, of(1, 6), true},
		{of(3, 8), 0, of(3, 8), true},
		{of(3, 8), 1, of(4, 9), true},
		{of(3, 8), last - 8, of(last-5, last), true},
		{of(3, 8), last - 9, of(last-6, last-1), true},
		{of(3, 8), last - 7, of(0, 0), false},
		{of(3, 8), last, of(0, 0), false},
		{of(0, last), 0, of(0, last), true},
		{of(0, last), 1, of(0, 0), false},
		{of(0, last), -1, of(0, 0), false},
		{of(0, 0), 0, of(0, 0), true},
		{of(0, 0), last, of(last, last), true},
		{of(0, 0), last + 1, of(0, 0), false},
		{of(0, 0), -1, of(0, 0), false},
		{of(last, last), -last, of(0, 0), true},
		{of(last, last), -last - 1, of(0, 0), false},
		{of(last, last), 1, of(0, 0), false},
		{of(0, 5), math.MaxInt, of(0, 0), false},
		{of(3, 8), math.MaxInt, of(0, 0), false},
		{of(3, 8), math.MinInt, of(0, 0), false},
		{of(last, last), math.MaxInt, of(0, 0), false},
		{of(0, last), math.MinInt, of(0, 0), false},
		{of(-1, 8), 1, of(0, 0), false},
		{of(-3, 8), 3, of(0, 0), false},
		{of(3, last+1), -1, of(0, 0), false},
		{of(8, 3), 0, of(0, 0), false},
		{of(8, 3), 2, of(0, 0), false},
	} {
		if s, is := Shift(x.w, x.d); s != x.s || is != x.is {
			t.Errorf("Shift(%v, %d) is %v, %v; it should be %v, %v", x.w, x.d, s, is, x.s, x.is)
		}
	}
}

// P3.2: over all shifts about both ends; what is shifted is shifted back.
func TestShift(t *testing.T) {
	for _, w := range append(some(), small()...) {
		for i := -12; i <= 12; i++ {
			for _, d := range []int{i, i - w.Early, i - w.Late, last + i - w.Late, last + i - w.Early} {
				should := api.Window{}
				shouldBe := w.Early+d >= 0 && w.Late+d <= last
				if shouldBe {
					should = of(w.Early+d, w.Late+d)
				}
				s, is := Shift(w, d)
				if s != should || is != shouldBe {
					t.Fatalf("Shift(%v, %d) is %v, %v; it should be %v, %v", w, d, s, is, should, shouldBe)
				}
				if back, also := Shift(s, -d); is && (!also || back != w) {
					t.Fatalf("Shift(%v, %d) and back is %v, %v", w, d, back, also)
				}
			}
		}
	}
}

// P3.2: shifts at the ends of numbers, and windows that may not be, also where the shifted one might be.
func TestShiftOfNone(t *testing.T) {
	for _, w := range append(some(), small()...) {
		for _, d := range extremes() {
			if s, is := Shift(w, d); is || s != (api.Window{}) {
				t.Errorf("Shift(%v, %d) is %v, %v", w, d, s, is)
			}
		}
	}
	for _, w := range wrong() {
		for _, d := range append(extremes(), -w.Early, -w.Late, last-w.Late, last-w.Early, -1, 0, 1, last, -last) {
			if s, is := Shift(w, d); is || s != (api.Window{}) {
				t.Errorf("Shift(%v, %d) is %v, %v, where the window may not be", w, d, s, is)
			}
		}
	}
}
