package num

import (
	"math"
	"math/big"
	"math/rand"
	"slices"
	"testing"
)

const (
	bottom = math.MinInt64
	top    = math.MaxInt64
)

type pair func(a, b int64) (int64, bool)

type exact func(z, a, b *big.Int) *big.Int

// edges are both ends, the middle, and what lies beside each power of two, where products and sums begin not to fit.
func edges() []int64 {
	l := []int64{0, 3, -3, 7, -7, 10, -10, 3037000499, 3037000500, -3037000499, -3037000500, top / 3, top/3 + 1, bottom / 3, bottom/3 - 1}
	for i := range 63 {
		n := int64(1) << i
		l = append(l, n-1, n, n+1, -n-1, -n, -n+1)
	}
	return append(l, top, top-1, bottom, bottom+1, bottom+2)
}

func checkExact(t *testing.T, name string, f pair, ref exact, a, b int64) {
	t.Helper()
	want := ref(new(big.Int), big.NewInt(a), big.NewInt(b))
	n, is := f(a, b)
	if is != want.IsInt64() {
		t.Fatalf("%s(%d, %d) is %d, %v; without bounds it is %v", name, a, b, n, is, want)
	}
	if is && n != want.Int64() || !is && n != 0 {
		t.Fatalf("%s(%d, %d) is %d, %v; without bounds it is %v", name, a, b, n, is, want)
	}
}

func checkAll(t *testing.T, name string, f pair, ref exact) {
	t.Helper()
	for a := int64(-40); a <= 40; a++ {
		for b := int64(-40); b <= 40; b++ {
			checkExact(t, name, f, ref, a, b)
			checkExact(t, name, f, ref, top-40+a, b)
			checkExact(t, name, f, ref, bottom+40+a, b)
			checkExact(t, name, f, ref, b, top-40+a)
			checkExact(t, name, f, ref, b, bottom+40+a)
		}
	}
	for _, a := range edges() {
		for _, b := range edges() {
			checkExact(t, name, f, ref, a, b)
		}
	}
	r := rand.New(rand.NewSource(1))
	for range 200000 {
		a, b := int64(r.Uint64())>>r.Intn(64), int64(r.Uint64())>>r.Intn(64)
		checkExact(t, name, f, ref, a, b)
	}
}

// P1.1, P1.4.
func TestAdd(t *testing.T) { checkAll(t, "Add", Add, (*big.Int).Add) }

// P1.1, P1.4.
func TestSub(t *testing.T) { checkAll(t, "Sub", Sub, (*big.Int).Sub) }

// P1.1, P1.4.
func TestMul(t *testing.T) { checkAll(t, "Mul", Mul, (*big.Int).Mul) }

// P1.1: the chapter's examples, and both ends.
func TestPairsByHand(t *testing.T) {
	for _, x := range []struct {
		name string
		f    pair
		a, b int64
		n    int64
		is   bool
	}{
		{"Add", Add, top, 1, 0, false},
		{"Add", Add, 1, top, 0, false},
		{"Add", Add, top, -1, top - 1, true},
		{"Add", Add, top, 0, top, true},
		{"Add", Add, top, top, 0, false},
		{"Add", Add, bottom, -1, 0, false},
		{"Add", Add, -1, bottom, 0, false},
		{"Add", Add, bottom, 0, bottom, true},
		{"Add", Add, bottom, bottom, 0, false},
		{"Add", Add, bottom, top, -1, true},
		{"Add", Add, 2, 3, 5, true},
		{"Sub", Sub, 2, 3, -1, true},
		{"Sub", Sub, 0, bottom, 0, false},
		{"Sub", Sub, -1, bottom, top, true},
		{"Sub", Sub, bottom, 1, 0, false},
		{"Sub", Sub, bottom, bottom, 0, true},
		{"Sub", Sub, bottom, top, 0, false},
		{"Sub", Sub, top, top, 0, true},
		{"Sub", Sub, top, -1, 0, false},
		{"Sub", Sub, -2, top, 0, false},
		{"Sub", Sub, -1, top, bottom, true},
		{"Mul", Mul, bottom, -1, 0, false},
		{"Mul", Mul, -1, bottom, 0, false},
		{"Mul", Mul, 1 << 32, 1 << 31, 0, false},
		{"Mul", Mul, -1 << 32, 1 << 31, bottom, true},
		{"Mul", Mul, 1 << 32, 1 << 32, 0, false},
		{"Mul", Mul, top, -1, -top, true},
		{"Mul", Mul, -1, top, -top, true},
		{"Mul", Mul, bottom, 1, bottom, true},
		{"Mul", Mul, 1, bottom, bottom, true},
		{"Mul", Mul, bottom, 0, 0, true},
		{"Mul", Mul, 0, bottom, 0, true},
		{"Mul", Mul, bottom, bottom, 0, false},
		{"Mul", Mul, top, top, 0, false},
		{"Mul", Mul, bottom, 2, 0, false},
		{"Mul", Mul, -6, 7, -42, true},
	} {
		if n, is := x.f(x.a, x.b); n != x.n || is != x.is {
			t.Errorf("%s(%d, %d) is %d, %v; it should be %d, %v", x.name, x.a, x.b, n, is, x.n, x.is)
		}
	}
}

// P1.2: the chapter's examples, none, one, and what fits again behind what does not.
func TestSumByHand(t *testing.T) {
	for _, x := range []struct {
		l  []int64
		n  int64
		is bool
	}{
		{nil, 0, true},
		{[]int64{}, 0, true},
		{[]int64{top}, top, true},
		{[]int64{bottom}, bottom, true},
		{[]int64{1, 2, 3}, 6, true},
		{[]int64{top, 1, -1}, 0, false},
		{[]int64{top, -1, 1}, top, true},
		{[]int64{1, -1, top}, top, true},
		{[]int64{bottom, -1, 1}, 0, false},
		{[]int64{bottom, 1, -1}, bottom, true},
		{[]int64{top, 1, bottom}, 0, false},
		{[]int64{top, bottom, 1}, 0, true},
		{[]int64{1, 2, top}, 0, false},
		{[]int64{top, top, 5, 6, 7}, 0, false},
		{[]int64{bottom, bottom, 5, 6, 7}, 0, false},
	} {
		if n, is := Sum(x.l...); n != x.n || is != x.is {
			t.Errorf("Sum(%v) is %d, %v; it should be %d, %v", x.l, n, is, x.n, x.is)
		}
	}
	if n, is := Sum(); n != 0 || !is {
		t.Errorf("Sum of none is %d, %v", n, is)
	}
}

func exactSum(l []int64) (int64, bool) {
	sum := new(big.Int)
	for _, n := range l {
		if sum.Add(sum, big.NewInt(n)); !sum.IsInt64() {
			return 0, false
		}
	}
	return sum.Int64(), true
}

// P1.2, P1.4; and what is handed in stays as it was.
func TestSumIsExact(t *testing.T) {
	some := edges()
	r := rand.New(rand.NewSource(2))
	fit, not := 0, 0
	for range 200000 {
		l := make([]int64, r.Intn(7))
		for i := range l {
			l[i] = some[r.Intn(len(some))]
		}
		was := slices.Clone(l)
		n, is := Sum(l...)
		if m, should := exactSum(l); n != m || is != should {
			t.Fatalf("Sum(%v) is %d, %v; it should be %d, %v", l, n, is, m, should)
		}
		if !slices.Equal(l, was) {
			t.Fatalf("Sum(%v) made %v of it", was, l)
		}
		if is {
			fit++
		} else {
			not++
		}
	}
	if fit < 1000 || not < 1000 {
		t.Errorf("too few of a kind: %d fit, %d do not", fit, not)
	}
}

// P1.2: a long one, of which each step fits, or just the last one does not.
func TestSumLong(t *testing.T) {
	l := slices.Repeat([]int64{1 << 46}, 1<<17)
	if n, is := Sum(l...); n != 0 || is {
		t.Errorf("2^17 times 2^46 is %d, %v", n, is)
	}
	l[0]--
	if n, is := Sum(l...); n != top || !is {
		t.Errorf("1 less than 2^17 times 2^46 is %d, %v", n, is)
	}
}

// P1.3: both bounds are in it; where they cross, nothing is.
func TestWithin(t *testing.T) {
	for _, x := range []struct {
		n, least, most int64
		is             bool
	}{
		{3, 0, 5, true},
		{0, 0, 5, true},
		{5, 0, 5, true},
		{-1, 0, 5, false},
		{6, 0, 5, false},
		{4, 4, 4, true},
		{3, 4, 4, false},
		{5, 4, 4, false},
		{7, 9, 5, false},
		{9, 9, 5, false},
		{5, 9, 5, false},
		{bottom, bottom, top, true},
		{top, bottom, top, true},
		{0, bottom, top, true},
		{bottom, bottom + 1, top, false},
		{top, bottom, top - 1, false},
		{0, top, bottom, false},
		{top, top, bottom, false},
		{bottom, top, bottom, false},
	} {
		if is := Within(x.n, x.least, x.most); is != x.is {
			t.Errorf("Within(%d, %d, %d) is %v", x.n, x.least, x.most, is)
		}
	}
}

// P1.3: the chapter's examples, both bounds, and bounds that cross.
func TestClamp(t *testing.T) {
	for _, x := range []struct{ n, least, most, m int64 }{
		{7, 0, 5, 5},
		{7, 9, 5, 9},
		{10, 9, 5, 5},
		{9, 9, 5, 5},
		{5, 9, 5, 9},
		{3, 0, 5, 3},
		{0, 0, 5, 0},
		{5, 0, 5, 5},
		{-1, 0, 5, 0},
		{6, 0, 5, 5},
		{bottom, bottom, top, bottom},
		{top, bottom, top, top},
		{bottom, 0, top, 0},
		{top, bottom, 0, 0},
		{bottom, bottom + 1, top, bottom + 1},
		{top, bottom, top - 1, top - 1},
		{0, top, bottom, top},
		{top, top, bottom, bottom},
	} {
		if m := Clamp(x.n, x.least, x.most); m != x.m {
			t.Errorf("Clamp(%d, %d, %d) is %d; it should be %d", x.n, x.least, x.most, m, x.m)
		}
	}
}

// P1.3: where the bounds do not cross, what is clamped is within them, and it is the number itself just if that is.
func TestClampIsWithin(t *testing.T) {
	some := []int64{bottom, bottom + 1, -7, -1, 0, 1, 7, top - 1, top}
	for _, n := range some {
		for i, least := range some {
			for _, most := range some[i:] {
				m := Clamp(n, least, most)
				if !Within(m, least, most) || (m == n) != Within(n, least, most) {
					t.Errorf("Clamp(%d, %d, %d) is %d", n, least, most, m)
				}
			}
		}
	}
}
