// Package num reckons with whole numbers that may get too great: see shared/doc/01-num.md.
package num

import (
	"iter"
	"math"
)

// whole is every kind of whole number: bounds hold the same way for each.
type whole interface {
	~int | ~int8 | ~int16 | ~int32 | ~int64 | ~uint | ~uint8 | ~uint16 | ~uint32 | ~uint64 | ~uintptr
}

func Add(a, b int64) (int64, bool) {
	// a sum that has gone round lies on the wrong side of a
	return ifFits(a+b, func(n int64) bool { return (n > a) == (b > 0) })
}

func Sub(a, b int64) (int64, bool) {
	return ifFits(a-b, func(n int64) bool { return (n < a) == (b > 0) })
}

func Mul(a, b int64) (int64, bool) {
	return ifFits(a*b, func(n int64) bool {
		switch a {
		case 0:
			return true
		case -1: // dividing back would go round just as the product does
			return b != math.MinInt64
		}
		return n/a == b
	})
}

// ifFits is n, which may have gone round, and true, or 0 and false: each way of reckoning has its own sign of having gone round.
func ifFits(n int64, fits func(n int64) bool) (int64, bool) {
	if !fits(n) {
		return 0, false
	}
	return n, true
}

func Sum(l ...int64) (int64, bool) {
	sum := int64(0)
	for n, fits := range sumsSoFar(l) {
		if !fits {
			return 0, false
		}
		sum = n
	}
	return sum, true
}

// sumsSoFar is to be left at the first sum that does not fit: those behind it stand on nothing.
func sumsSoFar(l []int64) iter.Seq2[int64, bool] {
	return func(yield func(int64, bool) bool) {
		sum, fits := int64(0), true
		for _, n := range l {
			sum, fits = Add(sum, n)
			if !yield(sum, fits) {
				return
			}
		}
	}
}

func Within(n, least, most int64) bool { return within(n, least, most) }

func Clamp(n, least, most int64) int64 { return clamp(n, least, most) }

func within[N whole](n, least, most N) bool { return n >= least && n <= most }

// clamp asks for least first: where the bounds cross, that is the one meant.
func clamp[N whole](n, least, most N) N {
	if n < least {
		return least
	}
	if n > most {
		return most
	}
	return n
}
