package tests

import (
	"math"
	"slices"
	"testing"

	"loop.example/presburger/impl"
)

// badNumbers, badModuli, badCoefs and badConsts are just past their limits, or far from them.
var (
	badNumbers = append([]int{100001, -100001}, extremes...)
	badModuli  = append([]int{0, -1, -2, -7, -10000, 10001, 10002, 100000, 100001}, extremes...)
	badCoefs   = append([]int{101, -101, 10000, -10000}, extremes...)
	badConsts  = append([]int{10001, -10001, 100000}, extremes...)
)

// greatNumbers and greatModuli are valid, many of them at their limits.
var (
	greatNumbers = []int{-100000, -99999, -99991, -65536, -30030, -10001, -9999, -720, -1, 0, 1, 2, 997, 5040, 10000, 46368, 75025, 83160, 99990, 99991, 99999, 100000}
	greatModuli  = []int{1, 2, 60, 128, 625, 997, 4096, 5040, 6765, 9240, 9973, 9991, 9998, 9999, 10000}
)

// slowGcd tries all divisors.
func slowGcd(a int, b int) int {
	for g := max(a, -a, b, -b); g > 0; g-- {
		if a%g == 0 && b%g == 0 {
			return g
		}
	}
	return 0
}

// leaves reports whether two numbers have the same remainder, in a way that looks at no remainder of a negative number.
func leaves(n int, other int, m int) bool {
	return max(n-other, other-n)%m == 0
}

// stepOf returns the first of the natural numbers that have a property, and the difference to the second one, looking at as many as are given.
func stepOf(most int, is func(n int) bool) (int, int, bool) {
	first := -1
	for n := range most {
		if is(n) && first >= 0 {
			return first, n - first, true
		}
		if is(n) {
			first = n
		}
	}
	return 0, 0, false
}

func TestNumberLimits(t *testing.T) {
	if impl.MaxNumber != 100000 || impl.MaxModulus != 10000 {
		t.Error("the limits are not those of the document")
	}
}

func TestGcdOf(t *testing.T) {
	for a := -70; a <= 70; a++ {
		for b := -70; b <= 70; b++ {
			if got := impl.GcdOf(a, b); got != slowGcd(a, b) {
				t.Errorf("GcdOf(%d, %d) = %d", a, b, got)
			}
		}
	}
	for _, a := range greatNumbers {
		for _, b := range greatNumbers {
			if got := impl.GcdOf(a, b); got != slowGcd(a, b) {
				t.Errorf("GcdOf(%d, %d) = %d", a, b, got)
			}
		}
	}
	for _, x := range []struct{ a, b, want int }{
		{0, 0, 0}, {0, 5, 5}, {5, 0, 5}, {0, -5, 5}, {-5, 0, 5}, {12, -18, 6}, {-12, 18, 6}, {-12, -18, 6}, {1, 0, 1}, {0, -1, 1}, {100000, 100000, 100000}, {-100000, 0, 100000}, {0, -100000, 100000}, {-100000, 100000, 100000}, {75025, 46368, 1}, {99999, 100000, 1},
	} {
		if got := impl.GcdOf(x.a, x.b); got != x.want {
			t.Errorf("GcdOf(%d, %d) = %d, want %d", x.a, x.b, got, x.want)
		}
	}
	for _, bad := range badNumbers {
		for _, n := range append([]int{0, 1, -6, bad}, greatNumbers...) {
			if one, two := impl.GcdOf(bad, n), impl.GcdOf(n, bad); one != -1 || two != -1 {
				t.Errorf("GcdOf of %d and %d = %d, %d", bad, n, one, two)
			}
		}
	}
}

// slowLcm looks for the least number that all moduli divide; -1 if there is none up to MaxModulus.
func slowLcm(list []int) int {
	for n := 1; n <= 10000; n++ {
		if !slices.ContainsFunc(list, func(m int) bool { return n%m != 0 }) {
			return n
		}
	}
	return -1
}

func TestLcmOfLists(t *testing.T) {
	cases := []struct {
		list []int
		want int
	}{
		{nil, 1}, {[]int{}, 1}, {[]int{1}, 1}, {[]int{7}, 7}, {[]int{10000}, 10000}, {[]int{9999}, 9999}, {[]int{4, 6, 10}, 60}, {[]int{10, 6, 4}, 60}, {[]int{6, 6, 6}, 6}, {[]int{1, 1, 8, 1}, 8}, {[]int{12, 18}, 36},
		{[]int{16, 625}, 10000}, {[]int{625, 16}, 10000}, {[]int{2500, 10000, 16}, 10000}, {[]int{10000, 10000, 1, 2, 5, 8}, 10000}, {[]int{5000, 2500, 16}, 10000}, {[]int{99, 101}, 9999}, // just MaxModulus, or one less
		{[]int{73, 137}, -1}, {[]int{137, 73}, -1}, {[]int{73, 1, 137, 73}, -1}, {[]int{1, 73, 137}, -1}, // one more
		{[]int{10000, 3}, -1}, {[]int{3, 10000}, -1}, {[]int{10000, 9999}, -1}, {[]int{9999, 10000, 1}, -1}, {[]int{101, 103}, -1}, {[]int{101, 103, 1}, -1}, {[]int{2, 101, 103, 4, 5}, -1}, // greater on the way
		{[]int{2, 3, 5, 7, 11}, 2310}, {[]int{2, 3, 5, 7, 11, 13}, -1}, {[]int{5, 7, 8, 9}, 2520}, {[]int{1, 2, 3, 4, 5, 6, 7, 8, 9, 10}, 2520}, {[]int{1, 2, 3, 4, 5, 6, 7, 8, 9, 10, 11}, -1},
		{[]int{10000, 9999, 9998, 9997, 9996, 9995, 9994, 9993, 9992, 9991, 9990}, -1}, // more than an int can be, on the way
	}
	for _, x := range cases {
		if got := impl.LcmOf(x.list); got != x.want {
			t.Errorf("LcmOf(%v) = %d, want %d", x.list, got, x.want)
		}
	}
	for m := 1; m <= 10000; m++ {
		if got := impl.LcmOf([]int{m}); got != m {
			t.Errorf("LcmOf(%d) = %d", m, got)
		}
	}
}

func TestLcmOf(t *testing.T) {
	for a := 1; a <= 60; a++ {
		for b := 1; b <= 60; b++ {
			if got := impl.LcmOf([]int{a, b}); got != slowLcm([]int{a, b}) {
				t.Errorf("LcmOf(%d, %d) = %d", a, b, got)
			}
		}
	}
	roll := dice(5)
	too := 0
	for range 2000 {
		var list []int
		for range 1 + roll.roll(6) {
			list = append(list, 1+roll.roll(1+roll.roll(120)))
		}
		want := slowLcm(list)
		if got := impl.LcmOf(list); got != want {
			t.Errorf("LcmOf(%v) = %d, want %d", list, got, want)
		}
		if want == -1 {
			too++
		}
	}
	if too < 100 || too > 1500 {
		t.Errorf("%d of the lists have a least common multiple that is too great", too)
	}
}

func TestLcmOfInvalid(t *testing.T) {
	for _, bad := range badModuli {
		for _, list := range [][]int{{bad}, {bad, 1}, {1, bad}, {4, 6, bad}, {4, bad, 6}, {bad, bad}, {10000, bad}, {101, 103, bad}, {bad, 101, 103}} {
			if got := impl.LcmOf(list); got != -1 {
				t.Errorf("LcmOf(%v) = %d", list, got)
			}
		}
	}
	long := slices.Repeat([]int{16, 1, 625, 10000}, 100000)
	if got := impl.LcmOf(long); got != 10000 {
		t.Errorf("LcmOf a long list = %d", got)
	}
	for _, last := range []int{0, 3, 10001, -16} {
		if got := impl.LcmOf(append(slices.Clone(long), last)); got != -1 {
			t.Errorf("LcmOf a long list with %d at its end = %d", last, got)
		}
	}
}

// TestLcmOfUnchanged looks whether a list is left as it is, also beyond its length.
func TestLcmOfUnchanged(t *testing.T) {
	whole := []int{12, 8, 6, 9, 0, -3, 101, 103, 10001}
	before := slices.Clone(whole)
	for from := range whole {
		for to := from; to <= len(whole); to++ {
			first := impl.LcmOf(whole[from:to])
			if second := impl.LcmOf(whole[from:to:to]); second != first {
				t.Errorf("LcmOf(%v) = %d, and then %d", whole[from:to], first, second)
			}
		}
	}
	if !slices.Equal(whole, before) {
		t.Errorf("the list was changed to %v", whole)
	}
}

// wantBezout looks whether a result of BezoutOf is what the document says: g is a sum of multiples, and x the least one.
func wantBezout(t *testing.T, a int, b int) {
	t.Helper()
	g, x, y, ok := impl.BezoutOf(a, b)
	if !ok || g != slowGcd(a, b) || a*x+b*y != g {
		t.Errorf("BezoutOf(%d, %d) = %d, %d, %d, %v", a, b, g, x, y, ok)
		return
	}
	if b == 0 {
		if x != 1 && x != -1 || y != 0 {
			t.Errorf("BezoutOf(%d, 0) = %d, %d, %d", a, g, x, y)
		}
		return
	}
	least := 0
	for !leaves(a*least, g, max(b, -b)) {
		least++
	}
	if x != least {
		t.Errorf("BezoutOf(%d, %d) = %d, %d, %d, but the least x is %d", a, b, g, x, y, least)
	}
}

func TestBezoutOf(t *testing.T) {
	for a := -60; a <= 60; a++ {
		for b := -60; b <= 60; b++ {
			if a != 0 || b != 0 {
				wantBezout(t, a, b)
			}
		}
	}
	for _, a := range greatNumbers {
		for _, b := range greatNumbers {
			if a != 0 || b != 0 {
				wantBezout(t, a, b)
			}
		}
	}
}

func TestBezoutOfNumbers(t *testing.T) {
	for _, x := range []struct{ a, b, g, x, y int }{
		{6, 4, 2, 1, -1}, {4, 6, 2, 2, -1}, {7, -3, 1, 1, 2}, {-7, 3, 1, 2, 5}, {-7, -3, 1, 2, -5}, {-6, -4, 2, 1, -2}, {5, 5, 5, 0, 1}, {5, -5, 5, 0, -1}, {-5, -5, 5, 0, -1}, {1, 1, 1, 0, 1}, {8, 4, 4, 0, 1}, {4, 8, 4, 1, 0}, {-4, 8, 4, 1, 1}, {-4, -8, 4, 1, -1}, {4, -8, 4, 1, 0}, // x of 0, and y of any sign
		{3, 0, 3, 1, 0}, {-3, 0, 3, -1, 0}, {1, 0, 1, 1, 0}, {-1, 0, 1, -1, 0}, {100000, 0, 100000, 1, 0}, {-100000, 0, 100000, -1, 0}, // b is 0
		{0, 5, 5, 0, 1}, {0, -5, 5, 0, -1}, {0, 1, 1, 0, 1}, {0, -1, 1, 0, -1}, {0, 100000, 100000, 0, 1}, {0, -100000, 100000, 0, -1}, // a is 0
		{100000, 100000, 100000, 0, 1}, {-100000, 100000, 100000, 0, 1}, {99999, 100000, 1, 99999, -99998}, {100000, 99999, 1, 1, -1}, {99999, -100000, 1, 99999, 99998}, {-99999, 100000, 1, 1, 1}, {75025, 46368, 1, 28657, -46368}, {46368, 75025, 1, 28657, -17711},
	} {
		if g, x0, y, ok := impl.BezoutOf(x.a, x.b); g != x.g || x0 != x.x || y != x.y || !ok {
			t.Errorf("BezoutOf(%d, %d) = %d, %d, %d, %v, want %d, %d, %d", x.a, x.b, g, x0, y, ok, x.g, x.x, x.y)
		}
	}
	refused := [][2]int{{0, 0}}
	for _, bad := range badNumbers {
		for _, n := range append([]int{0, 3, -1, bad}, greatNumbers...) {
			refused = append(refused, [2]int{bad, n}, [2]int{n, bad})
		}
	}
	for _, x := range refused {
		if g, x0, y, ok := impl.BezoutOf(x[0], x[1]); g != 0 || x0 != 0 || y != 0 || ok {
			t.Errorf("BezoutOf(%d, %d) = %d, %d, %d, %v", x[0], x[1], g, x0, y, ok)
		}
	}
}

// wantQuotients looks whether the quotients of a and a positive b are between the right multiples.
func wantQuotients(t *testing.T, a int, b int) {
	t.Helper()
	if n, ok := impl.FloorDiv(a, b); n*b > a || (n+1)*b <= a || !ok {
		t.Errorf("FloorDiv(%d, %d) = %d, %v", a, b, n, ok)
	}
	if n, ok := impl.CeilDiv(a, b); n*b < a || (n-1)*b >= a || !ok {
		t.Errorf("CeilDiv(%d, %d) = %d, %v", a, b, n, ok)
	}
}

func TestQuotients(t *testing.T) {
	for b := 1; b <= 40; b++ {
		for a := -200; a <= 200; a++ {
			wantQuotients(t, a, b)
		}
	}
	for _, a := range greatNumbers {
		for _, b := range greatNumbers {
			if b > 0 {
				wantQuotients(t, a, b)
			}
		}
	}
	for _, x := range []struct{ a, b, down, up int }{
		{7, 2, 3, 4}, {-7, 2, -4, -3}, {6, 3, 2, 2}, {-6, 3, -2, -2}, {0, 5, 0, 0}, {0, 1, 0, 0}, {4, 1, 4, 4}, {-4, 1, -4, -4}, {1, 100000, 0, 1}, {-1, 100000, -1, 0}, {100000, 100000, 1, 1}, {-100000, 100000, -1, -1}, {99999, 100000, 0, 1}, {-99999, 100000, -1, 0}, {100000, 1, 100000, 100000}, {-100000, 1, -100000, -100000}, {100000, 99999, 1, 2}, {-100000, 99999, -2, -1}, {100000, 3, 33333, 33334}, {-100000, 3, -33334, -33333},
	} {
		if n, ok := impl.FloorDiv(x.a, x.b); n != x.down || !ok {
			t.Errorf("FloorDiv(%d, %d) = %d, %v", x.a, x.b, n, ok)
		}
		if n, ok := impl.CeilDiv(x.a, x.b); n != x.up || !ok {
			t.Errorf("CeilDiv(%d, %d) = %d, %v", x.a, x.b, n, ok)
		}
	}
}

func TestQuotientsInvalid(t *testing.T) {
	refused := [][2]int{{100001, 1}, {-100001, 1}, {1, 100001}, {200002, 2}, {0, 100001}}
	for _, b := range []int{0, -1, -2, -7, -99999, -100000} { // no divisor is positive
		for _, a := range greatNumbers {
			refused = append(refused, [2]int{a, b})
		}
	}
	for _, bad := range badNumbers {
		for _, n := range append([]int{0, 1, -1, 7, bad}, greatNumbers...) {
			refused = append(refused, [2]int{bad, n}, [2]int{n, bad})
		}
	}
	for _, x := range refused {
		if n, ok := impl.FloorDiv(x[0], x[1]); n != 0 || ok {
			t.Errorf("FloorDiv(%d, %d) = %d, %v", x[0], x[1], n, ok)
		}
		if n, ok := impl.CeilDiv(x[0], x[1]); n != 0 || ok {
			t.Errorf("CeilDiv(%d, %d) = %d, %v", x[0], x[1], n, ok)
		}
	}
}

// wantInverse tries all numbers below the modulus.
func wantInverse(t *testing.T, a int, m int) {
	t.Helper()
	want, can := 0, false
	for n := 0; n < m && !can; n++ {
		if leaves(a*n, 1, m) {
			want, can = n, true
		}
	}
	if got, ok := impl.InverseMod(a, m); got != want || ok != can {
		t.Errorf("InverseMod(%d, %d) = %d, %v, want %d, %v", a, m, got, ok, want, can)
	}
}

func TestInverseMod(t *testing.T) {
	for m := 1; m <= 60; m++ {
		for a := -130; a <= 130; a++ {
			wantInverse(t, a, m)
		}
	}
	for _, m := range greatModuli {
		for _, a := range greatNumbers {
			wantInverse(t, a, m)
		}
	}
	for _, x := range []struct {
		a, m, want int
		ok         bool
	}{
		{3, 7, 5, true}, {-3, 7, 2, true}, {10, 7, 5, true}, {-4, 7, 5, true}, {1, 7, 1, true}, {-1, 7, 6, true}, {8, 7, 1, true}, {4, 6, 0, false}, {0, 6, 0, false}, {6, 6, 0, false}, {-6, 6, 0, false}, {0, 2, 0, false}, {-9, 6, 0, false},
		{5, 1, 0, true}, {0, 1, 0, true}, {1, 1, 0, true}, {-1, 1, 0, true}, {-100000, 1, 0, true}, {100000, 1, 0, true}, // a modulus of 1
		{3, 10000, 6667, true}, {9999, 10000, 9999, true}, {-1, 10000, 9999, true}, {99999, 10000, 9999, true}, {-99999, 10000, 1, true}, {100000, 10000, 0, false}, {100000, 9999, 1000, true}, {-100000, 9999, 8999, true},
	} {
		if got, ok := impl.InverseMod(x.a, x.m); got != x.want || ok != x.ok {
			t.Errorf("InverseMod(%d, %d) = %d, %v, want %d, %v", x.a, x.m, got, ok, x.want, x.ok)
		}
	}
}

func TestInverseModInvalid(t *testing.T) {
	for _, bad := range badModuli {
		for _, a := range append([]int{0, 1, -3, 7}, greatNumbers...) {
			if got, ok := impl.InverseMod(a, bad); got != 0 || ok {
				t.Errorf("InverseMod(%d, %d) = %d, %v", a, bad, got, ok)
			}
		}
	}
	for _, bad := range badNumbers {
		for _, m := range append(slices.Clone(badModuli), greatModuli...) {
			if got, ok := impl.InverseMod(bad, m); got != 0 || ok {
				t.Errorf("InverseMod(%d, %d) = %d, %v", bad, m, got, ok)
			}
		}
	}
}

// wantSolved looks for the first two solutions of a congruence among the numbers below twice the modulus.
func wantSolved(t *testing.T, a int, b int, m int) bool {
	t.Helper()
	first, step, can := stepOf(2*m, func(x int) bool { return leaves(a*x, b, m) })
	if x, d, ok := impl.SolveCongruence(a, b, m); x != first || d != step || ok != can {
		t.Errorf("SolveCongruence(%d, %d, %d) = %d, %d, %v, want %d, %d, %v", a, b, m, x, d, ok, first, step, can)
	}
	return can
}

func TestSolveCongruence(t *testing.T) {
	solved, not := 0, 0
	for m := 1; m <= 24; m++ {
		for a := -30; a <= 30; a++ {
			for b := -30; b <= 30; b++ {
				if wantSolved(t, a, b, m) {
					solved++
				} else {
					not++
				}
			}
		}
	}
	if solved < 1000 || not < 1000 {
		t.Errorf("%d have a solution, and %d have none", solved, not)
	}
	for _, m := range greatModuli {
		for _, a := range greatNumbers {
			for _, b := range every(greatNumbers, 3) {
				wantSolved(t, a, b, m)
			}
		}
	}
}

func TestSolveCongruenceNumbers(t *testing.T) {
	for _, x := range []struct {
		a, b, m, x, step int
		ok               bool
	}{
		{6, 4, 10, 4, 5, true}, {6, 5, 10, 0, 0, false}, {-6, -4, 10, 4, 5, true}, {-6, 4, 10, 1, 5, true}, {6, -4, 10, 1, 5, true}, {16, 14, 10, 4, 5, true}, {3, 1, 7, 5, 7, true}, {2, 1, 4, 0, 0, false}, {2, -1, 4, 0, 0, false}, {1, -1, 10, 9, 10, true}, {-1, 1, 10, 9, 10, true}, {1, 0, 10, 0, 10, true}, {4, 0, 10, 0, 5, true}, {4, 10, 10, 0, 5, true},
		{0, 0, 5, 0, 1, true}, {0, 10, 5, 0, 1, true}, {0, -10, 5, 0, 1, true}, {0, 3, 5, 0, 0, false}, {5, 10, 5, 0, 1, true}, {-5, 3, 5, 0, 0, false}, // a has the remainder 0
		{0, 0, 1, 0, 1, true}, {7, 3, 1, 0, 1, true}, {-7, -3, 1, 0, 1, true}, {100000, -100000, 1, 0, 1, true}, // a modulus of 1
		{1, 9999, 10000, 9999, 10000, true}, {1, -100000, 10000, 0, 10000, true}, {1, 99999, 10000, 9999, 10000, true}, {-1, 99999, 10000, 1, 10000, true}, {9999, 1, 10000, 9999, 10000, true}, {100000, 100000, 10000, 0, 1, true}, {100000, 1, 10000, 0, 0, false}, {5000, 5000, 10000, 1, 2, true}, {-100000, 99999, 9999, 999, 9999, true},
	} {
		if got, step, ok := impl.SolveCongruence(x.a, x.b, x.m); got != x.x || step != x.step || ok != x.ok {
			t.Errorf("SolveCongruence(%d, %d, %d) = %d, %d, %v, want %d, %d, %v", x.a, x.b, x.m, got, step, ok, x.x, x.step, x.ok)
		}
	}
}

func TestSolveCongruenceInvalid(t *testing.T) {
	refused := [][3]int{}
	for _, bad := range badModuli {
		refused = append(refused, [3]int{1, 1, bad}, [3]int{0, 0, bad}, [3]int{-6, 4, bad}, [3]int{100000, -100000, bad}, [3]int{bad, bad, bad})
	}
	for _, bad := range badNumbers {
		for _, m := range append(slices.Clone(badModuli), greatModuli...) {
			refused = append(refused, [3]int{bad, 0, m}, [3]int{0, bad, m}, [3]int{bad, bad, m}, [3]int{bad, 7, m}, [3]int{7, bad, m})
		}
	}
	for _, x := range refused {
		if got, step, ok := impl.SolveCongruence(x[0], x[1], x[2]); got != 0 || step != 0 || ok {
			t.Errorf("SolveCongruence(%v) = %d, %d, %v", x, got, step, ok)
		}
	}
}

func TestCombineCongruences(t *testing.T) {
	combined, not := 0, 0
	for m := 1; m <= 14; m++ {
		for n := 1; n <= 14; n++ {
			for r := -17; r <= 17; r++ {
				for s := -17; s <= 17; s++ {
					first, step, can := stepOf(2*m*n, func(k int) bool { return leaves(k, r, m) && leaves(k, s, n) })
					if k, d, ok := impl.CombineCongruences(r, m, s, n); k != first || d != step || ok != can {
						t.Errorf("CombineCongruences(%d, %d, %d, %d) = %d, %d, %v, want %d, %d, %v", r, m, s, n, k, d, ok, first, step, can)
					}
					if can {
						combined++
					} else {
						not++
					}
				}
			}
		}
	}
	if combined < 1000 || not < 1000 {
		t.Errorf("%d agree, and %d do not", combined, not)
	}
}

// TestCombineCongruencesGreat goes through numbers and moduli at their limits: of all numbers below the step, one at most has both remainders, so that the right one is known without a search.
func TestCombineCongruencesGreat(t *testing.T) {
	agreed := 0
	for _, m := range greatModuli {
		for _, n := range greatModuli {
			common := slowGcd(m, n)
			for _, r := range greatNumbers {
				for _, s := range every(greatNumbers, 2) {
					k, step, ok := impl.CombineCongruences(r, m, s, n)
					if !leaves(r, s, common) {
						if k != 0 || step != 0 || ok {
							t.Errorf("CombineCongruences(%d, %d, %d, %d) = %d, %d, %v", r, m, s, n, k, step, ok)
						}
						continue
					}
					if !ok || step != m/common*n || k < 0 || k >= step || !leaves(k, r, m) || !leaves(k, s, n) {
						t.Errorf("CombineCongruences(%d, %d, %d, %d) = %d, %d, %v", r, m, s, n, k, step, ok)
					}
					agreed++
				}
			}
		}
	}
	if agreed < 1000 {
		t.Errorf("only %d agree", agreed)
	}
}

func TestCombineCongruencesNumbers(t *testing.T) {
	for _, x := range []struct {
		r, m, s, n, k, step int
		ok                  bool
	}{
		{2, 3, 3, 5, 8, 15, true}, {3, 5, 2, 3, 8, 15, true}, {-1, 3, -2, 5, 8, 15, true}, {-1, 3, 3, 5, 8, 15, true}, {17, 3, 18, 5, 8, 15, true}, {1, 4, 3, 6, 9, 12, true}, {3, 6, 1, 4, 9, 12, true}, {0, 4, 1, 6, 0, 0, false}, {1, 6, 0, 4, 0, 0, false}, {-4, 4, 7, 6, 0, 0, false}, {5, 7, 5, 7, 5, 7, true}, {5, 7, -2, 7, 5, 7, true}, {5, 7, 6, 7, 0, 0, false}, {0, 3, 0, 5, 0, 15, true}, {3, 3, 5, 5, 0, 15, true}, {0, 2, 0, 4, 0, 4, true}, {1, 2, 3, 4, 3, 4, true}, {3, 4, 1, 2, 3, 4, true}, {0, 2, 3, 4, 0, 0, false},
		{0, 1, 0, 1, 0, 1, true}, {9, 1, -9, 1, 0, 1, true}, {7, 1, 2, 3, 2, 3, true}, {2, 3, 7, 1, 2, 3, true}, {-1, 10000, 5, 1, 9999, 10000, true}, {5, 1, -1, 10000, 9999, 10000, true}, // a modulus of 1
		{-1, 10000, -1, 9999, 99989999, 99990000, true}, {0, 10000, 0, 9999, 0, 99990000, true}, {-1, 10000, -1, 10000, 9999, 10000, true}, {100000, 10000, -100000, 10000, 0, 10000, true}, {100000, 10000, -99999, 10000, 0, 0, false}, {99999, 10000, -100000, 2, 0, 0, false}, {100000, 9999, 100000, 10000, 100000, 99990000, true}, {-100000, 9999, -100000, 10000, 99890000, 99990000, true},
	} {
		if k, step, ok := impl.CombineCongruences(x.r, x.m, x.s, x.n); k != x.k || step != x.step || ok != x.ok {
			t.Errorf("CombineCongruences(%d, %d, %d, %d) = %d, %d, %v, want %d, %d, %v", x.r, x.m, x.s, x.n, k, step, ok, x.k, x.step, x.ok)
		}
	}
}

func TestCombineCongruencesInvalid(t *testing.T) {
	refused := [][4]int{}
	for _, bad := range badModuli {
		for _, m := range greatModuli {
			refused = append(refused, [4]int{0, bad, 0, m}, [4]int{0, m, 0, bad}, [4]int{1, bad, 1, bad}, [4]int{-100000, m, 100000, bad}, [4]int{-100000, bad, 100000, m})
		}
	}
	for _, bad := range badNumbers {
		for _, m := range append([]int{0, -1, 10001}, greatModuli...) {
			refused = append(refused, [4]int{bad, m, 0, 1}, [4]int{0, 1, bad, m}, [4]int{bad, m, bad, m}, [4]int{bad, 1, 0, m}, [4]int{0, m, bad, 1}, [4]int{bad, 3, 1, bad})
		}
	}
	for _, x := range refused {
		if k, step, ok := impl.CombineCongruences(x[0], x[1], x[2], x[3]); k != 0 || step != 0 || ok {
			t.Errorf("CombineCongruences(%v) = %d, %d, %v", x, k, step, ok)
		}
	}
}

// slowPair looks for the natural solution of an equation with the least x, and then the least y, among all that are small enough to be the least.
func slowPair(a int, b int, c int) (int, int, bool) {
	most := max(c, -c) + 101
	for x := range most {
		left := c - a*x
		if b == 0 && left == 0 {
			return x, 0, true
		}
		if b != 0 && left%b == 0 && left/b >= 0 {
			return x, left / b, true
		}
	}
	return 0, 0, false
}

func wantPair(t *testing.T, a int, b int, c int) bool {
	t.Helper()
	x, y, can := slowPair(a, b, c)
	if gotX, gotY, ok := impl.LeastSolution(a, b, c); gotX != x || gotY != y || ok != can {
		t.Errorf("LeastSolution(%d, %d, %d) = %d, %d, %v, want %d, %d, %v", a, b, c, gotX, gotY, ok, x, y, can)
	}
	return can
}

func TestLeastSolution(t *testing.T) {
	solved, not := 0, 0
	for a := -13; a <= 13; a++ {
		for b := -13; b <= 13; b++ {
			for c := -80; c <= 80; c++ {
				if wantPair(t, a, b, c) {
					solved++
				} else {
					not++
				}
			}
		}
	}
	if solved < 1000 || not < 1000 {
		t.Errorf("%d have a solution, and %d have none", solved, not)
	}
	coefs := []int{-100, -99, -97, -60, -7, -2, -1, 0, 1, 3, 8, 50, 98, 99, 100}
	for _, a := range coefs {
		for _, b := range coefs {
			for _, c := range []int{-10000, -9999, -9998, -9001, -500, -1, 0, 1, 97, 4849, 9702, 9899, 9999, 10000} {
				wantPair(t, a, b, c)
			}
		}
	}
}

func TestLeastSolutionNumbers(t *testing.T) {
	for _, x := range []struct {
		a, b, c, x, y int
		ok            bool
	}{
		{3, 5, 7, 0, 0, false}, {3, 5, 8, 1, 1, true}, {3, 5, 15, 0, 3, true}, {5, 3, 15, 0, 5, true}, {3, 5, 0, 0, 0, true}, {-3, -5, -8, 1, 1, true}, {-1, -1, 3, 0, 0, false}, {1, 1, -3, 0, 0, false}, {2, 4, 7, 0, 0, false}, {2, 4, 6, 1, 1, true}, {-3, -5, -7, 0, 0, false}, // the same sign
		{3, -2, 1, 1, 1, true}, {-2, 3, 1, 1, 1, true}, {3, -2, -1, 1, 2, true}, {3, -2, 6, 2, 0, true}, {3, -2, 60, 20, 0, true}, {3, -2, -60, 0, 30, true}, {1, -1, 5, 5, 0, true}, {1, -1, -5, 0, 5, true}, {-1, 1, -5, 5, 0, true}, {4, -6, 3, 0, 0, false}, {4, -6, 2, 2, 1, true}, {-4, 6, -3, 0, 0, false}, {2, -2, 0, 0, 0, true}, // different signs
		{0, 2, 4, 0, 2, true}, {0, -2, -4, 0, 2, true}, {0, 2, -4, 0, 0, false}, {0, -2, 4, 0, 0, false}, {0, 2, 5, 0, 0, false}, {0, 7, 0, 0, 0, true}, {0, 1, 10000, 0, 10000, true}, // a is 0
		{2, 0, 6, 3, 0, true}, {-2, 0, -6, 3, 0, true}, {2, 0, -6, 0, 0, false}, {-2, 0, 6, 0, 0, false}, {2, 0, 5, 0, 0, false}, {7, 0, 0, 0, 0, true}, {1, 0, 10000, 10000, 0, true}, {-1, 0, -10000, 10000, 0, true}, // b is 0
		{0, 0, 0, 0, 0, true}, {0, 0, 1, 0, 0, false}, {0, 0, -1, 0, 0, false}, {0, 0, 10000, 0, 0, false},
		{1, -100, 10000, 10000, 0, true}, {1, -100, 9999, 9999, 0, true}, {1, -100, -10000, 0, 100, true}, {-1, 100, 9999, 1, 100, true}, {99, -100, 10000, 200, 98, true}, {100, -99, 9999, 198, 99, true}, {100, -99, -10000, 98, 200, true}, {100, 99, 9801, 0, 99, true}, {100, 99, 9701, 0, 0, false}, {100, 99, 9800, 98, 0, true}, {-100, -100, -10000, 0, 100, true}, {100, 100, 9999, 0, 0, false},
	} {
		if gotX, gotY, ok := impl.LeastSolution(x.a, x.b, x.c); gotX != x.x || gotY != x.y || ok != x.ok {
			t.Errorf("LeastSolution(%d, %d, %d) = %d, %d, %v, want %d, %d, %v", x.a, x.b, x.c, gotX, gotY, ok, x.x, x.y, x.ok)
		}
	}
}

// badEquations are equations with one number or more past its limit, also where the others would make them simple.
func badEquations() [][3]int {
	var list [][3]int
	for _, bad := range badCoefs {
		for _, n := range []int{0, 1, -1, 7, 100, bad} {
			for _, c := range []int{0, 1, -6, 101, 10000, -10000, 10001, bad} {
				list = append(list, [3]int{bad, n, c}, [3]int{n, bad, c})
			}
		}
	}
	for _, bad := range badConsts {
		for _, a := range []int{0, 1, -1, 5, -100, 100} {
			for _, b := range []int{0, 1, -1, 3, -100, 100} {
				list = append(list, [3]int{a, b, bad})
			}
		}
	}
	return list
}

func TestLeastSolutionInvalid(t *testing.T) {
	for _, x := range badEquations() {
		if gotX, gotY, ok := impl.LeastSolution(x[0], x[1], x[2]); gotX != 0 || gotY != 0 || ok {
			t.Errorf("LeastSolution(%v) = %d, %d, %v", x, gotX, gotY, ok)
		}
	}
}

// slowCount counts the pairs of x and y.
func slowCount(a int, b int, c int) int {
	count := 0
	for n := c; n >= 0; n -= a {
		if n%b == 0 {
			count++
		}
	}
	return count
}

func TestCountSolutions(t *testing.T) {
	for a := 1; a <= 16; a++ {
		for b := 1; b <= 16; b++ {
			for c := -40; c <= 160; c++ {
				want := 0
				for y := 0; y*b <= c; y++ {
					if (c-y*b)%a == 0 {
						want++
					}
				}
				if got := impl.CountSolutions(a, b, c); got != want || slowCount(a, b, c) != want {
					t.Errorf("CountSolutions(%d, %d, %d) = %d, want %d", a, b, c, got, want)
				}
			}
		}
	}
	coefs := []int{1, 2, 3, 7, 30, 50, 64, 97, 99, 100}
	for _, a := range coefs {
		for _, b := range coefs {
			for _, c := range []int{-10000, -9999, -100, -99, -1, 0, 1, 99, 100, 5000, 9603, 9702, 9900, 9999, 10000} {
				if got := impl.CountSolutions(a, b, c); got != slowCount(a, b, c) {
					t.Errorf("CountSolutions(%d, %d, %d) = %d", a, b, c, got)
				}
			}
		}
	}
	for _, x := range []struct{ a, b, c, want int }{
		{3, 5, 15, 2}, {3, 5, 7, 0}, {3, 5, 8, 1}, {1, 1, 0, 1}, {1, 1, -1, 0}, {2, 2, -1, 0}, {2, 3, -1, 0}, {2, 3, -6, 0}, {1, 1, 10000, 10001}, {1, 1, -10000, 0}, {100, 100, 10000, 101}, {1, 100, 10000, 101}, {100, 1, 10000, 101}, {2, 2, 3, 0}, {2, 2, 4, 3}, {6, 10, 60, 3},
	} {
		if got := impl.CountSolutions(x.a, x.b, x.c); got != x.want {
			t.Errorf("CountSolutions(%d, %d, %d) = %d, want %d", x.a, x.b, x.c, got, x.want)
		}
	}
}

func TestCountSolutionsInvalid(t *testing.T) {
	refused := badEquations()
	for _, bad := range []int{0, -1, -2, -99, -100, 101} { // also the coefficients that are not positive
		for _, n := range []int{1, 3, 100, 0, -1} {
			for _, c := range []int{-10000, -1, 0, 1, 6, 10000} {
				refused = append(refused, [3]int{bad, n, c}, [3]int{n, bad, c})
			}
		}
	}
	for _, x := range refused {
		if got := impl.CountSolutions(x[0], x[1], x[2]); got != -1 {
			t.Errorf("CountSolutions(%v) = %d", x, got)
		}
	}
}

// slowGap marks all sums of multiples of a and b up to their product, beyond which there is no gap.
func slowGap(a int, b int) int {
	made := make([]bool, a*b+1)
	made[0] = true
	gap := -1
	for n := range made {
		made[n] = made[n] || n >= a && made[n-a] || n >= b && made[n-b]
		if !made[n] {
			gap = n
		}
	}
	return gap
}

func TestGreatestGap(t *testing.T) {
	for a := -3; a <= 103; a++ {
		for b := -3; b <= 103; b++ {
			want := -2
			if a >= 1 && a <= 100 && b >= 1 && b <= 100 && slowGcd(a, b) == 1 {
				want = slowGap(a, b)
			}
			if got := impl.GreatestGap(a, b); got != want {
				t.Errorf("GreatestGap(%d, %d) = %d, want %d", a, b, got, want)
			}
		}
	}
	for _, x := range []struct{ a, b, want int }{
		{3, 5, 7}, {5, 3, 7}, {1, 1, -1}, {1, 4, -1}, {4, 1, -1}, {1, 100, -1}, {100, 1, -1}, {2, 3, 1}, {99, 100, 9701}, {100, 99, 9701}, {2, 4, -2}, {4, 4, -2}, {100, 100, -2}, {0, 1, -2}, {1, 0, -2}, {0, 0, -2}, {-3, 5, -2}, {3, -5, -2}, {-1, -1, -2}, {101, 1, -2}, {1, 101, -2}, {101, 100, -2},
	} {
		if got := impl.GreatestGap(x.a, x.b); got != x.want {
			t.Errorf("GreatestGap(%d, %d) = %d, want %d", x.a, x.b, got, x.want)
		}
	}
	for _, bad := range badCoefs {
		for _, n := range []int{1, 3, 100, 0, -1, bad} {
			if one, two := impl.GreatestGap(bad, n), impl.GreatestGap(n, bad); one != -2 || two != -2 {
				t.Errorf("GreatestGap of %d and %d = %d, %d", bad, n, one, two)
			}
		}
	}
}

// TestBeyondGap is the second half of P5: beyond the greatest gap every number is a sum of multiples, and the gap is none.
func TestBeyondGap(t *testing.T) {
	pairs := 0
	for a := 1; a <= 100; a += 3 {
		for b := 1; b <= 100; b += 2 {
			gap := impl.GreatestGap(a, b)
			if gap == -2 {
				continue
			}
			pairs++
			if gap >= 0 && impl.CountSolutions(a, b, gap) != 0 {
				t.Errorf("%d is a sum of multiples of %d and %d", gap, a, b)
			}
			if _, _, ok := impl.LeastSolution(a, b, gap); ok {
				t.Errorf("the gap %d of %d and %d has a solution", gap, a, b)
			}
			for n := gap + 1; n <= min(gap+2*a+2*b, 10000); n++ {
				x, y, ok := impl.LeastSolution(a, b, n)
				if !ok || x < 0 || y < 0 || a*x+b*y != n || impl.CountSolutions(a, b, n) < 1 {
					t.Errorf("%d is no sum of multiples of %d and %d beyond the gap %d", n, a, b, gap)
				}
			}
		}
	}
	if pairs < 500 {
		t.Errorf("only %d pairs have a gap", pairs)
	}
}

// TestNumbersAgree looks whether functions tell the same where they speak of the same.
func TestNumbersAgree(t *testing.T) {
	for a := -40; a <= 40; a++ {
		for m := 1; m <= 40; m++ {
			g, x, _, _ := impl.BezoutOf(a, m)
			inverse, can := impl.InverseMod(a, m)
			if g != impl.GcdOf(a, m) || can != (g == 1) || can && inverse != x {
				t.Errorf("%d and %d have the divisor %d with x = %d, but the inverse %d, %v", a, m, g, x, inverse, can)
			}
			if least, step, ok := impl.SolveCongruence(a, g, m); least != x || step != m/g || !ok {
				t.Errorf("BezoutOf(%d, %d) has the least x %d, but SolveCongruence %d, %d, %v", a, m, x, least, step, ok)
			}
			for n := 1; n <= 12; n++ {
				_, step, _ := impl.CombineCongruences(a, m, a, n)
				if step != impl.LcmOf([]int{m, n}) {
					t.Errorf("%d and %d have the step %d", m, n, step)
				}
			}
		}
	}
	for a := -100; a <= 100; a++ {
		for b := 1; b <= 30; b++ {
			down, _ := impl.FloorDiv(a, b)
			up, _ := impl.CeilDiv(a, b)
			opposite, _ := impl.CeilDiv(-a, b)
			if down != -opposite || up-down > 1 || (up == down) != (impl.GcdOf(a, b) == b) {
				t.Errorf("the quotients of %d and %d are %d and %d", a, b, down, up)
			}
		}
	}
}

// TestHugeNumbers calls the functions with numbers up to the ends of an int in all places: none may panic, or take them.
func TestHugeNumbers(t *testing.T) {
	for _, a := range extremes {
		for _, b := range append([]int{0, 1, -1, 3, 100}, extremes...) {
			for _, c := range append([]int{0, 1, -1, 3, 10000}, extremes...) {
				_, _, _, one := impl.BezoutOf(a, b)
				_, two := impl.FloorDiv(a, b)
				_, three := impl.CeilDiv(b, a)
				_, four := impl.InverseMod(c, a)
				_, _, five := impl.SolveCongruence(b, c, a)
				_, _, six := impl.CombineCongruences(b, c, a, c)
				_, _, seven := impl.CombineCongruences(b, a, c, b)
				_, _, eight := impl.LeastSolution(b, c, a)
				_, _, nine := impl.LeastSolution(a, b, c)
				if one || two || three || four || five || six || seven || eight || nine {
					t.Errorf("%d, %d and %d were accepted", a, b, c)
				}
				if impl.GcdOf(a, b) != -1 || impl.GcdOf(c, a) != -1 || impl.LcmOf([]int{b, a}) != -1 || impl.CountSolutions(1, 1, a) != -1 || impl.CountSolutions(a, b, c) != -1 || impl.GreatestGap(a, b) != -2 || impl.GreatestGap(b, a) != -2 {
					t.Errorf("%d, %d and %d have a result", a, b, c)
				}
			}
		}
	}
	if n, ok := impl.CeilDiv(math.MinInt, 1); n != 0 || ok { // it is its own opposite
		t.Errorf("CeilDiv of the least int = %d, %v", n, ok)
	}
}
