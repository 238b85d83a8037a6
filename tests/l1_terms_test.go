package tests

import (
	"math"
	"regexp"
	"slices"
	"strings"
	"testing"

	"loop.example/presburger/impl"
)

// extremes are numbers that no limit accepts, up to the ends of an int.
var extremes = []int{math.MinInt, math.MinInt + 1, math.MinInt32, math.MaxInt32, math.MaxInt - 1, math.MaxInt}

// noVars are numbers of no variable.
var noVars = []int{math.MinInt, -5, -1, 4, 5, 100, math.MaxInt}

// termWith returns a term with one number: the coefficient of the variable i, or N for 4.
func termWith(i int, n int) impl.Term {
	var m [5]int
	m[i] = n
	return termOf(m)
}

func termOf(m [5]int) impl.Term {
	return impl.Term{A: m[0], B: m[1], C: m[2], D: m[3], N: m[4]}
}

func numbersOf(t impl.Term) [5]int {
	return [5]int{t.A, t.B, t.C, t.D, t.N}
}

func pointOf(m [4]int) impl.Point {
	return impl.Point{A: m[0], B: m[1], C: m[2], D: m[3]}
}

// pointWith returns a point with one value that is not 0.
func pointWith(v int, n int) impl.Point {
	var m [4]int
	m[v] = n
	return pointOf(m)
}

// limitOf returns the limit of the number of a term with the index i.
func limitOf(i int) int {
	if i == 4 {
		return 10000
	}
	return 100
}

// badTerms are terms with one number that is not valid.
func badTerms() []impl.Term {
	var list []impl.Term
	for i := range 5 {
		list = append(list, termWith(i, limitOf(i)+1), termWith(i, -limitOf(i)-1))
		for _, n := range extremes {
			list = append(list, termWith(i, n))
		}
	}
	for _, n := range extremes {
		list = append(list, impl.Term{A: n, B: n, C: n, D: n, N: n})
	}
	return list
}

// badPoints are points with one value that is not valid.
func badPoints() []impl.Point {
	var list []impl.Point
	for v := range 4 {
		for _, n := range append([]int{-1, 1001}, extremes...) {
			list = append(list, pointWith(v, n))
		}
	}
	for _, n := range extremes {
		list = append(list, impl.Point{A: n, B: n, C: n, D: n})
	}
	return list
}

// someTerms returns valid terms: small ones, and all whose numbers are at or near the limits.
func someTerms() []impl.Term {
	list := []impl.Term{{}, {A: 2, B: -1, N: 3}, {A: 12, B: -34, C: 56, D: -78, N: 90}, {A: 10, C: -20, N: 1000}}
	near := []int{-2, -1, 0, 1, 7}
	for k := range 5 * 5 * 5 * 5 * 5 {
		var m [5]int
		rest := k
		for i := range m {
			m[i] = near[rest%5]
			rest /= 5
		}
		list = append(list, termOf(m))
	}
	for k := range 3 * 3 * 3 * 3 * 3 {
		var m [5]int
		rest := k
		for i := range m {
			m[i] = (rest%3 - 1) * limitOf(i)
			rest /= 3
		}
		list = append(list, termOf(m))
	}
	return list
}

// every thins a list out, for tests that go through pairs.
func every[T any](list []T, step int) []T {
	var result []T
	for i := 0; i < len(list); i += step {
		result = append(result, list[i])
	}
	return result
}

func wantTerm(t *testing.T, what string, got impl.Term, ok bool, want impl.Term) {
	t.Helper()
	if got != want || !ok {
		t.Errorf("%s = %v, %v, want %v", what, got, ok, want)
	}
}

func wantNoTerm(t *testing.T, what string, got impl.Term, ok bool) {
	t.Helper()
	if got != (impl.Term{}) || ok {
		t.Errorf("%s = %v, %v, want no term", what, got, ok)
	}
}

func TestTermLimits(t *testing.T) {
	if impl.Vars != 4 || impl.MaxCoef != 100 || impl.MaxConst != 10000 || impl.MaxPoint != 1000 {
		t.Error("the limits are not those of the document")
	}
}

func TestTermValid(t *testing.T) {
	for _, x := range someTerms() {
		if !impl.TermValid(x) {
			t.Errorf("TermValid(%v) = false", x)
		}
	}
	for _, x := range badTerms() {
		if impl.TermValid(x) {
			t.Errorf("TermValid(%v) = true", x)
		}
	}
}

func TestPointValid(t *testing.T) {
	for v := range 4 {
		for _, n := range []int{0, 1, 999, 1000} {
			if p := pointWith(v, n); !impl.PointValid(p) {
				t.Errorf("PointValid(%v) = false", p)
			}
		}
	}
	if !impl.PointValid(impl.Point{A: 1000, B: 1000, C: 1000, D: 1000}) {
		t.Error("the greatest point is not valid")
	}
	for _, p := range badPoints() {
		if impl.PointValid(p) {
			t.Errorf("PointValid(%v) = true", p)
		}
	}
}

func TestCoefOf(t *testing.T) {
	x := impl.Term{A: 2, B: -1, C: 100, D: -100, N: 7}
	for v, want := range []int{2, -1, 100, -100} {
		if got := impl.CoefOf(x, v); got != want {
			t.Errorf("CoefOf(%v, %d) = %d", x, v, got)
		}
	}
	for v := range 4 {
		for _, n := range append([]int{101, -101}, extremes...) {
			if got := impl.CoefOf(termWith(v, n), v); got != n {
				t.Errorf("CoefOf variable %d = %d, want %d also in a term that is not valid", v, got, n)
			}
		}
	}
	for _, v := range noVars {
		if got := impl.CoefOf(impl.Term{A: 1, B: 2, C: 3, D: 4, N: 5}, v); got != 0 {
			t.Errorf("CoefOf variable %d = %d", v, got)
		}
	}
}

func TestValueOf(t *testing.T) {
	p := impl.Point{A: 3, B: 0, C: 1000, D: 14}
	for v, want := range []int{3, 0, 1000, 14} {
		if got := impl.ValueOf(p, v); got != want {
			t.Errorf("ValueOf(%v, %d) = %d", p, v, got)
		}
	}
	for v := range 4 {
		for _, n := range append([]int{-1, 1001}, extremes...) {
			if got := impl.ValueOf(pointWith(v, n), v); got != n {
				t.Errorf("ValueOf variable %d = %d, want %d also in a point that is not valid", v, got, n)
			}
		}
	}
	for _, v := range noVars {
		if got := impl.ValueOf(p, v); got != -1 {
			t.Errorf("ValueOf variable %d = %d", v, got)
		}
	}
}

func TestWithValue(t *testing.T) {
	numbers := [4]int{1, 20, 300, 1000}
	for v := range 4 {
		for _, n := range []int{0, 1, 7, 999, 1000} {
			changed := numbers
			changed[v] = n
			if got, ok := impl.WithValue(pointOf(numbers), v, n); got != pointOf(changed) || !ok {
				t.Errorf("WithValue(%d, %d) = %v, %v", v, n, got, ok)
			}
		}
		for _, n := range append([]int{-1, 1001}, extremes...) {
			if got, ok := impl.WithValue(pointOf(numbers), v, n); got != (impl.Point{}) || ok {
				t.Errorf("WithValue(%d, %d) = %v, %v", v, n, got, ok)
			}
		}
	}
	for _, v := range noVars {
		if got, ok := impl.WithValue(pointOf(numbers), v, 5); got != (impl.Point{}) || ok {
			t.Errorf("WithValue variable %d = %v, %v", v, got, ok)
		}
	}
	for _, p := range badPoints() {
		for v := range 4 { // also where the value that is not valid would be replaced
			if got, ok := impl.WithValue(p, v, 5); got != (impl.Point{}) || ok {
				t.Errorf("WithValue(%v, %d, 5) = %v, %v", p, v, got, ok)
			}
		}
	}
}

// termTexts are terms and their texts as the document defines them.
var termTexts = []struct {
	text string
	term impl.Term
}{
	{"0", impl.Term{}},
	{"2a-b+3", impl.Term{A: 2, B: -1, N: 3}},
	{"a", impl.Term{A: 1}},
	{"-a", impl.Term{A: -1}},
	{"d", impl.Term{D: 1}},
	{"-d-1", impl.Term{D: -1, N: -1}},
	{"1", impl.Term{N: 1}},
	{"-1", impl.Term{N: -1}},
	{"c+1", impl.Term{C: 1, N: 1}},
	{"-c-1", impl.Term{C: -1, N: -1}},
	{"a+b+c+d", impl.Term{A: 1, B: 1, C: 1, D: 1}},
	{"-a-b-c-d", impl.Term{A: -1, B: -1, C: -1, D: -1}},
	{"a-b+c-d", impl.Term{A: 1, B: -1, C: 1, D: -1}},
	{"11a-11b", impl.Term{A: 11, B: -11}},
	{"10b-20d+101", impl.Term{B: 10, D: -20, N: 101}},
	{"100a-100b+100c-100d+10000", impl.Term{A: 100, B: -100, C: 100, D: -100, N: 10000}},
	{"-100a-100b-100c-100d-10000", impl.Term{A: -100, B: -100, C: -100, D: -100, N: -10000}},
	{"10000", impl.Term{N: 10000}},
	{"-10000", impl.Term{N: -10000}},
	{"2a", impl.Term{A: 2}},
	{"b+5", impl.Term{B: 1, N: 5}},
}

func TestTermTexts(t *testing.T) {
	for _, x := range termTexts {
		if got := impl.FormatTerm(x.term); got != x.text {
			t.Errorf("FormatTerm(%v) = %q, want %q", x.term, got, x.text)
		}
		got, ok := impl.ParseTerm(x.text)
		wantTerm(t, "ParseTerm "+x.text, got, ok, x.term)
	}
}

func TestFormatTermInvalid(t *testing.T) {
	for _, x := range badTerms() {
		if got := impl.FormatTerm(x); got != "" {
			t.Errorf("FormatTerm(%v) = %q", x, got)
		}
	}
}

func TestParseTermRoundTrip(t *testing.T) {
	seen := map[string]impl.Term{}
	for _, x := range someTerms() {
		text := impl.FormatTerm(x)
		if other, found := seen[text]; found && other != x {
			t.Errorf("%v and %v have the text %q", x, other, text)
		}
		seen[text] = x
		if !isTermText(text) {
			t.Errorf("FormatTerm(%v) = %q", x, text)
		}
		got, ok := impl.ParseTerm(text)
		wantTerm(t, "ParseTerm "+text, got, ok, x)
	}
}

func TestParseTermInvalid(t *testing.T) {
	texts := []string{
		"", " ", "+", "-", "--", "+a", "+0", "-0", "+1", "00", "01", "-01", "1 ", " 1", "1\n", "a\n",
		"1a", "-1a", "a+1b", "0a", "-0a", "a+0b", "a+0", "a-0", "0+a", "01a", "a+01", "a+a", "2a-a", "a-a", "b+a", "d+c",
		"3+a", "1+1", "1-1", "a-", "a+", "a--b", "a+-b", "a-+b", "a b", "a + b", "ab", "a2", "2a3b", "a1", "e", "A", "2A",
		"101a", "-101a", "b+101c", "10001", "-10001", "a+10001", "100000", "a*b", "2*a", "a<=0", "a=0", "1.0", "1e3", "0x1", "1_0",
		"\x00", "a\x00", "\xff", "a\xff", "\u0661", "\uff11", "\u2212a", "a\u0301",
		"9223372036854775807", "9223372036854775808", "-9223372036854775808a", "18446744073709551617a", "4294967297a", "18446744073709551616",
	}
	for _, s := range texts {
		got, ok := impl.ParseTerm(s)
		wantNoTerm(t, "ParseTerm "+s, got, ok)
	}
	for _, long := range []string{"a", "1", "0", "-", "+a", "a+b+", "9a", "\xff"} {
		got, ok := impl.ParseTerm(strings.Repeat(long, 100000))
		wantNoTerm(t, "ParseTerm of a long text", got, ok)
	}
}

var signedTerm = regexp.MustCompile(`\A([+-](|[2-9]|[1-9][0-9]|100)a)?([+-](|[2-9]|[1-9][0-9]|100)b)?([+-](|[2-9]|[1-9][0-9]|100)c)?([+-](|[2-9]|[1-9][0-9]|100)d)?([+-]([1-9][0-9]{0,3}|10000))?\z`)

// isTermText tells the texts of terms in another way than the program does.
func isTermText(s string) bool {
	switch {
	case s == "0":
		return true
	case s == "":
		return false
	case s[0] == '-':
		return signedTerm.MatchString(s)
	}
	return signedTerm.MatchString("+" + s)
}

// nearly returns the texts that differ from a text in one byte.
func nearly(s string) []string {
	var list []string
	for i := 0; i <= len(s); i++ {
		for _, c := range []byte("01259abcde+- A\x00\xff\n=") {
			list = append(list, s[:i]+string([]byte{c})+s[i:])
			if i < len(s) {
				list = append(list, s[:i]+string([]byte{c})+s[i+1:])
			}
		}
		if i < len(s) {
			list = append(list, s[:i]+s[i+1:])
		}
		if i+1 < len(s) {
			list = append(list, s[:i]+s[i+1:i+2]+s[i:i+1]+s[i+2:])
		}
	}
	return list
}

func TestParseTermNearly(t *testing.T) {
	accepted := 0
	for _, x := range termTexts {
		for _, s := range nearly(x.text) {
			got, ok := impl.ParseTerm(s)
			if ok != isTermText(s) {
				t.Errorf("ParseTerm(%q) = %v, %v", s, got, ok)
			}
			if ok && impl.FormatTerm(got) != s {
				t.Errorf("ParseTerm(%q) = %v, which has the text %q", s, got, impl.FormatTerm(got))
			}
			if !ok && got != (impl.Term{}) {
				t.Errorf("ParseTerm(%q) = %v, false", s, got)
			}
			if ok {
				accepted++
			}
		}
	}
	if accepted == 0 {
		t.Error("none of the nearby texts is that of a term")
	}
}

func TestEvalTerm(t *testing.T) {
	cases := []struct {
		term  impl.Term
		point impl.Point
		want  int
	}{
		{impl.Term{}, impl.Point{A: 1, B: 2, C: 3, D: 4}, 0},
		{impl.Term{N: -10000}, impl.Point{A: 1000}, -10000},
		{impl.Term{A: 2, B: -1, N: 3}, impl.Point{A: 4, B: 1}, 10},
		{impl.Term{A: 2, B: 3, C: 5, D: 7, N: 11}, impl.Point{A: 1, B: 10, C: 100, D: 1000}, 7543},
		{impl.Term{A: 1}, impl.Point{A: 6, B: 7, C: 8, D: 9}, 6},
		{impl.Term{B: 1}, impl.Point{A: 6, B: 7, C: 8, D: 9}, 7},
		{impl.Term{C: -1}, impl.Point{A: 6, B: 7, C: 8, D: 9}, -8},
		{impl.Term{D: -1}, impl.Point{A: 6, B: 7, C: 8, D: 9}, -9},
		{impl.Term{A: 100, B: 100, C: 100, D: 100, N: 10000}, impl.Point{A: 1000, B: 1000, C: 1000, D: 1000}, 410000},
		{impl.Term{A: -100, B: -100, C: -100, D: -100, N: -10000}, impl.Point{A: 1000, B: 1000, C: 1000, D: 1000}, -410000},
	}
	for _, x := range cases {
		if got, ok := impl.EvalTerm(x.term, x.point); got != x.want || !ok {
			t.Errorf("EvalTerm(%v, %v) = %d, %v, want %d", x.term, x.point, got, ok, x.want)
		}
	}
	for _, x := range badTerms() {
		if got, ok := impl.EvalTerm(x, impl.Point{}); got != 0 || ok {
			t.Errorf("EvalTerm(%v) = %d, %v", x, got, ok)
		}
	}
	for _, p := range badPoints() {
		if got, ok := impl.EvalTerm(impl.Term{N: 3}, p); got != 0 || ok {
			t.Errorf("EvalTerm at %v = %d, %v", p, got, ok)
		}
	}
}

// combined returns k times t plus m times u, if this is a valid term.
func combined(t impl.Term, k int, u impl.Term, m int) (impl.Term, bool) {
	x, y := numbersOf(t), numbersOf(u)
	for i := range x {
		x[i] = k*x[i] + m*y[i]
		if x[i] > limitOf(i) || x[i] < -limitOf(i) {
			return impl.Term{}, false
		}
	}
	return termOf(x), true
}

func TestAddTerms(t *testing.T) {
	terms := every(someTerms(), 31)
	for _, x := range terms {
		for _, y := range terms {
			want, valid := combined(x, 1, y, 1)
			if got, ok := impl.AddTerms(x, y); got != want || ok != valid {
				t.Errorf("AddTerms(%v, %v) = %v, %v", x, y, got, ok)
			}
		}
	}
	for i := range 5 {
		limit := limitOf(i)
		for _, sign := range []int{1, -1} {
			got, ok := impl.AddTerms(termWith(i, sign*(limit-1)), termWith(i, sign))
			wantTerm(t, "AddTerms up to a limit", got, ok, termWith(i, sign*limit))
			got, ok = impl.AddTerms(termWith(i, sign*limit), termWith(i, sign))
			wantNoTerm(t, "AddTerms past a limit", got, ok)
		}
		got, ok := impl.AddTerms(termWith(i, limit), termWith(i, -limit))
		wantTerm(t, "AddTerms of opposites", got, ok, impl.Term{})
	}
	for _, bad := range badTerms() {
		got, ok := impl.AddTerms(bad, impl.Term{A: 1})
		wantNoTerm(t, "AddTerms", got, ok)
		got, ok = impl.AddTerms(impl.Term{A: 1}, bad)
		wantNoTerm(t, "AddTerms", got, ok)
	}
	got, ok := impl.AddTerms(impl.Term{A: 101}, impl.Term{A: -1})
	wantNoTerm(t, "AddTerms of a term that is not valid, with a valid sum", got, ok)
}

func TestScaleTerm(t *testing.T) {
	for _, x := range someTerms() {
		for _, k := range []int{-10000, -101, -50, -2, -1, 0, 1, 2, 14, 100, 10000} {
			want, valid := combined(x, k, impl.Term{}, 0)
			if got, ok := impl.ScaleTerm(x, k); got != want || ok != valid {
				t.Errorf("ScaleTerm(%v, %d) = %v, %v", x, k, got, ok)
			}
		}
	}
	for _, sign := range []int{1, -1} {
		got, ok := impl.ScaleTerm(impl.Term{N: 1}, sign*10000)
		wantTerm(t, "ScaleTerm by MaxConst", got, ok, impl.Term{N: sign * 10000})
		got, ok = impl.ScaleTerm(impl.Term{B: 1}, sign*100)
		wantTerm(t, "ScaleTerm by MaxCoef", got, ok, impl.Term{B: sign * 100})
		got, ok = impl.ScaleTerm(impl.Term{B: 1}, sign*101)
		wantNoTerm(t, "ScaleTerm past MaxCoef", got, ok)
		got, ok = impl.ScaleTerm(impl.Term{N: 5001}, sign*2)
		wantNoTerm(t, "ScaleTerm past MaxConst", got, ok)
	}
	for _, k := range append([]int{10001, -10001}, extremes...) { // the term 0 stays valid, but k is none of its numbers
		got, ok := impl.ScaleTerm(impl.Term{}, k)
		wantNoTerm(t, "ScaleTerm of 0", got, ok)
		got, ok = impl.ScaleTerm(impl.Term{A: 1, N: 4}, k)
		wantNoTerm(t, "ScaleTerm", got, ok)
	}
	for _, bad := range badTerms() {
		for _, k := range []int{0, 1, -1} {
			got, ok := impl.ScaleTerm(bad, k)
			wantNoTerm(t, "ScaleTerm of a term that is not valid", got, ok)
		}
	}
}

// substituted returns what SubstTerm should: t without v, and the coefficient of v times u.
func substituted(t impl.Term, v int, u impl.Term) (impl.Term, bool) {
	m := numbersOf(t)
	k := m[v]
	m[v] = 0
	return combined(termOf(m), 1, u, k)
}

func TestSubstTerm(t *testing.T) {
	terms := every(someTerms(), 29)
	for _, x := range terms {
		for _, y := range terms {
			for v := range 4 {
				want, valid := substituted(x, v, y)
				if got, ok := impl.SubstTerm(x, v, y); got != want || ok != valid {
					t.Errorf("SubstTerm(%v, %d, %v) = %v, %v", x, v, y, got, ok)
				}
			}
		}
	}
}

func TestSubstTermTexts(t *testing.T) {
	cases := []struct {
		term, put, want string
		v               int
	}{
		{"2a-b+3", "b+1", "b+5", 0},
		{"2a-b+3", "a+1", "2a-b+5", 0},
		{"2a-b+3", "a", "2a-b+3", 0},
		{"2a-b+3", "-a", "-2a-b+3", 0},
		{"2a-b+3", "0", "-b+3", 0},
		{"2a-b+3", "b", "b+3", 0},
		{"2a-b+3", "2a+3", "0", 1},
		{"2a-b+3", "b+c", "2a-b-c+3", 1},
		{"2a-b+3", "3d-7", "2a-b+3", 2},
		{"a", "100a-100b+100c-100d+10000", "100a-100b+100c-100d+10000", 0},
		{"-d", "100a-100b+100c-100d+10000", "-100a+100b-100c+100d-10000", 3},
		{"2a-100b", "60b", "20b", 0}, // 120b alone would not be a term
		{"2a-5000", "6000", "7000", 0},
		{"0", "100a", "0", 0},
	}
	for _, x := range cases {
		term, _ := impl.ParseTerm(x.term)
		put, _ := impl.ParseTerm(x.put)
		got, ok := impl.SubstTerm(term, x.v, put)
		if impl.FormatTerm(got) != x.want || !ok {
			t.Errorf("SubstTerm(%s, %d, %s) = %v, %v, want %s", x.term, x.v, x.put, got, ok, x.want)
		}
	}
}

func TestSubstTermInvalid(t *testing.T) {
	for v := range 4 {
		for _, bad := range badTerms() {
			got, ok := impl.SubstTerm(bad, v, impl.Term{N: 1})
			wantNoTerm(t, "SubstTerm in a term that is not valid", got, ok)
			got, ok = impl.SubstTerm(impl.Term{N: 1}, v, bad) // v does not occur
			wantNoTerm(t, "SubstTerm of a term that is not valid", got, ok)
		}
		got, ok := impl.SubstTerm(termWith(v, 2), v, impl.Term{N: 5000})
		wantTerm(t, "SubstTerm up to MaxConst", got, ok, impl.Term{N: 10000})
		got, ok = impl.SubstTerm(termWith(v, 2), v, impl.Term{N: 5001})
		wantNoTerm(t, "SubstTerm past MaxConst", got, ok)
		got, ok = impl.SubstTerm(termWith(v, 2), v, termWith(v, 50))
		wantTerm(t, "SubstTerm up to MaxCoef", got, ok, termWith(v, 100))
		got, ok = impl.SubstTerm(termWith(v, 2), v, termWith(v, 51))
		wantNoTerm(t, "SubstTerm past MaxCoef", got, ok)
	}
	for _, v := range noVars {
		got, ok := impl.SubstTerm(impl.Term{A: 1, N: 2}, v, impl.Term{N: 1})
		wantNoTerm(t, "SubstTerm of no variable", got, ok)
	}
}

// TestSubstIsValue is the second half of P1: a term in place of a variable is giving the variable its value.
func TestSubstIsValue(t *testing.T) {
	points := []impl.Point{{}, {A: 1}, {A: 3, B: 1, C: 4, D: 1}, {A: 1000, B: 1000, C: 1000, D: 1000}, {B: 17, D: 500}, {C: 999, A: 2}}
	checked := 0
	terms := every(someTerms(), 29)
	for _, x := range terms {
		for _, y := range terms {
			for _, p := range points {
				n, _ := impl.EvalTerm(y, p)
				for v := range 4 {
					got, ok := impl.SubstTerm(x, v, y)
					q, valid := impl.WithValue(p, v, n)
					if !ok || !valid {
						continue
					}
					checked++
					left, _ := impl.EvalTerm(got, p)
					right, _ := impl.EvalTerm(x, q)
					if left != right {
						t.Errorf("%v with %v in place of %d is %d in %v, want %d", x, y, v, left, p, right)
					}
				}
			}
		}
	}
	if checked < 1000 {
		t.Errorf("only %d cases were compared", checked)
	}
}

func TestTermVars(t *testing.T) {
	for k := range 16 {
		for _, n := range append([]int{1, -1, 100, -101}, extremes...) {
			m := [5]int{4: 9}
			var want []int
			for v := range 4 {
				if k>>v&1 == 1 {
					m[v] = n
					want = append(want, v)
				}
			}
			if got := impl.TermVars(termOf(m)); !slices.Equal(got, want) {
				t.Errorf("TermVars(%v) = %v, want %v", m, got, want)
			}
		}
	}
	for _, n := range append([]int{10001}, extremes...) {
		if got := impl.TermVars(impl.Term{B: 3, N: n}); !slices.Equal(got, []int{1}) {
			t.Errorf("TermVars with N = %d is %v", n, got)
		}
	}
}

func TestTermVarsAreNew(t *testing.T) {
	x := impl.Term{A: 1, C: 1}
	first, second := impl.TermVars(x), impl.TermVars(x)
	for i := range first[:cap(first)] {
		first[:cap(first)][i] = 77
	}
	if !slices.Equal(second, []int{0, 2}) || !slices.Equal(impl.TermVars(x), []int{0, 2}) {
		t.Error("results of TermVars share memory")
	}
}

func TestContentOf(t *testing.T) {
	for _, x := range someTerms() {
		if got, want := impl.ContentOf(x), slowContent(x); got != want {
			t.Errorf("ContentOf(%v) = %d, want %d", x, got, want)
		}
	}
	cases := map[string]int{
		"2a-b+3": 1, "0": 0, "5": 0, "-5": 0, "a": 1, "-a": 1, "4a-6c+3": 2, "-4b": 4, "100a-100b+100c-100d+1": 100,
		"6a+10b+15c": 1, "6a+12b-18d+4": 6, "-100d": 100, "84a+60d": 12, "7c+49d-1": 7, "97a-89b": 1,
	}
	for text, want := range cases {
		x, ok := impl.ParseTerm(text)
		if got := impl.ContentOf(x); got != want || !ok {
			t.Errorf("ContentOf(%s) = %d, want %d", text, got, want)
		}
	}
	for _, bad := range badTerms() {
		if got := impl.ContentOf(bad); got != -1 {
			t.Errorf("ContentOf(%v) = %d", bad, got)
		}
	}
}

// slowContent tries all divisors.
func slowContent(t impl.Term) int {
	for g := 100; g > 0; g-- {
		if t.A%g == 0 && t.B%g == 0 && t.C%g == 0 && t.D%g == 0 && (t.A != 0 || t.B != 0 || t.C != 0 || t.D != 0) {
			return g
		}
	}
	return 0
}

func TestSwapVars(t *testing.T) {
	for _, x := range []impl.Term{{A: 1, B: -20, C: 100, D: -4, N: 5}, {A: 2, B: -1, N: 3}, {}, {N: -10000}, {D: -100}} {
		for v := range 4 {
			for w := range 4 {
				m := numbersOf(x)
				m[v], m[w] = m[w], m[v]
				got, ok := impl.SwapVars(x, v, w)
				wantTerm(t, "SwapVars of "+impl.FormatTerm(x), got, ok, termOf(m))
			}
		}
	}
	for _, v := range noVars {
		for w := range 4 {
			got, ok := impl.SwapVars(impl.Term{A: 1}, v, w)
			wantNoTerm(t, "SwapVars of no variable", got, ok)
			got, ok = impl.SwapVars(impl.Term{A: 1}, w, v)
			wantNoTerm(t, "SwapVars with no variable", got, ok)
		}
		got, ok := impl.SwapVars(impl.Term{A: 1}, v, v)
		wantNoTerm(t, "SwapVars of no variables", got, ok)
	}
	for _, bad := range badTerms() {
		for v := range 4 {
			got, ok := impl.SwapVars(bad, 0, v)
			wantNoTerm(t, "SwapVars in a term that is not valid", got, ok)
		}
	}
}

// TestHugeArguments calls the functions with numbers up to the ends of an int in all places: none may panic.
func TestHugeArguments(t *testing.T) {
	for _, n := range extremes {
		x := impl.Term{A: n, B: n, C: n, D: n, N: n}
		p := impl.Point{A: n, B: n, C: n, D: n}
		for _, k := range append([]int{0, 3}, extremes...) {
			_, one := impl.WithValue(p, k, n)
			_, two := impl.EvalTerm(x, p)
			_, three := impl.AddTerms(x, x)
			_, four := impl.ScaleTerm(x, k)
			_, five := impl.SubstTerm(x, k, x)
			_, six := impl.SwapVars(x, k, n)
			if one || two || three || four || five || six {
				t.Errorf("%d and %d were accepted", n, k)
			}
		}
	}
}
