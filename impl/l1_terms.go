package impl

import (
	"strconv"
	"strings"
)

// Limits of terms and points.
const (
	Vars     = 4
	MaxCoef  = 100
	MaxConst = 10000
	MaxPoint = 1000
)

// varLetters has the letter of each variable at its number.
const varLetters = "abcd"

// noLetter stands where a multiple has no variable. It is not the letter of one.
const noLetter = 0

// A Term is a sum of multiples of the variables a, b, c and d, and a number.
type Term struct {
	A int
	B int
	C int
	D int
	N int
}

// A Point gives the variables values.
type Point struct {
	A int
	B int
	C int
	D int
}

// multiples are the coefficients of a term by the numbers of the variables,
// with its number at the index Vars. Their methods change copies alone, so
// that they can be used like values. They may be greater than those of a valid
// term: what lies between valid terms need not be one.
type multiples []int

// multiples returns what a term is the sum of.
func (t Term) multiples() multiples {
	return multiples{t.A, t.B, t.C, t.D, t.N}
}

// values returns the values of a point by the numbers of the variables.
func (p Point) values() []int {
	return []int{p.A, p.B, p.C, p.D}
}

func (m multiples) copied() multiples {
	result := make(multiples, len(m))
	copy(result, m)
	return result
}

func (m multiples) plus(other multiples) multiples {
	result := m.copied()
	for i, n := range other {
		result[i] += n
	}
	return result
}

func (m multiples) times(k int) multiples {
	result := m.copied()
	for i := range result {
		result[i] *= k
	}
	return result
}

func (m multiples) with(v int, coef int) multiples {
	result := m.copied()
	result[v] = coef
	return result
}

func (m multiples) without(v int) multiples {
	return m.with(v, 0)
}

func (m multiples) swapped(v int, w int) multiples {
	result := m.copied()
	result[v], result[w] = result[w], result[v]
	return result
}

// term returns the valid term that is the sum, if there is one.
func (m multiples) term() (Term, bool) {
	t := Term{A: m[0], B: m[1], C: m[2], D: m[3], N: m[Vars]}
	if !TermValid(t) {
		return Term{}, false
	}
	return t, true
}

func isVar(v int) bool {
	return 0 <= v && v < Vars
}

// withinLimit compares with both ends, since the opposite of the least int is no int.
func withinLimit(n int, limit int) bool {
	return -limit <= n && n <= limit
}

// TermValid reports whether a term is valid.
func TermValid(t Term) bool {
	for _, n := range t.multiples()[:Vars] {
		if !withinLimit(n, MaxCoef) {
			return false
		}
	}
	return withinLimit(t.N, MaxConst)
}

// PointValid reports whether a point is valid.
func PointValid(p Point) bool {
	for _, n := range p.values() {
		if n < 0 || n > MaxPoint {
			return false
		}
	}
	return true
}

// CoefOf returns the coefficient of a variable.
func CoefOf(t Term, v int) int {
	if !isVar(v) {
		return 0
	}
	return t.multiples()[v]
}

// ValueOf returns the value of a variable.
func ValueOf(p Point, v int) int {
	if !isVar(v) {
		return -1
	}
	return p.values()[v]
}

// WithValue returns a point with another value of a variable.
func WithValue(p Point, v int, n int) (Point, bool) {
	if !PointValid(p) || !isVar(v) {
		return Point{}, false
	}
	values := p.values()
	values[v] = n
	result := Point{A: values[0], B: values[1], C: values[2], D: values[3]}
	if !PointValid(result) {
		return Point{}, false
	}
	return result, true
}

// FormatTerm returns the text of a term.
func FormatTerm(t Term) string {
	if !TermValid(t) {
		return ""
	}
	text := ""
	for i, n := range t.multiples() {
		if n == 0 {
			continue
		}
		if n > 0 && text != "" {
			text += "+"
		}
		text += multipleText(n, i)
	}
	if text == "" {
		return "0"
	}
	return text
}

// multipleText returns the text of the multiple with the index i, which is not 0.
func multipleText(n int, i int) string {
	digits := strconv.Itoa(n)
	if i == Vars {
		return digits
	}
	if n == 1 || n == -1 {
		digits = strings.TrimSuffix(digits, "1")
	}
	return digits + varLetters[i:i+1]
}

// ParseTerm parses the text of a term.
func ParseTerm(s string) (Term, bool) {
	found, ok := readMultiples(s)
	if !ok {
		return Term{}, false
	}
	list := make(multiples, Vars+1)
	for v := range Vars {
		list[v] = found[varLetters[v]]
	}
	list[Vars] = found[noLetter]
	t, ok := list.term()
	// Reading is lenient: it takes multiples in any order, repeated, or with
	// leading zeros. A term has one text, so comparing with it tells these.
	if !ok || FormatTerm(t) != s {
		return Term{}, false
	}
	return t, true
}

// readMultiples returns the numbers of a text by the letters behind them.
func readMultiples(s string) (map[byte]int, bool) {
	found := map[byte]int{}
	for s != "" {
		letter, n, rest, ok := cutMultiple(s)
		if !ok {
			return nil, false
		}
		found[letter] = n
		s = rest
	}
	return found, true
}

// cutMultiple reads the multiple at the start of a text, and returns its
// letter, its number and what follows.
func cutMultiple(s string) (byte, int, string, bool) {
	first := 0
	if s[0] == '+' || s[0] == '-' {
		first = 1
	}
	end := first
	for end < len(s) && '0' <= s[end] && s[end] <= '9' {
		end++
	}
	number, rest := s[:end], s[end:]
	letter := byte(noLetter)
	if rest != "" && strings.IndexByte(varLetters, rest[0]) >= 0 {
		letter, rest = rest[0], rest[1:]
		if end == first {
			number += "1"
		}
	}
	n, err := strconv.Atoi(number)
	if err != nil {
		return noLetter, 0, "", false
	}
	return letter, n, rest, true
}

// EvalTerm returns the value of a term in a point.
func EvalTerm(t Term, p Point) (int, bool) {
	if !TermValid(t) || !PointValid(p) {
		return 0, false
	}
	result := t.N
	for v, n := range p.values() {
		result += CoefOf(t, v) * n
	}
	return result, true
}

// AddTerms adds two terms.
func AddTerms(t Term, u Term) (Term, bool) {
	if !TermValid(t) || !TermValid(u) {
		return Term{}, false
	}
	return t.multiples().plus(u.multiples()).term()
}

// ScaleTerm multiplies a term with a number.
func ScaleTerm(t Term, k int) (Term, bool) {
	if !TermValid(t) || !withinLimit(k, MaxConst) {
		return Term{}, false
	}
	return t.multiples().times(k).term()
}

// SubstTerm puts a term in place of a variable.
func SubstTerm(t Term, v int, u Term) (Term, bool) {
	if !TermValid(t) || !TermValid(u) || !isVar(v) {
		return Term{}, false
	}
	added := u.multiples().times(CoefOf(t, v))
	return t.multiples().without(v).plus(added).term()
}

// TermVars returns the variables of a term.
func TermVars(t Term) []int {
	var vars []int
	for v := range Vars {
		if CoefOf(t, v) != 0 {
			vars = append(vars, v)
		}
	}
	return vars
}

// ContentOf returns the greatest common divisor of the coefficients.
func ContentOf(t Term) int {
	if !TermValid(t) {
		return -1
	}
	content := 0
	for v := range Vars {
		content = commonDivisor(content, CoefOf(t, v))
	}
	return content
}

// SwapVars exchanges two variables of a term.
func SwapVars(t Term, v int, w int) (Term, bool) {
	if !TermValid(t) || !isVar(v) || !isVar(w) {
		return Term{}, false
	}
	return t.multiples().swapped(v, w).term()
}
