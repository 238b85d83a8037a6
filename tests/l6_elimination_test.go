package tests

import (
	"fmt"
	"slices"
	"strings"
	"testing"

	"loop.example/presburger/impl"
)

// slowPrepared follows the document's rules for prepared formulas, with whether all steps have results.
func slowPrepared(f impl.Formula) (impl.Formula, bool) {
	normal, can := slowNormal(f, false)
	if !can || slowNodes(f) > 600 || slowNodes(normal) > 600 {
		return impl.Formula{}, false
	}
	split := slowSplit(normal)
	if slowNodes(split) > 600 {
		return impl.Formula{}, false
	}
	return slowSimple(split), true
}

// slowReady tells whether a valid formula is ready.
func slowReady(f impl.Formula) bool {
	ready, can := slowPrepared(f)
	return can && slowNested(f) == 0 && sameTree(f, ready)
}

// slowPeriodOf looks for the least number up to 60 that all numbers divide; -1 if there is none.
func slowPeriodOf(list []int) int {
	for n := 1; n <= 60; n++ {
		if !slices.ContainsFunc(list, func(m int) bool { return n%m != 0 }) {
			return n
		}
	}
	return -1
}

// slowCoefLcm is the least common multiple of the coefficients of a variable in a valid formula.
func slowCoefLcm(f impl.Formula, v int) int {
	if !slowReady(f) {
		return -1
	}
	var sizes []int
	for _, a := range slowAtoms(f) {
		if coef := numbersOf(a.Term)[v]; coef != 0 {
			sizes = append(sizes, max(coef, -coef))
		}
	}
	return slowPeriodOf(sizes)
}

// slowUnifiedAtom is an atom with 1 or -1 for the coefficient of v, with whether it is valid.
func slowUnifiedAtom(a impl.Atom, v int, common int) (impl.Atom, bool) {
	m := numbersOf(a.Term)
	if m[v] == 0 {
		return a, true
	}
	k := common / max(m[v], -m[v])
	for i := range m {
		m[i] *= k
	}
	m[v] /= common
	result := impl.Atom{Kind: a.Kind, Mod: a.Mod * k, Term: termOf(m)}
	return result, result.Mod <= 100 && impl.TermValid(result.Term)
}

// slowUnified follows the document's rules for UnifyVar, with whether there is a result.
func slowUnified(f impl.Formula, v int) (impl.Formula, bool) {
	common := slowCoefLcm(f, v)
	if common == -1 {
		return impl.Formula{}, false
	}
	all := true
	var unify func(f impl.Formula) impl.Formula
	unify = func(f impl.Formula) impl.Formula {
		result := impl.Formula{Kind: f.Kind}
		if f.Kind == 2 {
			a, ok := slowUnifiedAtom(f.Atom, v, common)
			result.Atom = a
			all = all && ok
		}
		for _, sub := range f.Subs {
			result.Subs = append(result.Subs, unify(sub))
		}
		return result
	}
	result := unify(f)
	if common > 1 {
		result = pairForm(4, result, atomForm(impl.Atom{Kind: 2, Mod: common, Term: termWith(v, 1)}))
	}
	return result, all && slowNodes(result) <= 600
}

// slowBounded tells whether a valid formula has lower bounds and a period for a variable.
func slowBounded(f impl.Formula, v int) bool {
	if slowNested(f) > 0 || slices.Contains(strings.Fields(slowText(f)), "not") {
		return false
	}
	for _, a := range slowAtoms(f) {
		if coef := numbersOf(a.Term)[v]; a.Kind == 1 || coef > 1 || coef < -1 {
			return false
		}
	}
	return true
}

// slowBounds are the lower bounds of a variable.
func slowBounds(f impl.Formula, v int) []impl.Term {
	list := []impl.Term{{}}
	for _, a := range slowAtoms(f) {
		m := numbersOf(a.Term)
		if a.Kind != 0 || m[v] != -1 {
			continue
		}
		m[v] = 0
		if !slices.Contains(list, termOf(m)) {
			list = append(list, termOf(m))
		}
	}
	return list
}

// slowPeriod is the period of a variable; -1 if it is too great.
func slowPeriod(f impl.Formula, v int) int {
	var mods []int
	for _, a := range slowAtoms(f) {
		if a.Kind >= 2 && numbersOf(a.Term)[v] != 0 {
			mods = append(mods, a.Mod)
		}
	}
	return slowPeriodOf(mods)
}

// slowJoinAny joins formulas, from the first one on.
func slowJoinAny(list []impl.Formula) impl.Formula {
	if len(list) == 0 {
		return impl.Formula{Kind: 1}
	}
	result := list[0]
	for _, f := range list[1:] {
		result = pairForm(5, result, f)
	}
	return result
}

// slowTries are the tries of a formula that are not left out, with whether all of them have results.
func slowTries(h impl.Formula, v int) ([]impl.Formula, bool) {
	bounds, period := slowBounds(h, v), slowPeriod(h, v)
	if period == -1 || len(bounds)*period > 150 || slowNodes(h)+2 > 600 {
		return nil, false
	}
	var list []impl.Formula
	for i := range len(bounds) * period {
		k, ok := slowTerm(bounds[i/period], 1, i%period)
		below, also := slowTerm(k, -1, 0)
		put, can := slowSubst(h, v, k, nil)
		if !ok || !also || !can {
			return nil, false
		}
		try := slowSimple(pairForm(4, atomForm(impl.Atom{Term: below}), put))
		same := func(f impl.Formula) bool { return sameTree(f, try) }
		if try.Kind != 1 && !slices.ContainsFunc(list, same) {
			list = append(list, try)
		}
	}
	return list, true
}

// slowWithout follows the document's rules for EliminateVar, with whether there is a result.
func slowWithout(f impl.Formula, v int) (impl.Formula, bool) {
	ready, can := slowPrepared(f)
	if !can || slowNested(f) > 0 || !isFree(ready, v) {
		return ready, can && slowNested(f) == 0
	}
	unified, can := slowUnified(ready, v)
	if !can {
		return impl.Formula{}, false
	}
	tries, can := slowTries(unified, v)
	if joined := slowJoinAny(tries); can && slowNodes(joined) <= 600 {
		return slowSimple(joined), true
	}
	return impl.Formula{}, false
}

// slowOpen follows the document's rules for EliminateAll, with whether there is a result.
func slowOpen(f impl.Formula) (impl.Formula, bool) {
	same := impl.Formula{Kind: f.Kind, Atom: f.Atom}
	for _, sub := range f.Subs {
		part, can := slowOpen(sub)
		if !can {
			return impl.Formula{}, false
		}
		same.Subs = append(same.Subs, part)
	}
	if f.Kind < 6 {
		return slowPrepared(same)
	}
	if f.Kind == 7 {
		return slowWithout(same.Subs[0], f.Var)
	}
	denied, can := slowPrepared(notForm(same.Subs[0]))
	if !can {
		return impl.Formula{}, false
	}
	none, can := slowWithout(denied, f.Var)
	if !can {
		return impl.Formula{}, false
	}
	return slowPrepared(notForm(none))
}

// existsFor tells whether a formula without quantifiers is true for a number in place of v up to a last one, and for which one first.
func existsFor(f impl.Formula, v int, values [4]int, last int) (int, bool) {
	for n := range last + 1 {
		values[v] = n
		if holds(f, values, 0) {
			return n, true
		}
	}
	return -1, false
}

// smallValues are the values up to a last one of the variables that are free in a formula; the other ones are 0.
func smallValues(f impl.Formula, last int) [][4]int {
	list := [][4]int{{}}
	for _, v := range slowFree(f) {
		var longer [][4]int
		for _, m := range list {
			for n := range last + 1 {
				m[v] = n
				longer = append(longer, m)
			}
		}
		list = longer
	}
	return list
}

// readyForms are formulas that are ready, of many sizes.
func readyForms() []impl.Formula {
	var list []impl.Formula
	for _, f := range openFormulas() {
		if ready, can := slowPrepared(f); can && slowNested(ready) == 0 {
			list = append(list, ready)
		}
	}
	return list
}

// openForms are formulas without quantifiers about small numbers, with connectives of all kinds.
func openForms(seed dice, count int) []impl.Formula {
	var list []impl.Formula
	for range count {
		f := seed.form(1+seed.roll(3), 0)
		if seed.roll(2) == 0 {
			f = pairForm(4+seed.roll(2), f, seed.form(2, 0))
		}
		list = append(list, f)
	}
	return list
}

// badOpen are formulas that are not valid, and valid ones with quantifiers, none of which makes a difference.
func badOpen() []impl.Formula {
	list := badFormulas()
	for _, s := range []string{"some a true", "all b false", "some a a<=0", "all d a<=0", "and a<=0 some b b<=0", "or all a a<=0 b<=0", "not some c 2|c", "or true some a a=0", "and false all a a=0", "some a some a a=0"} {
		f, _ := impl.ParseFormula(s)
		list = append(list, f)
	}
	return list
}

func TestEliminationLimits(t *testing.T) {
	if impl.MaxPeriod != 60 || impl.MaxTries != 150 {
		t.Error("the limits are not those of the document")
	}
}

func TestPrepareFormulaTexts(t *testing.T) {
	cases := map[string]string{
		"true": "true", "false": "false", "a<=0": "a<=0", "2a-4<=0": "a-2<=0", "not a-3<=0": "-a+4<=0", "a-3=0": "and a-3<=0 -a+3<=0", "a=0": "a<=0", "not a=0": "-a+1<=0", "not a-3=0": "or a-2<=0 -a+4<=0", "2a-3=0": "and a-1<=0 -a+2<=0", "not 2|a": "2!a", "not not 4|2a": "2|a", "0=0": "true", "1=0": "false", "not 0=0": "false", "2!4a": "false", "-a=0": "a<=0",
		"not and 2a-4<=0 not b=0": "or -a+3<=0 b<=0", "and a=0 b=0": "and a<=0 b<=0", "and a=0 not a=0": "and a<=0 -a+1<=0", "or a=0 a<=0": "a<=0", "not or 2|a 3!b": "and 2!a 3|b", "and a+1<=0 b<=0": "false", "or -a<=0 b<=0": "true",
		"not some a not 2a<=0": "all a a<=0", "all b a-b=0": "all b and a-b<=0 -a+b<=0", "some a 2|b": "2|b", "some a a=0": "some a a<=0", "not all d true": "false", "not not -10000<=0": "true", "a+10000=0": "false", "not a-9999<=0": "-a+10000<=0",
	}
	for s, want := range cases {
		got, ok := impl.PrepareFormula(formOf(t, s))
		wantText(t, "PrepareFormula "+s, got, ok, want)
	}
	for _, s := range []string{"not -10000<=0", "not 10000=0", "not a-10000<=0", "and true not a-10000=0", "or true not -10000<=0", "and false not -10000=0", "some a not b-10000<=0"} {
		got, ok := impl.PrepareFormula(formOf(t, s))
		wantNoForm(t, "PrepareFormula "+s, got, ok)
	}
}

func TestPrepareFormula(t *testing.T) {
	refused := 0
	for i, f := range openFormulas() {
		got, ok := impl.PrepareFormula(f)
		want, can := slowPrepared(f)
		wantChanged(t, "PrepareFormula "+slowText(f), got, ok, want, can)
		if !ok {
			refused++
			continue
		}
		wantFresh(t, "PrepareFormula", []impl.Formula{f}, got.Subs)
		again, ok := impl.PrepareFormula(got)
		wantForm(t, "PrepareFormula again of "+slowText(f), again, ok, got)
		if slowNested(f) > 4 {
			continue
		}
		for _, m := range every(somePoints[i%5:], 5) {
			if holds(got, m, 2) != holds(f, m, 2) {
				t.Errorf("PrepareFormula(%s) = %s differs in %v", slowText(f), slowText(got), m)
			}
		}
	}
	if refused == 0 {
		t.Error("all formulas can be prepared")
	}
	for _, f := range badFormulas() {
		got, ok := impl.PrepareFormula(f)
		wantNoForm(t, "PrepareFormula of a bad formula", got, ok)
	}
}

// TestPrepareFormulaGreat looks at formulas that are too great after a step, even if the next one would make them small again.
func TestPrepareFormulaGreat(t *testing.T) {
	for count := 590; count <= 610; count++ {
		for _, f := range manyZeros(count) {
			for _, g := range []impl.Formula{f, notForm(f), notForm(notForm(f))} {
				got, ok := impl.PrepareFormula(g)
				want, can := slowPrepared(g)
				if can != (count <= 600) {
					t.Errorf("slowPrepared with %d nodes: %v", count, can)
				}
				wantChanged(t, "PrepareFormula of many nodes", got, ok, want, can)
			}
		}
	}
	for nots := 595; nots < 600; nots++ {
		got, ok := impl.PrepareFormula(wrapped(impl.Formula{}, nots, notForm))
		wantForm(t, "PrepareFormula of negations alone", got, ok, impl.Formula{Kind: nots % 2})
	}
}

func TestCoefLcmTexts(t *testing.T) {
	cases := []struct {
		text string
		want [4]int
	}{
		{"true", [4]int{1, 1, 1, 1}}, {"false", [4]int{1, 1, 1, 1}}, {"a<=0", [4]int{1, 1, 1, 1}}, {"-a+1<=0", [4]int{1, 1, 1, 1}}, {"2a-3b+5c-7d<=0", [4]int{2, 3, 5, 7}}, {"9|2a+3b+4", [4]int{2, 3, 1, 1}}, {"9!8a+b", [4]int{8, 1, 1, 1}},
		{"and -a+2b<=0 a-3b+1<=0", [4]int{1, 6, 1, 1}}, {"or 4a-b<=0 and -6a+b<=0 11|10a", [4]int{60, 1, 1, 1}}, {"or 4a-b<=0 or -6a+b<=0 3a-2d<=0", [4]int{12, 1, 1, 2}}, {"and 4a-b-1<=0 and 5|2a 5!3a", [4]int{12, 1, 1, 1}},
		{"59a-b<=0", [4]int{59, 1, 1, 1}}, {"60a-b<=0", [4]int{60, 1, 1, 1}}, {"-60a+b<=0", [4]int{60, 1, 1, 1}}, {"61a-b<=0", [4]int{-1, 1, 1, 1}}, {"-61a+b<=0", [4]int{-1, 1, 1, 1}}, {"a-100b<=0", [4]int{1, -1, 1, 1}}, {"100|99a+b", [4]int{-1, 1, 1, 1}}, {"100!60a+99b", [4]int{60, -1, 1, 1}},
		{"and 4a-b<=0 -15a+b<=0", [4]int{60, 1, 1, 1}}, {"and 15a-b<=0 -4a+b<=0", [4]int{60, 1, 1, 1}}, {"and 20a-b<=0 16|3a+b", [4]int{60, 1, 1, 1}}, {"and 7a-b<=0 -9a+b<=0", [4]int{-1, 1, 1, 1}}, {"and 8a-b<=0 16|9a+b", [4]int{-1, 1, 1, 1}}, {"and 60a-b<=0 16|8a+b", [4]int{-1, 1, 1, 1}},
		{"or or or or 97a-b<=0 89a-b<=0 83a-b<=0 79a-b<=0 73a-b<=0", [4]int{-1, 1, 1, 1}}, {"and 5|a+4b and -2b+c+1<=0 7c-8d<=0", [4]int{1, 4, 7, 8}},
	}
	for _, x := range cases {
		f := formOf(t, x.text)
		for v, want := range x.want {
			if got := impl.CoefLcm(f, v); got != want {
				t.Errorf("CoefLcm(%s, %d) = %d, want %d", x.text, v, got, want)
			}
		}
	}
	for _, s := range []string{"not true", "not a<=0", "not not a<=0", "a=0", "a-b=0", "2a<=0", "2a-3<=0", "0<=0", "1<=0", "-a<=0", "a+1<=0", "4|2a", "3|4a", "3|-a", "1|a", "and a<=0 true", "or false a<=0", "and a<=0 a<=0", "or 2|a 2|a", "and b<=0 2a<=0", "some a true", "all a a<=0", "and a<=0 some b b<=0", "some b a<=0", "some a some a a<=0"} {
		for v := range 4 {
			if got := impl.CoefLcm(formOf(t, s), v); got != -1 {
				t.Errorf("CoefLcm(%s, %d) = %d, but it is not ready", s, v, got)
			}
		}
	}
}

func TestCoefLcm(t *testing.T) {
	counts := map[int]int{}
	for _, f := range append(readyForms(), every(openFormulas(), 3)...) {
		for v := range 4 {
			got := impl.CoefLcm(f, v)
			if want := slowCoefLcm(f, v); got != want {
				t.Errorf("CoefLcm(%s, %d) = %d, want %d", slowText(f), v, got, want)
			}
			counts[got]++
		}
		for _, v := range append(noVars, extremes...) {
			if got := impl.CoefLcm(f, v); got != -1 {
				t.Errorf("CoefLcm(%s, %d) = %d", slowText(f), v, got)
			}
		}
	}
	for _, n := range []int{-1, 1, 2, 3, 6} {
		if counts[n] < 10 {
			t.Errorf("CoefLcm is %d only %d times", n, counts[n])
		}
	}
	for i, f := range badOpen() {
		for v := range 4 {
			if got := impl.CoefLcm(f, v); got != -1 {
				t.Errorf("CoefLcm of the bad formula %d by %d = %d", i, v, got)
			}
		}
	}
}

func TestUnifyVarTexts(t *testing.T) {
	cases := []struct {
		text string
		v    int
		want string // empty if there is no result
	}{
		{"true", 0, "true"}, {"false", 3, "false"}, {"a-5<=0", 0, "a-5<=0"}, {"-a+5<=0", 0, "-a+5<=0"}, {"a-5<=0", 1, "a-5<=0"}, {"2a-3b<=0", 2, "2a-3b<=0"}, {"and -a+b<=0 3|a+b", 0, "and -a+b<=0 3|a+b"},
		{"2a-3b<=0", 0, "and a-3b<=0 2|a"}, {"2a-3b<=0", 1, "and 2a-b<=0 3|b"}, {"-2a+3b-7<=0", 0, "and -a+3b-7<=0 2|a"}, {"9|2a+3", 0, "and 9|a+3 2|a"}, {"9!2a+3b", 1, "and 9!2a+b 3|b"}, {"2c-d+1<=0", 2, "and c-d+1<=0 2|c"}, {"c-2d+1<=0", 3, "and c-d+1<=0 2|d"},
		{"and -a+2b<=0 a-3b+1<=0", 1, "and and -3a+b<=0 2a-b+2<=0 6|b"}, {"or -a+2b<=0 a-3b+1<=0", 1, "and or -3a+b<=0 2a-b+2<=0 6|b"}, {"and -a+2b<=0 b-4<=0", 1, "and and -a+b<=0 b-8<=0 2|b"}, {"and -a+2b<=0 -b+4<=0", 1, "and and -a+b<=0 -b+8<=0 2|b"}, {"and -a+2b<=0 5|b+c+4", 1, "and and -a+b<=0 10|b+2c+8 2|b"}, {"and -a+2b<=0 5!b+c+4", 1, "and and -a+b<=0 10!b+2c+8 2|b"}, {"and -a+2b<=0 5|a", 1, "and and -a+b<=0 5|a 2|b"},
		{"or 5|a+3b or 2b-c<=0 c-d<=0", 1, "and or 10|2a+b or b-3c<=0 c-d<=0 6|b"}, {"60a-b<=0", 0, "and a-b<=0 60|a"}, {"61a-b<=0", 0, ""}, {"and 60a-b<=0 a-1<=0", 0, "and and a-b<=0 a-60<=0 60|a"}, {"and 4a-b<=0 -15a+c-1<=0", 0, "and and a-15b<=0 -a+4c-4<=0 60|a"}, {"and 7a-b<=0 -9a+b<=0", 0, ""},
		{"and -a+2b<=0 50|b", 1, "and and -a+b<=0 100|b 2|b"}, {"and -a+2b<=0 51|b", 1, ""}, {"and -a+2b<=0 50!b", 1, "and and -a+b<=0 100!b 2|b"}, {"and -a+2b<=0 51!b", 1, ""}, {"and -a+2b<=0 99|a", 1, "and and -a+b<=0 99|a 2|b"}, {"and -a+2b<=0 99|a+2b", 1, "and and -a+b<=0 99|a+b 2|b"}, // Mod of just MaxMod, and greater
		{"and -a+2b<=0 50a-b<=0", 1, "and and -a+b<=0 100a-b<=0 2|b"}, {"and -a+2b<=0 51a-b<=0", 1, ""}, {"and -a+2b<=0 -50a+b<=0", 1, "and and -a+b<=0 -100a+b<=0 2|b"}, {"and -a+2b<=0 -51a+b<=0", 1, ""}, {"and -a+2b<=0 51a-c<=0", 1, "and and -a+b<=0 51a-c<=0 2|b"}, // coefficients of just MaxCoef, and greater
		{"and -a+2b<=0 b-5000<=0", 1, "and and -a+b<=0 b-10000<=0 2|b"}, {"and -a+2b<=0 b-5001<=0", 1, ""}, {"and -a+2b<=0 -b+5000<=0", 1, "and and -a+b<=0 -b+10000<=0 2|b"}, {"and -a+2b<=0 -b+5001<=0", 1, ""}, {"and -a+2b<=0 c-5001<=0", 1, "and and -a+b<=0 c-5001<=0 2|b"}, {"a-2b+10000<=0", 1, "and a-b+10000<=0 2|b"}, {"a-2b-10000<=0", 1, "and a-b-10000<=0 2|b"}, // numbers of just MaxConst, and greater
		{"not true", 0, ""}, {"2a<=0", 0, ""}, {"a-b=0", 0, ""}, {"not 2|a", 0, ""}, {"and a<=0 true", 0, ""}, {"some a a<=0", 0, ""}, {"some a b<=0", 0, ""}, {"all c true", 0, ""},
	}
	for _, x := range cases {
		got, ok := impl.UnifyVar(formOf(t, x.text), x.v)
		what := fmt.Sprintf("UnifyVar %s by %d", x.text, x.v)
		if x.want == "" {
			wantNoForm(t, what, got, ok)
			continue
		}
		wantText(t, what, got, ok, x.want)
	}
}

// TestUnifyVar also looks whether the variable stands for a multiple of what it stood for.
func TestUnifyVar(t *testing.T) {
	refused, many := 0, 0
	for i, f := range readyForms() {
		for v := range 4 {
			got, ok := impl.UnifyVar(f, v)
			want, can := slowUnified(f, v)
			wantChanged(t, fmt.Sprintf("UnifyVar %s by %d", slowText(f), v), got, ok, want, can)
			if !ok {
				refused++
				continue
			}
			wantFresh(t, "UnifyVar", []impl.Formula{f}, got.Subs)
			common := impl.CoefLcm(f, v)
			for n := range 3 * common {
				m := somePoints[(i+n)%len(somePoints)]
				m[v] = n
				with := m
				with[v] = n / common
				if holds(got, m, 0) != (n%common == 0 && holds(f, with, 0)) {
					t.Errorf("UnifyVar(%s, %d) = %s differs in %v", slowText(f), v, slowText(got), m)
				}
			}
			if common > 1 {
				many++
			}
		}
		for _, v := range noVars {
			got, ok := impl.UnifyVar(f, v)
			wantNoForm(t, "UnifyVar by no variable", got, ok)
		}
	}
	if refused == 0 || many < 500 {
		t.Errorf("%d are refused, and only %d have several coefficients", refused, many)
	}
	for _, f := range badOpen() {
		got, ok := impl.UnifyVar(f, 0)
		wantNoForm(t, "UnifyVar of a bad formula", got, ok)
	}
}

// greatReady is a ready formula with an odd number of nodes in which b has the given coefficient, without its sign.
func greatReady(nodes int, coef int) impl.Formula {
	f := atomForm(impl.Atom{Term: impl.Term{A: 1, B: -coef, N: 1}})
	for n := range nodes / 2 {
		f = pairForm(4, f, atomForm(impl.Atom{Term: impl.Term{A: 1, B: coef, N: -n - 1}}))
	}
	return f
}

func TestUnifyVarGreat(t *testing.T) {
	for _, nodes := range []int{1, 3, 593, 595, 597, 599} {
		for coef := 1; coef <= 3; coef++ {
			f := greatReady(nodes, coef)
			if !slowReady(f) || slowNodes(f) != nodes {
				t.Errorf("a formula of %d nodes has %d, or is not ready", nodes, slowNodes(f))
			}
			got, ok := impl.UnifyVar(f, 1)
			if ok != (coef == 1 || nodes+2 <= 600) {
				t.Errorf("UnifyVar of %d nodes: %v", nodes, ok)
			}
			want, can := slowUnified(f, 1)
			wantChanged(t, "UnifyVar of a great formula", got, ok, want, can)
			got, ok = impl.UnifyVar(f, 2)
			wantForm(t, "UnifyVar by a variable that does not occur", got, ok, f)
		}
	}
}

func wantBounds(t *testing.T, what string, got []impl.Term, ok bool, want []impl.Term) {
	t.Helper()
	if !slices.Equal(got, want) || !ok {
		t.Errorf("%s = %v, %v, want %v", what, got, ok, want)
	}
}

func wantNoBounds(t *testing.T, what string, got []impl.Term, ok bool) {
	t.Helper()
	if len(got) != 0 || ok {
		t.Errorf("%s = %v, %v, want no terms", what, got, ok)
	}
}

// boundTexts are formulas with the lower bounds and the period of b.
var boundTexts = []struct {
	text   string
	bounds string // the terms with single spaces between them
	period int
}{
	{"true", "0", 1}, {"false", "0", 1}, {"0<=0", "0", 1}, {"a<=0", "0", 1}, {"b<=0", "0", 1}, {"-b<=0", "0", 1}, {"-b+1<=0", "0 1", 1}, {"-b-1<=0", "0 -1", 1}, {"a-b<=0", "0 a", 1}, {"-100a-b+100c-10000<=0", "0 -100a+100c-10000", 1}, {"-b+10000<=0", "0 10000", 1}, {"2a-4b-6<=0", "", -1},
	{"and a-b<=0 -b+c<=0", "0 a c", 1}, {"or -b+c<=0 a-b<=0", "0 c a", 1}, {"and -b+c<=0 or -b+d-1<=0 -b+3<=0", "0 c d-1 3", 1}, {"and or -b+c<=0 a+b<=0 -b+3<=0", "0 c 3", 1},
	{"and a-b<=0 a-b<=0", "0 a", 1}, {"or a-b<=0 or -b+c<=0 a-b<=0", "0 a c", 1}, {"and -b<=0 a-b<=0", "0 a", 1}, {"and a-b<=0 -b<=0", "0 a", 1}, {"or a-b<=0 a-b+1<=0", "0 a a+1", 1}, {"or or a-b+1<=0 a-b<=0 a-b+1<=0", "0 a+1 a", 1}, // bounds that stand before
	{"2|b", "0", 2}, {"2|-b", "0", 2}, {"2!b", "0", 2}, {"7!a-b+3", "0", 7}, {"7|a", "0", 1}, {"and 2|b 3!b", "0", 6}, {"or 4|a+b 6|-b+c", "0", 12}, {"and 7|a 2|b", "0", 2}, {"and 7!a 2!b+c", "0", 2}, {"1|b", "0", 1}, {"and 100|a 1!b", "0", 1}, {"and 5|0 5!3", "0", 1},
	{"60|b", "0", 60}, {"60!b", "0", 60}, {"61|b", "0", -1}, {"61!b", "0", -1}, {"100|b", "0", -1}, {"100|a", "0", 1}, {"and 4|b 15|b", "0", 60}, {"and 20!b 12|b", "0", 60}, {"and 8|b 9|b", "0", -1}, {"and 8|b 9|a", "0", 8}, {"and 60|b and 30|b 59|a", "0", 60}, {"or 60|b 8!b", "0", -1}, {"or or or 97|b 89|b 83|b 79|b", "0", -1}, {"and 60|b -b+c<=0", "0 c", 60}, {"and 61|b -b+c<=0", "0 c", -1},
	{"2a<=0", "0", 1}, {"and 2a<=0 4|6a", "0", 1}, {"and true or false 1<=0", "0", 1}, {"and 2|b and 2|b 2|b", "0", 2}, // b is not prepared for elimination, but has bounds
	{"2b<=0", "", -1}, {"-2b<=0", "", -1}, {"and b<=0 2b<=0", "", -1}, {"and a-b<=0 5|2b", "", -1}, {"and a-b<=0 5!100b", "", -1}, {"b=0", "", -1}, {"a=0", "", -1}, {"0=0", "", -1}, {"and b<=0 a=0", "", -1}, {"or a-b=0 true", "", -1},
	{"not b<=0", "", -1}, {"not true", "", -1}, {"and b<=0 not a<=0", "", -1}, {"or not 2|a b<=0", "", -1}, {"some b b<=0", "", -1}, {"some a b<=0", "", -1}, {"all c true", "", -1}, {"and b<=0 some a a<=0", "", -1},
}

func TestBoundTexts(t *testing.T) {
	for _, x := range boundTexts {
		f := formOf(t, x.text)
		var want []impl.Term
		for _, s := range strings.Fields(x.bounds) {
			term, ok := impl.ParseTerm(s)
			if !ok {
				t.Errorf("%s is no term", s)
			}
			want = append(want, term)
		}
		got, ok := impl.LowerBounds(f, 1)
		if x.bounds == "" {
			wantNoBounds(t, "LowerBounds "+x.text, got, ok)
		} else {
			wantBounds(t, "LowerBounds "+x.text, got, ok, want)
		}
		if period := impl.PeriodOf(f, 1); period != x.period {
			t.Errorf("PeriodOf(%s) = %d, want %d", x.text, period, x.period)
		}
	}
}

// formsWithBounds are formulas of which many have lower bounds and a period, and others that have none.
func formsWithBounds() []impl.Formula {
	list := every(openFormulas(), 2)
	for _, f := range readyForms() {
		for v := range 4 {
			if unified, can := slowUnified(f, v); can {
				list = append(list, unified)
			}
		}
	}
	return list
}

func TestBounds(t *testing.T) {
	refused, periods, many := 0, 0, 0
	for _, f := range formsWithBounds() {
		for v := range 4 {
			what := fmt.Sprintf("%s by %d", slowText(f), v)
			got, ok := impl.LowerBounds(f, v)
			period := impl.PeriodOf(f, v)
			if !slowBounded(f, v) {
				wantNoBounds(t, "LowerBounds "+what, got, ok)
				if period != -1 {
					t.Errorf("PeriodOf %s = %d", what, period)
				}
				refused++
				continue
			}
			wantBounds(t, "LowerBounds "+what, got, ok, slowBounds(f, v))
			if want := slowPeriod(f, v); period != want {
				t.Errorf("PeriodOf %s = %d, want %d", what, period, want)
			}
			if period > 1 {
				periods++
			}
			if len(got) > 2 {
				many++
			}
		}
		for _, v := range noVars {
			got, ok := impl.LowerBounds(f, v)
			wantNoBounds(t, "LowerBounds by no variable", got, ok)
			if period := impl.PeriodOf(f, v); period != -1 {
				t.Errorf("PeriodOf by no variable = %d", period)
			}
		}
	}
	if refused < 1000 || periods < 500 || many < 100 {
		t.Errorf("only %d are refused, %d have periods, and %d have several bounds", refused, periods, many)
	}
	for i, f := range badOpen() {
		got, ok := impl.LowerBounds(f, 1)
		wantNoBounds(t, "LowerBounds of a bad formula", got, ok)
		if period := impl.PeriodOf(f, 1); period != -1 {
			t.Errorf("PeriodOf the bad formula %d = %d", i, period)
		}
	}
}

func TestEliminateVarTexts(t *testing.T) {
	cases := []struct {
		text string
		v    int
		want string // empty if there is no result
	}{
		{"true", 0, "true"}, {"false", 1, "false"}, {"a<=0", 1, "a<=0"}, {"2a-4<=0", 2, "a-2<=0"}, {"not a=0", 1, "-a+1<=0"}, {"a-3=0", 1, "and a-3<=0 -a+3<=0"}, {"2b+1=0", 1, "false"}, {"b+1<=0", 1, "false"}, {"-b<=0", 1, "true"}, {"2|2b", 1, "true"}, {"or b<=0 true", 1, "true"}, {"and b<=0 false", 1, "false"}, {"not not a+10000=0", 1, "false"},
		{"b<=0", 1, "true"}, {"-b+5<=0", 1, "true"}, {"-b+10000<=0", 1, "true"}, {"b-7=0", 1, "true"}, {"not b=0", 1, "true"}, {"not b<=0", 1, "true"}, {"2b-7=0", 1, "false"}, {"and -b+5<=0 b-4<=0", 1, "false"}, {"and -b+5<=0 b-5<=0", 1, "true"}, {"2|b", 1, "true"}, {"and 2|b 2!b", 1, "false"}, {"and 2|b 3!b", 1, "true"}, {"and 4|b+3 6|b+4", 1, "false"}, {"and 4|b+3 6|b+1", 1, "true"},
		{"a-2b=0", 1, "or a<=0 2|a"}, {"a-2b=0", 0, "true"}, {"a-b=0", 1, "true"}, {"and a-b<=0 b-c<=0", 1, "or a<=0 a-c<=0"}, {"and b-c<=0 a-b<=0", 1, "or a<=0 a-c<=0"}, {"and a-b+3<=0 b-7<=0", 1, "a-4<=0"}, {"and a-2b=0 -b+1<=0", 1, "or and -a+2<=0 2|a and a-2<=0 -a+2<=0"}, {"3|a+b", 1, "or or 3|a 3|a+1 3|a+2"}, {"4|a+2b", 1, "or 4|a 4|a+2"}, {"3!a+b", 1, "or or 3!a 3!a+1 3!a+2"},
		{"and a-b-5<=0 b-2<=0", 1, "or a-5<=0 and -a+5<=0 a-7<=0"}, {"and -a-b+c<=0 b<=0", 1, "or -a+c<=0 and a-c<=0 -a+c<=0"}, // bounds that are negative in a point
		{"and 3!b a<=0", 1, "a<=0"}, {"or and 3!b+2 a<=0 and 3|b+2 c<=0", 1, "or a<=0 c<=0"}, {"or and 3!b+1 a<=0 and 3|b+1 c<=0", 1, "or a<=0 c<=0"}, {"and a-b<=0 2|a", 1, "or and a<=0 2|a 2|a"}, {"and 5|b+1 a<=0", 1, "a<=0"}, // tries that are equal, or FormFalse
		{"or b<=0 and 60|b -b+9941<=0", 1, "true"}, {"or b<=0 and 60|b -b+9942<=0", 1, ""}, {"or and 60|b -b+9942<=0 b<=0", 1, ""}, {"or b<=0 and 59|b -b+9942<=0", 1, "true"}, {"and b<=0 and 60|b -b+9942<=0", 1, ""}, // k of just MaxConst, and greater, also after a try that is true
		{"or b<=0 or 60a-b<=0 40a+b<=0", 1, "true"}, {"or b<=0 or 60a-b<=0 41a+b<=0", 1, ""}, {"and b<=0 and 60a-b<=0 41a+b<=0", 1, ""}, {"or b<=0 or 60a-b<=0 41a+c<=0", 1, "true"}, {"or b-1<=0 or -b+c+5000<=0 a+b+5000<=0", 1, "true"}, {"or b-1<=0 or -b+c+5000<=0 a+b+5001<=0", 1, "true"}, {"or b-1<=0 or -b+c+5000<=0 a-b+5001<=0", 1, "true"}, {"or b-1<=0 or -b+c+5001<=0 b-d+5000<=0", 1, ""}, {"or b-1<=0 or -b+c+5000<=0 b-d+5000<=0", 1, "true"},
		{"-a+60b<=0", 1, "true"}, {"-a+61b<=0", 1, ""}, {"and -a+7b<=0 a-9b<=0", 1, ""}, {"and -a+7b<=0 b-1<=0", 1, "true"}, {"60|b", 1, "true"}, {"61|b", 1, ""}, {"and 8|b 9|b", 1, ""}, {"and -a+2b<=0 51|b", 1, ""}, {"and -a+2b<=0 31|b", 1, ""}, {"and -a+2b<=0 30|b", 1, "true"},
		{"not -10000<=0", 0, ""}, {"not b-10000<=0", 1, ""}, {"not a-10000<=0", 1, ""}, {"or true not a-10000<=0", 1, ""}, {"not b-9999<=0", 1, "true"},
		{"some a true", 0, ""}, {"some b b=0", 1, ""}, {"all b true", 2, ""}, {"and false some a a=0", 0, ""}, {"not all d d=0", 0, ""},
	}
	for _, x := range cases {
		got, ok := impl.EliminateVar(formOf(t, x.text), x.v)
		what := fmt.Sprintf("EliminateVar %s by %d", x.text, x.v)
		if x.want == "" {
			wantNoForm(t, what, got, ok)
			continue
		}
		wantText(t, what, got, ok, x.want)
	}
}

// boundedForms are formulas in which b has bounds that depend on other variables, and is divided.
func boundedForms(seed dice, count int) []impl.Formula {
	var list []impl.Formula
	for range count {
		var parts []impl.Formula
		for range 2 + seed.roll(3) {
			m := [5]int{seed.roll(5) - 2, seed.roll(5) - 2, 0, 0, seed.roll(13) - 6}
			if seed.roll(3) == 0 {
				m[2] = seed.roll(3) - 1
			}
			a := impl.Atom{Kind: max(0, seed.roll(6)-2), Term: termOf(m)}
			if a.Kind >= 2 {
				a.Mod = 2 + seed.roll(4)
			}
			parts = append(parts, wrapped(atomForm(a), seed.roll(4)/3, notForm))
		}
		f := parts[0]
		for _, part := range parts[1:] {
			f = pairForm(4+seed.roll(3)/2, f, part)
		}
		list = append(list, f)
	}
	return list
}

// TestEliminateVar compares results with the document's rules, and with a search for the number that makes a formula true.
func TestEliminateVar(t *testing.T) {
	refused, trues, falses := 0, 0, 0
	for _, f := range append(openForms(61, 500), boundedForms(62, 500)...) {
		for v := range 4 {
			what := fmt.Sprintf("EliminateVar %s by %d", slowText(f), v)
			got, ok := impl.EliminateVar(f, v)
			want, can := slowWithout(f, v)
			wantChanged(t, what, got, ok, want, can)
			if !ok {
				refused++
				continue
			}
			if isFree(got, v) || !slowReady(got) {
				t.Errorf("%s = %s has the variable, or is not ready", what, slowText(got))
			}
			wantFresh(t, what, []impl.Formula{f}, got.Subs)
			for _, m := range every(smallValues(f, 4), 3) {
				_, exists := existsFor(f, v, m, 150)
				if holds(got, m, 0) != exists {
					t.Errorf("%s = %s is not %v in %v", what, slowText(got), exists, m)
				}
				if exists {
					trues++
				} else {
					falses++
				}
			}
		}
	}
	if refused < 10 || trues < 1000 || falses < 1000 {
		t.Errorf("%d are refused, %d are true and %d false", refused, trues, falses)
	}
}

// TestEliminateVarForms compares results with the document's rules for formulas of all kinds, many of them great.
func TestEliminateVarForms(t *testing.T) {
	refused, done := 0, 0
	for _, f := range every(openFormulas(), 3) {
		for v := range 4 {
			got, ok := impl.EliminateVar(f, v)
			want, can := slowWithout(f, v)
			wantChanged(t, fmt.Sprintf("EliminateVar %s by %d", slowText(f), v), got, ok, want, can)
			if !ok {
				refused++
			} else if isFree(f, v) {
				done++
			}
		}
		for _, v := range noVars {
			got, ok := impl.EliminateVar(f, v)
			wantNoForm(t, "EliminateVar by no variable", got, ok)
		}
	}
	if refused < 100 || done < 500 {
		t.Errorf("only %d are refused, and %d done", refused, done)
	}
	for _, f := range badOpen() {
		for v := range 4 {
			got, ok := impl.EliminateVar(f, v)
			wantNoForm(t, "EliminateVar of a bad formula", got, ok)
		}
	}
}

// withTries is a formula in which b has as many lower bounds as are asked for, with the term 0, and a period.
func withTries(bounds int, period int) impl.Formula {
	f := atomForm(impl.Atom{Kind: 2, Mod: period, Term: impl.Term{B: 1}})
	if period == 1 {
		f = atomForm(impl.Atom{Term: impl.Term{A: -1, B: 1}})
	}
	for n := range bounds - 1 {
		f = pairForm(4, f, atomForm(impl.Atom{Term: impl.Term{A: 1, B: -1, N: -n}}))
	}
	return f
}

// TestEliminateVarTries looks at formulas with just MaxTries tries and with more, which only LeastWitness takes.
func TestEliminateVarTries(t *testing.T) {
	for _, x := range []struct {
		bounds, period int
		can            bool
	}{
		{3, 50, true}, {3, 51, false}, {3, 52, false}, {2, 60, true}, {1, 60, true}, {4, 37, true}, {4, 38, false}, {5, 30, true}, {5, 31, false}, {6, 25, true}, {6, 26, false}, {10, 15, true}, {10, 16, false}, {11, 14, false}, {15, 10, true}, {16, 10, false}, {75, 2, true}, {76, 2, false}, {3, 60, false}, {149, 1, true}, {150, 1, true}, {151, 1, false}, {152, 1, false}, {290, 1, false},
	} {
		f := withTries(x.bounds, x.period)
		got, ok := impl.EliminateVar(f, 1)
		if ok != x.can {
			t.Errorf("EliminateVar with %d bounds and the period %d: %v", x.bounds, x.period, ok)
		}
		want, can := slowWithout(f, 1)
		wantChanged(t, fmt.Sprintf("EliminateVar with %d bounds and the period %d", x.bounds, x.period), got, ok, want, can)
		least, ok := impl.LeastWitness(f, 1, impl.Point{A: 101})
		first := 0
		if x.bounds > 1 {
			first = (100 + x.period) / x.period * x.period
		}
		if least != first || !ok {
			t.Errorf("LeastWitness with %d bounds and the period %d = %d, %v, want %d", x.bounds, x.period, least, ok, first)
		}
	}
}

// beside is a ready formula of as many different atoms as are asked for, about c and d alone.
func beside(leaves int) impl.Formula {
	f := atomForm(impl.Atom{Term: impl.Term{C: 1, D: -1, N: -1}})
	for n := range leaves - 1 {
		f = pairForm(4, f, atomForm(impl.Atom{Term: impl.Term{C: 1, D: -1, N: -n - 2}}))
	}
	return f
}

// TestEliminateVarGreat looks at formulas and results of just MaxNodes nodes and more.
func TestEliminateVarGreat(t *testing.T) {
	for _, nodes := range []int{1, 3, 593, 595, 597, 599} {
		for coef := 1; coef <= 2; coef++ {
			f := greatReady(nodes, coef)
			got, ok := impl.EliminateVar(f, 1)
			if can := nodes+2*coef <= 600; ok != can {
				t.Errorf("EliminateVar of %d nodes: %v", nodes, ok)
			}
			want, can := slowWithout(f, 1)
			wantChanged(t, "EliminateVar of a great formula", got, ok, want, can)
			got, ok = impl.EliminateVar(f, 3)
			wantForm(t, "EliminateVar by a variable that does not occur", got, ok, f)
		}
	}
	for leaves := 1; leaves <= 7; leaves++ {
		f := pairForm(4, atomForm(impl.Atom{Kind: 2, Mod: 60, Term: impl.Term{A: 1, B: 1}}), beside(leaves))
		got, ok := impl.EliminateVar(f, 1)
		if can := leaves <= 4; ok != can || can && slowNodes(got) != 60*(2*leaves+1)+59 {
			t.Errorf("EliminateVar to %d nodes: %v", slowNodes(got), ok)
		}
		want, can := slowWithout(f, 1)
		wantChanged(t, "EliminateVar to many nodes", got, ok, want, can)
	}
	never := pairForm(4, atomForm(impl.Atom{Kind: 3, Mod: 51, Term: impl.Term{B: 1}}), pairForm(4, atomForm(impl.Atom{Kind: 2, Mod: 51, Term: impl.Term{A: 1, B: 1}}), beside(5)))
	got, ok := impl.EliminateVar(never, 1) // there are 599 nodes, but more with the try that is FormFalse
	want, can := slowWithout(never, 1)
	wantChanged(t, "EliminateVar with a try that is FormFalse", got, ok, want, can)
	if slowNodes(got) != 599 {
		t.Errorf("EliminateVar with a try that is FormFalse has %d nodes", slowNodes(got))
	}
	for _, f := range justFit() {
		for v := range 4 {
			got, ok := impl.EliminateVar(f, v)
			want, can := slowWithout(f, v)
			wantChanged(t, "EliminateVar of 600 nodes", got, ok, want, can)
		}
	}
}

func TestEliminateAllTexts(t *testing.T) {
	cases := map[string]string{
		"true": "true", "false": "false", "2a-4<=0": "a-2<=0", "a=0": "a<=0", "a-3=0": "and a-3<=0 -a+3<=0", "not 4|2a": "2!a", "not not 2|a": "2|a", "and a<=0 not a=0": "and a<=0 -a+1<=0", "or a<=0 2a<=0": "a<=0", "and true b<=0": "b<=0", "not or a<=0 b<=0": "and -a+1<=0 -b+1<=0",
		"some b a-2b=0": "or a<=0 2|a", "some b and a-b<=0 b-c<=0": "or a<=0 a-c<=0", "all b or a-b<=0 -a+b+1<=0": "or a<=0 -a+1<=0", "all b or b-3<=0 a-b<=0": "a-4<=0", "all b -a+b<=0": "false", "all b a-b<=0": "a<=0", "not some b -a+b+1<=0": "a<=0", "not all b a-b<=0": "-a+1<=0", "all a 2|a": "false", "all a or 2|a 2|a+1": "true",
		"some b a<=0": "a<=0", "all b a<=0": "a<=0", "some c 2a-4<=0": "a-2<=0", "all c not a=0": "-a+1<=0", "all d 2|a": "2|a", "some a true": "true", "all a false": "false", "all b all c all d all b true": "true", // variables that do not occur
		"some a a<=0": "true", "all a a<=0": "false", "some a some a a-3=0": "true", "all a some a a-3=0": "true", "some a all a a-3=0": "false", "some a and a-3=0 some a a-5=0": "true", "some a and a-b=0 all a or a-7<=0 -a+8<=0": "true", "and a<=0 some a -a+1<=0": "a<=0", "and some a -a+1<=0 a<=0": "a<=0", "or a-1<=0 all a a<=0": "a-1<=0", "some b and a-b=0 some b and a-b-1=0 2|b": "or and a<=0 or and a-1<=0 -a+1<=0 and -a+1<=0 2|a+1 or and a-1<=0 -a+1<=0 and -a+1<=0 2|a+1", // the same variable
		"all b some c a-b-c=0": "false", "all b some c -a-b+c=0": "true",
		"and some b a-2b=0 some b a-3b=0": "and or a<=0 2|a or a<=0 3|a", "not some b a-2b=0": "and -a+1<=0 2!a", "not not some b a-2b=0": "or a<=0 2|a", "or not some b a-2b=0 all c true": "true",
		"not not -10000<=0": "true", "and a+10000=0 true": "false", "not and a-10000<=0 false": "true", "not a-9999<=0": "-a+10000<=0", // what is not valid with a negation is simplified before
	}
	for s, want := range cases {
		got, ok := impl.EliminateAll(formOf(t, s))
		wantText(t, "EliminateAll "+s, got, ok, want)
	}
	for _, s := range []string{
		"some b 61|b", "all b 61|b", "some b -a+61b<=0", "some b and 8|b 9|b", "and false some b 61|b", "or true some b 61|b", "not some b 61|b", "some a and false some b 61|b", "all a some b 61|b", "some b or b<=0 and 60|b -b+9942<=0", // a step that fails for a part, whatever the others are
		"not a-10000<=0", "all b a-10000<=0", "all b not not a-10000<=0", "all b or b<=0 a-10000<=0", "some b not a-10000<=0", "and true not a-10000=0",
	} {
		got, ok := impl.EliminateAll(formOf(t, s))
		wantNoForm(t, "EliminateAll "+s, got, ok)
	}
}

// truthFar tells whether a formula is true of values, with quantifiers over the numbers up to the first of some last ones, and those within them up to the next ones.
func truthFar(f impl.Formula, values [4]int, lasts ...int) bool {
	switch f.Kind {
	case 3:
		return !truthFar(f.Subs[0], values, lasts...)
	case 4:
		return truthFar(f.Subs[0], values, lasts...) && truthFar(f.Subs[1], values, lasts...)
	case 5:
		return truthFar(f.Subs[0], values, lasts...) || truthFar(f.Subs[1], values, lasts...)
	case 6, 7:
		for n := range lasts[0] + 1 {
			values[f.Var] = n
			if truthFar(f.Subs[0], values, lasts[1:]...) != (f.Kind == 6) {
				return f.Kind == 7
			}
		}
		return f.Kind == 6
	}
	return holds(f, values, 0)
}

// closer makes a formula with quantifiers nested at most so deep, about small numbers.
func (d *dice) closer(depth int, nested int) impl.Formula {
	if depth == 0 || nested == 0 && d.roll(3) == 0 {
		a := impl.Atom{Kind: max(0, d.roll(6)-2), Term: impl.Term{A: d.roll(4) - 1, B: d.roll(5) - 2, N: d.roll(9) - 4}}
		if a.Kind >= 2 {
			a.Mod = 2 + d.roll(2)
		}
		return atomForm(a)
	}
	switch d.roll(4) {
	case 0:
		return notForm(d.closer(depth-1, nested))
	case 1:
		return pairForm(4+d.roll(2), d.closer(depth-1, nested), d.closer(depth-1, nested))
	}
	if nested == 0 {
		return pairForm(4+d.roll(2), d.closer(depth-1, 0), d.closer(depth-1, 0))
	}
	return boundForm(6+d.roll(2), d.roll(2), d.closer(depth-1, nested-1))
}

// TestEliminateAll compares results with the document's rules, and with the truth for small numbers.
func TestEliminateAll(t *testing.T) {
	roll := dice(63)
	refused, trues, falses := 0, 0, 0
	for range 1500 {
		f := roll.closer(4, 2)
		got, ok := impl.EliminateAll(f)
		want, can := slowOpen(f)
		wantChanged(t, "EliminateAll "+slowText(f), got, ok, want, can)
		if !ok {
			refused++
			continue
		}
		if !slowReady(got) || slices.ContainsFunc(slowFree(got), func(v int) bool { return !isFree(f, v) }) {
			t.Errorf("EliminateAll(%s) = %s is not ready, or has other variables", slowText(f), slowText(got))
		}
		wantFresh(t, "EliminateAll", []impl.Formula{f}, got.Subs)
		for _, m := range every(smallValues(f, 9), 2) {
			truth := truthFar(f, m, 40, 150)
			if holds(got, m, 0) != truth {
				t.Errorf("EliminateAll(%s) = %s is not %v in %v", slowText(f), slowText(got), truth, m)
			}
			if truth {
				trues++
			} else {
				falses++
			}
		}
	}
	if refused > 300 || trues < 1000 || falses < 1000 {
		t.Errorf("%d are refused, only %d are true and %d false", refused, trues, falses)
	}
}

// TestEliminateAllForms compares results with the document's rules for formulas of all kinds, many of them great.
func TestEliminateAllForms(t *testing.T) {
	refused, done := 0, 0
	list := append(every(openFormulas(), 2), every(someFormulas(), 2)...)
	for i, f := range boundedForms(64, 400) {
		list = append(list, boundForm(6+i%2, i%4/2, pairForm(4+i%3/2, f, atomForm(impl.Atom{Kind: 2, Mod: 7 + i%9, Term: impl.Term{A: 1, B: 1}}))))
	}
	for _, f := range list {
		got, ok := impl.EliminateAll(f)
		want, can := slowOpen(f)
		wantChanged(t, "EliminateAll "+slowText(f), got, ok, want, can)
		if !ok {
			refused++
		} else if slowNested(f) > 0 {
			done++
		}
	}
	if refused < 50 || done < 500 {
		t.Errorf("only %d are refused, and %d done", refused, done)
	}
	for _, f := range badFormulas() {
		got, ok := impl.EliminateAll(f)
		wantNoForm(t, "EliminateAll of a bad formula", got, ok)
	}
}

// TestEliminateAllGreat looks at formulas that are too great on the way: denied, joined, or without one variable.
func TestEliminateAllGreat(t *testing.T) {
	for count := 590; count <= 610; count++ {
		for _, f := range manyZeros(count) {
			got, ok := impl.EliminateAll(f)
			want, can := slowOpen(f)
			wantChanged(t, "EliminateAll of many nodes", got, ok, want, can)
		}
	}
	many := "some b and 60|a+b and c-d-1<=0 and c-d-2<=0 c-d-3<=0" // it has 479 nodes without b
	for text, want := range map[string]int{many: 479, "not " + many: 479, "or a<=0 " + many: 481, "or " + many + " " + many: 0, "and " + many + " some b and 60|a+b c-d<=0": 0, "and " + many + " some b 59|a+b": 597, "and " + many + " or a<=0 some b 59|a+b": 599, "or " + many + " and a<=0 or a-1<=0 some b 59|a+b": 0} {
		f := formOf(t, text)
		got, ok := impl.EliminateAll(f)
		if ok != (want > 0) || ok && slowNodes(got) != want {
			t.Errorf("EliminateAll(%s) has %d nodes, %v", text, slowNodes(got), ok)
		}
		slow, can := slowOpen(f)
		wantChanged(t, "EliminateAll "+text, got, ok, slow, can)
	}
	for _, f := range justFit() {
		got, ok := impl.EliminateAll(f)
		want, can := slowOpen(f)
		wantChanged(t, "EliminateAll of 600 nodes", got, ok, want, can)
	}
}

// closedTexts are formulas without free variables, and whether they are true.
var closedTexts = map[string]bool{
	"true": true, "false": false, "0=0": true, "5=0": false, "2|4": true, "2!4": false, "not 1<=0": true, "or false 3|6": true, "not -10000<=0": false, "not 10000=0": true,
	"some a a=0": true, "all a a=0": false, "all a -a<=0": true, "some a a+1<=0": false, "all a not a+1<=0": true, "all a or 2|a 2|a+1": true, "all a or 2|a 3|a": false, "some a and 2|a 3!a": true, "some a and 2|a 2!a": false, "all a or 2!a 2|a": true, "some a and 4|a+2 6|a+1": false, "some a and 4|a+2 6|a": true, "all a or a-5<=0 -a+6<=0": true, "all a or a-5<=0 -a+7<=0": false, "some a 2a-7=0": false,
	"all a some b or a-2b=0 a-2b-1=0": true, "all a some b a-2b=0": false, "some a all b a-b<=0": true, "some a all b -a+b<=0": false, "all a some b a-b+1<=0": true, "all a some b -a+b+1<=0": false, "all a some b -a+b+1=0": false, "all b some a a-b-1=0": true, "some a some b and 3a-5b-1=0 -b+4<=0": true, "some a some b 2a-4b-1=0": false, "all a all b or a-b<=0 -a+b<=0": true, "all a all b some c or a-b-c=0 -a+b-c=0": true, "all a all b some c a-b-c=0": false, "all a all b some c a+b-c=0": true, "some c all a all b a+b-c=0": false, "all a all b all c or not and a-b+1<=0 b-c+1<=0 a-c+2<=0": true, "all a all b all c or not and a-b+1<=0 b-c+1<=0 a-c+3<=0": false,
	"all a or a-7<=0 some b some c a-3b-5c=0": true, "all a or a-6<=0 some b some c a-3b-5c=0": false, "some b some c 3b+5c-7=0": false, "some b some c 3b+5c-8=0": true, "all a or a-1<=0 some b some c a-2b-3c=0": true, "all a or a<=0 some b some c a-2b-3c=0": false, // greatest gaps
	"some a a-3=0": true, "some a and a=0 some a a-1=0": true, "all a some a a-1=0": true, "some a all a a=0": false, "all b true": true, "some d false": false, "all c some b all d some a a-10000=0": true, "all a some b all c some d and a-b=0 c-d=0": true, "some b all a some d all c or a-b=0 c-d=0": false,
}

func TestTruthOfTexts(t *testing.T) {
	for s, want := range closedTexts {
		for f, want := range map[string]bool{s: want, "not " + s: !want, "and true " + s: want, "all d " + s: want, "or false " + s: want} {
			if truth, ok := impl.TruthOf(formOf(t, f)); truth != want || !ok {
				t.Errorf("TruthOf(%s) = %v, %v", f, truth, ok)
			}
		}
	}
	for _, s := range []string{
		"a<=0", "2|d", "-a<=0", "1|b", "some a a-b=0", "all b a-b<=0", "and true a=0", "or true a=0", "and some a a=0 a=0", "some a some b some c d=0", "not c<=0", // free variables
		"some b 61|b", "not some b and 8|b 9|b", "or true all a 61!a", "all a not a-10000<=0", "all a all b or 53|a-b 53!a+b", // steps that fail
	} {
		if truth, ok := impl.TruthOf(formOf(t, s)); truth || ok {
			t.Errorf("TruthOf(%s) = %v, %v", s, truth, ok)
		}
	}
	for i, f := range badFormulas() {
		if truth, ok := impl.TruthOf(f); truth || ok {
			t.Errorf("TruthOf the bad formula %d = %v, %v", i, truth, ok)
		}
	}
}

// wantTruth looks whether TruthOf tells what the document's rules do, and whether that is so for small numbers.
func wantTruth(t *testing.T, f impl.Formula, small bool) (bool, bool) {
	t.Helper()
	truth, ok := impl.TruthOf(f)
	open, can := slowOpen(f)
	if ok != can || truth != (can && open.Kind == 0) {
		t.Errorf("TruthOf(%s) = %v, %v, want %s, %v", slowText(f), truth, ok, slowText(open), can)
	}
	if ok && truth != small {
		t.Errorf("TruthOf(%s) = %v, but not for small numbers", slowText(f), truth)
	}
	return truth, ok
}

func TestTruthOf(t *testing.T) {
	roll := dice(65)
	refused, trues, falses := 0, 0, 0
	for range 1500 {
		v := roll.roll(2)
		f := boundForm(6+roll.roll(2), v, boundForm(6+roll.roll(2), 1-v, roll.closer(3, 0)))
		f = wrapped(f, roll.roll(2), notForm)
		truth, ok := wantTruth(t, f, truthFar(f, [4]int{}, 60, 200))
		switch {
		case !ok:
			refused++
		case truth:
			trues++
		default:
			falses++
		}
	}
	if refused > 300 || trues < 300 || falses < 300 {
		t.Errorf("%d are refused, only %d are true and %d false", refused, trues, falses)
	}
}

func TestLeastWitnessTexts(t *testing.T) {
	cases := []struct {
		text string
		v    int
		p    [4]int
		want int // -2 if there is no result
	}{
		{"true", 0, [4]int{}, 0}, {"false", 0, [4]int{}, -1}, {"b<=0", 0, [4]int{}, 0}, {"b<=0", 0, [4]int{0, 1}, -1}, {"a<=0", 0, [4]int{}, 0}, {"a-5<=0", 0, [4]int{}, 0}, {"-a+5<=0", 0, [4]int{}, 5}, {"-a+5<=0", 0, [4]int{3}, 5}, {"-a+5<=0", 0, [4]int{1000}, 5}, {"a-7=0", 0, [4]int{}, 7}, {"not a-7=0", 0, [4]int{}, 0}, {"not a=0", 0, [4]int{}, 1}, {"a+1<=0", 0, [4]int{}, -1}, {"2a-7=0", 0, [4]int{}, -1}, {"-2a+7<=0", 0, [4]int{}, 4},
		{"and 3|a -a+7<=0", 0, [4]int{}, 9}, {"and 3|a+1 -a+7<=0", 0, [4]int{}, 8}, {"and 4|a+1 6|a+3", 0, [4]int{}, 3}, {"and 4|a 6|a+3", 0, [4]int{}, -1}, {"and 4!a and 3!a 2|a", 0, [4]int{}, 2}, {"and 4|a and 5|a -a+1<=0", 0, [4]int{}, 20}, {"60|a+1", 0, [4]int{}, 59}, {"and 60|a -a+1<=0", 0, [4]int{}, 60}, {"or and 5|a+1 -a+20<=0 a-30=0", 0, [4]int{}, 24},
		{"a-2b=0", 1, [4]int{10}, 5}, {"a-2b=0", 1, [4]int{11}, -1}, {"a-2b=0", 0, [4]int{1, 1000}, 2000}, {"a-3b-c=0", 0, [4]int{0, 1000, 1000}, 4000}, {"-a+100b<=0", 0, [4]int{0, 1000}, 100000}, {"-a+100b+100c+100d+10000<=0", 0, [4]int{0, 1000, 1000, 1000}, 310000}, {"and -a+100b+100c+100d+10000<=0 7|a", 0, [4]int{0, 1000, 1000, 1000}, 310002}, {"and -a+100b+100c+100d+10000<=0 a-100b-100c-100d-9999<=0", 0, [4]int{0, 1000, 1000, 1000}, -1},
		{"-60a+100b<=0", 0, [4]int{0, 600}, 1000}, {"-60a+100b+1<=0", 0, [4]int{0, 600}, 1001}, {"and -a+2b<=0 a-3b+1<=0", 1, [4]int{10}, 4}, {"and -a+2b<=0 a-3b+1<=0", 1, [4]int{1}, -1}, {"or a-b+100<=0 and 2|b a-b<=0", 1, [4]int{7}, 8}, {"or a-b+1<=0 and 3|b a-b-30<=0", 1, [4]int{50}, 21},
		{"a-b-5<=0", 1, [4]int{2}, 0}, {"a-b-5<=0", 1, [4]int{5}, 0}, {"a-b-5<=0", 1, [4]int{6}, 1}, {"and a-b-5<=0 7|b+3", 1, [4]int{2}, 4}, {"and a-b-5<=0 7|b+3", 1, [4]int{9}, 4}, {"and a-b-5<=0 7|b+3", 1, [4]int{10}, 11}, {"and -100a-b+c<=0 3|b+2", 1, [4]int{1000, 0, 5}, 1}, {"and -100a-b-10000<=0 b-3=0", 1, [4]int{1000}, 3}, {"or a-b-5<=0 -b+c-9<=0", 1, [4]int{1000, 0, 3}, 0}, {"or a-b-5<=0 -b+c-9<=0", 1, [4]int{1000, 0, 300}, 291}, // bounds that are negative in the point
		{"61|a", 0, [4]int{}, -2}, {"60a-b<=0", 0, [4]int{}, 0}, {"61a-b<=0", 0, [4]int{}, -2}, {"and 7a-b<=0 9a-c<=0", 0, [4]int{}, -2}, {"and 8|a 9|a", 0, [4]int{}, -2}, {"and 2a-b<=0 51|a", 0, [4]int{}, -2}, {"and 2a-b<=0 31|a", 0, [4]int{}, -2}, {"and 2a-b<=0 30|a", 0, [4]int{}, 0}, {"and 2a-b<=0 a-5001<=0", 0, [4]int{}, -2}, {"and 2a-b<=0 -a+5000<=0", 0, [4]int{}, -1}, {"not a-10000<=0", 0, [4]int{}, -2}, {"or true not b-10000<=0", 0, [4]int{}, -2}, {"or a<=0 61|a", 0, [4]int{}, -2}, {"or a<=0 61|b", 0, [4]int{}, 0},
		{"or a-5=0 and 60|a -a+9942<=0", 0, [4]int{}, 5}, {"and 60|a -a+9942<=0", 0, [4]int{}, 9960}, {"and 60|a -a+9999<=0", 0, [4]int{}, 10020}, {"or a-b<=0 or -a+60b<=0 a+41b<=0", 0, [4]int{}, 0}, // what EliminateVar refuses
		{"some a true", 0, [4]int{}, -2}, {"some b b=0", 0, [4]int{}, -2}, {"and false some a a=0", 0, [4]int{}, -2}, {"all b a<=0", 0, [4]int{}, -2},
	}
	for _, x := range cases {
		least, ok := impl.LeastWitness(formOf(t, x.text), x.v, pointOf(x.p))
		want, can := x.want, x.want != -2
		if !can {
			want = 0
		}
		if least != want || ok != can {
			t.Errorf("LeastWitness(%s, %d, %v) = %d, %v, want %d", x.text, x.v, x.p, least, ok, x.want)
		}
	}
}

// canSeek tells whether LeastWitness has a result for a valid formula and a variable.
func canSeek(f impl.Formula, v int) bool {
	ready, can := slowPrepared(f)
	if !can || slowNested(f) > 0 {
		return false
	}
	unified, can := slowUnified(ready, v)
	return can && slowPeriod(unified, v) != -1
}

func TestLeastWitness(t *testing.T) {
	refused, none, positive := 0, 0, 0
	points := [][4]int{{}, {1, 2, 3, 4}, {7, 0, 5, 9}, {3, 11, 0, 1}, {12, 13, 8, 2}, {100, 3, 57, 41}}
	for _, f := range append(openForms(66, 700), boundedForms(67, 700)...) {
		for v := range 4 {
			can := canSeek(f, v)
			for _, m := range points {
				want, _ := existsFor(f, v, m, 500)
				if !can {
					want = 0
				}
				least, ok := impl.LeastWitness(f, v, pointOf(m))
				if least != want || ok != can {
					t.Errorf("LeastWitness(%s, %d, %v) = %d, %v, want %d, %v", slowText(f), v, m, least, ok, want, can)
				}
				switch {
				case !ok:
					refused++
				case least < 0:
					none++
				case least > 0:
					positive++
				}
			}
		}
	}
	if refused < 10 || none < 500 || positive < 500 {
		t.Errorf("%d are refused, %d have no witness, and %d have one that is not 0", refused, none, positive)
	}
}

// TestLeastWitnessFar looks at points with great values, whose witnesses may be greater than MaxPoint.
func TestLeastWitnessFar(t *testing.T) {
	far := 0
	for i, f := range every(boundedForms(68, 600), 2) {
		for v := range 3 {
			m := [4]int{1000 - i%3, 997 + i%4, 1000 - i%5, 0}
			least, ok := impl.LeastWitness(f, v, pointOf(m))
			if !ok {
				continue
			}
			if want, _ := existsFor(f, v, m, 5000); least != want {
				t.Errorf("LeastWitness(%s, %d, %v) = %d, want %d", slowText(f), v, m, least, want)
			}
			if least > 1000 {
				far++
			}
		}
	}
	if far < 20 {
		t.Errorf("only %d witnesses are greater than MaxPoint", far)
	}
}

// TestLeastWitnessEliminates compares LeastWitness with EliminateVar: where one of them finds a number, the other is true.
func TestLeastWitnessEliminates(t *testing.T) {
	count := 0
	for _, f := range boundedForms(69, 500) {
		for v := range 3 {
			g, ok := impl.EliminateVar(f, v)
			if !ok {
				continue
			}
			for _, m := range every(somePoints, 2) {
				p := pointOf(m)
				if !impl.PointValid(p) {
					continue
				}
				truth, _ := impl.EvalOpen(g, p)
				least, ok := impl.LeastWitness(f, v, p)
				if !ok || truth != (least >= 0) {
					t.Errorf("LeastWitness(%s, %d, %v) = %d, %v, but EliminateVar is %v", slowText(f), v, m, least, ok, truth)
				}
				if with, ok := impl.WithValue(p, v, least); ok {
					if truth, _ := impl.EvalOpen(f, with); !truth {
						t.Errorf("%s is false for LeastWitness %d of %d in %v", slowText(f), least, v, m)
					}
					count++
				}
			}
		}
	}
	if count < 1000 {
		t.Errorf("only %d witnesses", count)
	}
}

func TestLeastWitnessInvalid(t *testing.T) {
	f := formOf(t, "and a-2b<=0 3|b")
	for _, v := range append(noVars, extremes...) {
		if least, ok := impl.LeastWitness(f, v, impl.Point{}); least != 0 || ok {
			t.Errorf("LeastWitness by %d = %d, %v", v, least, ok)
		}
	}
	for _, p := range badPoints() {
		for v := range 4 {
			for _, s := range []string{"true", "false", "and a-2b<=0 3|b", "a-3=0"} {
				if least, ok := impl.LeastWitness(formOf(t, s), v, p); least != 0 || ok {
					t.Errorf("LeastWitness(%s, %d, %v) = %d, %v", s, v, p, least, ok)
				}
			}
		}
	}
	for i, f := range badOpen() {
		for v := range 4 {
			if least, ok := impl.LeastWitness(f, v, impl.Point{B: 1}); least != 0 || ok {
				t.Errorf("LeastWitness of the bad formula %d by %d = %d, %v", i, v, least, ok)
			}
		}
	}
	for _, nodes := range []int{595, 597, 599} {
		for coef := 1; coef <= 2; coef++ {
			f := greatReady(nodes, coef)
			least, ok := impl.LeastWitness(f, 1, impl.Point{})
			want, _ := existsFor(f, 1, [4]int{}, 500)
			can := coef == 1 || nodes+2 <= 600
			if !can {
				want = 0
			}
			if least != want || ok != can {
				t.Errorf("LeastWitness of %d nodes = %d, %v, want %d", nodes, least, ok, want)
			}
		}
	}
}

// entailTexts are pairs of formulas, and whether the first one entails the second one.
var entailTexts = []struct {
	first, second string
	want          bool
}{
	{"a-3<=0", "a-4<=0", true}, {"a-4<=0", "a-3<=0", false}, {"4|a", "2|a", true}, {"2|a", "4|a", false}, {"and 2|a 3|a", "6|a", true}, {"6|a", "and 2|a 3|a", true}, {"a-b=0", "-a+b<=0", true}, {"-a+b<=0", "a-b=0", false}, {"false", "a=0", true}, {"a=0", "true", true}, {"true", "a=0", false}, {"true", "-a<=0", true}, {"a+1<=0", "false", true}, {"a=0", "false", false}, {"true", "true", true}, {"true", "false", false}, {"false", "false", true},
	{"and a-b<=0 b-c<=0", "a-c<=0", true}, {"and a-b<=0 b-c<=0", "-a+c<=0", false}, {"and a-b<=0 b-d<=0", "a-d<=0", true}, {"and a-c<=0 -a+c<=0", "a-c=0", true}, {"a-2b=0", "2|a", true}, {"a-2b=0", "2|b", false}, {"some b a-2b=0", "2|a", true}, {"2|a", "some b a-2b=0", true}, {"some b a-2b=0", "2|b", false}, {"all b a-b<=0", "a=0", true}, {"a=0", "all b a-b<=0", true}, {"some d a-6d=0", "some c a-3c=0", true}, {"some c a-3c=0", "some d a-6d=0", false}, {"and 2|a some a 3|a", "2|a", true}, {"2|a+d", "or and 2|a 2|d and 2!a 2!d", true}, {"-a+1000<=0", "-a+999<=0", true}, {"-a+9998<=0", "-a+9999<=0", false},
}

func TestEntailsFormulaTexts(t *testing.T) {
	for _, x := range entailTexts {
		if truth, ok := impl.EntailsFormula(formOf(t, x.first), formOf(t, x.second)); truth != x.want || !ok {
			t.Errorf("EntailsFormula(%s, %s) = %v, %v", x.first, x.second, truth, ok)
		}
	}
	for _, x := range [][2]string{{"61|a", "a=0"}, {"a=0", "61|a"}, {"61|a", "61|a"}, {"some b 61|b", "true"}, {"false", "some b 61|b"}, {"a=0", "not a-10000<=0"}, {"not a-10000<=0", "true"}, {"a-10000<=0", "a-10000<=0"}, {"a=0", "some b or b<=0 and 60|b -b+9942<=0"}} {
		if truth, ok := impl.EntailsFormula(formOf(t, x[0]), formOf(t, x[1])); truth || ok {
			t.Errorf("EntailsFormula(%s, %s) = %v, %v", x[0], x[1], truth, ok)
		}
	}
	for _, s := range []string{"61|a", "not a-9999<=0"} {
		if truth, ok := impl.EntailsFormula(formOf(t, s), impl.Formula{}); !truth || !ok {
			t.Errorf("EntailsFormula(%s, true) = %v, %v", s, truth, ok)
		}
	}
}

// claimOf is the formula whose truth is that f entails g.
func claimOf(f impl.Formula, g impl.Formula) impl.Formula {
	return boundForm(6, 0, boundForm(6, 1, boundForm(6, 2, boundForm(6, 3, pairForm(5, notForm(f), g)))))
}

// TestEntailsFormula compares results with the document's rules, and looks for points in which the first formula is true and the second one is not.
func TestEntailsFormula(t *testing.T) {
	roll := dice(70)
	refused, trues, falses := 0, 0, 0
	list := append(openForms(71, 300), boundedForms(72, 300)...)
	for range 1200 {
		f, g := list[roll.roll(len(list))], list[roll.roll(len(list))]
		switch roll.roll(4) {
		case 0:
			g = pairForm(5, g, f)
		case 1:
			f = pairForm(4, f, g)
		}
		truth, ok := impl.EntailsFormula(f, g)
		open, can := slowOpen(claimOf(f, g))
		if ok != can || truth != (can && open.Kind == 0) {
			t.Errorf("EntailsFormula(%s, %s) = %v, %v", slowText(f), slowText(g), truth, ok)
		}
		if !ok {
			refused++
			continue
		}
		last := []int{0, 200, 60, 12, 6}[len(slowFree(pairForm(4, f, g)))]
		counter := slices.ContainsFunc(smallValues(pairForm(4, f, g), last), func(m [4]int) bool { return holds(f, m, 0) && !holds(g, m, 0) })
		if truth == counter {
			t.Errorf("EntailsFormula(%s, %s) = %v, but there is such a point: %v", slowText(f), slowText(g), truth, counter)
		}
		if truth {
			trues++
		} else {
			falses++
		}
	}
	if refused > 300 || trues < 200 || falses < 200 {
		t.Errorf("%d are refused, only %d are true and %d false", refused, trues, falses)
	}
}

func TestEntailsFormulaInvalid(t *testing.T) {
	good := []impl.Formula{{}, {Kind: 1}, formOf(t, "a<=0")}
	for i, bad := range badFormulas() {
		for _, f := range append(good, bad) {
			if truth, ok := impl.EntailsFormula(bad, f); truth || ok {
				t.Errorf("EntailsFormula of the bad formula %d = %v, %v", i, truth, ok)
			}
			if truth, ok := impl.EntailsFormula(f, bad); truth || ok {
				t.Errorf("EntailsFormula to the bad formula %d = %v, %v", i, truth, ok)
			}
		}
	}
	for nodes := 585; nodes <= 600; nodes++ { // six nodes more say that one formula entails another one
		for _, other := range []int{1, 2, 300} {
			f, g := wrapped(impl.Formula{}, nodes-other-1, notForm), wrapped(impl.Formula{}, other-1, notForm)
			for _, x := range [][2]impl.Formula{{f, g}, {g, f}} {
				first, second := slowNodes(x[0])%2 == 1, slowNodes(x[1])%2 == 1
				can := nodes+6 <= 600
				if truth, ok := impl.EntailsFormula(x[0], x[1]); ok != can || truth != (can && (!first || second)) {
					t.Errorf("EntailsFormula with %d and %d nodes = %v, %v", slowNodes(x[0]), slowNodes(x[1]), truth, ok)
				}
			}
		}
	}
}

// TestEliminationMemory looks whether results share memory with arguments or with other results, also of formulas with common memory.
func TestEliminationMemory(t *testing.T) {
	common := []impl.Formula{formOf(t, "a-2b<=0"), formOf(t, "-a+3b-1<=0"), {Kind: 9}}[:2]
	both := pairForm(5, impl.Formula{Kind: 4, Subs: common}, impl.Formula{Kind: 4, Subs: common})
	for _, f := range []impl.Formula{both, notForm(both), boundForm(7, 1, both), pairForm(4, boundForm(6, 2, both), formOf(t, "a-b<=0"))} {
		first, ok := impl.PrepareFormula(f)
		second, also := impl.PrepareFormula(f)
		wantFresh(t, "PrepareFormula", []impl.Formula{f}, first.Subs, second.Subs)
		if !ok || !also {
			t.Errorf("PrepareFormula refuses %s", slowText(f))
		}
		for v := range 4 {
			unified, _ := impl.UnifyVar(first, v)
			again, _ := impl.UnifyVar(first, v)
			without, _ := impl.EliminateVar(f, v)
			also, _ := impl.EliminateVar(f, v)
			wantFresh(t, "UnifyVar and EliminateVar", []impl.Formula{f, first}, unified.Subs, again.Subs, without.Subs, also.Subs)
		}
		open, ok := impl.EliminateAll(f)
		others, also := impl.EliminateAll(f)
		wantFresh(t, "EliminateAll", []impl.Formula{f}, open.Subs, others.Subs)
		if !ok || !also || common[:3][2].Kind != 9 {
			t.Errorf("EliminateAll refuses %s, or changes what is behind a list", slowText(f))
		}
	}
	f := formOf(t, "and a-b<=0 and -b+c<=0 and -b+d<=0 2|b")
	first, _ := impl.LowerBounds(f, 1)
	second, _ := impl.LowerBounds(f, 1)
	before := slices.Clone(second)
	for i := range first[:cap(first)] {
		first[:cap(first)][i] = impl.Term{N: 77}
	}
	third, _ := impl.LowerBounds(f, 1)
	if !slices.Equal(second, before) || !slices.Equal(third, before) || len(before) != 4 {
		t.Errorf("LowerBounds = %v and then %v", before, third)
	}
}

// TestEliminationUnchanged calls the functions and looks whether their arguments are left as they are.
func TestEliminationUnchanged(t *testing.T) {
	for _, f := range slices.Concat(every(openFormulas(), 11), every(readyForms(), 23), every(someFormulas(), 23)) {
		before := copyOf(f)
		for v := range 4 {
			impl.CoefLcm(f, v)
			impl.UnifyVar(f, v)
			impl.LowerBounds(f, v)
			impl.PeriodOf(f, v)
			impl.EliminateVar(f, v)
			impl.LeastWitness(f, v, impl.Point{A: 3, B: 4})
		}
		impl.PrepareFormula(f)
		impl.EliminateAll(f)
		impl.TruthOf(f)
		impl.EntailsFormula(f, f)
		if !sameTree(f, before) {
			t.Errorf("%s was changed to %v", slowText(before), f)
		}
	}
}
