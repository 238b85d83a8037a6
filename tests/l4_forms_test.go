package tests

import (
	"slices"
	"strings"
	"testing"

	"loop.example/presburger/impl"
)

// greatAtoms are atoms at the limits: some have no negation, and terms in place of variables make some too great.
var greatAtoms = []impl.Atom{
	{Term: impl.Term{N: -10000}}, {Kind: 1, Term: impl.Term{A: 1, N: 10000}}, {Kind: 1, Term: impl.Term{D: -100, N: -10000}}, {Term: impl.Term{A: 100, B: -100, N: 10000}},
	{Kind: 2, Mod: 100, Term: impl.Term{C: 100, N: -10000}}, {Kind: 3, Mod: 97, Term: impl.Term{A: -100, D: 99, N: 10000}}, {Kind: 1, Term: impl.Term{B: 60, C: -100, N: 9999}}, {Term: impl.Term{C: 51, N: -9999}},
}

// formsToChange returns valid formulas of all kinds, some of them with atoms at the limits, and great ones.
func formsToChange() []impl.Formula {
	list := append(someFormulas(), justFit()...)
	roll := dice(44)
	var greater func(f impl.Formula) impl.Formula
	greater = func(f impl.Formula) impl.Formula {
		if f.Kind == 2 && roll.roll(3) == 0 {
			return atomForm(greatAtoms[roll.roll(len(greatAtoms))])
		}
		for i := range f.Subs {
			f.Subs[i] = greater(f.Subs[i])
		}
		return f
	}
	for range 300 {
		list = append(list, greater(roll.form(4, 2)))
	}
	for range 100 {
		if f := roll.form(12, 3); slowNodes(f) <= 600 {
			list = append(list, f)
		}
	}
	return list
}

// wantChanged looks whether a result is what is wanted, as far as this is valid.
func wantChanged(t *testing.T, what string, got impl.Formula, ok bool, want impl.Formula, can bool) {
	t.Helper()
	if !can || slowNodes(want) > 600 {
		wantNoForm(t, what, got, ok)
		return
	}
	wantForm(t, what, got, ok, want)
}

// wantText looks whether a formula has a text.
func wantText(t *testing.T, what string, got impl.Formula, ok bool, want string) {
	t.Helper()
	if !ok || impl.FormatFormula(got) != want {
		t.Errorf("%s = %q, %v, want %q", what, impl.FormatFormula(got), ok, want)
	}
}

// slowTerm is k times a term and a number more, with whether this is valid.
func slowTerm(term impl.Term, k int, n int) (impl.Term, bool) {
	return combined(term, k, impl.Term{N: n}, 1)
}

// slowNegated is the negation of an atom as a formula, with whether it is valid.
func slowNegated(a impl.Atom) (impl.Formula, bool) {
	if a.Kind >= 2 {
		a.Kind = 5 - a.Kind
		return atomForm(a), true
	}
	below, ok := slowTerm(a.Term, -1, 1)
	above, also := slowTerm(a.Term, 1, 1)
	if a.Kind == 0 {
		return atomForm(impl.Atom{Term: below}), ok
	}
	return pairForm(5, atomForm(impl.Atom{Term: above}), atomForm(impl.Atom{Term: below})), ok && also
}

// slowNormal is a formula, or what it denies, without negations, with whether all atoms are valid.
func slowNormal(f impl.Formula, denied bool) (impl.Formula, bool) {
	if f.Kind == 3 {
		return slowNormal(f.Subs[0], !denied)
	}
	if f.Kind == 2 && denied {
		return slowNegated(f.Atom)
	}
	result := impl.Formula{Kind: f.Kind, Atom: f.Atom, Var: f.Var}
	if denied {
		result.Kind = []int{1, 0, 2, 3, 5, 4, 7, 6}[f.Kind]
	}
	all := true
	for _, sub := range f.Subs {
		part, ok := slowNormal(sub, denied)
		result.Subs = append(result.Subs, part)
		all = all && ok
	}
	return result, all
}

// slowSplit is a formula without atoms that a term is 0.
func slowSplit(f impl.Formula) impl.Formula {
	if f.Kind == 2 && f.Atom.Kind == 1 {
		other, _ := slowTerm(f.Atom.Term, -1, 0)
		return pairForm(4, atomForm(impl.Atom{Term: f.Atom.Term}), atomForm(impl.Atom{Term: other}))
	}
	result := impl.Formula{Kind: f.Kind, Atom: f.Atom, Var: f.Var}
	for _, sub := range f.Subs {
		result.Subs = append(result.Subs, slowSplit(sub))
	}
	return result
}

// slowSimple follows the document's rules for simplified formulas.
func slowSimple(f impl.Formula) impl.Formula {
	var parts []impl.Formula
	for _, sub := range f.Subs {
		parts = append(parts, slowSimple(sub))
	}
	is := func(i int, kind int) bool { return parts[i].Kind == kind }
	switch f.Kind {
	case 2:
		tight := slowTight(f.Atom)
		if tight == (impl.Atom{}) {
			return impl.Formula{}
		}
		if tight == (impl.Atom{Term: impl.Term{N: 1}}) {
			return impl.Formula{Kind: 1}
		}
		return atomForm(tight)
	case 3:
		if is(0, 0) || is(0, 1) {
			return impl.Formula{Kind: 1 - parts[0].Kind}
		}
		if is(0, 3) {
			return parts[0].Subs[0]
		}
	case 4, 5:
		strong, weak := 1, 0 // what decides the pair, and what does not matter
		if f.Kind == 5 {
			strong, weak = 0, 1
		}
		if is(0, strong) || is(1, strong) {
			return impl.Formula{Kind: strong}
		}
		if is(0, weak) {
			return parts[1]
		}
		if is(1, weak) || sameTree(parts[0], parts[1]) {
			return parts[0]
		}
	case 6, 7:
		if !isFree(parts[0], f.Var) {
			return parts[0]
		}
	}
	f.Subs = parts
	return f
}

// slowSubst puts a term in place of a variable, with whether all is valid. The variables bound around f are in bound.
func slowSubst(f impl.Formula, v int, term impl.Term, bound []int) (impl.Formula, bool) {
	if f.Kind == 2 {
		if numbersOf(f.Atom.Term)[v] == 0 || slices.Contains(bound, v) {
			return f, true
		}
		other, ok := substituted(f.Atom.Term, v, term)
		for _, w := range bound {
			ok = ok && numbersOf(term)[w] == 0
		}
		f.Atom.Term = other
		return f, ok
	}
	result := impl.Formula{Kind: f.Kind, Var: f.Var}
	if f.Kind >= 6 {
		bound = append(slices.Clone(bound), f.Var)
	}
	all := true
	for _, sub := range f.Subs {
		part, ok := slowSubst(sub, v, term, bound)
		result.Subs = append(result.Subs, part)
		all = all && ok
	}
	return result, all
}

// slowClean follows the document's rules for clean clauses.
func slowClean(list []impl.Atom) []impl.Atom {
	var result []impl.Atom
	seen := map[impl.Atom]bool{{}: true}
	for _, a := range list {
		tight := slowTight(a)
		if !seen[tight] {
			result = append(result, tight)
		}
		seen[tight] = true
	}
	if never := (impl.Atom{Term: impl.Term{N: 1}}); seen[never] {
		return []impl.Atom{never}
	}
	return result
}

// slowClauses are the clauses of a formula without negations and quantifiers before they are cleaned, with whether neither it nor a part has too many.
func slowClauses(f impl.Formula) ([][]impl.Atom, bool) {
	switch f.Kind {
	case 0:
		return [][]impl.Atom{{}}, true
	case 1:
		return nil, true
	case 2:
		return [][]impl.Atom{{f.Atom}}, true
	}
	first, ok := slowClauses(f.Subs[0])
	second, also := slowClauses(f.Subs[1])
	if !ok || !also {
		return nil, false
	}
	var list [][]impl.Atom
	if f.Kind == 5 {
		list = append(append(list, first...), second...)
		return list, len(list) <= 64
	}
	for i := range len(first) * len(second) {
		list = append(list, append(slices.Clone(first[i/len(second)]), second[i%len(second)]...))
	}
	return list, len(list) <= 64
}

// slowCleaned are the clean clauses of a list, without those that are never true or stand before.
func slowCleaned(list [][]impl.Atom) [][]impl.Atom {
	var result [][]impl.Atom
	seen := map[string]bool{"1<=0": true}
	for _, clause := range list {
		clean := slowClean(clause)
		if text := joined(clean); !seen[text] {
			seen[text] = true
			result = append(result, clean)
		}
	}
	return result
}

// clauseTexts is the text of clauses as the document defines it.
func clauseTexts(list [][]impl.Atom) string {
	if len(list) == 0 {
		return "false"
	}
	var texts []string
	for _, clause := range list {
		text := strings.ReplaceAll(joined(clause), ";", " ")
		if text == "" {
			text = "true"
		}
		texts = append(texts, text)
	}
	return strings.Join(texts, " / ")
}

// sameClauses compares lists of clauses atom by atom.
func sameClauses(list [][]impl.Atom, others [][]impl.Atom) bool {
	return slices.EqualFunc(list, others, func(clause []impl.Atom, other []impl.Atom) bool { return slices.Equal(clause, other) })
}

func wantClauses(t *testing.T, what string, got [][]impl.Atom, ok bool, want [][]impl.Atom) {
	t.Helper()
	if !ok || !sameClauses(got, want) {
		t.Errorf("%s = %s, %v, want %s", what, clauseTexts(got), ok, clauseTexts(want))
	}
}

func wantNoClauses(t *testing.T, what string, got [][]impl.Atom, ok bool) {
	t.Helper()
	if ok || len(got) != 0 {
		t.Errorf("%s = %s, %v, want no clauses", what, clauseTexts(got), ok)
	}
}

// atomsIn reads atoms with single spaces between them.
func atomsIn(t *testing.T, s string) []impl.Atom {
	t.Helper()
	var list []impl.Atom
	for _, word := range strings.Fields(s) {
		list = append(list, atomOf(t, word))
	}
	return list
}

// allTell tells whether all atoms are true of values.
func allTell(list []impl.Atom, values [4]int) bool {
	for _, a := range list {
		if !tells(a, values) {
			return false
		}
	}
	return true
}

// badClauses are lists that are no clauses, because of an atom in any place or because of their length.
func badClauses() [][]impl.Atom {
	var list [][]impl.Atom
	for _, bad := range badAtoms() {
		list = append(list, []impl.Atom{bad})
	}
	for _, bad := range every(badAtoms(), 7) {
		list = append(list, []impl.Atom{bad, {}, {}}, []impl.Atom{{}, bad, {}}, []impl.Atom{{}, {}, bad}, append(make([]impl.Atom, 599), bad), []impl.Atom{{Term: impl.Term{N: 1}}, bad})
	}
	for _, count := range []int{601, 602, 1200, 1000000} {
		list = append(list, make([]impl.Atom, count))
	}
	return list
}

// someClauses are clauses of no atom up to MaxNodes.
func someClauses() [][]impl.Atom {
	roll := dice(9)
	list := [][]impl.Atom{nil, {}, make([]impl.Atom, 1), make([]impl.Atom, 600), someAtoms()[:600], someAtoms()[5000:5600]}
	for count := range 400 {
		var clause []impl.Atom
		for range count % 9 {
			clause = append(clause, roll.atom())
		}
		list = append(list, clause)
	}
	for _, a := range greatAtoms {
		list = append(list, []impl.Atom{a}, []impl.Atom{a, {Kind: 2, Mod: 2, Term: impl.Term{A: 1}}, a})
	}
	return list
}

func TestIsNegNormal(t *testing.T) {
	cases := map[string]bool{
		"true": true, "false": true, "a=0": true, "3!a": true, "not true": false, "not a=0": false, "not not a=0": false, "and true false": true, "or a=0 b=0": true, "and not a=0 b=0": false, "or a=0 not b=0": false,
		"all a a=0": true, "some b true": true, "all a not a=0": false, "some a or true and false all b not true": false, "some a or true and false all b 2!b": true,
	}
	for s, want := range cases {
		if got := impl.IsNegNormal(formOf(t, s)); got != want {
			t.Errorf("IsNegNormal(%s) = %v", s, got)
		}
	}
	for _, f := range formsToChange() {
		if got := impl.IsNegNormal(f); got == slices.Contains(strings.Fields(slowText(f)), "not") {
			t.Errorf("IsNegNormal(%s) = %v", slowText(f), got)
		}
	}
	for i, f := range badFormulas() {
		if impl.IsNegNormal(f) {
			t.Errorf("IsNegNormal of the bad formula %d = true", i)
		}
	}
}

func TestNegNormalTexts(t *testing.T) {
	cases := map[string]string{
		"true": "true", "false": "false", "a=0": "a=0", "not true": "false", "not false": "true", "not not true": "true", "not not not false": "true", "not not a=0": "a=0", "not not not not 2!a": "2!a",
		"not a-3<=0": "-a+4<=0", "not a=0": "or a+1<=0 -a+1<=0", "not 2|a": "2!a", "not 2!a": "2|a", "not not not a-3=0": "or a-2<=0 -a+4<=0",
		"not 0<=0": "1<=0", "not 1<=0": "0<=0", "not 0=0": "or 1<=0 1<=0", "not 1|a": "1!a", "not -5=0": "or -4<=0 6<=0", "2a+2<=0": "2a+2<=0",
		"not and a<=0 not b=0": "or -a+1<=0 b=0", "not or a<=0 not b=0": "and -a+1<=0 b=0", "not and true false": "or false true", "not or true false": "and false true", "and not a<=0 or not b<=0 c<=0": "and -a+1<=0 or -b+1<=0 c<=0",
		"not all a not 2|a": "some a 2|a", "not some a 2|a": "all a 2!a", "not all d some c a<=0": "some d all c -a+1<=0", "all b not some b not b<=0": "all b all b b<=0", "not or all a a<=0 not some b not c<=0": "and some a -a+1<=0 some b -c+1<=0",
		"not and not and not 2|a 3|b 4|c": "or and 2!a 3|b 4!c", "not and a=0 b=0": "or or a+1<=0 -a+1<=0 or b+1<=0 -b+1<=0", "some a or a<=0 not 3!a": "some a or a<=0 3|a",
		"not not -10000<=0": "-10000<=0", "not not 10000=0": "10000=0", "and 10000=0 not false": "and 10000=0 true", "not 10000<=0": "-9999<=0", "not -9999<=0": "10000<=0", "not 9999=0": "or 10000<=0 -9998<=0", "not -9999=0": "or -9998<=0 10000<=0",
	}
	for s, want := range cases {
		got, ok := impl.NegNormal(formOf(t, s))
		wantText(t, "NegNormal "+s, got, ok, want)
	}
	for _, s := range []string{"not -10000<=0", "not 10000=0", "not -10000=0", "not a+10000=0", "not -d-10000=0", "not not not a-10000<=0", "and true not -10000<=0", "not or true -10000<=0", "not all a a-10000=0", "some a and not and true -10000<=0 a=0", "or not -10000<=0 true"} {
		got, ok := impl.NegNormal(formOf(t, s))
		wantNoForm(t, "NegNormal "+s, got, ok)
	}
}

func TestNegNormal(t *testing.T) {
	refused := 0
	for _, f := range formsToChange() {
		got, ok := impl.NegNormal(f)
		want, can := slowNormal(f, false)
		wantChanged(t, "NegNormal "+slowText(f), got, ok, want, can)
		if !ok {
			refused++
			continue
		}
		if !impl.IsNegNormal(got) {
			t.Errorf("NegNormal(%s) = %s", slowText(f), slowText(got))
		}
		wantFresh(t, "NegNormal", []impl.Formula{f}, got.Subs)
		again, ok := impl.NegNormal(got)
		wantForm(t, "NegNormal again of "+slowText(f), again, ok, got)
	}
	if refused == 0 {
		t.Error("each formula has one without negations")
	}
}

// manyZeros are formulas about equations that grow to three nodes each, when they are denied or split: all these have count nodes then, if they are valid.
func manyZeros(count int) []impl.Formula {
	inSome := func(f impl.Formula) impl.Formula { return boundForm(7, 1, f) }
	few, rest := (count+1)/4, (count+1)%4
	return []impl.Formula{wrapped(chain(4, few), rest, inSome), wrapped(chain(5, few), rest, inSome), boundForm(6, 3, wrapped(chain(5, count/4), count%4, inSome))}
}

func TestNegNormalGreat(t *testing.T) {
	for count := 590; count <= 610; count++ {
		for _, f := range manyZeros(count) {
			got, ok := impl.NegNormal(notForm(f))
			want, can := slowNormal(f, true)
			if !can || slowNodes(want) != count {
				t.Errorf("%d nodes instead of %d", slowNodes(want), count)
			}
			if ok != (count <= 600) {
				t.Errorf("NegNormal to %d nodes: %v", count, ok)
			}
			wantChanged(t, "NegNormal to many nodes", got, ok, want, can)
		}
	}
	for nots := 590; nots < 600; nots++ {
		got, ok := impl.NegNormal(wrapped(impl.Formula{}, nots, notForm))
		wantForm(t, "NegNormal of negations alone", got, ok, impl.Formula{Kind: nots % 2})
	}
}

func TestSplitFormula(t *testing.T) {
	cases := map[string]string{
		"a=0": "and a<=0 -a<=0", "a<=0": "a<=0", "2|a": "2|a", "2!a": "2!a", "true": "true", "0=0": "and 0<=0 0<=0", "not a-3=0": "not and a-3<=0 -a+3<=0", "or a-3=0 2|a": "or and a-3<=0 -a+3<=0 2|a", "not not true": "not not true",
		"some a and a-2b=0 not 3|b": "some a and and a-2b<=0 -a+2b<=0 not 3|b", "all b b+10000=0": "all b and b+10000<=0 -b-10000<=0", "and a=0 a=0": "and and a<=0 -a<=0 and a<=0 -a<=0", "100a-100d-10000=0": "and 100a-100d-10000<=0 -100a+100d+10000<=0",
	}
	for s, want := range cases {
		got, ok := impl.SplitFormula(formOf(t, s))
		wantText(t, "SplitFormula "+s, got, ok, want)
	}
	for _, f := range formsToChange() {
		got, ok := impl.SplitFormula(f)
		wantChanged(t, "SplitFormula "+slowText(f), got, ok, slowSplit(f), true)
		for _, a := range impl.AtomsOf(got) {
			if a.Kind == 1 {
				t.Errorf("SplitFormula(%s) has %v", slowText(f), a)
			}
		}
		wantFresh(t, "SplitFormula", []impl.Formula{f}, got.Subs)
	}
	for count := 590; count <= 610; count++ {
		for _, f := range manyZeros(count) {
			got, ok := impl.SplitFormula(f)
			if ok != (count <= 600) {
				t.Errorf("SplitFormula to %d nodes: %v", count, ok)
			}
			wantChanged(t, "SplitFormula to many nodes", got, ok, slowSplit(f), true)
		}
	}
}

func TestSimplifyFormulaTexts(t *testing.T) {
	cases := map[string]string{
		"true": "true", "false": "false", "a<=0": "a<=0", "4a-6b+3<=0": "2a-3b+2<=0", "6|4a+2": "3|2a+1", "6|4a+1": "false", "6!4a+1": "true", "0<=0": "true", "1<=0": "false", "-a<=0": "true", "a+1<=0": "false", "-2a=0": "a=0", "0=0": "true", "2a-1=0": "false", "1|a": "true", "1!a": "false", "-5<=0": "true",
		"not true": "false", "not false": "true", "not not a=0": "a=0", "not not not a=0": "not a=0", "not not not not a=0": "a=0", "not -a<=0": "false", "not 1!a": "true", "not 2|a": "not 2|a", "not 2a<=0": "not a<=0", "not not true": "true", "not not not true": "false", "not a+1<=0": "true",
		"and a<=0 2a<=0": "a<=0", "and a<=0 true": "a<=0", "and true a<=0": "a<=0", "and a<=0 false": "false", "and false a<=0": "false", "and true true": "true", "and true false": "false", "and false true": "false", "and false false": "false", "and a<=0 b<=0": "and a<=0 b<=0",
		"or a<=0 2a<=0": "a<=0", "or a<=0 true": "true", "or true a<=0": "true", "or a<=0 false": "a<=0", "or false a<=0": "a<=0", "or true true": "true", "or true false": "true", "or false true": "true", "or false false": "false", "or a<=0 b<=0": "or a<=0 b<=0",
		"and a<=0 -a<=0": "a<=0", "or -a<=0 b=0": "true", "or a+1<=0 b<=0": "b<=0", "and a+1<=0 b<=0": "false", "and true not false": "true", "and b<=0 a<=0": "and b<=0 a<=0", "and or a=0 b=0 or -a=0 2b=0": "or a=0 b=0", "and or a=0 b=0 or b=0 a=0": "and or a=0 b=0 or b=0 a=0",
		"and a<=0 and a<=0 a<=0": "a<=0", "and a<=0 and b<=0 a<=0": "and a<=0 and b<=0 a<=0", "and and a=0 b=0 and a=0 and true b=0": "and a=0 b=0", "or not a=0 not 2a=0": "not a=0", "or not a=0 not not not a=0": "not a=0", "and a=0 not a=0": "and a=0 not a=0", "or 2|a 2!a": "or 2|a 2!a", "or 2!a 4!2a": "2!a",
		"some a a<=0": "some a a<=0", "some a b<=0": "b<=0", "all a b<=0": "b<=0", "some a true": "true", "all a false": "false", "some a -a<=0": "true", "all a and a<=0 a+1<=0": "false", "some a 4a-6b+3<=0": "some a 2a-3b+2<=0", "some b a=0": "a=0", "some a some a a=0": "some a a=0", "all a some a a=0": "some a a=0", "some a all b a-b=0": "some a all b a-b=0", "some b some a or a=0 2a=0": "some a a=0", "some a 3|3a+b": "3|b", "all c not not c=0": "all c c=0",
		"and some a a=0 some a 2a=0": "some a a=0", "and some a a=0 all a a=0": "and some a a=0 all a a=0", "and some a a=0 some b b=0": "and some a a=0 some b b=0", "or all a a=0 some b c=0": "or all a a=0 c=0", "not and a<=0 b<=0": "not and a<=0 b<=0", "not some a not b<=0": "b<=0", "not all a not a=0": "not all a not a=0",
		"and not and a=0 true not a=0": "not a=0", "or and false a=0 and b=0 or c=0 true": "b=0", "not -10000<=0": "false", "not a+10000=0": "true", "and a-10000<=0 true": "a-10000<=0",
	}
	for s, want := range cases {
		got, ok := impl.SimplifyFormula(formOf(t, s))
		wantText(t, "SimplifyFormula "+s, got, ok, want)
	}
}

func TestSimplifyFormula(t *testing.T) {
	smaller := 0
	for _, f := range formsToChange() {
		got, ok := impl.SimplifyFormula(f)
		wantForm(t, "SimplifyFormula "+slowText(f), got, ok, slowSimple(f))
		wantFresh(t, "SimplifyFormula", []impl.Formula{f}, got.Subs)
		if slowNodes(got) < slowNodes(f) && slowNodes(got) > 3 {
			smaller++
		}
	}
	if smaller < 50 {
		t.Errorf("only %d formulas became smaller", smaller)
	}
	for _, a := range append(every(someAtoms(), 13), every(smallAtoms(), 31)...) {
		for _, f := range []impl.Formula{atomForm(a), notForm(atomForm(a)), boundForm(6, 1, atomForm(a)), pairForm(4, atomForm(a), atomForm(a))} {
			got, ok := impl.SimplifyFormula(f)
			wantForm(t, "SimplifyFormula "+slowText(f), got, ok, slowSimple(f))
		}
	}
}

// TestFormsTruth compares the truth of formulas with that of their normal forms.
func TestFormsTruth(t *testing.T) {
	changes := map[string]func(impl.Formula) (impl.Formula, bool){"NegNormal": impl.NegNormal, "SplitFormula": impl.SplitFormula, "SimplifyFormula": impl.SimplifyFormula}
	trues, falses := 0, 0
	for i, f := range every(formsToChange(), 3) {
		for name, change := range changes {
			got, ok := change(f)
			if !ok {
				continue
			}
			for _, m := range every(somePoints[i%3:], 3) {
				want := holds(f, m, 3)
				if holds(got, m, 3) != want {
					t.Errorf("%s of %s = %s is not %v in %v", name, slowText(f), slowText(got), want, m)
				}
				if want {
					trues++
				} else {
					falses++
				}
			}
		}
	}
	if trues < 1000 || falses < 1000 {
		t.Errorf("only %d are true, and %d false", trues, falses)
	}
}

func TestFormsInvalid(t *testing.T) {
	for _, f := range badFormulas() {
		got, ok := impl.NegNormal(f)
		wantNoForm(t, "NegNormal of a bad formula", got, ok)
		got, ok = impl.SplitFormula(f)
		wantNoForm(t, "SplitFormula of a bad formula", got, ok)
		got, ok = impl.SimplifyFormula(f)
		wantNoForm(t, "SimplifyFormula of a bad formula", got, ok)
		got, ok = impl.SubstFormula(f, 0, impl.Term{B: 1})
		wantNoForm(t, "SubstFormula of a bad formula", got, ok)
		list, ok := impl.ClausesOf(f)
		wantNoClauses(t, "ClausesOf a bad formula", list, ok)
	}
}

func TestSubstFormulaTexts(t *testing.T) {
	cases := []struct {
		text string
		v    int
		term string
		want string // empty if there is no result
	}{
		{"a<=0", 0, "b+2", "b+2<=0"}, {"2a-b+1=0", 0, "c-3", "-b+2c-5=0"}, {"3|a", 0, "5", "3|5"}, {"3!a+b", 1, "0", "3!a"}, {"true", 0, "b", "true"}, {"not not a=0", 0, "d", "not not d=0"}, {"b=0", 0, "c", "b=0"}, {"a-b=0", 0, "b", "0=0"}, {"a-2=0", 0, "a+1", "a-1=0"}, {"or a=0 and a=0 b=0", 0, "7", "or 7=0 and 7=0 b=0"},
		{"and a<=0 some a a=0", 0, "b+2", "and b+2<=0 some a a=0"}, {"or some a a=0 a=0", 0, "b", "or some a a=0 b=0"}, {"and all a a=0 all b a-b=0", 0, "c", "and all a a=0 all b -b+c=0"}, {"some b a-b=0", 0, "b+2", ""}, {"some b a-b=0", 0, "c+2", "some b -b+c+2=0"}, {"some b b=0", 0, "b+2", "some b b=0"}, {"some b a=0", 0, "b", ""}, {"some b true", 0, "b", "some b true"},
		{"some a a-b=0", 0, "a+b", "some a a-b=0"}, {"some a a-b=0", 0, "b", "some a a-b=0"}, {"some a a-b=0", 1, "a", ""}, {"some a a-b=0", 1, "b+1", "some a a-b-1=0"}, {"some b a-b=0", 0, "a+1", "some b a-b+1=0"}, {"some b some a a-b=0", 0, "b", "some b some a a-b=0"}, {"some a some b a-b=0", 0, "b", "some a some b a-b=0"}, {"all b some c a-b-c=0", 0, "d", "all b some c -b-c+d=0"}, {"all b some c a-b-c=0", 0, "c", ""}, {"all b some c a-b-c=0", 0, "b", ""},
		{"all b and a=0 b=0", 0, "b", ""}, {"and all b b=0 a=0", 0, "b", "and all b b=0 b=0"}, {"and a=0 all b b=0", 0, "b", "and b=0 all b b=0"}, {"and all b b=0 all b a=0", 0, "b", ""}, {"and all b a=0 all c b=0", 0, "b", ""}, {"not all c not or a=0 c=0", 0, "c-1", ""}, {"all c some c a=0", 0, "c", ""}, {"all b some a a-b=0", 0, "b+c", "all b some a a-b=0"}, {"all b or some a a-b=0 a=0", 0, "b+c", ""}, {"all b or some a a-b=0 a=0", 0, "c", "all b or some a a-b=0 c=0"},
		{"2a<=0", 0, "50b", "100b<=0"}, {"2a<=0", 0, "51b", ""}, {"2a<=0", 0, "-51b", ""}, {"2a<=0", 0, "5000", "10000<=0"}, {"2a<=0", 0, "5001", ""}, {"and b<=0 2a<=0", 0, "51b", ""}, {"or 2a<=0 b<=0", 0, "51b", ""}, {"and b<=0 some a 2a<=0", 0, "51b", "and b<=0 some a 2a<=0"}, {"not 3|2a-100b", 0, "60b", "not 3|20b"}, {"all c 100a+1<=0", 0, "100", ""}, {"all c 100a<=0", 0, "100", "all c 10000<=0"},
		{"d=0", 3, "a-b", "a-b=0"}, {"some d d=0", 3, "a-b", "some d d=0"}, {"all a d=0", 3, "a-b", ""}, {"all b d=0", 3, "a-b", ""}, {"all c d=0", 3, "a-b", "all c a-b=0"}, {"all a c=0", 3, "a-b", "all a c=0"}, {"c-d=0", 2, "d", "0=0"},
	}
	for _, x := range cases {
		term, _ := impl.ParseTerm(x.term)
		got, ok := impl.SubstFormula(formOf(t, x.text), x.v, term)
		what := "SubstFormula " + x.text + " by " + x.term
		if x.want == "" {
			wantNoForm(t, what, got, ok)
			continue
		}
		wantText(t, what, got, ok, x.want)
	}
}

// termsToPut are terms to put in place of variables: with and without each of these, and great ones.
func termsToPut() []impl.Term {
	list := []impl.Term{{}, {N: 3}, {A: 1}, {B: 1}, {C: 2, N: 1}, {D: 1, N: -1}, {A: 1, B: 1}, {B: 2, C: -1, N: 4}, {A: 1, B: 1, C: 1, D: 1}, {A: 100, N: 10000}, {D: -51}, {N: -3400}}
	return append(list, every(someTerms(), 401)...)
}

func TestSubstFormula(t *testing.T) {
	done, refused := 0, 0
	for _, f := range every(formsToChange(), 5) {
		for v := range 4 {
			for _, term := range termsToPut() {
				got, ok := impl.SubstFormula(f, v, term)
				want, can := slowSubst(f, v, term, nil)
				wantChanged(t, "SubstFormula "+slowText(f)+" by "+impl.FormatTerm(term), got, ok, want, can)
				if !ok {
					refused++
				} else if !sameTree(f, got) {
					done++
					wantFresh(t, "SubstFormula", []impl.Formula{f}, got.Subs)
				}
			}
		}
	}
	if done < 1000 || refused < 1000 {
		t.Errorf("only %d are done, and %d refused", done, refused)
	}
}

// TestSubstFormulaTruth compares a term in place of a variable with its value as that of the variable.
func TestSubstFormulaTruth(t *testing.T) {
	trues, falses := 0, 0
	for i, f := range every(someFormulas(), 3) {
		for v := range 4 {
			for _, term := range termsToPut()[:9] {
				got, ok := impl.SubstFormula(f, v, term)
				if !ok || !isFree(f, v) {
					continue
				}
				for _, m := range every(somePoints[i%4:], 4) {
					with := m
					with[v] = term.A*m[0] + term.B*m[1] + term.C*m[2] + term.D*m[3] + term.N
					want := holds(f, with, 2)
					if holds(got, m, 2) != want {
						t.Errorf("%s with %s for %d = %s is not %v in %v", slowText(f), impl.FormatTerm(term), v, slowText(got), want, m)
					}
					if want {
						trues++
					} else {
						falses++
					}
				}
			}
		}
	}
	if trues < 1000 || falses < 1000 {
		t.Errorf("only %d are true, and %d false", trues, falses)
	}
}

func TestSubstFormulaInvalid(t *testing.T) {
	texts := []string{"true", "a=0", "some a a=0", "and b=0 all c c=0"}
	for _, s := range texts {
		f := formOf(t, s)
		for _, v := range append(noVars, extremes...) {
			got, ok := impl.SubstFormula(f, v, impl.Term{N: 1})
			wantNoForm(t, "SubstFormula for no variable", got, ok)
		}
		for v := range 4 {
			for _, bad := range badTerms() {
				got, ok := impl.SubstFormula(f, v, bad)
				wantNoForm(t, "SubstFormula by a bad term", got, ok)
			}
		}
	}
	for _, f := range justFit() {
		got, ok := impl.SubstFormula(f, 0, impl.Term{C: 1, N: 2})
		want, can := slowSubst(f, 0, impl.Term{C: 1, N: 2}, nil)
		wantChanged(t, "SubstFormula in 600 nodes", got, ok, want, can)
		if !ok {
			t.Error("SubstFormula refuses 600 nodes")
		}
	}
}

func TestClauseValid(t *testing.T) {
	for _, clause := range someClauses() {
		if !impl.ClauseValid(clause) {
			t.Errorf("ClauseValid(%s) = false", joined(clause))
		}
	}
	for _, clause := range badClauses() {
		if impl.ClauseValid(clause) {
			t.Errorf("ClauseValid of a bad clause of %d atoms = true", len(clause))
		}
	}
	if hidden := []impl.Atom{{}, {Kind: 9}}; !impl.ClauseValid(hidden[:1]) {
		t.Error("what is beyond the length of a clause is looked at")
	}
}

func TestEvalClause(t *testing.T) {
	cases := map[string]bool{ // in the point where a is 3, b is 2, c is 1000, and d is 0
		"": true, "a-3=0": true, "a-2=0": false, "a-3=0 b-2=0 3|a": true, "a-3=0 b-2=0 2|a": false, "a-2=0 b-2=0 3|a": false, "a-3=0 b-3=0 3|a": false, "0<=0": true, "1<=0": false, "1<=0 0<=0": false, "c-1000<=0 d=0": true,
	}
	for s, want := range cases {
		if truth, ok := impl.EvalClause(atomsIn(t, s), impl.Point{A: 3, B: 2, C: 1000}); truth != want || !ok {
			t.Errorf("EvalClause(%s) = %v, %v", s, truth, ok)
		}
	}
	for _, clause := range someClauses() {
		for _, m := range somePoints {
			valid := slices.Max(m[:]) <= 1000
			if truth, ok := impl.EvalClause(clause, pointOf(m)); ok != valid || truth != (valid && allTell(clause, m)) {
				t.Errorf("EvalClause(%s, %v) = %v, %v", joined(clause), m, truth, ok)
			}
		}
	}
	for _, clause := range badClauses() {
		if truth, ok := impl.EvalClause(clause, impl.Point{}); truth || ok {
			t.Errorf("EvalClause of a bad clause = %v, %v", truth, ok)
		}
	}
	for _, p := range badPoints() {
		for _, s := range []string{"", "0<=0", "0=0 1|a", "1<=0"} {
			if truth, ok := impl.EvalClause(atomsIn(t, s), p); truth || ok {
				t.Errorf("EvalClause(%s, %v) = %v, %v", s, p, truth, ok)
			}
		}
	}
}

func TestCleanClauseTexts(t *testing.T) {
	cases := map[string]string{
		"": "", "a<=0": "a<=0", "4a-6b+3<=0": "2a-3b+2<=0", "2a<=0 a<=0 -b<=0 2|a": "a<=0;2|a", "0<=0": "", "1<=0": "1<=0", "a+1<=0": "1<=0", "-a<=0 -b<=0": "", "a<=0 b<=0 a<=0": "a<=0;b<=0", "b<=0 a<=0 b<=0": "b<=0;a<=0", "a<=0 b<=0 2b<=0 3a<=0 c<=0": "a<=0;b<=0;c<=0",
		"a<=0 1<=0": "1<=0", "1<=0 a<=0": "1<=0", "a<=0 2a+1=0 b<=0": "1<=0", "2|4a+1": "1<=0", "a<=0 2!4a b<=0": "1<=0", "5=0 7=0": "1<=0", "0<=0 1<=0": "1<=0", "1<=0 1<=0": "1<=0", "2!2a+1 a<=0": "a<=0", "a=0 -a=0 3a=0": "a=0", "a=0 a<=0": "a=0;a<=0", "2|a 2!a": "2|a;2!a", "6|4a+2 3|2a+1 3|5a-2": "3|2a+1", "0=0 3|0 -10000<=0 c=0": "c=0",
	}
	for s, want := range cases {
		got, ok := impl.CleanClause(atomsIn(t, s))
		if joined(got) != want || !ok {
			t.Errorf("CleanClause(%s) = %s, %v, want %s", s, joined(got), ok, want)
		}
	}
}

func TestCleanClause(t *testing.T) {
	for _, clause := range someClauses() {
		got, ok := impl.CleanClause(clause)
		wantAtoms(t, "CleanClause "+joined(clause), got, ok, slowClean(clause))
		for _, m := range somePoints {
			if allTell(got, m) != allTell(clause, m) {
				t.Errorf("CleanClause(%s) = %s differs in %v", joined(clause), joined(got), m)
			}
		}
	}
	for i := range 20 {
		clause := someAtoms()[i*3000 : i*3000+600]
		got, ok := impl.CleanClause(clause)
		wantAtoms(t, "CleanClause of 600 atoms", got, ok, slowClean(clause))
	}
	var different []impl.Atom
	for n := range 600 {
		different = append(different, impl.Atom{Term: impl.Term{A: 1, N: -n}})
	}
	got, ok := impl.CleanClause(different)
	wantAtoms(t, "CleanClause of 600 different atoms", got, ok, different)
	different[599] = impl.Atom{Kind: 1, Term: impl.Term{A: 2, N: 1}}
	got, ok = impl.CleanClause(different)
	wantAtoms(t, "CleanClause with the last atom never true", got, ok, []impl.Atom{impl.TruthAtom(false)})
	for _, clause := range badClauses() {
		got, ok := impl.CleanClause(clause)
		wantNoAtoms(t, "CleanClause of a bad clause", got, ok)
	}
}

func TestClausesOfTexts(t *testing.T) {
	cases := map[string]string{
		"true": "true", "false": "false", "a<=0": "a<=0", "2a<=0": "a<=0", "0<=0": "true", "1<=0": "false", "not true": "false", "not false": "true", "not a=0": "-a+1<=0", "not a-3=0": "a-2<=0 / -a+4<=0", "not 2|a": "2!a", "not not a=0": "a=0",
		"and a<=0 b<=0": "a<=0 b<=0", "or a<=0 b<=0": "a<=0 / b<=0", "and b<=0 a<=0": "b<=0 a<=0", "or b<=0 a<=0": "b<=0 / a<=0", "and a<=0 true": "a<=0", "and true a<=0": "a<=0", "and a<=0 false": "false", "or a<=0 true": "a<=0 / true", "or true a<=0": "true / a<=0", "or a<=0 false": "a<=0", "or true true": "true", "or true 0<=0": "true", "and a<=0 a<=0": "a<=0",
		"and or a<=0 b<=0 or c<=0 d<=0": "a<=0 c<=0 / a<=0 d<=0 / b<=0 c<=0 / b<=0 d<=0", "and not a-3=0 or b<=0 2|a": "a-2<=0 b<=0 / a-2<=0 2|a / -a+4<=0 b<=0 / -a+4<=0 2|a", "and or a<=0 b<=0 and c<=0 d<=0": "a<=0 c<=0 d<=0 / b<=0 c<=0 d<=0", "and and a<=0 b<=0 or c<=0 d<=0": "a<=0 b<=0 c<=0 / a<=0 b<=0 d<=0", "or and a<=0 b<=0 and c<=0 d<=0": "a<=0 b<=0 / c<=0 d<=0", "or or a<=0 b<=0 or c<=0 d<=0": "a<=0 / b<=0 / c<=0 / d<=0",
		"or a+1<=0 or a<=0 a<=0": "a<=0", "or a<=0 2a<=0": "a<=0", "or a=0 -a=0": "a=0", "or and a<=0 b<=0 and 2a<=0 3b<=0": "a<=0 b<=0", "or and a<=0 b<=0 and b<=0 a<=0": "a<=0 b<=0 / b<=0 a<=0", "or and a<=0 a<=0 a<=0": "a<=0", "and or a<=0 b<=0 or a<=0 b<=0": "a<=0 / a<=0 b<=0 / b<=0 a<=0 / b<=0", "or a<=0 or b<=0 or 2a<=0 2b<=0": "a<=0 / b<=0", "or 1<=0 a<=0": "a<=0", "or and a<=0 1<=0 and b<=0 0<=0": "b<=0",
		"not and a<=0 b<=0": "-a+1<=0 / -b+1<=0", "not or a<=0 b<=0": "-a+1<=0 -b+1<=0", "not and a=0 not or b<=0 2|c": "-a+1<=0 / b<=0 / 2|c", "not or not a<=0 and b<=0 2!c": "a<=0 -b+1<=0 / a<=0 2|c", "or -a<=0 b<=0": "true / b<=0", "not not -10000<=0": "true", "and a<=0 or false false": "false", "or a+1<=0 b+1<=0": "false",
	}
	for s, want := range cases {
		got, ok := impl.ClausesOf(formOf(t, s))
		if clauseTexts(got) != want || impl.FormatClauses(got) != want || !ok {
			t.Errorf("ClausesOf(%s) = %q, %v, want %q", s, clauseTexts(got), ok, want)
		}
	}
	for _, s := range []string{"some a true", "all d false", "not some a a=0", "and false all b b=0", "or a=0 some b a=0", "not -10000<=0", "and false not -10000<=0", "or true not a+10000=0", "not not not 10000=0"} {
		got, ok := impl.ClausesOf(formOf(t, s))
		wantNoClauses(t, "ClausesOf "+s, got, ok)
	}
}

// openFormulas are formulas with few quantifiers and many connectives.
func openFormulas() []impl.Formula {
	roll := dice(77)
	list := formsToChange()
	for range 1500 {
		list = append(list, roll.form(3+roll.roll(4), roll.roll(20)/19))
	}
	var dense func(depth int) impl.Formula
	dense = func(depth int) impl.Formula {
		if depth == 0 || roll.roll(8) == 0 {
			return atomForm(roll.atom())
		}
		f := pairForm(4+roll.roll(2), dense(depth-1), dense(depth-1))
		return wrapped(f, roll.roll(5)/4, notForm)
	}
	for range 500 {
		list = append(list, dense(2+roll.roll(4)))
	}
	return list
}

func TestClausesOf(t *testing.T) {
	refused, many := 0, 0
	for _, f := range openFormulas() {
		got, ok := impl.ClausesOf(f)
		normal, can := slowNormal(f, false)
		if !can || slowNested(f) > 0 || slowNodes(normal) > 600 {
			wantNoClauses(t, "ClausesOf "+slowText(f), got, ok)
			continue
		}
		list, can := slowClauses(normal)
		if !can {
			wantNoClauses(t, "ClausesOf "+slowText(f), got, ok)
			refused++
			continue
		}
		wantClauses(t, "ClausesOf "+slowText(f), got, ok, slowCleaned(list))
		if len(got) > 3 {
			many++
		}
		for _, m := range somePoints {
			one := slices.ContainsFunc(got, func(clause []impl.Atom) bool { return allTell(clause, m) })
			if one != holds(f, m, 0) {
				t.Errorf("ClausesOf(%s) = %s is %v in %v", slowText(f), clauseTexts(got), one, m)
			}
		}
	}
	if refused < 20 || many < 100 {
		t.Errorf("only %d are refused, and %d have some clauses", refused, many)
	}
}

// choices joins as many different atoms as are asked for by "or".
func choices(count int) impl.Formula {
	var list []impl.Formula
	for n := range count {
		list = append(list, atomForm(impl.Atom{Term: impl.Term{A: 1, B: -1, N: -n}}))
	}
	f, _ := impl.JoinAny(list)
	return f
}

// TestClausesOfMany looks at formulas with as many clauses as there may be and with more, also in a part, and if they are equal or never true.
func TestClausesOfMany(t *testing.T) {
	truth, never := impl.Formula{}, impl.Formula{Kind: 1}
	for first := range 67 {
		for _, second := range []int{0, 1, 2, 3, 4, 5, 8, 9, 10, 13, 32, 33, 64, 65} {
			got, ok := impl.ClausesOf(pairForm(5, choices(first), choices(second)))
			can := first <= 64 && second <= 64 && first+second <= 64
			if ok != can || can && len(got) != max(first, second) || !can && len(got) != 0 {
				t.Errorf("ClausesOf one of %d and %d: %d, %v", first, second, len(got), ok)
			}
			got, ok = impl.ClausesOf(pairForm(4, choices(first), choices(second)))
			can = first <= 64 && second <= 64 && first*second <= 64
			if ok != can || !can && len(got) != 0 || can && (len(got) == 0) != (first*second == 0) {
				t.Errorf("ClausesOf %d and %d: %d, %v", first, second, len(got), ok)
			}
		}
	}
	for count, can := range map[int]bool{63: true, 64: true, 65: false, 66: false} {
		for _, f := range []impl.Formula{
			choices(count), chain(5, count), pairForm(4, never, choices(count)), pairForm(4, choices(count), never), pairForm(4, truth, choices(count)), pairForm(4, never, pairForm(4, never, choices(count))), pairForm(4, pairForm(4, choices(count), never), pairForm(5, truth, truth)),
			pairForm(5, choices(count), never), notForm(notForm(choices(count))), pairForm(4, wrapped(atomForm(impl.TruthAtom(false)), count-1, func(f impl.Formula) impl.Formula { return pairForm(5, atomForm(impl.TruthAtom(false)), f) }), truth),
			wrapped(truth, count-1, func(f impl.Formula) impl.Formula { return pairForm(5, f, truth) }), wrapped(truth, count-1, func(f impl.Formula) impl.Formula { return pairForm(5, truth, f) }),
		} {
			got, ok := impl.ClausesOf(f)
			normal, _ := slowNormal(f, false)
			list, slow := slowClauses(normal)
			if ok != can || slow != can {
				t.Errorf("ClausesOf(%s): %v", slowText(f), ok)
			}
			if ok {
				wantClauses(t, "ClausesOf "+slowText(f), got, ok, slowCleaned(list))
			} else {
				wantNoClauses(t, "ClausesOf "+slowText(f), got, ok)
			}
		}
	}
	plenty := wrapped(never, 599/2, func(f impl.Formula) impl.Formula { return pairForm(5, f, never) })
	got, ok := impl.ClausesOf(plenty)
	wantClauses(t, "ClausesOf many parts that are never true", got, ok, nil)
}

// TestClausesOfGreat looks at formulas that have few clauses, but may be too great without negations.
func TestClausesOfGreat(t *testing.T) {
	none := pairForm(5, atomForm(impl.Atom{Kind: 1, Term: impl.Term{A: 1, N: -2}}), impl.Formula{}) // its negation has five nodes and no clause
	for count := 95; count <= 105; count++ {
		all := wrapped(none, count-1, func(f impl.Formula) impl.Formula { return pairForm(4, f, none) })
		for _, f := range []impl.Formula{notForm(all), pairForm(5, impl.Formula{}, notForm(all))} {
			normal, _ := slowNormal(f, false)
			got, ok := impl.ClausesOf(f)
			if ok != (slowNodes(normal) <= 600) {
				t.Errorf("ClausesOf with %d nodes: %v", slowNodes(normal), ok)
			}
			if !ok {
				wantNoClauses(t, "ClausesOf a great formula", got, ok)
			} else if len(got) != f.Kind/5 {
				t.Errorf("ClausesOf a great formula = %s", clauseTexts(got))
			}
		}
	}
	long, ok := impl.ClausesOf(chain(4, 300))
	wantClauses(t, "ClausesOf 300 atoms", long, ok, [][]impl.Atom{{{Kind: 1, Term: impl.Term{A: 1, N: -7}}}})
	wide := pairForm(4, choices(64), chain(4, 236))
	got, ok := impl.ClausesOf(wide)
	if len(got) != 64 || !ok || len(got[63]) != 2 || impl.NodeCount(wide) != 599 {
		t.Errorf("ClausesOf 64 clauses with many atoms = %s, %v", clauseTexts(got), ok)
	}
}

func TestFormulaOfClausesTexts(t *testing.T) {
	cases := map[string]string{
		"": "false", ";": "or true true", "a<=0": "a<=0", "a<=0 b<=0": "and a<=0 b<=0", "a<=0 b<=0 c<=0": "and and a<=0 b<=0 c<=0", "a<=0;b<=0": "or a<=0 b<=0", "a<=0;b<=0;c<=0": "or or a<=0 b<=0 c<=0", "a<=0 b<=0;2|a": "or and a<=0 b<=0 2|a", "2|a;a<=0 b<=0": "or 2|a and a<=0 b<=0", "a<=0;": "or a<=0 true", ";a<=0": "or true a<=0", "2a<=0 0<=0;2a<=0 0<=0": "or and 2a<=0 0<=0 and 2a<=0 0<=0", "1<=0": "1<=0", "a=0 a=0": "and a=0 a=0",
	}
	for s, want := range cases {
		var list [][]impl.Atom
		if s != "" {
			for _, part := range strings.Split(s, ";") {
				list = append(list, atomsIn(t, part))
			}
		}
		got, ok := impl.FormulaOfClauses(list)
		wantText(t, "FormulaOfClauses "+s, got, ok, want)
	}
	got, ok := impl.FormulaOfClauses([][]impl.Atom{nil})
	wantForm(t, "FormulaOfClauses of a clause without atoms", got, ok, impl.Formula{})
}

// someClauseLists are lists of up to MaxClauses valid clauses.
func someClauseLists() [][][]impl.Atom {
	all := someClauses()
	short := all[6:]
	list := [][][]impl.Atom{nil, {}, {nil}, {{}, nil}, make([][]impl.Atom, 64), short[:64], short[100:164], {all[3], all[4]}, slices.Repeat([][]impl.Atom{all[4]}, 64)}
	for i := range 300 {
		list = append(list, short[i:i+i%12])
	}
	return list
}

// badClauseLists are lists of too many clauses or with a clause that is not valid.
func badClauseLists() [][][]impl.Atom {
	list := [][][]impl.Atom{make([][]impl.Atom, 65), make([][]impl.Atom, 66), make([][]impl.Atom, 1000000), append(slices.Clone(someClauses()[6:70]), nil)}
	for _, bad := range every(badClauses(), 3) {
		list = append(list, [][]impl.Atom{bad}, [][]impl.Atom{bad, nil}, [][]impl.Atom{nil, bad}, [][]impl.Atom{nil, bad, {{}}})
	}
	for _, bad := range badClauses()[:5] {
		list = append(list, append(make([][]impl.Atom, 63), bad), append([][]impl.Atom{bad}, make([][]impl.Atom, 64)...))
	}
	return append(list, [][]impl.Atom{make([]impl.Atom, 601)})
}

func TestFormulaOfClauses(t *testing.T) {
	for _, list := range someClauseLists() {
		got, ok := impl.FormulaOfClauses(list)
		leaves := 0
		var choice []impl.Formula
		for _, clause := range list {
			var all []impl.Formula
			for _, a := range clause {
				all = append(all, atomForm(a))
			}
			leaves += max(1, len(clause))
			f, _ := impl.JoinAll(all)
			choice = append(choice, f)
		}
		if leaves > 300 {
			wantNoForm(t, "FormulaOfClauses to many nodes", got, ok)
			continue
		}
		want, _ := impl.JoinAny(choice)
		wantForm(t, "FormulaOfClauses "+clauseTexts(list), got, ok, want)
		for _, m := range somePoints[:6] {
			if holds(got, m, 0) != slices.ContainsFunc(list, func(clause []impl.Atom) bool { return allTell(clause, m) }) {
				t.Errorf("FormulaOfClauses(%s) differs in %v", clauseTexts(list), m)
			}
		}
		clauses, ok := impl.ClausesOf(got)
		wantClauses(t, "ClausesOf the formula of "+clauseTexts(list), clauses, ok, slowCleaned(list))
	}
	for _, list := range badClauseLists() {
		got, ok := impl.FormulaOfClauses(list)
		wantNoForm(t, "FormulaOfClauses of bad clauses", got, ok)
	}
	for leaves := 298; leaves <= 302; leaves++ {
		for _, list := range [][][]impl.Atom{{make([]impl.Atom, leaves)}, {make([]impl.Atom, leaves-1), nil}, {nil, make([]impl.Atom, 100), nil, make([]impl.Atom, leaves-102)}, append(make([][]impl.Atom, 63), make([]impl.Atom, leaves-63))} {
			got, ok := impl.FormulaOfClauses(list)
			if ok != (leaves <= 300) || ok && slowNodes(got) != 2*leaves-1 {
				t.Errorf("FormulaOfClauses with %d leaves: %v", leaves, ok)
			}
			if !ok {
				wantNoForm(t, "FormulaOfClauses to many nodes", got, ok)
			}
		}
	}
}

func TestFormatClauses(t *testing.T) {
	atoms := atomsIn(t, "a<=0 -b+2=0 3|c 4!d-1")
	cases := []struct {
		list [][]impl.Atom
		want string
	}{
		{nil, "false"}, {[][]impl.Atom{}, "false"}, {[][]impl.Atom{nil}, "true"}, {[][]impl.Atom{{}, {}}, "true / true"}, {[][]impl.Atom{atoms}, "a<=0 -b+2=0 3|c 4!d-1"}, {[][]impl.Atom{atoms[:1], nil, atoms[1:3]}, "a<=0 / true / -b+2=0 3|c"}, {[][]impl.Atom{atoms[:1], atoms[:1]}, "a<=0 / a<=0"}, {[][]impl.Atom{atoms[3:]}, "4!d-1"}, {[][]impl.Atom{{{Term: impl.Term{N: 1}}}}, "1<=0"},
	}
	for _, x := range cases {
		if got := impl.FormatClauses(x.list); got != x.want {
			t.Errorf("FormatClauses(%v) = %q, want %q", x.list, got, x.want)
		}
	}
	for _, list := range someClauseLists() {
		if got := impl.FormatClauses(list); got != clauseTexts(list) {
			t.Errorf("FormatClauses(%s) = %q", clauseTexts(list), got)
		}
	}
	for _, list := range badClauseLists() {
		if got := impl.FormatClauses(list); got != "" {
			t.Errorf("FormatClauses of bad clauses = %q", got)
		}
	}
}

// wantFreshAtoms looks whether lists of atoms share memory, unused capacity included.
func wantFreshAtoms(t *testing.T, what string, lists ...[]impl.Atom) {
	t.Helper()
	seen := map[*impl.Atom]bool{}
	for _, list := range lists {
		for i := range list[:cap(list)] {
			place := &list[:cap(list)][i]
			if seen[place] {
				t.Errorf("%s: memory is shared", what)
				return
			}
			seen[place] = true
		}
	}
}

// TestClausesMemory looks whether clauses share memory with arguments or with each other.
func TestClausesMemory(t *testing.T) {
	for _, clause := range someClauses() {
		first, _ := impl.CleanClause(clause)
		second, _ := impl.CleanClause(clause)
		wantFreshAtoms(t, "CleanClause", clause, first, second)
	}
	for _, f := range every(openFormulas(), 3) {
		first, _ := impl.ClausesOf(f)
		second, _ := impl.ClausesOf(f)
		wantFreshAtoms(t, "ClausesOf", append(slices.Clone(first[:cap(first)]), second[:cap(second)]...)...)
		if len(first) > 0 && &first[0] == &second[0] {
			t.Error("results of ClausesOf share memory")
		}
	}
	common := []impl.Formula{{Kind: 2, Atom: impl.Atom{Kind: 1, Term: impl.Term{A: 2, B: 1, N: -7}}}, {Kind: 9}}[:1]
	twice := pairForm(4, pairForm(5, impl.Formula{Kind: 3, Subs: common}, impl.Formula{Kind: 6, Var: 0, Subs: common}), impl.Formula{Kind: 3, Subs: common})
	for _, change := range []func(impl.Formula) (impl.Formula, bool){impl.NegNormal, impl.SplitFormula, impl.SimplifyFormula, func(f impl.Formula) (impl.Formula, bool) { return impl.SubstFormula(f, 1, impl.Term{D: 1}) }} {
		first, ok := change(twice)
		second, also := change(twice)
		if !ok || !also || common[:2][1].Kind != 9 {
			t.Error("parts with common memory are refused")
		}
		wantFresh(t, "parts with common memory", []impl.Formula{twice}, first.Subs, second.Subs)
	}
}

// TestFormsUnchanged calls the functions and looks whether their arguments are left as they are, also beyond their length.
func TestFormsUnchanged(t *testing.T) {
	for _, f := range every(openFormulas(), 11) {
		before := copyOf(f)
		impl.IsNegNormal(f)
		impl.NegNormal(f)
		impl.SplitFormula(f)
		impl.SimplifyFormula(f)
		impl.SubstFormula(f, 1, impl.Term{A: 2})
		impl.ClausesOf(f)
		if !sameTree(f, before) {
			t.Errorf("%s was changed to %v", slowText(before), f)
		}
	}
	whole := atomsIn(t, "2a<=0 0<=0 2a<=0 4b-2<=0 6|4a+2 5=0 7=0")
	before := slices.Clone(whole)
	lists := [][]impl.Atom{whole[:2], whole[1:5], whole[:0], whole[5:6], whole[2:3]}
	for _, clause := range lists {
		impl.ClauseValid(clause)
		impl.EvalClause(clause, impl.Point{A: 1})
		impl.CleanClause(clause)
	}
	impl.FormulaOfClauses(lists[:3])
	impl.FormatClauses(lists[:3])
	if !slices.Equal(whole, before) || &lists[3][0] != &whole[5] || len(lists[4]) != 1 {
		t.Error("clauses were changed")
	}
}
