package tests

import (
	"fmt"
	"slices"
	"strings"
	"testing"

	"loop.example/presburger/impl"
)

// renamed puts another variable in place of the free variable a of a formula without quantifiers.
func renamed(f impl.Formula, v int) impl.Formula {
	f = copyOf(f)
	if f.Kind == 2 {
		m := numbersOf(f.Atom.Term)
		m[0], m[v] = 0, m[0]
		f.Atom.Term = termOf(m)
	}
	for i, sub := range f.Subs {
		f.Subs[i] = renamed(sub, v)
	}
	return f
}

// trueOf tells whether a formula without quantifiers is true for a number in place of v.
func trueOf(f impl.Formula, v int, n int) bool {
	var values [4]int
	values[v] = n
	return holds(f, values, 0)
}

// slowLengths are numbers from which on, and after which the truth of a formula without quantifiers, but with at most one variable, repeats; the second one is -1 if it is too great.
func slowLengths(f impl.Formula) (int, int) {
	head := 0
	var mods []int
	for _, a := range slowAtoms(f) {
		if a.Kind >= 2 {
			mods = append(mods, a.Mod)
		} else {
			head = max(head, a.Term.N+1, 1-a.Term.N)
		}
	}
	return head, slowLcm(mods)
}

// slowSetOf finds the set of a valid formula without quantifiers and other variables than v from its truth for the numbers, with whether there is one.
func slowSetOf(f impl.Formula, v int) (impl.Set, bool) {
	head, loop := slowLengths(f)
	if loop == -1 {
		return impl.Set{}, false
	}
	list := make([]bool, max(head, 400)+loop+240)
	for n := range list {
		list[n] = trueOf(f, v, n)
	}
	return slowSet(list)
}

// slowAny finds the set of a valid formula that may have quantifiers, but no other free variable than v.
func slowAny(f impl.Formula, v int) (impl.Set, bool) {
	open, can := slowOpen(f)
	if !can || slowNodes(open) > 600 {
		return impl.Set{}, false
	}
	return slowSetOf(open, v)
}

// wantSame compares a set with another one, or looks whether it is refused.
func wantSame(t *testing.T, what string, got impl.Set, ok bool, want impl.Set, can bool) {
	t.Helper()
	if got != want || ok != can {
		t.Errorf("%s = %v, %v, want %v, %v", what, got, ok, want, can)
	}
}

// wantSetOf looks whether SetOfFormula returns the set of a formula as slowSetOf finds it, and compares its numbers with the truth of the formula. It returns the set.
func wantSetOf(t *testing.T, f impl.Formula, v int) (impl.Set, bool) {
	t.Helper()
	got, ok := impl.SetOfFormula(f, v)
	want, can := slowSetOf(f, v)
	wantSame(t, fmt.Sprintf("SetOfFormula(%s, %d)", slowText(f), v), got, ok, want, can)
	if !ok {
		return want, can
	}
	for _, start := range []int{0, 380, 9900, 20000, 1000000} {
		for n := start; n < start+100; n++ {
			if impl.HasNumber(got, n) != trueOf(f, v, n) {
				t.Errorf("SetOfFormula(%s, %d) = %v is wrong of %d", slowText(f), v, got, n)
				return want, can
			}
		}
	}
	return want, can
}

// about makes a formula without quantifiers about a variable, at most so deep. Some of its atoms do not speak of the variable.
func (d *dice) about(v int, depth int) impl.Formula {
	switch kind := d.roll(12); {
	case depth == 0 || kind < 2:
		var m [5]int
		if d.roll(8) > 0 {
			m[v] = []int{1, -1, 2, -2, 3, -3, 5, 12, -40}[d.roll(9)]
		}
		m[4] = d.roll(41) - 20
		a := impl.Atom{Kind: d.roll(4), Term: termOf(m)}
		if a.Kind >= 2 {
			a.Mod = []int{1, 2, 2, 3, 3, 4, 5, 6, 8, 10, 12}[d.roll(11)]
		}
		return atomForm(a)
	case kind < 3:
		return impl.Formula{Kind: d.roll(2)}
	case kind < 5:
		return notForm(d.about(v, depth-1))
	}
	return pairForm(4+d.roll(2), d.about(v, depth-1), d.about(v, depth-1))
}

// aboutOne are formulas without quantifiers about a variable.
func aboutOne(seed dice, count int, v int) []impl.Formula {
	var list []impl.Formula
	for range count {
		list = append(list, seed.about(v, 1+seed.roll(4)))
	}
	return list
}

// setsOfTexts are formulas without quantifiers about a, with their sets; the text is empty if there is none.
var setsOfTexts = map[string]string{
	"true": "(1)", "false": "(0)", "not true": "(0)", "and true true": "(1)", "or false false": "(0)",
	"0<=0": "(1)", "5<=0": "(0)", "-7<=0": "(1)", "0=0": "(1)", "-7=0": "(0)", "3|6": "(1)", "3|7": "(0)", "3!7": "(1)", "3!6": "(0)", "1|0": "(1)", "97|0": "(1)", "10000<=0": "(0)", "not 10000=0": "(1)", // a does not occur
	"a<=0": "1(0)", "-a<=0": "(1)", "a+1<=0": "(0)", "-a+1<=0": "0(1)", "a=0": "1(0)", "-a=0": "1(0)", "a-3=0": "0001(0)", "-a+3=0": "0001(0)", "a+3=0": "(0)", "2a-6=0": "0001(0)", "2a-5=0": "(0)", "2a-5<=0": "111(0)", "2a-6<=0": "1111(0)", "-2a+5<=0": "000(1)", "-2a+6<=0": "000(1)", "-2a+7<=0": "0000(1)", "-2a-7<=0": "(1)", "100a-100=0": "01(0)", "100a-99<=0": "1(0)", "-100a+10000<=0": zeros(100) + "(1)", "100a-10000=0": zeros(100) + "1(0)",
	"2|a": "(10)", "2!a": "(01)", "2|a+1": "(01)", "3|a-1": "(010)", "3|2a-1": "(001)", "3!a+1": "(110)", "6|4a+2": "(010)", "6|4a+1": "(0)", "6!4a+1": "(1)", "4|2a": "(10)", "4|-2a+2": "(01)", "1|a": "(1)", "1!a": "(0)", "100|50a": "(10)", "100!100a": "(0)", "100|a": "(1" + zeros(99) + ")", "100!a+1": "(" + ones(99) + "0)", "97|a-10000": "(" + zeros(9) + "1" + zeros(87) + ")",
	"and 2|a -a+3<=0": "000(01)", "or a-1<=0 6|a": "11(000010)", "not a-3=0": "1110(1)", "not not 3|a": "(100)", "not 3!a": "(100)", "and 2|a 4!a": "(0010)", "and 2|a a-5<=0": "10101(0)", "or 2|a a-5<=0": "111111(10)", "and a-5<=0 not a-4<=0": "000001(0)", "or a-2=0 or a-4=0 a=0": "10101(0)", "and 2|a 3|a": "(100000)", "or 2|a 3|a": "(101110)", "not or 2|a 3|a": "(010001)", "and not 2|a 0<=0": "(01)", "or a-3=0 5<=0": "0001(0)",
	"and a-3<=0 -a+4<=0": "(0)", "or a-3<=0 -a+4<=0": "(1)", "or 2|a 2!a": "(1)", "and 2|a 2!a": "(0)", "or 6|a 6|a+3": "(100)", "or and 2|a 3|a and 2|a 3!a": "(10)", "and a-9999<=0 -a+10000<=0": "(0)", "or a-9999<=0 -a+10000<=0": "(1)", "or a-10000=0 true": "(1)", "and a-10000=0 false": "(0)", "and a-10000=0 2!a": "(0)", "or a-10000=0 2|a": "(10)", "or a-9999=0 and 2!a not a-9999=0": "(01)", "and 97|a 97|a+1": "(0)", "or 4|a or 4|a+1 or 4|a+2 4|a+3": "(1)", // what cancels
	"a-399=0": zeros(399) + "1(0)", "a-400=0": "", "a-399<=0": ones(400) + "(0)", "a-400<=0": "", "-a+400<=0": zeros(400) + "(1)", "-a+401<=0": "", "2a-799<=0": ones(400) + "(0)", "2a-800<=0": "", "a-10000=0": "", "a-10000<=0": "", "-a+10000<=0": "", "or a-400=0 -a+300<=0": zeros(300) + "(1)", "and 2|a -a+400<=0": zeros(399) + "(01)", "and 2|a -a+401<=0": "", "and 2!a -a+401<=0": zeros(400) + "(01)", "and 2!a -a+402<=0": "", "or a-400=0 2|a": "(10)", "or a-401=0 2|a": "", // heads at the limit
	"and 16|a 15|a": "(1" + zeros(239) + ")", "and 16|a+1 15|a+1": "(" + zeros(239) + "1)", "or 16!a 15!a": "(0" + ones(239) + ")", "and 61|a 4|a": "", "and 49|a 5|a": "", "or 61|a 4|a": "", "and 61|a and 4|a a-243<=0": "1(0)", "and 61|a and 4|a a-244<=0": "1" + zeros(243) + "1(0)", "and 61|a and 4|a a-488<=0": "", "and 61|a and 4|a -a+1<=0": "", "and 48|a and 5|a -a+161<=0": "0(" + zeros(239) + "1)", // loops at the limit
	"and 98|0 and 51|0 4|0": "(1)", "or 98|a or 98!a and 51|a 4|a": "(1)", "and 98|a and 98!a and 51|a 4|a": "(0)", "and 98|2a and 51|51a 4|4a": "(1" + zeros(48) + ")", "and 82|0 and 61|0 4|0": "", "or true and 82|a and 61|0 4|0": "", "and false and 82!a and 61!a 4!0": "", "and false and 82|a 61|a": "(0)", "or 99|a or 99!a 100|0": "(1)", "or true and 99|0 and 100|0 7|0": "", "or true and 100!a and 99!a 3!a": "(1)", // great least common multiples
}

func TestSetOfFormulaTexts(t *testing.T) {
	for text, want := range setsOfTexts {
		for v := range 4 {
			f := renamed(formOf(t, text), v)
			got, ok := impl.SetOfFormula(f, v)
			wantSetText(t, fmt.Sprintf("SetOfFormula(%s, %d)", slowText(f), v), got, ok, want)
			wantSetOf(t, f, v)
		}
	}
}

// TestSetOfFormula compares sets with the truth of formulas for the numbers.
func TestSetOfFormula(t *testing.T) {
	refused, finite, infinite, long := 0, 0, 0, 0
	for v := range 4 {
		for _, f := range aboutOne(dice(81+v), 600, v) {
			s, ok := wantSetOf(t, f, v)
			switch {
			case !ok:
				refused++
			case s.Loop == "0":
				finite++
			default:
				infinite++
			}
			if len(s.Loop) > 5 {
				long++
			}
			for w := range 4 { // no other variable does instead
				if got, ok := impl.SetOfFormula(f, w); w != v && isFree(f, v) {
					wantNoSet(t, "SetOfFormula by another variable", got, ok)
				} else if also, can := impl.SetOfFormula(f, v); got != also || ok != can {
					t.Errorf("SetOfFormula(%s, %d) = %v, %v, but %v, %v by %d", slowText(f), w, got, ok, also, can, v)
				}
			}
		}
	}
	if finite < 300 || infinite < 1000 || long < 150 || refused > 0 {
		t.Errorf("%d sets are finite, %d infinite, %d have long loops, and %d are refused", finite, infinite, long, refused)
	}
}

// TestSetOfFormulaAtoms looks at single atoms, with all remainders.
func TestSetOfFormulaAtoms(t *testing.T) {
	for coef := -6; coef <= 6; coef++ {
		for n := -8; n <= 8; n++ {
			for mod := range 7 {
				for kind := range 4 {
					if kind >= 2 == (mod > 0) {
						wantSetOf(t, atomForm(impl.Atom{Kind: kind, Mod: mod, Term: impl.Term{C: coef, N: n}}), 2)
					}
				}
			}
		}
	}
	for coef := -100; coef <= 100; coef += 7 {
		for _, n := range []int{-10000, -9999, -777, -100, 100, 4321, 10000} {
			for kind, mod := range []int{0, 0, 97, 100} {
				wantSetOf(t, atomForm(impl.Atom{Kind: kind, Mod: mod, Term: impl.Term{A: coef, N: n}}), 0)
			}
		}
	}
}

// TestSetOfFormulaHeads looks at heads around MaxHead, and at those that are great before parts cancel each other.
func TestSetOfFormulaHeads(t *testing.T) {
	for n := 390; n <= 410; n++ {
		for _, x := range []struct {
			text string
			head string
			loop string
		}{
			{"a-%d=0", zeros(n) + "1", "0"}, {"a-%d<=0", ones(n + 1), "0"}, {"not a-%d=0", ones(n) + "0", "1"}, {"not a-%d<=0", zeros(n + 1), "1"}, {"-a+%d<=0", zeros(n), "1"}, {"or a=0 -a+%d<=0", "1" + zeros(n-1), "1"}, {"and 1|a a-%d=0", zeros(n) + "1", "0"},
		} {
			f := formOf(t, fmt.Sprintf(x.text, n))
			got, ok := impl.SetOfFormula(f, 0)
			want := impl.Set{Head: x.head, Loop: x.loop}
			can := len(x.head) <= 400
			if !can {
				want = impl.Set{}
			}
			wantSame(t, "SetOfFormula "+slowText(f), got, ok, want, can)
		}
		for _, text := range []string{"and 2|a -a+%d<=0", "and 3!a -a+%d<=0", "and 2|a a-%d<=0", "or 60|a+7 a-%d<=0", "or a-%d=0 2|a", "or a-%d=0 3!a", "or 20|a-3 a-%d=0"} {
			wantSetOf(t, formOf(t, fmt.Sprintf(text, n)), 0)
		}
	}
	for n := 500; n <= 10000; n += 475 {
		for text, want := range map[string]string{"or a-%d<=0 not a-%[1]d<=0": "(1)", "and a-%d<=0 not a-%[1]d<=0": "(0)", "or a-%d=0 or a=0 true": "(1)", "and a-%d=0 a-7=0": "(0)", "and 2|a or a-%d<=0 -a+%[1]d<=0": "(10)", "and a-9=0 a-%d<=0": zeros(9) + "1(0)", "or a-%d=0 a-9=0": "", "not a-%d<=0": ""} {
			f := formOf(t, fmt.Sprintf(text, n))
			got, ok := impl.SetOfFormula(f, 0)
			wantSetText(t, "SetOfFormula "+slowText(f), got, ok, want)
		}
	}
}

// TestSetOfFormulaLoops looks at pairs of Mods: their sets have all remainders, so that the loop is as long as the least common multiple.
func TestSetOfFormulaLoops(t *testing.T) {
	short, long := 0, 0
	for first := 1; first <= 100; first += 3 {
		for second := first; second <= 100; second++ {
			common := slowLcm([]int{first, second})
			got, ok := impl.SetOfFormula(formOf(t, fmt.Sprintf("and %d|a+1 %d|a+1", first, second)), 0)
			if common > 240 {
				long++
				wantNoSet(t, fmt.Sprintf("SetOfFormula with %d and %d", first, second), got, ok)
				continue
			}
			short++
			wantSetText(t, fmt.Sprintf("SetOfFormula with %d and %d", first, second), got, ok, "("+zeros(common-1)+"1)")
		}
	}
	if short < 200 || long < 1000 {
		t.Errorf("%d loops are short, and %d long", short, long)
	}
	for _, x := range []struct {
		mods string
		can  bool
	}{
		{"98 51 4", true}, {"54 37 5", true}, {"100 99", true}, {"73 97", true}, {"89 99", true}, {"96 100", true}, {"10 11 13 7", false}, {"69 5 29", false}, {"82 61 4", false}, {"100 99 98", false}, {"97 100 3", false}, {"97 89 83", false}, {"64 81 25", false}, {"64 81", true}, {"100 100 100", true}, {"1 1 1", true},
	} { // 9996, 9990 and so on are not too great, but 10010, 10005 and 10004 are
		for _, place := range []string{"a", "0", "100a", "7", "a-10000"} {
			for _, sign := range []string{"|", "!"} {
				// Of formulas that do not depend on their parts, these count too.
				text := "or true and %s and %[1]s false"
				parts := "true"
				for _, mod := range strings.Fields(x.mods) {
					parts = "and " + mod + sign + place + " " + parts
				}
				got, ok := impl.SetOfFormula(formOf(t, fmt.Sprintf(text, parts)), 0)
				want := ""
				if x.can {
					want = "(1)"
				}
				wantSetText(t, "SetOfFormula with "+x.mods+" of "+place, got, ok, want)
			}
		}
	}
}

// TestSetOfFormulaGreat looks at formulas with as many nodes as there can be.
func TestSetOfFormulaGreat(t *testing.T) {
	for _, f := range justFit() {
		if slowNested(f) == 0 {
			wantSetOf(t, f, 0)
		} else {
			got, ok := impl.SetOfFormula(f, 0)
			wantNoSet(t, "SetOfFormula with quantifiers", got, ok)
		}
	}
	roll := dice(87)
	for range 6 {
		f := roll.about(3, 2)
		for slowNodes(f) < 560 {
			f = pairForm(4+roll.roll(2), f, roll.about(3, 3))
		}
		wantSetOf(t, f, 3)
	}
}

func TestSetOfFormulaInvalid(t *testing.T) {
	for _, text := range []string{
		"b<=0", "a-b=0", "2|d", "1|c", "2|2b", "and a<=0 b<=0", "or true b<=0", "and false 2|b", "or a=0 not d=0", "2|a+2b", "and 3|a 3|c", // another free variable, also where it makes no difference
		"some a true", "some a a=0", "all b a<=0", "and a<=0 some b b=0", "or true all c c=0", "not some a a=0", "some b a-b=0", // quantifiers
	} {
		got, ok := impl.SetOfFormula(formOf(t, text), 0)
		wantNoSet(t, "SetOfFormula "+text, got, ok)
	}
	for _, text := range []string{"true", "false", "a<=0", "2|a", "3|6", "-a<=0"} {
		for _, v := range append(noVars, extremes...) {
			got, ok := impl.SetOfFormula(formOf(t, text), v)
			wantNoSet(t, fmt.Sprintf("SetOfFormula(%s, %d)", text, v), got, ok)
		}
	}
	for _, f := range badOpen() {
		for _, v := range []int{0, 3, -1, 4} {
			got, ok := impl.SetOfFormula(f, v)
			wantNoSet(t, "SetOfFormula of a bad formula", got, ok)
		}
	}
}

// setsOfAny are formulas with quantifiers, with their sets by a; the text is empty if there is none.
var setsOfAny = map[string]string{
	"some b a-2b=0": "(10)", "all b a-b<=0": "1(0)", "some b and a-3b=0 -b+2<=0": "0000(001)", "some b a-b=0": "(1)", "some b a+b=0": "1(0)", "some b a+b+1=0": "(0)", "all b or b<=0 a-b<=0": "11(0)", "some b and 2|b a-b=0": "(10)", "not some b a-3b=0": "(011)", "and some b a-2b=0 some b a-3b=0": "(100000)", "or a-3<=0 some b and a-5b=0 -b+1<=0": "1111(01000)", "some b some c a-3b-5c=0": "10010110(1)", "some b and a-b=0 b-3<=0": "1111(0)", "all b not a-2b-1=0": "(10)", "all d or d<=0 or 2|a a-3d<=0": "1111(10)", "all b or 53|b 53!a": "(0" + ones(52) + ")", "some b and 2a-3b=0 b-6<=0": "1001001001(0)", "some b some c and a-b-c=0 and 2|b c-3=0": "00(01)", "all b some c or 2a-b-c=0 2a-b+1<=0": "(1)",
	"some a 2|a": "(1)", "some a a+1<=0": "(0)", "all b some c or b-2c=0 b-2c-1=0": "(1)", "all b some c b-2c=0": "(0)", "and a-5<=0 some a a-7=0": "111111(0)", "or a-5=0 all a a-7=0": "000001(0)", "true": "(1)", "false": "(0)", "some d true": "(1)", // a is bound, or does not occur
	"or true and 82|a and 61|0 4|0": "(1)", "and 82|82a and 61|0 4|4": "(1)", "some b and 3|3a a-b=0": "(1)", // Mods that are gone before the set is made
	"and not a-10000<=0 false": "", "some b 61|b": "", "some b 61|a+b": "", "and a-1<=0 some b 61|b": "", // eliminations that fail
	"some b and a-b=0 b-400=0": "", "some b and a-b=0 -b+401<=0": "", "some b and 61|a and 4|a b=0": "", "and 82|a and 61|a 4|a": "", // sets that are not valid, or not made
	"b<=0": "", "and b<=0 false": "", "some c and b<=0 false": "", "or true b<=0": "", "all a b<=0": "", "some b c<=0": "", "and some b b=0 b=0": "", "some c a-b-c=0": "", "some a 2|2d": "", "1|c": "", // other free variables
}

func TestSetOfAnyTexts(t *testing.T) {
	for text, want := range setsOfAny {
		got, ok := impl.SetOfAny(formOf(t, text), 0)
		wantSetText(t, "SetOfAny "+text, got, ok, want)
	}
	for text, want := range map[string]string{"some a a-2b=0": "(1)", "some a 2a-b=0": "(10)", "all a -a+b<=0": "1(0)", "some c some d b-3c-5d=0": "10010110(1)", "and b-5<=0 some b b-7=0": "111111(0)", "a<=0": ""} {
		got, ok := impl.SetOfAny(formOf(t, text), 1)
		wantSetText(t, "SetOfAny "+text, got, ok, want)
	}
}

// TestSetOfAny compares sets with those of the document's rules, and with the truth for small numbers.
func TestSetOfAny(t *testing.T) {
	roll := dice(91)
	refused, trues, falses := 0, 0, 0
	for i := range 1500 {
		v := i % 2
		f := roll.closer(4, 1)
		if isFree(f, 1-v) {
			f = boundForm(6+roll.roll(2), 1-v, f)
		}
		got, ok := impl.SetOfAny(f, v)
		want, can := slowAny(f, v)
		wantSame(t, fmt.Sprintf("SetOfAny(%s, %d)", slowText(f), v), got, ok, want, can)
		if !ok {
			refused++
			continue
		}
		var values [4]int
		for n := range 12 {
			values[v] = n
			truth := truthFar(f, values, 40, 150)
			if impl.HasNumber(got, n) != truth {
				t.Errorf("SetOfAny(%s, %d) = %v, but it is %v of %d", slowText(f), v, got, truth, n)
			}
			if truth {
				trues++
			} else {
				falses++
			}
		}
	}
	if refused > 300 || trues < 1000 || falses < 1000 {
		t.Errorf("%d are refused, only %d numbers are inside and %d outside", refused, trues, falses)
	}
}

// formsOfOne are formulas of many kinds and sizes, with and without quantifiers, and with no free variable or one.
func formsOfOne() []impl.Formula {
	list := slices.Concat(every(openFormulas(), 7), every(someFormulas(), 3), aboutOne(dice(92), 100, 2))
	for i, f := range boundedForms(93, 400) {
		list = append(list, boundForm(6+i%2, 1, pairForm(4+i%3/2, f, atomForm(impl.Atom{Kind: 2, Mod: 3 + i%12, Term: impl.Term{A: 1, B: 1}}))))
	}
	roll := dice(94)
	for i, f := range list {
		free := slowFree(f)
		for len(free) > 1 {
			k := roll.roll(len(free))
			f = boundForm(6+roll.roll(2), free[k], f)
			free = slices.Delete(free, k, k+1)
		}
		list[i] = f
	}
	return list
}

// TestSetOfAnyForms compares sets with those of the document's rules for formulas of all kinds, and by all variables.
func TestSetOfAnyForms(t *testing.T) {
	refused, done := 0, 0
	for _, f := range formsOfOne() {
		for v := range 4 {
			got, ok := impl.SetOfAny(f, v)
			if slices.ContainsFunc(slowFree(f), func(w int) bool { return w != v }) {
				wantNoSet(t, "SetOfAny by another variable", got, ok)
				continue
			}
			want, can := slowAny(f, v)
			wantSame(t, fmt.Sprintf("SetOfAny(%s, %d)", slowText(f), v), got, ok, want, can)
			if ok {
				done++
			} else {
				refused++
			}
		}
	}
	if refused < 50 || done < 1000 {
		t.Errorf("only %d are refused, and %d done", refused, done)
	}
}

// TestSetOfAnyOpen compares both functions for formulas without quantifiers: the sets are the same, unless one of them has none.
func TestSetOfAnyOpen(t *testing.T) {
	both := 0
	for v := range 4 {
		for _, f := range aboutOne(dice(95+v), 300, v) {
			first, ok := impl.SetOfFormula(f, v)
			second, also := impl.SetOfAny(f, v)
			if ok && also {
				both++
				wantSame(t, fmt.Sprintf("SetOfAny(%s, %d)", slowText(f), v), second, also, first, ok)
			}
		}
	}
	if both < 1000 {
		t.Errorf("only %d have both", both)
	}
	for text, want := range map[string][2]string{"and not a-10000<=0 false": {"(0)", ""}, "or true and 82|a and 61|0 4|0": {"", "(1)"}, "and 82|82a and 61|61 4|4a": {"", "(1)"}} {
		f := formOf(t, text)
		first, ok := impl.SetOfFormula(f, 0)
		wantSetText(t, "SetOfFormula "+text, first, ok, want[0])
		second, ok := impl.SetOfAny(f, 0)
		wantSetText(t, "SetOfAny "+text, second, ok, want[1])
	}
}

func TestSetOfAnyInvalid(t *testing.T) {
	for _, text := range []string{"true", "false", "a<=0", "some a a=0", "all a 2|a", "some b b=0"} {
		for _, v := range append(noVars, extremes...) {
			got, ok := impl.SetOfAny(formOf(t, text), v)
			wantNoSet(t, fmt.Sprintf("SetOfAny(%s, %d)", text, v), got, ok)
		}
	}
	for _, f := range badFormulas() {
		for _, v := range []int{0, 3, -1, 4} {
			got, ok := impl.SetOfAny(f, v)
			wantNoSet(t, "SetOfAny of a bad formula", got, ok)
		}
	}
	for count := 148; count <= 152; count++ { // 150 atoms that are denied are 599 nodes
		f := atomForm(impl.Atom{Kind: 1, Term: impl.Term{A: 1}})
		for n := 1; n < count; n++ {
			f = pairForm(4, f, atomForm(impl.Atom{Kind: 1, Term: impl.Term{A: 1, N: -n}}))
		}
		f = notForm(f)
		if _, ok := impl.SetOfFormula(f, 0); !ok {
			t.Errorf("SetOfFormula of %d atoms refuses", count)
		}
		got, ok := impl.SetOfAny(f, 0)
		if ok != (count <= 150) {
			t.Errorf("SetOfAny of %d atoms that are denied = %v, %v", count, got, ok)
		}
		want, can := slowAny(f, 0)
		wantSame(t, "SetOfAny of many atoms", got, ok, want, can)
	}
	for _, f := range justFit() {
		got, ok := impl.SetOfAny(f, 0)
		want, can := slowAny(f, 0)
		wantSame(t, "SetOfAny of 600 nodes", got, ok, want, can)
	}
}

// slowFormulaText is the text of the formula of a valid set, or empty if it is not valid.
func slowFormulaText(s impl.Set, v int) string {
	letter := string(rune('a' + v))
	var parts []string
	nodes := 0
	for n, c := range s.Head + s.Loop {
		after, before := fmt.Sprintf("%s-%d", letter, n), fmt.Sprintf("-%s+%d", letter, n)
		if n == 0 {
			after, before = letter, "-"+letter
		}
		switch {
		case c == '0':
			continue
		case n < len(s.Head):
			parts = append(parts, after+"=0")
			nodes++
		case len(s.Loop) > 100:
			return ""
		default:
			parts = append(parts, fmt.Sprintf("and %s<=0 %d|%s", before, len(s.Loop), after))
			nodes += 3
		}
	}
	switch {
	case len(parts) == 0:
		return "false"
	case nodes+len(parts)-1 > 600:
		return ""
	}
	return strings.Repeat("or ", len(parts)-1) + strings.Join(parts, " ")
}

// wantFormulaOf looks whether FormulaOfSet returns the formula of the document, or refuses. It returns the formula.
func wantFormulaOf(t *testing.T, s impl.Set, v int) (impl.Formula, bool) {
	t.Helper()
	got, ok := impl.FormulaOfSet(s, v)
	want := slowFormulaText(s, v)
	if impl.FormatFormula(got) != want && ok || ok != (want != "") || !ok && !sameTree(got, impl.Formula{}) {
		t.Errorf("FormulaOfSet(%v, %d) = %s, %v, want %s", s, v, impl.FormatFormula(got), ok, want)
	}
	return got, ok
}

func TestFormulaOfSetTexts(t *testing.T) {
	for text, want := range map[string]string{
		"000(01)": "and -a+4<=0 2|a-4", "01(100)": "or a-1=0 and -a+2<=0 3|a-2", "(0)": "false", "000(0)": "false", "(000)": "false", "(1)": "and -a<=0 1|a", "1(0)": "a=0", "1(1)": "or a=0 and -a+1<=0 1|a-1", "(10)": "and -a<=0 2|a", "(01)": "and -a+1<=0 2|a-1", "(11)": "or and -a<=0 2|a and -a+1<=0 2|a-1", "11(0)": "or a=0 a-1=0", "111(00)": "or or a=0 a-1=0 a-2=0", "10(110)": "or or a=0 and -a+2<=0 3|a-2 and -a+3<=0 3|a-3", "(111)": "or or and -a<=0 3|a and -a+1<=0 3|a-1 and -a+2<=0 3|a-2", "0101(0)": "or a-1=0 a-3=0", // also of sets that are not normal forms
		zeros(399) + "1(0)": "a-399=0", zeros(400) + "(1)": "and -a+400<=0 1|a-400", zeros(400) + "(" + zeros(99) + "1)": "and -a+499<=0 100|a-499", zeros(400) + "(" + zeros(100) + "1)": "", zeros(400) + "(" + zeros(240) + ")": "false", "001(" + zeros(240) + ")": "a-2=0", "001(" + zeros(239) + "1)": "", "(1" + zeros(100) + ")": "", "(1" + zeros(99) + ")": "and -a<=0 100|a",
	} {
		for v := range 4 {
			got, ok := impl.FormulaOfSet(setOf(text), v)
			letter := string(rune('a' + v))
			if want == "" {
				wantNoForm(t, "FormulaOfSet of "+text, got, ok)
			} else {
				wantText(t, "FormulaOfSet of "+text, got, ok, strings.NewReplacer("a-", letter+"-", "a+", letter+"+", "a=", letter+"=", "a<", letter+"<", "|a", "|"+letter).Replace(want))
			}
		}
	}
}

// TestFormulaOfSet compares formulas with those of the document, and their truth and their sets with the numbers of the set.
func TestFormulaOfSet(t *testing.T) {
	refused, done := 0, 0
	list := append(someSets(101, 300), smallSets(4, 4)...)
	roll := dice(102)
	for range 300 {
		list = append(list, roll.set(60, 60), impl.Set{Head: roll.digits(roll.roll(401), 40), Loop: roll.digits(1+roll.roll(100), 30)})
	}
	for i, s := range list {
		v := i % 4
		f, ok := wantFormulaOf(t, s, v)
		if !ok {
			refused++
			continue
		}
		done++
		for n := range len(s.Head) + 3*len(s.Loop) {
			if trueOf(f, v, n) != isIn(s, n) {
				t.Errorf("FormulaOfSet(%v, %d) is wrong of %d", s, v, n)
				break
			}
		}
		normal, _ := impl.NormalSet(s)
		back, ok := impl.SetOfFormula(f, v)
		wantSame(t, fmt.Sprintf("SetOfFormula of FormulaOfSet of %v", s), back, ok, normal, true)
		wantFresh(t, "FormulaOfSet", nil, f.Subs)
	}
	if refused < 100 || done < 500 {
		t.Errorf("only %d are refused, and %d done", refused, done)
	}
}

// TestFormulaOfSetGreat looks at sets whose formula just is valid, and just is not.
func TestFormulaOfSetGreat(t *testing.T) {
	for count := 290; count <= 310; count++ { // numbers of the head are two nodes each, but for one node
		for _, s := range []impl.Set{{Head: ones(count), Loop: "0"}, {Head: zeros(90) + ones(count), Loop: zeros(240)}, {Head: ones(100) + zeros(50) + ones(count-100), Loop: "00"}} {
			if _, ok := wantFormulaOf(t, s, 1); ok != (count <= 300) {
				t.Errorf("FormulaOfSet of %d numbers: %v", count, ok)
			}
		}
	}
	for count := 80; count <= 120; count++ { // those of the loop are four
		if _, ok := wantFormulaOf(t, impl.Set{Loop: ones(count)}, 2); ok != (count <= 100) {
			t.Errorf("FormulaOfSet of a loop of %d numbers: %v", count, ok)
		}
		if _, ok := wantFormulaOf(t, impl.Set{Head: ones(count), Loop: ones(100)}, 3); ok != (count <= 100) {
			t.Errorf("FormulaOfSet of %d numbers and a loop: %v", count, ok)
		}
	}
	for count := 1; count <= 100; count++ {
		for head := max(0, 298-2*count); head <= 302-2*count; head++ {
			if _, ok := wantFormulaOf(t, impl.Set{Head: ones(head), Loop: ones(count)}, 0); ok != (head+2*count <= 300) {
				t.Errorf("FormulaOfSet of %d numbers and a loop of %d: %v", head, count, ok)
			}
		}
	}
	for loop := 95; loop <= 240; loop++ { // no Mod is greater than 100
		if _, ok := wantFormulaOf(t, impl.Set{Head: "1", Loop: zeros(loop-1) + "1"}, 0); ok != (loop <= 100) {
			t.Errorf("FormulaOfSet of a loop of %d: %v", loop, ok)
		}
		wantFormulaOf(t, impl.Set{Head: "01", Loop: zeros(loop)}, 0)
		wantFormulaOf(t, impl.Set{Head: zeros(loop), Loop: zeros(loop)}, 0)
	}
}

func TestFormulaOfSetInvalid(t *testing.T) {
	for _, s := range badSets() {
		for v := range 4 {
			got, ok := impl.FormulaOfSet(s, v)
			wantNoForm(t, "FormulaOfSet of a bad set", got, ok)
		}
	}
	for _, text := range []string{"(0)", "(1)", "01(100)", "1(0)", zeros(400) + "(0)"} {
		for _, v := range append(noVars, extremes...) {
			got, ok := impl.FormulaOfSet(setOf(text), v)
			wantNoForm(t, fmt.Sprintf("FormulaOfSet(%s, %d)", text, v), got, ok)
		}
	}
}

func TestSameOneTexts(t *testing.T) {
	for _, x := range []struct {
		first, second string
		same          bool
	}{
		{"4|2a", "2|a", true}, {"2|a", "4|a", false}, {"and 2|a 3|a", "6|a", true}, {"true", "-a<=0", true}, {"false", "a+1<=0", true}, {"true", "false", false}, {"a-3=0", "and a-3<=0 -a+3<=0", true}, {"2a-5<=0", "a-2<=0", true}, {"2a-5<=0", "a-3<=0", false}, {"some b a-2b=0", "2|a", true}, {"some b a-2b=0", "some c a-4c=0", false}, {"all b a-b<=0", "a=0", true}, {"some b some c a-3b-5c=0", "or a=0 or a-3=0 or a-5=0 or a-6=0 -a+8<=0", true}, {"some a 2|a", "true", true}, {"not 2|a", "2|a+1", true}, {"not 3|a", "3|a+1", false}, {"a-300<=0", "a-301<=0", false}, {"2|a", "and 2|a or a-300<=0 -a+301<=0", true}, {"or true and 82|a and 61|0 4|0", "true", true},
	} {
		if same, ok := impl.SameOne(formOf(t, x.first), formOf(t, x.second), 0); same != x.same || !ok {
			t.Errorf("SameOne(%s, %s) = %v, %v", x.first, x.second, same, ok)
		}
	}
	for _, bad := range []string{"b<=0", "a-b=0", "some b 61|b", "a-400=0", "and 61|a 4|a", "or true b<=0", "not a-10000<=0"} {
		for _, other := range []string{"true", "2|a", bad} { // a formula that has no set is not the same as itself
			for _, x := range [][2]string{{bad, other}, {other, bad}} {
				if same, ok := impl.SameOne(formOf(t, x[0]), formOf(t, x[1]), 0); same || ok {
					t.Errorf("SameOne(%s, %s) = %v, %v", x[0], x[1], same, ok)
				}
			}
		}
	}
}

// TestSameOne compares the truth of formulas with each other: all pairs of some formulas, also with themselves.
func TestSameOne(t *testing.T) {
	trues, falses, refused := 0, 0, 0
	for v := range 4 {
		list := append(aboutOne(dice(111+v), 40, v), renamed(formOf(t, "and a-9=0 not 61|a"), v), renamed(formOf(t, "or 2|a or 61|a 53|a"), v))
		var sets []impl.Set
		for _, f := range list {
			s, _ := slowAny(f, v)
			sets = append(sets, s)
		}
		for i, f := range list {
			for j, g := range list {
				want, can := sets[i] == sets[j], sets[i].Loop != "" && sets[j].Loop != ""
				same, ok := impl.SameOne(f, g, v)
				if same != (want && can) || ok != can {
					t.Errorf("SameOne(%s, %s, %d) = %v, %v", slowText(f), slowText(g), v, same, ok)
				}
				switch {
				case !can:
					refused++
				case want:
					trues++
				default:
					falses++
				}
			}
		}
	}
	if trues < 300 || falses < 1000 || refused < 100 {
		t.Errorf("%d pairs are the same, %d are not, and %d are refused", trues, falses, refused)
	}
	for _, bad := range badFormulas() {
		for _, x := range [][2]impl.Formula{{bad, {}}, {{}, bad}, {bad, bad}} {
			if same, ok := impl.SameOne(x[0], x[1], 0); same || ok {
				t.Error("SameOne takes a bad formula")
			}
		}
	}
	for _, v := range append(noVars, extremes...) {
		for _, text := range []string{"true", "a<=0"} {
			if same, ok := impl.SameOne(formOf(t, text), formOf(t, text), v); same || ok {
				t.Errorf("SameOne(%s, %[1]s, %d) = %v, %v", text, v, same, ok)
			}
		}
	}
}

func TestImageSetTexts(t *testing.T) {
	for _, x := range []struct {
		text string
		v, w int
		want string
	}{
		{"and a-2b-1=0 b-3<=0", 1, 0, "01010101(0)"}, {"and a-2b-1=0 b-3<=0", 0, 1, "1111(0)"}, {"a-b=0", 0, 1, "(1)"}, {"a-3b=0", 1, 0, "(100)"}, {"a-3b=0", 0, 1, "(1)"}, {"and 2|a a-b=0", 0, 1, "(10)"}, {"c-d+2=0", 2, 3, "00(1)"}, {"and 3|d c-2d-1=0", 3, 2, "(010000)"}, {"a-b<=0", 1, 0, "(1)"}, {"a-b<=0", 0, 1, "(1)"}, {"a-b+1<=0", 0, 1, "0(1)"}, {"a+b-3=0", 1, 0, "1111(0)"}, // both occur
		{"2|a", 1, 0, "(10)"}, {"2|a", 0, 1, "(1)"}, {"a+1<=0", 0, 1, "(0)"}, {"true", 0, 1, "(1)"}, {"false", 3, 2, "(0)"}, {"3|6", 0, 3, "(1)"}, // one of them does not occur
		{"some b a-2b=0", 1, 0, "(10)"}, {"some a a-2b=0", 0, 1, "(1)"}, {"some c and a-2c=0 b-3c=0", 1, 0, "(10)"}, {"some c and a-2c=0 b-3c=0", 0, 1, "(100)"}, {"all a or a-b<=0 2|c", 1, 2, "(10)"}, // quantifiers inside
		{"a-b-c=0", 0, 1, ""}, {"a=0", 1, 2, ""}, {"or true c=0", 0, 1, ""}, {"61|a+b", 0, 1, ""}, {"a-b-400=0", 1, 0, zeros(400) + "(1)"}, {"a-b-401=0", 1, 0, ""}, {"and b=0 and 61|a 4|a", 1, 0, ""}, {"not a+b-10000<=0", 0, 1, ""},
	} {
		got, ok := impl.ImageSet(formOf(t, x.text), x.v, x.w)
		wantSetText(t, fmt.Sprintf("ImageSet(%s, %d, %d)", x.text, x.v, x.w), got, ok, x.want)
	}
}

// TestImageSet compares images with the document's rules, and looks for the values of the other variable.
func TestImageSet(t *testing.T) {
	roll := dice(121)
	refused, trues, falses := 0, 0, 0
	for range 700 {
		f := roll.closer(3, 0)
		for v := range 2 {
			w := 1 - v
			got, ok := impl.ImageSet(f, v, w)
			want, can := slowAny(boundForm(7, v, f), w)
			wantSame(t, fmt.Sprintf("ImageSet(%s, %d, %d)", slowText(f), v, w), got, ok, want, can)
			if !ok {
				refused++
				continue
			}
			for n := range 30 {
				var values [4]int
				values[w] = n
				_, exists := existsFor(f, v, values, 150)
				if impl.HasNumber(got, n) != exists {
					t.Errorf("ImageSet(%s, %d, %d) = %v is wrong of %d", slowText(f), v, w, got, n)
				}
				if exists {
					trues++
				} else {
					falses++
				}
			}
		}
	}
	if refused > 100 || trues < 1000 || falses < 1000 {
		t.Errorf("%d are refused, only %d numbers are inside and %d outside", refused, trues, falses)
	}
}

// TestImageSetForms compares images with the document's rules for formulas of all kinds and all pairs of variables.
func TestImageSetForms(t *testing.T) {
	refused, done := 0, 0
	for _, f := range slices.Concat(every(someFormulas(), 13), boundedForms(122, 100), justFit(), []impl.Formula{wrapped(impl.Formula{}, 598, notForm), boundForm(6, 1, wrapped(impl.Formula{}, 598, notForm))}) {
		for v := range 4 {
			for w := range 4 {
				got, ok := impl.ImageSet(f, v, w)
				some := boundForm(7, v, f)
				if v == w || slowNodes(some) > 600 || slices.ContainsFunc(slowFree(some), func(u int) bool { return u != w }) {
					wantNoSet(t, fmt.Sprintf("ImageSet(%s, %d, %d)", slowText(f), v, w), got, ok)
					refused++
					continue
				}
				want, can := slowAny(some, w)
				wantSame(t, fmt.Sprintf("ImageSet(%s, %d, %d)", slowText(f), v, w), got, ok, want, can)
				done++
			}
		}
	}
	if refused < 1000 || done < 500 {
		t.Errorf("only %d are refused, and %d done", refused, done)
	}
}

func TestImageSetInvalid(t *testing.T) {
	for _, text := range []string{"true", "false", "a-b=0", "a<=0", "some a true", "some c a-b=0"} {
		f := formOf(t, text)
		for _, v := range append(noVars, extremes...) {
			for w := range 4 {
				got, ok := impl.ImageSet(f, v, w)
				wantNoSet(t, fmt.Sprintf("ImageSet(%s, %d, %d)", text, v, w), got, ok)
				got, ok = impl.ImageSet(f, w, v)
				wantNoSet(t, fmt.Sprintf("ImageSet(%s, %d, %d)", text, w, v), got, ok)
			}
			for _, w := range append(noVars, extremes...) {
				got, ok := impl.ImageSet(f, v, w)
				wantNoSet(t, fmt.Sprintf("ImageSet(%s, %d, %d)", text, v, w), got, ok)
			}
		}
		for v := range 4 {
			got, ok := impl.ImageSet(f, v, v)
			wantNoSet(t, fmt.Sprintf("ImageSet(%s, %d, %[2]d)", text, v), got, ok)
		}
	}
	for _, f := range badFormulas() {
		got, ok := impl.ImageSet(f, 0, 1)
		wantNoSet(t, "ImageSet of a bad formula", got, ok)
		got, ok = impl.ImageSet(f, 3, 2)
		wantNoSet(t, "ImageSet of a bad formula", got, ok)
	}
}

// noSets are formulas that have no set by a.
var noSets = []string{"b<=0", "a-b=0", "or true b<=0", "and false 2|d", "some b 61|b", "a-400=0", "-a+401<=0", "and 61|a 4|a", "not a-10000<=0", "and not a-10000<=0 false", "some b and a-b=0 b-400=0", "all a b=0", "and some b b=0 b=0"}

func TestWitnessesTexts(t *testing.T) {
	for _, x := range []struct {
		text     string
		greatest int
		counts   [3]int // below 1, 10 and 1000000
		list     []int  // the first five
	}{
		{"2a-9<=0", 4, [3]int{1, 5, 5}, []int{0, 1, 2, 3, 4}}, {"2|a", -2, [3]int{1, 5, 500000}, []int{0, 2, 4, 6, 8}}, {"a+1<=0", -1, [3]int{0, 0, 0}, nil}, {"true", -2, [3]int{1, 10, 1000000}, []int{0, 1, 2, 3, 4}}, {"false", -1, [3]int{0, 0, 0}, nil}, {"a=0", 0, [3]int{1, 1, 1}, []int{0}}, {"a-1<=0", 1, [3]int{1, 2, 2}, []int{0, 1}}, {"3|a+1", -2, [3]int{0, 3, 333333}, []int{2, 5, 8, 11, 14}}, {"or a-3=0 or a-7=0 a-399=0", 399, [3]int{0, 2, 3}, []int{3, 7, 399}}, {"-a+7<=0", -2, [3]int{0, 3, 999993}, []int{7, 8, 9, 10, 11}}, {"not a-2=0", -2, [3]int{1, 9, 999999}, []int{0, 1, 3, 4, 5}}, {"3|1", -1, [3]int{0, 0, 0}, nil}, {"and 2|a 2!a", -1, [3]int{0, 0, 0}, nil}, {"and 16|a+1 15|a+1", -2, [3]int{0, 0, 4166}, []int{239, 479, 719, 959, 1199}},
		{"some b a-3b=0", -2, [3]int{1, 4, 333334}, []int{0, 3, 6, 9, 12}}, {"all b a-b<=0", 0, [3]int{1, 1, 1}, []int{0}}, {"some b and 2a-3b=0 b-6<=0", 9, [3]int{1, 4, 4}, []int{0, 3, 6, 9}}, {"some a 2|a", -2, [3]int{1, 10, 1000000}, []int{0, 1, 2, 3, 4}}, {"some b some c a-3b-5c=0", -2, [3]int{1, 6, 999996}, []int{0, 3, 5, 6, 8}},
	} {
		f := formOf(t, x.text)
		if got := impl.GreatestWitness(f, 0); got != x.greatest {
			t.Errorf("GreatestWitness(%s) = %d", x.text, got)
		}
		for i, n := range []int{1, 10, 1000000} {
			if got := impl.CountWitnesses(f, 0, n); got != x.counts[i] {
				t.Errorf("CountWitnesses(%s, %d) = %d", x.text, n, got)
			}
		}
		for count := range 6 {
			list, ok := impl.ListWitnesses(f, 0, count)
			if !slices.Equal(list, x.list[:min(count, len(x.list))]) || !ok {
				t.Errorf("ListWitnesses(%s, %d) = %v, %v", x.text, count, list, ok)
			}
		}
		if got := impl.CountWitnesses(f, 0, 0); got != 0 {
			t.Errorf("CountWitnesses(%s, 0) = %d", x.text, got)
		}
	}
}

// wantWitnesses compares the witnesses of a formula with the numbers that are tells, if it has a set. From head on, is must repeat after each loop numbers.
func wantWitnesses(t *testing.T, f impl.Formula, v int, head int, loop int, is func(n int) bool) {
	t.Helper()
	var all []int
	for n := range head + 100*loop {
		if is(n) {
			all = append(all, n)
		}
	}
	for _, count := range []int{0, 1, 2, 3, 10, 99, 100} {
		list, ok := impl.ListWitnesses(f, v, count)
		if !slices.Equal(list, all[:min(count, len(all))]) || !ok {
			t.Errorf("ListWitnesses(%s, %d, %d) = %v, %v", slowText(f), v, count, list, ok)
		}
	}
	greatest := -1
	if len(all) > 0 {
		greatest = all[len(all)-1]
	}
	if greatest >= head {
		greatest = -2
	}
	if got := impl.GreatestWitness(f, v); got != greatest {
		t.Errorf("GreatestWitness(%s, %d) = %d, want %d", slowText(f), v, got, greatest)
	}
	count := 0
	for n := range min(head+2*loop, 3000) {
		if got := impl.CountWitnesses(f, v, n); n%37 == 0 && got != count {
			t.Errorf("CountWitnesses(%s, %d, %d) = %d, want %d", slowText(f), v, n, got, count)
		}
		if is(n) {
			count++
		}
	}
}

// TestWitnesses compares witnesses with the truth of formulas for the numbers.
func TestWitnesses(t *testing.T) {
	for v := range 4 {
		list := aboutOne(dice(131+v), 25, v)
		for _, text := range []string{"2|a", "and 16|a+1 15|a+1", "a-399=0", "-a+400<=0", "or a-399=0 100|a+1", "not 60|a"} {
			list = append(list, renamed(formOf(t, text), v))
		}
		for _, f := range list {
			head, loop := slowLengths(f)
			if _, can := slowAny(f, v); can {
				wantWitnesses(t, f, v, head, loop, func(n int) bool { return trueOf(f, v, n) })
			}
		}
	}
	for _, text := range []string{"2|a", "or a-7=0 3|a+1", "not 7|a", "a-399<=0"} { // below the greatest numbers
		f := formOf(t, text)
		count := 0
		for n := range 1000001 {
			if n == 999999 || n == 1000000 || n == 123456 || n == 400 {
				if got := impl.CountWitnesses(f, 0, n); got != count {
					t.Errorf("CountWitnesses(%s, %d) = %d, want %d", text, n, got, count)
				}
			}
			if trueOf(f, 0, n) {
				count++
			}
		}
	}
}

// TestWitnessesOfSets compares witnesses with the functions of sets, for formulas with quantifiers too.
func TestWitnessesOfSets(t *testing.T) {
	refused, done := 0, 0
	for _, f := range every(formsOfOne(), 3) {
		for v := range 4 {
			s, ok := impl.SetOfAny(f, v)
			greatest, below := impl.GreatestWitness(f, v), impl.CountWitnesses(f, v, 777)
			list, also := impl.ListWitnesses(f, v, 20)
			if !ok {
				refused++
				if greatest != -3 || below != -1 || len(list) > 0 || also {
					t.Errorf("the witnesses of %s by %d are %d, %d and %v, %v", slowText(f), v, greatest, below, list, also)
				}
				continue
			}
			done++
			var all []int
			for n := 0; n < len(s.Head)+20*len(s.Loop) && len(all) < 20; n++ {
				if isIn(s, n) {
					all = append(all, n)
				}
			}
			if greatest != impl.GreatestOf(s) || below != impl.CountBelow(s, 777) || !slices.Equal(list, all) || !also {
				t.Errorf("the witnesses of %s by %d are %d, %d and %v, %v", slowText(f), v, greatest, below, list, also)
			}
		}
	}
	if refused < 300 || done < 300 {
		t.Errorf("only %d are refused, and %d done", refused, done)
	}
}

// wantNoWitnesses looks whether the functions have no result for a formula and a variable.
func wantNoWitnesses(t *testing.T, what string, f impl.Formula, v int) {
	t.Helper()
	if got := impl.GreatestWitness(f, v); got != -3 {
		t.Errorf("GreatestWitness of %s by %d = %d", what, v, got)
	}
	for _, n := range []int{0, 1, 100, 1000000, -1, 1000001} {
		if got := impl.CountWitnesses(f, v, n); got != -1 {
			t.Errorf("CountWitnesses of %s by %d below %d = %d", what, v, n, got)
		}
	}
	for _, count := range []int{0, 1, 100, 101, -1} {
		if list, ok := impl.ListWitnesses(f, v, count); len(list) > 0 || ok {
			t.Errorf("ListWitnesses of %s by %d = %v, %v", what, v, list, ok)
		}
	}
}

func TestWitnessesInvalid(t *testing.T) {
	for _, text := range noSets {
		wantNoWitnesses(t, text, formOf(t, text), 0)
	}
	for _, v := range append(noVars, extremes...) {
		for _, text := range []string{"true", "false", "a<=0"} {
			wantNoWitnesses(t, text, formOf(t, text), v)
		}
	}
	for _, f := range badFormulas() {
		wantNoWitnesses(t, "a bad formula", f, 0)
	}
	for _, text := range []string{"true", "false", "2|a", "a-3<=0", "some b a-2b=0"} {
		f := formOf(t, text)
		for _, n := range badCounts {
			if got := impl.CountWitnesses(f, 0, n); got != -1 {
				t.Errorf("CountWitnesses(%s, %d) = %d", text, n, got)
			}
		}
		for _, count := range append([]int{-1, -2, -100, 101, 102, 1000, 1000000}, extremes...) {
			if list, ok := impl.ListWitnesses(f, 0, count); len(list) > 0 || ok {
				t.Errorf("ListWitnesses(%s, %d) = %v, %v", text, count, list, ok)
			}
		}
	}
}

// TestConnectivesAreThoseOfSets looks whether negation, and, or are the other set, the meet and the union.
func TestConnectivesAreThoseOfSets(t *testing.T) {
	count := 0
	for v := range 4 {
		list := aboutOne(dice(141+v), 200, v)
		for i, f := range list {
			g := list[(i*7+3)%len(list)]
			s, okS := impl.SetOfFormula(f, v)
			u, okU := impl.SetOfFormula(g, v)
			if !okS || !okU {
				continue
			}
			for _, x := range []struct {
				form impl.Formula
				sets func() (impl.Set, bool)
			}{
				{notForm(f), func() (impl.Set, bool) { return impl.OtherSet(s) }}, {pairForm(4, f, g), func() (impl.Set, bool) { return impl.MeetSets(s, u) }}, {pairForm(5, f, g), func() (impl.Set, bool) { return impl.UnionSets(s, u) }},
			} {
				want, can := x.sets()
				got, ok := impl.SetOfFormula(x.form, v)
				wantSame(t, "SetOfFormula "+slowText(x.form), got, ok, want, can)
				if also, ok := impl.SetOfAny(x.form, v); ok {
					wantSame(t, "SetOfAny "+slowText(x.form), also, ok, want, can)
					count++
				}
			}
		}
	}
	if count < 1500 {
		t.Errorf("only %d formulas are compared", count)
	}
}

// TestSumsAreThoseOfSets looks whether the sums, multiples and neighbors of numbers for which formulas are true are those of their sets.
func TestSumsAreThoseOfSets(t *testing.T) {
	sums, others := 0, 0
	simple := []string{"2|a", "3|a+1", "a-3=0", "a-5<=0", "-a+2<=0", "and 4|a -a+5<=0", "or a=0 a-7=0", "not 2|a", "not 3|a", "5|a-2", "false", "true", "and 3|a a-13<=0", "or 3|a a-4=0"}
	for _, first := range simple {
		f := formOf(t, first)
		s, _ := impl.SetOfFormula(f, 0)
		for _, second := range simple {
			g := formOf(t, second)
			u, _ := impl.SetOfFormula(g, 0)
			sum := formOf(t, "a-b-c=0")
			some := boundForm(7, 1, boundForm(7, 2, pairForm(4, sum, pairForm(4, renamed(f, 1), renamed(g, 2)))))
			want, can := impl.SumSets(s, u)
			if got, ok := impl.SetOfAny(some, 0); ok {
				wantSame(t, "SetOfAny "+slowText(some), got, ok, want, can)
				sums++
			}
		}
		for k := 1; k <= 7; k++ {
			for _, x := range []struct {
				term impl.Term
				sets func(s impl.Set, k int) (impl.Set, bool)
			}{
				{impl.Term{A: 1, B: -k}, impl.StretchSet}, {impl.Term{A: k, B: -1}, impl.DivideSet}, {impl.Term{A: 1, B: -1, N: -k}, impl.ShiftSet},
			} {
				relation := atomForm(impl.Atom{Kind: 1, Term: x.term})
				want, can := x.sets(s, k)
				if got, ok := impl.ImageSet(pairForm(4, relation, renamed(f, 1)), 1, 0); ok {
					wantSame(t, fmt.Sprintf("ImageSet of %s and %s", slowText(relation), first), got, ok, want, can)
					others++
				}
			}
		}
	}
	if sums < 150 || others < 200 {
		t.Errorf("only %d sums are compared, and %d others", sums, others)
	}
}

// TestQuantifiersAreThoseOfSets looks whether a formula is true for all numbers exactly where it is false for none, and for some exactly in the image.
func TestQuantifiersAreThoseOfSets(t *testing.T) {
	count := 0
	for _, f := range slices.Concat(boundedForms(151, 300), boundedForms(152, 300)) {
		if isFree(f, 2) {
			f = boundForm(7, 2, f)
		}
		always, ok := impl.SetOfAny(boundForm(6, 1, f), 0)
		fails, also := impl.ImageSet(notForm(f), 1, 0)
		if !ok || !also {
			continue
		}
		others, can := impl.OtherSet(fails)
		wantSame(t, "SetOfAny of all b "+slowText(f), always, ok, others, can)
		some, can := impl.ImageSet(f, 1, 0)
		meet, _ := impl.MeetSets(always, some)
		if can && meet != always {
			t.Errorf("%s is true for all b where it is for none: %v, %v", slowText(f), always, some)
		}
		count++
	}
	if count < 200 {
		t.Errorf("only %d formulas are compared", count)
	}
}

// TestSetsDecide looks whether what sets tell is what TruthOf, EntailsFormula and LeastWitness do.
func TestSetsDecide(t *testing.T) {
	count := 0
	for v := range 4 {
		list := aboutOne(dice(161+v), 150, v)
		for i, f := range list {
			s, ok := impl.SetOfAny(f, v)
			if !ok {
				continue
			}
			if least, ok := impl.LeastWitness(f, v, impl.Point{}); ok && least != impl.LeastOf(s) {
				t.Errorf("LeastWitness(%s, %d) = %d, but the set is %v", slowText(f), v, least, s)
			}
			if truth, ok := impl.TruthOf(boundForm(7, v, f)); ok && truth != (impl.LeastOf(s) >= 0) {
				t.Errorf("TruthOf some %d %s = %v, but the set is %v", v, slowText(f), truth, s)
			}
			if truth, ok := impl.TruthOf(boundForm(6, v, f)); ok && truth != (s == impl.Set{Loop: "1"}) {
				t.Errorf("TruthOf all %d %s = %v, but the set is %v", v, slowText(f), truth, s)
			}
			g := list[(i*11+5)%len(list)]
			first, ok := impl.EntailsFormula(f, g)
			second, also := impl.EntailsFormula(g, f)
			same, can := impl.SameOne(f, g, v)
			if ok && also && can {
				count++
				if same != (first && second) {
					t.Errorf("SameOne(%s, %s, %d) = %v, but they entail each other: %v, %v", slowText(f), slowText(g), v, same, first, second)
				}
			}
		}
	}
	if count < 100 {
		t.Errorf("only %d pairs are compared", count)
	}
}

// TestOneVarMemory looks whether results share memory with each other, unused capacity included.
func TestOneVarMemory(t *testing.T) {
	for _, text := range []string{"01(100)", "(1)", "1(0)", "1101(0110)", "(0)", ones(100) + "(" + ones(100) + ")"} {
		first, ok := impl.FormulaOfSet(setOf(text), 2)
		second, also := impl.FormulaOfSet(setOf(text), 2)
		wantFresh(t, "FormulaOfSet", nil, first.Subs, second.Subs)
		if !ok || !also {
			t.Errorf("FormulaOfSet refuses %s", text)
		}
	}
	for _, text := range []string{"2|a", "true", "a-5<=0", "some b a-3b=0"} {
		f := formOf(t, text)
		for _, count := range []int{0, 1, 5, 100} {
			first, _ := impl.ListWitnesses(f, 0, count)
			second, _ := impl.ListWitnesses(f, 0, count)
			before := slices.Clone(second)
			for i := range first[:cap(first)] {
				first[:cap(first)][i] = 77
			}
			third, _ := impl.ListWitnesses(f, 0, count)
			if !slices.Equal(second, before) || !slices.Equal(third, before) {
				t.Errorf("ListWitnesses(%s, %d) = %v and then %v", text, count, before, third)
			}
		}
	}
}

// TestOneVarUnchanged calls the functions and looks whether their arguments are left as they are, with what is behind their lists.
func TestOneVarUnchanged(t *testing.T) {
	for _, f := range slices.Concat(every(formsOfOne(), 11), aboutOne(dice(171), 30, 0)) {
		common := []impl.Formula{f, f, {Kind: 9}}
		g := impl.Formula{Kind: 4, Subs: common[:2]}
		before := copyOf(g)
		for v := range 4 {
			impl.SetOfFormula(g, v)
			impl.SetOfAny(g, v)
			impl.SameOne(g, f, v)
			impl.ImageSet(g, v, 0)
			impl.GreatestWitness(g, v)
			impl.CountWitnesses(g, v, 100)
			impl.ListWitnesses(g, v, 10)
		}
		if !sameTree(g, before) || common[2].Kind != 9 {
			t.Errorf("%s was changed to %v", slowText(before), g)
		}
	}
}
