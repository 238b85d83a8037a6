package tests

import (
	"math"
	"slices"
	"strings"
	"testing"

	"loop.example/presburger/impl"
)

func atomForm(a impl.Atom) impl.Formula {
	return impl.Formula{Kind: 2, Atom: a}
}

func notForm(f impl.Formula) impl.Formula {
	return impl.Formula{Kind: 3, Subs: []impl.Formula{f}}
}

func pairForm(kind int, f impl.Formula, g impl.Formula) impl.Formula {
	return impl.Formula{Kind: kind, Subs: []impl.Formula{f, g}}
}

func boundForm(kind int, v int, f impl.Formula) impl.Formula {
	return impl.Formula{Kind: kind, Var: v, Subs: []impl.Formula{f}}
}

// wrapped puts a formula into another one some times.
func wrapped(f impl.Formula, times int, wrap func(impl.Formula) impl.Formula) impl.Formula {
	for range times {
		f = wrap(f)
	}
	return f
}

// chain joins a number of leaves with connectives of a kind, from the first one on.
func chain(kind int, leaves int) impl.Formula {
	leaf := atomForm(impl.Atom{Kind: 1, Term: impl.Term{A: 1, N: -7}})
	return wrapped(leaf, leaves-1, func(f impl.Formula) impl.Formula { return pairForm(kind, f, leaf) })
}

// sameTree compares formulas field by field.
func sameTree(f impl.Formula, g impl.Formula) bool {
	return f.Kind == g.Kind && f.Atom == g.Atom && f.Var == g.Var && slices.EqualFunc(f.Subs, g.Subs, sameTree)
}

// copyOf copies a formula with all its memory.
func copyOf(f impl.Formula) impl.Formula {
	subs := f.Subs
	f.Subs = nil
	for _, sub := range subs {
		f.Subs = append(f.Subs, copyOf(sub))
	}
	return f
}

// slowText is the text of a valid formula.
func slowText(f impl.Formula) string {
	switch f.Kind {
	case 0:
		return "true"
	case 1:
		return "false"
	case 2:
		return impl.FormatAtom(f.Atom)
	case 3:
		return "not " + slowText(f.Subs[0])
	case 4:
		return "and " + slowText(f.Subs[0]) + " " + slowText(f.Subs[1])
	case 5:
		return "or " + slowText(f.Subs[0]) + " " + slowText(f.Subs[1])
	case 6:
		return "all " + string(rune('a'+f.Var)) + " " + slowText(f.Subs[0])
	}
	return "some " + string(rune('a'+f.Var)) + " " + slowText(f.Subs[0])
}

// slowNodes is the number of nodes of a valid formula.
func slowNodes(f impl.Formula) int {
	count := 1
	for _, sub := range f.Subs {
		count += slowNodes(sub)
	}
	return count
}

// slowNested is how deep the quantifiers of a valid formula are nested.
func slowNested(f impl.Formula) int {
	deepest := 0
	for _, sub := range f.Subs {
		deepest = max(deepest, slowNested(sub))
	}
	if f.Kind >= 6 {
		return deepest + 1
	}
	return deepest
}

// isFree tells whether a variable is free in a valid formula.
func isFree(f impl.Formula, v int) bool {
	if f.Kind == 2 {
		term := f.Atom.Term
		return [4]int{term.A, term.B, term.C, term.D}[v] != 0
	}
	if f.Kind >= 6 && f.Var == v {
		return false
	}
	for _, sub := range f.Subs {
		if isFree(sub, v) {
			return true
		}
	}
	return false
}

func slowFree(f impl.Formula) []int {
	var list []int
	for v := range 4 {
		if isFree(f, v) {
			list = append(list, v)
		}
	}
	return list
}

// slowAtoms are the atoms of a valid formula.
func slowAtoms(f impl.Formula) []impl.Atom {
	if f.Kind == 2 {
		return []impl.Atom{f.Atom}
	}
	var list []impl.Atom
	for _, sub := range f.Subs {
		list = append(list, slowAtoms(sub)...)
	}
	return list
}

// holds tells whether a valid formula is true of values, with quantifiers over the numbers from 0 to bound.
func holds(f impl.Formula, values [4]int, bound int) bool {
	switch f.Kind {
	case 0, 1:
		return f.Kind == 0
	case 2:
		return tells(f.Atom, values)
	case 3:
		return !holds(f.Subs[0], values, bound)
	case 4:
		return holds(f.Subs[0], values, bound) && holds(f.Subs[1], values, bound)
	case 5:
		return holds(f.Subs[0], values, bound) || holds(f.Subs[1], values, bound)
	}
	count := 0
	for n := range bound + 1 {
		values[f.Var] = n
		if holds(f.Subs[0], values, bound) {
			count++
		}
	}
	return f.Kind == 6 && count == bound+1 || f.Kind == 7 && count > 0
}

// isFormulaText tells the texts of formulas by counting the parts that are due.
func isFormulaText(s string) bool {
	due, nodes := 1, 0
	words := strings.Split(s, " ")
	for i := 0; i < len(words); i++ {
		if due == 0 {
			return false
		}
		nodes++
		switch word := words[i]; word {
		case "true", "false":
			due--
		case "not":
		case "and", "or":
			due++
		case "all", "some":
			i++
			if i == len(words) || words[i] != "a" && words[i] != "b" && words[i] != "c" && words[i] != "d" {
				return false
			}
		default:
			if !isAtomText(word) {
				return false
			}
			due--
		}
	}
	return due == 0 && nodes <= 600
}

// dice gives numbers that follow no plain rule, the same ones in each run.
type dice uint64

func (d *dice) roll(sides int) int {
	*d = *d*6364136223846793005 + 1442695040888963407
	return int(uint64(*d) >> 33 % uint64(sides))
}

// form makes a formula that is at most so deep, with quantifiers nested at most so deep.
func (d *dice) form(depth int, nested int) impl.Formula {
	kind := d.roll(8)
	if depth == 0 {
		kind = 2
	}
	if kind >= 6 && nested == 0 {
		kind = 3 + d.roll(3)
	}
	switch kind {
	case 0, 1:
		return impl.Formula{Kind: kind}
	case 2:
		return atomForm(d.atom())
	case 3:
		return notForm(d.form(depth-1, nested))
	case 4, 5:
		return pairForm(kind, d.form(depth-1, nested), d.form(depth-1, nested))
	}
	return boundForm(kind, d.roll(4), d.form(depth-1, nested-1))
}

// atom makes an atom about small numbers.
func (d *dice) atom() impl.Atom {
	var m [5]int
	for range 1 + d.roll(2) {
		m[d.roll(4)] = d.roll(7) - 3
	}
	m[4] = d.roll(9) - 4
	a := impl.Atom{Kind: d.roll(4), Term: termOf(m)}
	if a.Kind >= 2 {
		a.Mod = 1 + d.roll(5)
	}
	return a
}

// someFormulas returns valid formulas of all kinds: all with up to three nodes over a few atoms, and greater ones.
func someFormulas() []impl.Formula {
	one := []impl.Formula{{Kind: 0}, {Kind: 1}}
	for _, a := range []impl.Atom{{Term: impl.Term{A: 1, N: -2}}, {Kind: 1, Term: impl.Term{A: 1, B: -2}}, {Kind: 2, Mod: 3, Term: impl.Term{B: 1}}, {Kind: 3, Mod: 2, Term: impl.Term{C: 1, D: -1}}} {
		one = append(one, atomForm(a))
	}
	unary := func(f impl.Formula) []impl.Formula {
		list := []impl.Formula{notForm(f)}
		for v := range 4 {
			list = append(list, boundForm(6, v, f), boundForm(7, v, f))
		}
		return list
	}
	list := slices.Clone(one)
	for _, f := range one {
		for _, g := range unary(f) {
			list = append(list, g)
			list = append(list, unary(g)...)
		}
		for _, g := range one {
			list = append(list, pairForm(4, f, g), pairForm(5, f, g))
		}
	}
	roll := dice(1)
	for range 1500 {
		list = append(list, roll.form(6, 3))
	}
	return list
}

// textForms are formulas and their texts as the document defines them.
var textForms = []struct {
	text string
	form impl.Formula
}{
	{"true", impl.Formula{}},
	{"false", impl.Formula{Kind: 1}},
	{"0<=0", impl.Formula{Kind: 2}},
	{"2a-b+3=0", atomForm(impl.Atom{Kind: 1, Term: impl.Term{A: 2, B: -1, N: 3}})},
	{"100!-d", atomForm(impl.Atom{Kind: 3, Mod: 100, Term: impl.Term{D: -1}})},
	{"not true", notForm(impl.Formula{})},
	{"not not 3|a", notForm(notForm(atomForm(impl.Atom{Kind: 2, Mod: 3, Term: impl.Term{A: 1}})))},
	{"and true false", pairForm(4, impl.Formula{}, impl.Formula{Kind: 1})},
	{"or a<=0 true", pairForm(5, atomForm(impl.Atom{Term: impl.Term{A: 1}}), impl.Formula{})},
	{"all a true", boundForm(6, 0, impl.Formula{})},
	{"all d false", boundForm(6, 3, impl.Formula{Kind: 1})},
	{"some b b<=0", boundForm(7, 1, atomForm(impl.Atom{Term: impl.Term{B: 1}}))},
	{"some c not c<=0", boundForm(7, 2, notForm(atomForm(impl.Atom{Term: impl.Term{C: 1}})))},
	{"some b and a-2b=0 not 3|b", boundForm(7, 1, pairForm(4, atomForm(impl.Atom{Kind: 1, Term: impl.Term{A: 1, B: -2}}), notForm(atomForm(impl.Atom{Kind: 2, Mod: 3, Term: impl.Term{B: 1}}))))},
	{"and or true false not false", pairForm(4, pairForm(5, impl.Formula{}, impl.Formula{Kind: 1}), notForm(impl.Formula{Kind: 1}))},
	{"and not false or true false", pairForm(4, notForm(impl.Formula{Kind: 1}), pairForm(5, impl.Formula{}, impl.Formula{Kind: 1}))},
	{"or all a some a true true", pairForm(5, boundForm(6, 0, boundForm(7, 0, impl.Formula{})), impl.Formula{})},
}

// wrongApart returns formulas that are not valid themselves, whatever their parts are.
func wrongApart() []impl.Formula {
	good := []impl.Formula{{}, {Kind: 2}, {Kind: 1}, {}}
	counts := []int{0, 0, 0, 1, 2, 2, 1, 1}
	var list []impl.Formula
	for _, kind := range append([]int{-8, -7, -3, -2, -1, 8, 9, 10}, extremes...) {
		for count := range 3 {
			list = append(list, impl.Formula{Kind: kind, Subs: good[:count]})
		}
		list = append(list, impl.Formula{Kind: kind, Var: 1, Subs: good[:1]}, impl.Formula{Kind: kind, Var: kind, Atom: impl.Atom{Kind: kind, Mod: kind}})
	}
	for kind, count := range counts {
		for other := range 5 {
			if other != count {
				list = append(list, impl.Formula{Kind: kind, Subs: good[:min(other, 4)]}, impl.Formula{Kind: kind, Subs: slices.Repeat(good, 250)[:other+500]})
			}
		}
		if kind != 2 {
			for _, a := range []impl.Atom{{Kind: 1}, {Mod: 1}, {Term: impl.Term{N: 1}}, {Term: impl.Term{D: -1}}, {Kind: 2, Mod: 2, Term: impl.Term{A: 1}}, {Kind: -1}, {Mod: math.MinInt}} {
				list = append(list, impl.Formula{Kind: kind, Atom: a, Subs: good[:count]})
			}
		}
		wrong := append([]int{-4, -1, 4, 5}, extremes...)
		if kind < 6 {
			wrong = append(wrong, 1, 2, 3)
		}
		for _, v := range wrong {
			list = append(list, impl.Formula{Kind: kind, Var: v, Subs: good[:count]})
		}
	}
	for _, a := range badAtoms() {
		list = append(list, atomForm(a))
	}
	return list
}

// tooGreat returns formulas that are valid but for their number of nodes.
func tooGreat() []impl.Formula {
	inAll := func(f impl.Formula) impl.Formula { return boundForm(6, 2, f) }
	twice := func(f impl.Formula) impl.Formula { return pairForm(4, f, f) }
	list := []impl.Formula{
		wrapped(impl.Formula{}, 600, notForm), wrapped(impl.Formula{Kind: 2}, 600, inAll), chain(4, 301), chain(5, 301),
		pairForm(4, wrapped(impl.Formula{}, 300, notForm), wrapped(impl.Formula{}, 298, notForm)),
		wrapped(impl.Formula{}, 9, twice), wrapped(impl.Formula{}, 60, twice), wrapped(impl.Formula{}, 100000, notForm), chain(5, 100000),
	}
	for kind, parts := range []int{0, 0, 0, 1, 2, 2, 1, 1} {
		if parts > 0 {
			subs := make([]impl.Formula, parts)
			for i := range subs {
				subs[i] = impl.Formula{Kind: kind, Subs: subs} // a part of itself
			}
			list = append(list, subs[0])
		}
	}
	return list
}

// badFormulas returns formulas that are not valid, also because of parts deep inside.
func badFormulas() []impl.Formula {
	list := append(wrongApart(), tooGreat()...)
	deep := []impl.Formula{{Kind: 8}, {Kind: -1}, {Var: 1}, {Kind: 3}, {Kind: 2, Atom: impl.Atom{Mod: 1}}, {Kind: 1, Atom: impl.Atom{Kind: 1}}, {Kind: 6, Var: 4, Subs: []impl.Formula{{}}}, {Kind: 0, Subs: []impl.Formula{{}}}, {Kind: math.MaxInt}}
	for _, f := range deep {
		list = append(list, notForm(f), pairForm(4, f, impl.Formula{}), pairForm(4, impl.Formula{}, f), pairForm(5, f, impl.Formula{}), pairForm(5, impl.Formula{}, f), boundForm(6, 0, f), boundForm(7, 3, f))
		list = append(list, wrapped(f, 300, notForm), wrapped(f, 3, func(g impl.Formula) impl.Formula { return pairForm(5, impl.Formula{}, boundForm(6, 1, g)) }))
	}
	return list
}

// justFit returns formulas of exactly 600 nodes.
func justFit() []impl.Formula {
	inSome := func(f impl.Formula) impl.Formula { return boundForm(7, 1, f) }
	twice := func(f impl.Formula) impl.Formula { return pairForm(5, f, copyOf(f)) }
	return []impl.Formula{
		wrapped(impl.Formula{Kind: 1}, 599, notForm), wrapped(impl.Formula{}, 599, inSome), notForm(chain(4, 300)), boundForm(6, 0, chain(5, 300)),
		pairForm(4, wrapped(impl.Formula{}, 299, notForm), wrapped(impl.Formula{}, 298, notForm)),
		pairForm(5, wrapped(impl.Formula{Kind: 2}, 8, twice), wrapped(impl.Formula{Kind: 2}, 87, notForm)),
	}
}

func formOf(t *testing.T, s string) impl.Formula {
	t.Helper()
	f, ok := impl.ParseFormula(s)
	if !ok {
		t.Errorf("ParseFormula(%q) = %v, %v", s, f, ok)
	}
	return f
}

func wantForm(t *testing.T, what string, got impl.Formula, ok bool, want impl.Formula) {
	t.Helper()
	if !ok || !sameTree(got, want) {
		t.Errorf("%s = %v, %v, want %v", what, got, ok, want)
	}
}

func wantNoForm(t *testing.T, what string, got impl.Formula, ok bool) {
	t.Helper()
	if ok || !sameTree(got, impl.Formula{}) {
		t.Errorf("%s = %v, %v, want no formula", what, got, ok)
	}
}

// wantFresh looks whether results share memory with arguments, with each other or with themselves, unused capacity included.
func wantFresh(t *testing.T, what string, arguments []impl.Formula, results ...[]impl.Formula) {
	t.Helper()
	seen := map[*impl.Formula]bool{}
	var look func(list []impl.Formula, result bool)
	look = func(list []impl.Formula, result bool) {
		for i := range list[:cap(list)] {
			place := &list[:cap(list)][i]
			if result && seen[place] {
				t.Errorf("%s: memory is shared", what)
				return
			}
			seen[place] = true
		}
		for _, f := range list {
			look(f.Subs, result)
		}
	}
	look(arguments, false)
	for _, list := range results {
		look(list, true)
	}
}

func TestFormulaConstants(t *testing.T) {
	kinds := []int{impl.FormTrue, impl.FormFalse, impl.FormAtom, impl.FormNot, impl.FormAnd, impl.FormOr, impl.FormAll, impl.FormSome}
	if !slices.Equal(kinds, []int{0, 1, 2, 3, 4, 5, 6, 7}) || impl.MaxNodes != 600 || impl.MaxBound != 8 || impl.MaxNested != 4 {
		t.Error("the constants are not those of the document")
	}
}

func TestFormulaValid(t *testing.T) {
	for _, f := range append(someFormulas(), justFit()...) {
		if !impl.FormulaValid(f) {
			t.Errorf("FormulaValid(%s) = false", slowText(f))
		}
	}
	for _, a := range every(someAtoms(), 17) {
		if !impl.FormulaValid(atomForm(a)) || !impl.FormulaValid(notForm(atomForm(a))) {
			t.Errorf("a formula with the atom %v is not valid", a)
		}
	}
	for _, f := range wrongApart() {
		if impl.FormulaValid(f) {
			t.Errorf("FormulaValid(%v) = true", f)
		}
	}
	for i, f := range badFormulas() {
		if impl.FormulaValid(f) {
			t.Errorf("FormulaValid of the bad formula %d = true", i)
		}
	}
	empty := impl.Formula{Kind: 2, Subs: []impl.Formula{}}
	if !impl.FormulaValid(empty) || !impl.SameFormula(empty, impl.Formula{Kind: 2}) {
		t.Error("an empty slice is not taken for nil")
	}
	if hidden := (impl.Formula{Kind: 3, Subs: []impl.Formula{{}, {Kind: 9}}[:1]}); !impl.FormulaValid(hidden) {
		t.Error("what is beyond the length of Subs is looked at")
	}
}

func TestFormulaTexts(t *testing.T) {
	for _, x := range textForms {
		if got := impl.FormatFormula(x.form); got != x.text {
			t.Errorf("FormatFormula(%v) = %q, want %q", x.form, got, x.text)
		}
		got, ok := impl.ParseFormula(x.text)
		wantForm(t, "ParseFormula "+x.text, got, ok, x.form)
	}
	for i, f := range badFormulas() {
		if got := impl.FormatFormula(f); got != "" {
			t.Errorf("FormatFormula of the bad formula %d = %q", i, got)
		}
	}
}

func TestParseFormulaRoundTrip(t *testing.T) {
	for _, f := range append(someFormulas(), justFit()...) {
		text := impl.FormatFormula(f)
		if text != slowText(f) || !isFormulaText(text) {
			t.Errorf("FormatFormula = %q, want %q", text, slowText(f))
		}
		got, ok := impl.ParseFormula(text)
		wantForm(t, "ParseFormula "+text, got, ok, f)
		wantFresh(t, "ParseFormula "+text, nil, got.Subs)
	}
	for _, a := range every(someAtoms(), 29) {
		f := notForm(atomForm(a))
		got, ok := impl.ParseFormula(impl.FormatFormula(f))
		wantForm(t, "ParseFormula "+slowText(f), got, ok, f)
	}
}

func TestParseFormulaInvalid(t *testing.T) {
	texts := []string{
		"", " ", "  ", "a", "0", "b", "True", "TRUE", "truefalse", "true ", " true", "true\n", "\ttrue", "true\x00", "true true", "true false", "false a=0", "a=0 b=0", "a=0 true",
		"not", "not ", "not  true", "not\ttrue", "not\ntrue", "nottrue", "not true ", " not true", "not true false", "not not", "not and", "not a", "Not true", "nota=0", "not(true)", "(true)", "not (true)",
		"and", "and ", "and true", "and true ", "and true false true", "and  true false", "and true  false", "and true false ", "and true, false", "and a=0b=0", "true and false", "a=0 and b=0", "and or true", "and not true", "and true or false", "or", "or true", "or true false true", "and all a true",
		"all", "all ", "all a", "all a ", "all true", "all e true", "all A true", "all ab true", "all abcd true", "all  true", "all a  true", "all  a true", "all atrue", "alla true", "all a, true", "all a. true", "all a true true", "all a a true", "all a b true", "all 0 true", "all 1 true", "all -a true", "all a a", "all a b", "all a all", "all a all b", "all a not", "all a and true",
		"some", "some a", "some a<=0", "some e a<=0", "some b", "some bc a=0", "some some", "some a some", "some all a true", "some true", "some a some true", "exists a true", "any a true", "for a true",
		"not a<0", "not b+a=0", "and 1a=0 true", "or 03|a true", "all a 101|a", "some a 101a=0", "not 10001<=0", "not  a=0", "not a =0", "not a= 0", "not 3 |a", "not 3| a", "true\xff", "\xfftrue", "not \xff", "all \xff true", "all \xc3\xa4 true", "not\xc2\xa0true", "and\u2003true false",
	}
	for _, s := range texts {
		got, ok := impl.ParseFormula(s)
		wantNoForm(t, "ParseFormula "+s, got, ok)
		if isFormulaText(s) {
			t.Errorf("%q is the text of a formula", s)
		}
	}
	for _, long := range []string{"not ", "and ", "or true ", "all a ", "some d ", " ", "true ", "a", "1", "and true ", "all ", "a=0 ", "true", "\xff"} {
		for _, end := range []string{"", "true", "a=0", " "} {
			got, ok := impl.ParseFormula(strings.Repeat(long, 100000) + end)
			wantNoForm(t, "ParseFormula of a long text", got, ok)
		}
	}
}

// TestParseFormulaGreat looks at texts of just the greatest number of nodes, and of one more.
func TestParseFormulaGreat(t *testing.T) {
	for _, f := range justFit() {
		text := slowText(f)
		got, ok := impl.ParseFormula(text)
		wantForm(t, "ParseFormula of 600 nodes", got, ok, f)
		for _, s := range []string{"not " + text, "all a " + text, "some d " + text, "and true " + text, "or " + text + " true", text + " true", text + " ", " " + text, text + " and", strings.Replace(text, " ", "  ", 1)} {
			got, ok := impl.ParseFormula(s)
			wantNoForm(t, "ParseFormula of more than 600 nodes", got, ok)
		}
	}
	for n := 590; n < 1210; n++ {
		for _, word := range []string{"not ", "all b ", "and true ", "or "} {
			s := strings.Repeat(word, n) + "true" + strings.Repeat(" true", n)
			if word != "or " {
				s = strings.Repeat(word, n) + "true"
			}
			if _, ok := impl.ParseFormula(s); ok != isFormulaText(s) {
				t.Errorf("ParseFormula of %d times %q: %v", n, word, ok)
			}
		}
	}
}

func TestParseFormulaNearly(t *testing.T) {
	accepted := 0
	check := func(s string) {
		got, ok := impl.ParseFormula(s)
		if ok != isFormulaText(s) {
			t.Errorf("ParseFormula(%q) = %v, %v", s, got, ok)
		}
		if ok {
			accepted++
			if text := impl.FormatFormula(got); text != s {
				t.Errorf("ParseFormula(%q) = %v, which has the text %q", s, got, text)
			}
			return
		}
		wantNoForm(t, "ParseFormula "+s, got, ok)
	}
	texts := []string{"or all a or a<=0 some b a-b=0 not 3|b", "and some d and 2!d true a=0 all a a-10=0"}
	for _, x := range textForms {
		texts = append(texts, x.text)
	}
	for _, text := range texts {
		for _, s := range nearly(text) {
			check(s)
		}
		words := strings.Split(text, " ")
		for i := range len(words) + 1 {
			for _, word := range []string{"", "true", "false", "not", "and", "or", "all", "some", "a", "d", "e", "a=0", "not true", "all c", "or true", "2|b"} {
				check(strings.Join(slices.Insert(slices.Clone(words), i, word), " "))
				if i < len(words) {
					check(strings.Join(slices.Replace(slices.Clone(words), i, i+1, word), " "))
				}
			}
			if i < len(words) {
				check(strings.Join(slices.Delete(slices.Clone(words), i, i+1), " "))
				check(strings.Join(words[:i], " "))
				check(strings.Join(words[i:], " "))
			}
		}
	}
	if accepted < 100 {
		t.Errorf("only %d of the nearby texts are those of formulas", accepted)
	}
}

func TestNodeCount(t *testing.T) {
	cases := map[string]int{"true": 1, "a=0": 1, "not a=0": 2, "all a true": 2, "and true false": 3, "or not true false": 4, "some b and a-2b=0 not 3|b": 5, "all a some b all c some d and and true true true": 9}
	for s, want := range cases {
		if got := impl.NodeCount(formOf(t, s)); got != want {
			t.Errorf("NodeCount(%s) = %d, want %d", s, got, want)
		}
	}
	for _, f := range someFormulas() {
		if got := impl.NodeCount(f); got != slowNodes(f) {
			t.Errorf("NodeCount(%s) = %d", slowText(f), got)
		}
	}
	for _, f := range justFit() {
		if got := impl.NodeCount(f); got != 600 {
			t.Errorf("NodeCount = %d, want 600", got)
		}
	}
}

func TestNestedCount(t *testing.T) {
	cases := map[string]int{
		"true": 0, "not a=0": 0, "and true or a=0 false": 0, "all a true": 1, "some b and a-2b=0 not 3|b": 1, "all a all a true": 2, "and all a true all a true": 1, "and all a true some b all a true": 2, "and some b all a true all a true": 2,
		"all a and some b true some c true": 2, "some a not all b not some c true": 3, "some a some a some a some a true": 4, "or all a all b true some c some d all a all b some c true": 5,
	}
	for s, want := range cases {
		if got := impl.NestedCount(formOf(t, s)); got != want {
			t.Errorf("NestedCount(%s) = %d, want %d", s, got, want)
		}
	}
	for _, f := range append(someFormulas(), justFit()...) {
		if got := impl.NestedCount(f); got != slowNested(f) {
			t.Errorf("NestedCount(%s) = %d", slowText(f), got)
		}
	}
}

// TestNoCounts looks at all functions of one formula that have nothing to say of one that is not valid.
func TestNoCounts(t *testing.T) {
	for i, f := range badFormulas() {
		if impl.NodeCount(f) != -1 || impl.NestedCount(f) != -1 || len(impl.FreeVars(f)) != 0 || impl.IsOpen(f) || len(impl.AtomsOf(f)) != 0 {
			t.Errorf("the bad formula %d is not refused", i)
		}
		if truth, ok := impl.EvalOpen(f, impl.Point{A: 1}); truth || ok {
			t.Errorf("EvalOpen of the bad formula %d = %v, %v", i, truth, ok)
		}
		if truth, ok := impl.EvalBounded(f, impl.Point{A: 1}, 2); truth || ok {
			t.Errorf("EvalBounded of the bad formula %d = %v, %v", i, truth, ok)
		}
		if impl.SameFormula(f, f) || impl.SameFormula(f, impl.Formula{}) || impl.SameFormula(impl.Formula{Kind: 1}, f) {
			t.Errorf("the bad formula %d is the same as one", i)
		}
	}
}

func TestFreeVars(t *testing.T) {
	cases := map[string][]int{
		"true": nil, "false": nil, "3<=0": nil, "a=0": {0}, "b-d=0": {1, 3}, "2|a+b+c+d": {0, 1, 2, 3}, "not c=0": {2}, "and d=0 a=0": {0, 3}, "or a=0 a=0": {0},
		"some b and a-2b=0 not 3|b": {0}, "all a a=0": nil, "all a b=0": {1}, "all a true": nil, "all d a-b=0": {0, 1}, "some a a-b=0": {1}, "some a some b a-b=0": nil, "some a some a a-b=0": {1},
		"and some a a<=0 a=0": {0}, "and a=0 some a a<=0": {0}, "and some a a-b=0 some b a-b=0": {0, 1}, "all a or some a a=0 a=0": nil, "not all b not b-c=0": {2}, "all a all b all c all d a+b+c+d=0": nil, "all a all b all c a+b+c+d=0": {3},
		"or all a a=0 all a b=0": {1}, "some c and c=0 d=0": {3},
	}
	for s, want := range cases {
		if got := impl.FreeVars(formOf(t, s)); !slices.Equal(got, want) {
			t.Errorf("FreeVars(%s) = %v, want %v", s, got, want)
		}
	}
	for _, f := range append(someFormulas(), justFit()...) {
		if got := impl.FreeVars(f); !slices.Equal(got, slowFree(f)) {
			t.Errorf("FreeVars(%s) = %v", slowText(f), got)
		}
	}
}

func TestIsOpen(t *testing.T) {
	cases := map[string]bool{"true": true, "false": true, "a=0": true, "not a=0": true, "and true or false a=0": true, "all a true": false, "some a true": false, "not some b a=0": false, "and true all a true": false, "or some d true false": false}
	for s, want := range cases {
		if got := impl.IsOpen(formOf(t, s)); got != want {
			t.Errorf("IsOpen(%s) = %v", s, got)
		}
	}
	for _, f := range append(someFormulas(), justFit()...) {
		if got := impl.IsOpen(f); got != (slowNested(f) == 0) {
			t.Errorf("IsOpen(%s) = %v", slowText(f), got)
		}
	}
}

func TestEvalOpen(t *testing.T) {
	cases := map[string]bool{ // in the point where a is 3, b is 2, c is 1000, and d is 0
		"true": true, "false": false, "a-3=0": true, "a-2=0": false, "not a-3=0": false, "not a-2=0": true, "not not a-3=0": true, "not true": false, "not false": true,
		"and true true": true, "and true false": false, "and false true": false, "and false false": false, "or true true": true, "or true false": true, "or false true": true, "or false false": false,
		"and a-3=0 b-2=0": true, "and a-3=0 b-3=0": false, "and a-2=0 b-2=0": false, "or a-2=0 b-2=0": true, "or a-3=0 b-3=0": true, "or a=0 b=0": false, "and c-1000=0 d=0": true, "and or false true not and true false": true, "or and a=0 true and true 3!a-1": true,
	}
	for s, want := range cases {
		if truth, ok := impl.EvalOpen(formOf(t, s), impl.Point{A: 3, B: 2, C: 1000}); truth != want || !ok {
			t.Errorf("EvalOpen(%s) = %v, %v", s, truth, ok)
		}
	}
	for _, f := range append(someFormulas(), justFit()...) {
		for _, m := range somePoints {
			valid := slices.Max(m[:]) <= 1000 && slowNested(f) == 0
			if truth, ok := impl.EvalOpen(f, pointOf(m)); ok != valid || truth != (valid && holds(f, m, 0)) {
				t.Errorf("EvalOpen(%s, %v) = %v, %v", slowText(f), m, truth, ok)
			}
		}
	}
	for _, p := range badPoints() {
		for _, s := range []string{"true", "or true a=0", "not false", "0<=0"} {
			if truth, ok := impl.EvalOpen(formOf(t, s), p); truth || ok {
				t.Errorf("EvalOpen(%s, %v) = %v, %v", s, p, truth, ok)
			}
		}
	}
}

func TestEvalBoundedTexts(t *testing.T) {
	cases := []struct {
		text  string
		bound int
		want  bool
	}{ // in the point where a is 3, b is 2, c is 1000, and d is 0
		{"a-3=0", 0, true}, {"a-2=0", 8, false}, {"all a a=0", 0, true}, {"all a a=0", 1, false}, {"some a a-1=0", 0, false}, {"some a a-1=0", 1, true}, {"some a a-8=0", 8, true}, {"some a a-8=0", 7, false}, {"all a a-8<=0", 8, true}, {"all a a-7<=0", 8, false},
		{"all d true", 3, true}, {"all d false", 0, false}, {"some d true", 0, true}, {"some d false", 8, false}, {"all d a-3=0", 8, true}, {"some d a-4=0", 8, false}, {"all b a-3=0", 2, true}, {"some b a-4=0", 2, false},
		{"some c c-1000=0", 8, false}, {"all c c-8<=0", 8, true}, {"some d c-1000=0", 8, true},
		{"and some a a-5=0 a-3=0", 8, true}, {"and some a a-5=0 a-5=0", 8, false}, {"and a-3=0 some a a-5=0", 8, true}, {"and a-5=0 some a a-5=0", 8, false}, {"or all a a=0 a-3=0", 8, true}, {"and all a -a<=0 a-3=0", 8, true},
		{"some a and a-5=0 some a a-6=0", 8, true}, {"some a and some a a-6=0 a-5=0", 8, true}, {"some a and a-5=0 all a a-5=0", 8, false}, {"all a some a a-6=0", 8, true}, {"some a all a a=0", 8, false}, {"all a all a a<=0", 0, true}, {"some a and all a -a<=0 a-2=0", 2, true},
		{"all a some b a-b=0", 8, true}, {"some b all a a-b=0", 8, false}, {"all a some b a-b+1=0", 8, false}, {"some a some b and a-b-1=0 a+b-15=0", 8, true}, {"some a all b a-b<=0", 8, true}, {"all a some b or a-2b=0 a-2b-1=0", 8, true},
		{"not all a a=0", 1, true}, {"not some a a-9=0", 8, true}, {"all b b-2=0", 8, false}, {"some d some d some d some d d-8=0", 8, true}, {"all a all b all c all d a+b+c+d-32<=0", 8, true}, {"all a all b all c all d a+b+c+d-31<=0", 8, false},
	}
	for _, x := range cases {
		if truth, ok := impl.EvalBounded(formOf(t, x.text), impl.Point{A: 3, B: 2, C: 1000}, x.bound); truth != x.want || !ok {
			t.Errorf("EvalBounded(%s, %d) = %v, %v", x.text, x.bound, truth, ok)
		}
	}
	f := formOf(t, "some b and a-2b=0 not 3|b")
	for n := range 30 {
		want := n%2 == 0 && n%6 != 0 && n <= 16
		if truth, ok := impl.EvalBounded(f, impl.Point{A: n}, 8); truth != want || !ok {
			t.Errorf("EvalBounded in %d = %v, %v", n, truth, ok)
		}
	}
}

func TestEvalBounded(t *testing.T) {
	for i, f := range someFormulas() {
		for j, m := range somePoints {
			bound := (i + j) % 4
			if (i+j)%37 == 0 {
				bound = 8
			}
			valid := slices.Max(m[:]) <= 1000
			if truth, ok := impl.EvalBounded(f, pointOf(m), bound); ok != valid || truth != (valid && holds(f, m, bound)) {
				t.Errorf("EvalBounded(%s, %v, %d) = %v, %v", slowText(f), m, bound, truth, ok)
			}
		}
	}
	great := "all a all b all c all d " + slowText(chain(4, 298))
	great = strings.ReplaceAll(great, "a-7=0", "a-8<=0")
	if truth, ok := impl.EvalBounded(formOf(t, great), impl.Point{}, 8); !truth || !ok {
		t.Errorf("EvalBounded of a great formula = %v, %v", truth, ok)
	}
}

func TestEvalBoundedInvalid(t *testing.T) {
	texts := []string{"true", "a=0", "all a true", "some d or d=0 true", "all a all b all c all d true"}
	for _, s := range texts {
		f := formOf(t, s)
		for bound := range 9 {
			if truth, ok := impl.EvalBounded(f, impl.Point{}, bound); !truth || !ok {
				t.Errorf("EvalBounded(%s, %d) = %v, %v", s, bound, truth, ok)
			}
		}
		for _, bound := range append([]int{-9, -1, 9, 10, 1000}, extremes...) {
			if truth, ok := impl.EvalBounded(f, impl.Point{}, bound); truth || ok {
				t.Errorf("EvalBounded(%s, %d) = %v, %v", s, bound, truth, ok)
			}
		}
		for _, p := range badPoints() {
			if truth, ok := impl.EvalBounded(f, p, 1); truth || ok {
				t.Errorf("EvalBounded(%s, %v) = %v, %v", s, p, truth, ok)
			}
		}
	}
	for _, s := range []string{"all a all b all c all d all a true", "some a some a some a some a some a true", "and true not all d all c all b not all a or true some a true", "or all a all a all a all a all a true true"} {
		if truth, ok := impl.EvalBounded(formOf(t, s), impl.Point{}, 0); truth || ok {
			t.Errorf("EvalBounded(%s) = %v, %v", s, truth, ok)
		}
	}
	wide := formOf(t, "and all a all b true and all c all d some a true and all b all a true all a all b all c some d true")
	if truth, ok := impl.EvalBounded(wide, impl.Point{}, 1); !truth || !ok {
		t.Errorf("quantifiers beside each other are counted as nested: %v, %v", truth, ok)
	}
}

// TestFreeVarsAlone changes the values of all variables that are not free: the truth may not change.
func TestFreeVarsAlone(t *testing.T) {
	changing := 0
	for _, f := range every(someFormulas(), 2) {
		free := impl.FreeVars(f)
		truths := map[[4]int]bool{}
		for k := range 3 * 3 * 3 * 3 {
			m := [4]int{k % 3, k / 3 % 3, k / 9 % 3, k / 27}
			p := pointOf(m)
			for v := range 4 {
				if !slices.Contains(free, v) {
					m[v] = 0
				}
			}
			truth, ok := impl.EvalBounded(f, p, 2)
			if before, found := truths[m]; found && before != truth || !ok {
				t.Errorf("EvalBounded(%s, %v) = %v, %v, which is not so in %v", slowText(f), p, truth, ok, m)
			}
			truths[m] = truth
			if truth != truths[[4]int{}] {
				changing++
			}
		}
	}
	if changing < 1000 {
		t.Errorf("only %d truths depend on the point", changing)
	}
}

func TestSameFormula(t *testing.T) {
	list := every(someFormulas(), 3)
	for i, f := range list {
		if !impl.SameFormula(f, copyOf(f)) {
			t.Errorf("SameFormula(%s) = false", slowText(f))
		}
		for j := range 60 {
			g := list[(i+j)%len(list)]
			if got := impl.SameFormula(f, g); got != sameTree(f, g) {
				t.Errorf("SameFormula(%s, %s) = %v", slowText(f), slowText(g), got)
			}
		}
	}
	different := [][2]string{{"true", "false"}, {"true", "0<=0"}, {"false", "1<=0"}, {"a=0", "-a=0"}, {"and a=0 b=0", "and b=0 a=0"}, {"all a true", "all b true"}, {"all a true", "some a true"}, {"not not true", "true"}, {"and and true true false", "and true and true false"}, {"2|a", "2!a"}}
	for _, x := range different {
		if impl.SameFormula(formOf(t, x[0]), formOf(t, x[1])) {
			t.Errorf("SameFormula(%s, %s) = true", x[0], x[1])
		}
	}
	if f := justFit()[0]; !impl.SameFormula(f, f) || impl.SameFormula(f, notForm(f)) || impl.SameFormula(notForm(f), notForm(f)) {
		t.Error("SameFormula of great formulas")
	}
}

func TestAtomsOf(t *testing.T) {
	cases := map[string]string{
		"true": "", "not false": "", "a=0": "a=0", "and b=0 a=0": "b=0;a=0", "some b and a-2b=0 not 3|b": "a-2b=0;3|b", "or and a=0 b=0 and a=0 true": "a=0;b=0;a=0", "and a=0 and a=0 a=0": "a=0;a=0;a=0",
		"all a or not 2!c some d or false d<=0": "2!c;d<=0", "and 0<=0 1<=0": "0<=0;1<=0",
	}
	for s, want := range cases {
		if got := joined(impl.AtomsOf(formOf(t, s))); got != want {
			t.Errorf("AtomsOf(%s) = %s, want %s", s, got, want)
		}
	}
	for _, f := range append(someFormulas(), justFit()...) {
		if got := impl.AtomsOf(f); !slices.Equal(got, slowAtoms(f)) {
			t.Errorf("AtomsOf(%s) = %s", slowText(f), joined(got))
		}
	}
	f := formOf(t, "and b=0 a=0")
	first, second := impl.AtomsOf(f), impl.AtomsOf(f)
	vars, others := impl.FreeVars(f), impl.FreeVars(f)
	for i := range first[:cap(first)] {
		first[:cap(first)][i] = impl.Atom{Kind: 77}
	}
	for i := range vars[:cap(vars)] {
		vars[:cap(vars)][i] = 77
	}
	if joined(second) != "b=0;a=0" || !slices.Equal(others, []int{0, 1}) || impl.FormatFormula(f) != "and b=0 a=0" {
		t.Error("results of AtomsOf or FreeVars share memory")
	}
}

// joins are the two functions that join formulas, with the kinds of what they return.
var joins = []struct {
	name string
	join func([]impl.Formula) (impl.Formula, bool)
	kind int
	none int
}{{"JoinAll", impl.JoinAll, 4, 0}, {"JoinAny", impl.JoinAny, 5, 1}}

func TestJoins(t *testing.T) {
	for _, x := range joins {
		for _, list := range [][]impl.Formula{nil, {}} {
			got, ok := x.join(list)
			wantForm(t, x.name+" of nothing", got, ok, impl.Formula{Kind: x.none})
		}
		all := every(someFormulas(), 7)
		for i, f := range all {
			want := f
			for count := 1; count <= 5; count++ {
				list := all[i : i+1]
				for k := 1; k < count; k++ {
					list = append(slices.Clone(list), all[(i*k+k)%len(all)])
				}
				if count > 1 {
					want = pairForm(x.kind, want, list[count-1])
				}
				got, ok := x.join(list)
				if slowNodes(want) > 600 {
					wantNoForm(t, x.name, got, ok)
					continue
				}
				wantForm(t, x.name, got, ok, want)
				wantFresh(t, x.name, list, got.Subs)
			}
		}
	}
	if got, _ := impl.JoinAny([]impl.Formula{formOf(t, "a=0"), formOf(t, "not b=0"), formOf(t, "true"), formOf(t, "all c c=0")}); impl.FormatFormula(got) != "or or or a=0 not b=0 true all c c=0" {
		t.Errorf("JoinAny = %v", got)
	}
}

// TestJoinsTruth compares the joined formulas with the truth of all, or of one, of the formulas.
func TestJoinsTruth(t *testing.T) {
	roll := dice(5)
	for range 300 {
		list := make([]impl.Formula, roll.roll(6))
		for i := range list {
			list[i] = roll.form(3, 1)
		}
		all, ok := impl.JoinAll(list)
		some, also := impl.JoinAny(list)
		for _, m := range somePoints[:10] {
			count := 0
			for _, f := range list {
				if holds(f, m, 3) {
					count++
				}
			}
			one, _ := impl.EvalBounded(all, pointOf(m), 3)
			two, _ := impl.EvalBounded(some, pointOf(m), 3)
			if !ok || !also || one != (count == len(list)) || two != (count > 0) {
				t.Errorf("JoinAll and JoinAny of %v: %v, %v in %v", list, one, two, m)
			}
		}
	}
}

func TestJoinsInvalid(t *testing.T) {
	good := impl.Formula{Kind: 1}
	for _, x := range joins {
		for _, bad := range badFormulas() {
			for _, list := range [][]impl.Formula{{bad}, {bad, good}, {good, bad}, {good, bad, good}, {good, good, good, bad}, {bad, bad}} {
				got, ok := x.join(list)
				wantNoForm(t, x.name+" of a bad formula", got, ok)
			}
		}
		for count := range 305 {
			list := slices.Repeat([]impl.Formula{{Kind: 2}}, count)
			if got, ok := x.join(list); ok != (count <= 300) || !ok && !sameTree(got, impl.Formula{}) {
				t.Errorf("%s of %d formulas: %v", x.name, count, ok)
			}
		}
		for _, count := range []int{599, 600, 601, 602, 1000000} {
			got, ok := x.join(make([]impl.Formula, count))
			wantNoForm(t, x.name+" of a long list", got, ok)
		}
		for _, f := range justFit() {
			got, ok := x.join([]impl.Formula{f})
			wantForm(t, x.name+" of 600 nodes", got, ok, f)
			got, ok = x.join([]impl.Formula{f, good})
			wantNoForm(t, x.name+" of too many nodes", got, ok)
		}
		one := wrapped(impl.Formula{}, 299, notForm)
		got, ok := x.join([]impl.Formula{one, one})
		wantNoForm(t, x.name+" of 601 nodes", got, ok)
		got, ok = x.join([]impl.Formula{one, one.Subs[0]})
		wantForm(t, x.name+" of 600 nodes", got, ok, pairForm(x.kind, one, one.Subs[0]))
	}
}

// TestJoinsMemory looks whether joined formulas share memory with the arguments or with each other, and whether these are left as they are.
func TestJoinsMemory(t *testing.T) {
	for _, x := range joins {
		common := []impl.Formula{{Kind: 2}, {Kind: 9}}[:1]
		twice := pairForm(4, impl.Formula{Kind: 3, Subs: common}, impl.Formula{Kind: 3, Subs: common})
		spare := []impl.Formula{twice, twice, twice, {Kind: 8}, {Kind: 9}}
		for count := 1; count <= 3; count++ {
			list := spare[:count]
			first, ok := x.join(list)
			second, also := x.join(list)
			if !ok || !also {
				t.Errorf("%s refuses parts with common memory", x.name)
			}
			wantFresh(t, x.name+" of common memory", list, first.Subs, second.Subs)
		}
		if spare[3].Kind != 8 || spare[4].Kind != 9 || common[:2][1].Kind != 9 || common[0].Kind != 2 {
			t.Errorf("%s wrote beyond the length of its argument", x.name)
		}
	}
}

// TestFormulasUnchanged calls the functions and looks whether their arguments are left as they are.
func TestFormulasUnchanged(t *testing.T) {
	for _, f := range every(someFormulas(), 11) {
		before := copyOf(f)
		impl.FormulaValid(f)
		impl.FormatFormula(f)
		impl.NodeCount(f)
		impl.NestedCount(f)
		impl.FreeVars(f)
		impl.IsOpen(f)
		impl.EvalOpen(f, impl.Point{})
		impl.EvalBounded(f, impl.Point{}, 2)
		impl.SameFormula(f, f)
		impl.AtomsOf(f)
		impl.JoinAll([]impl.Formula{f, f})
		impl.JoinAny([]impl.Formula{f, f})
		if !sameTree(f, before) {
			t.Errorf("%s was changed to %v", slowText(before), f)
		}
	}
}
