package tests

import (
	"math"
	"regexp"
	"slices"
	"strconv"
	"strings"
	"testing"

	"loop.example/presburger/impl"
)

// badKinds are numbers of no kind of atoms.
var badKinds = append([]int{-2, -1, 4, 5}, extremes...)

// goodMods returns moduli that are valid for a kind.
func goodMods(kind int) []int {
	if kind < 2 {
		return []int{0}
	}
	return []int{1, 2, 3, 4, 6, 7, 12, 60, 99, 100}
}

// badMods returns moduli that are not valid for a kind.
func badMods(kind int) []int {
	if kind < 2 {
		return append([]int{-100, -1, 1, 2, 100, 101}, extremes...)
	}
	return append([]int{-100, -2, -1, 0, 101, 102, 200}, extremes...)
}

// badAtoms are atoms of which one part is not valid, and some that are not in all parts.
func badAtoms() []impl.Atom {
	term := impl.Term{A: 2, N: -4}
	var list []impl.Atom
	for _, kind := range badKinds {
		list = append(list, impl.Atom{Kind: kind}, impl.Atom{Kind: kind, Term: term}, impl.Atom{Kind: kind, Mod: 2, Term: term}, impl.Atom{Kind: kind, Mod: kind, Term: impl.Term{A: kind, N: kind}})
	}
	for kind := range 4 {
		for _, mod := range badMods(kind) {
			list = append(list, impl.Atom{Kind: kind, Mod: mod}, impl.Atom{Kind: kind, Mod: mod, Term: term})
		}
		for _, bad := range badTerms() {
			list = append(list, impl.Atom{Kind: kind, Mod: goodMods(kind)[0], Term: bad})
		}
	}
	return list
}

// someAtoms returns valid atoms of all kinds about small terms and those at the limits.
func someAtoms() []impl.Atom {
	var list []impl.Atom
	for kind := range 4 {
		for i, mod := range goodMods(kind) {
			for _, x := range someTerms()[i:] {
				list = append(list, impl.Atom{Kind: kind, Mod: mod, Term: x})
			}
		}
	}
	return list
}

// smallAtoms returns atoms about two variables, whose truth is seen in small points.
func smallAtoms() []impl.Atom {
	var list []impl.Atom
	for kind := range 4 {
		for _, mod := range goodMods(kind) {
			if mod > 12 {
				continue
			}
			for _, k := range []int{-6, -4, -3, -2, -1, 0, 1, 2, 4, 6} {
				for _, m := range []int{-6, -3, -2, 0, 1, 2, 4, 5} {
					for _, n := range []int{-13, -12, -9, -7, -4, -3, -2, -1, 0, 1, 2, 3, 4, 5, 6, 11, 12} {
						list = append(list, impl.Atom{Kind: kind, Mod: mod, Term: impl.Term{B: k, D: m, N: n}})
					}
				}
			}
		}
	}
	return list
}

func atomOf(t *testing.T, s string) impl.Atom {
	t.Helper()
	a, ok := impl.ParseAtom(s)
	if !ok {
		t.Errorf("ParseAtom(%q) = %v, %v", s, a, ok)
	}
	return a
}

func wantAtom(t *testing.T, what string, got impl.Atom, ok bool, want impl.Atom) {
	t.Helper()
	if got != want || !ok {
		t.Errorf("%s = %v, %v, want %v", what, got, ok, want)
	}
}

func wantNoAtom(t *testing.T, what string, got impl.Atom, ok bool) {
	t.Helper()
	if got != (impl.Atom{}) || ok {
		t.Errorf("%s = %v, %v, want no atom", what, got, ok)
	}
}

func wantAtoms(t *testing.T, what string, got []impl.Atom, ok bool, want []impl.Atom) {
	t.Helper()
	if !slices.Equal(got, want) || !ok {
		t.Errorf("%s = %v, %v, want %v", what, got, ok, want)
	}
}

func wantNoAtoms(t *testing.T, what string, got []impl.Atom, ok bool) {
	t.Helper()
	if len(got) != 0 || ok {
		t.Errorf("%s = %v, %v, want no atoms", what, got, ok)
	}
}

// tells reports whether an atom is true of values of any size, as the document says it.
func tells(a impl.Atom, values [4]int) bool {
	n := a.Term.A*values[0] + a.Term.B*values[1] + a.Term.C*values[2] + a.Term.D*values[3] + a.Term.N
	switch a.Kind {
	case 0:
		return n <= 0
	case 1:
		return n == 0
	case 2:
		return n%a.Mod == 0
	}
	return n%a.Mod != 0
}

// somePoints are values near 0, and values far greater than those of a point.
var somePoints = [][4]int{
	{}, {1}, {0, 1}, {0, 0, 1}, {0, 0, 0, 1}, {1, 1, 1, 1}, {2, 1, 0, 5}, {3, 7, 2, 4}, {5, 3, 8, 1}, {12, 11, 6, 9}, {100, 0, 100, 1},
	{999, 1000, 998, 997}, {1000, 1000, 1000, 1000}, {0, 5000, 0, 0}, {1000003}, {0, 1000003}, {0, 0, 1000003}, {0, 0, 0, 1000003},
	{123456, 7, 654321, 8}, {5, 123457, 4, 654323}, {1000000, 1000000, 1000000, 1000000}, {1, 10001, 1, 10001}, {10001, 0, 10001, 3},
}

func TestAtomConstants(t *testing.T) {
	if impl.AtomMost != 0 || impl.AtomZero != 1 || impl.AtomDivides != 2 || impl.AtomNot != 3 || impl.MaxMod != 100 {
		t.Error("the constants are not those of the document")
	}
}

func TestAtomValid(t *testing.T) {
	for _, a := range someAtoms() {
		if !impl.AtomValid(a) {
			t.Errorf("AtomValid(%v) = false", a)
		}
	}
	for mod := 1; mod <= 100; mod++ {
		if !impl.AtomValid(impl.Atom{Kind: 2, Mod: mod}) || !impl.AtomValid(impl.Atom{Kind: 3, Mod: mod}) {
			t.Errorf("an atom with Mod %d is not valid", mod)
		}
	}
	for _, a := range badAtoms() {
		if impl.AtomValid(a) {
			t.Errorf("AtomValid(%v) = true", a)
		}
	}
}

// atomTexts are atoms and their texts as the document defines them.
var atomTexts = []struct {
	text string
	atom impl.Atom
}{
	{"0<=0", impl.Atom{}},
	{"1<=0", impl.Atom{Term: impl.Term{N: 1}}},
	{"2a-b<=0", impl.Atom{Term: impl.Term{A: 2, B: -1}}},
	{"4a-6b+3<=0", impl.Atom{Term: impl.Term{A: 4, B: -6, N: 3}}},
	{"-a+10<=0", impl.Atom{Term: impl.Term{A: -1, N: 10}}},
	{"0=0", impl.Atom{Kind: 1}},
	{"-10000=0", impl.Atom{Kind: 1, Term: impl.Term{N: -10000}}},
	{"a-3=0", impl.Atom{Kind: 1, Term: impl.Term{A: 1, N: -3}}},
	{"1|0", impl.Atom{Kind: 2, Mod: 1}},
	{"3|a+1", impl.Atom{Kind: 2, Mod: 3, Term: impl.Term{A: 1, N: 1}}},
	{"10|-d", impl.Atom{Kind: 2, Mod: 10, Term: impl.Term{D: -1}}},
	{"99|5", impl.Atom{Kind: 2, Mod: 99, Term: impl.Term{N: 5}}},
	{"100|100a-100b+100c-100d+10000", impl.Atom{Kind: 2, Mod: 100, Term: impl.Term{A: 100, B: -100, C: 100, D: -100, N: 10000}}},
	{"1!0", impl.Atom{Kind: 3, Mod: 1}},
	{"3!a+1", impl.Atom{Kind: 3, Mod: 3, Term: impl.Term{A: 1, N: 1}}},
	{"100!-1", impl.Atom{Kind: 3, Mod: 100, Term: impl.Term{N: -1}}},
}

func TestAtomTexts(t *testing.T) {
	for _, x := range atomTexts {
		if got := impl.FormatAtom(x.atom); got != x.text {
			t.Errorf("FormatAtom(%v) = %q, want %q", x.atom, got, x.text)
		}
		got, ok := impl.ParseAtom(x.text)
		wantAtom(t, "ParseAtom "+x.text, got, ok, x.atom)
	}
	for _, a := range badAtoms() {
		if got := impl.FormatAtom(a); got != "" {
			t.Errorf("FormatAtom(%v) = %q", a, got)
		}
	}
}

func TestParseAtomRoundTrip(t *testing.T) {
	seen := map[string]impl.Atom{}
	for _, a := range someAtoms() {
		text := impl.FormatAtom(a)
		if other, found := seen[text]; found && other != a {
			t.Errorf("%v and %v have the text %q", a, other, text)
		}
		seen[text] = a
		if !isAtomText(text) {
			t.Errorf("FormatAtom(%v) = %q", a, text)
		}
		got, ok := impl.ParseAtom(text)
		wantAtom(t, "ParseAtom "+text, got, ok, a)
	}
}

var divisorText = regexp.MustCompile(`\A([1-9]|[1-9][0-9]|100)[|!]`)

// isAtomText tells the texts of atoms in another way than the program does.
func isAtomText(s string) bool {
	if found := divisorText.FindString(s); found != "" {
		return isTermText(s[len(found):])
	}
	equal := strings.IndexByte(s, '=')
	return equal >= 0 && s[equal:] == "=0" && (isTermText(s[:equal]) || strings.HasSuffix(s[:equal], "<") && isTermText(s[:equal-1]))
}

func TestParseAtomInvalid(t *testing.T) {
	texts := []string{
		"", "a", "0", "a<0", "a<=", "a<=1", "a>=0", "a=>0", "a==0", "a=1", "a=", "<=0", "=0", "0=", "0<=a", "a=a", "a<=-0", "a=00", "a<=00", "a<= 0", "a <=0", " a=0", "a=0 ", "a=0\n", "a\n=0",
		"a<=0<=0", "a=0=0", "a<=0=0", "a=0<=0", "0=0<=0", "a!=0", "a|=0", "a-3=0;", "b+a=0", "1a=0", "01=0", "-0=0", "101a<=0", "10001<=0", "-10001=0",
		"|", "!", "3|", "3!", "|a", "!a", "0|a", "0!a", "-1|a", "-3|a", "+3|a", "+3!a", "03|a", "003!a", "00|a", "101|a", "101!a", "1000|a", "3|a|b", "3!a!b", "3|a!b", "3!a|b", "3||a", "3!!a", "3!|a", "3|!a",
		"3|a=0", "3|a<=0", "3!a=0", "3|03", "3 |a", "3| a", " 3|a", "3|a ", "3|b+a", "3|1a", "3|-0", "3|+a", "3|101a", "3|10001", "a|3", "a|b", "a!3", "2a|3", "3\\a", "3/a", "3:a", "3%a", "3\xff|a", "3|a\xff", "3|a\x00",
		"9223372036854775807|a", "9223372036854775808|a", "18446744073709551617|a", "4294967299|a", "-9223372036854775808!a", "3.0|a", "0x3|a", "3e0|a", "1_0|a", "\u0663|a", "3\u2223a", "a\u22640",
	}
	for _, s := range texts {
		got, ok := impl.ParseAtom(s)
		wantNoAtom(t, "ParseAtom "+s, got, ok)
	}
	for _, long := range []string{"a", "1", "0", "<=0", "=0", "|", "!", "3|", "a=0", "9|a", "\xff"} {
		for _, s := range []string{strings.Repeat(long, 50000), strings.Repeat(long, 50000) + "=0", "3|" + strings.Repeat(long, 50000)} {
			got, ok := impl.ParseAtom(s)
			wantNoAtom(t, "ParseAtom of a long text", got, ok)
		}
	}
}

func TestParseAtomNearly(t *testing.T) {
	accepted := 0
	check := func(s string) {
		got, ok := impl.ParseAtom(s)
		if ok != isAtomText(s) {
			t.Errorf("ParseAtom(%q) = %v, %v", s, got, ok)
		}
		if ok && impl.FormatAtom(got) != s {
			t.Errorf("ParseAtom(%q) = %v, which has the text %q", s, got, impl.FormatAtom(got))
		}
		if !ok && got != (impl.Atom{}) {
			t.Errorf("ParseAtom(%q) = %v, false", s, got)
		}
		if ok {
			accepted++
		}
	}
	for _, x := range atomTexts {
		for _, s := range nearly(x.text) {
			check(s)
		}
		for i := range len(x.text) + 1 {
			for _, c := range []string{"<", "=", "|", "!", "<=0", "=0", "3|", "<=", ">"} {
				check(x.text[:i] + c + x.text[i:])
				if i < len(x.text) {
					check(x.text[:i] + c + x.text[i+1:])
				}
			}
		}
	}
	if accepted == 0 {
		t.Error("none of the nearby texts is that of an atom")
	}
}

func TestEvalAtom(t *testing.T) {
	cases := []struct {
		text string
		want bool
	}{ // in the point where a is 3, b is 2, c is 1000, and d is 0
		{"a-3<=0", true}, {"a-2<=0", false}, {"a-4<=0", true}, {"a-b-1=0", true}, {"a-b=0", false}, {"a-b-2=0", false}, {"-a+b<=0", true}, {"c-1000=0", true}, {"d=0", true}, {"d+1<=0", false},
		{"2|a+b", false}, {"2!a+b", true}, {"3|a-6", true}, {"3!a-6", false}, {"3|-a", true}, {"3|-a+b", false}, {"5|-a-b", true}, {"2|-a", false}, {"2!-a", true}, {"7|-c-1", true}, {"1|a", true}, {"1!a", false},
		{"1|0", true}, {"100|c", true}, {"100!c+1", true}, {"100|0", true}, {"100!0", false}, {"5|-10000", true}, {"5|-9999", false}, {"5!-9999", true},
		{"100a+100b+100c+10000<=0", false}, {"-100a-100b-100c-100d-10000<=0", true}, {"0<=0", true}, {"1<=0", false}, {"-1<=0", true}, {"0=0", true}, {"1=0", false}, {"-1=0", false},
	}
	for _, x := range cases {
		a := atomOf(t, x.text)
		if got, ok := impl.EvalAtom(a, impl.Point{A: 3, B: 2, C: 1000}); got != x.want || !ok {
			t.Errorf("EvalAtom(%s) = %v, %v", x.text, got, ok)
		}
	}
	for _, a := range every(someAtoms(), 7) {
		for _, m := range somePoints {
			p := pointOf(m)
			valid := slices.Max(m[:]) <= 1000
			if got, ok := impl.EvalAtom(a, p); ok != valid || got != (valid && tells(a, m)) {
				t.Errorf("EvalAtom(%s, %v) = %v, %v", impl.FormatAtom(a), p, got, ok)
			}
		}
	}
}

func TestEvalAtomInvalid(t *testing.T) {
	for _, a := range badAtoms() {
		if got, ok := impl.EvalAtom(a, impl.Point{A: 1}); got || ok {
			t.Errorf("EvalAtom(%v) = %v, %v", a, got, ok)
		}
	}
	for _, p := range badPoints() {
		for _, s := range []string{"0<=0", "0=0", "1|0", "2!1"} { // atoms that are true in every point
			if got, ok := impl.EvalAtom(atomOf(t, s), p); got || ok {
				t.Errorf("EvalAtom(%s, %v) = %v, %v", s, p, got, ok)
			}
		}
	}
}

// joined returns the texts of atoms.
func joined(list []impl.Atom) string {
	var texts []string
	for _, a := range list {
		texts = append(texts, impl.FormatAtom(a))
	}
	return strings.Join(texts, ";")
}

func TestNegateAtomTexts(t *testing.T) {
	cases := map[string]string{
		"a-3<=0": "-a+4<=0", "2a-b<=0": "-2a+b+1<=0", "0<=0": "1<=0", "1<=0": "0<=0", "-a-b-c-d<=0": "a+b+c+d+1<=0", "10000<=0": "-9999<=0", "-9999<=0": "10000<=0",
		"a-3=0": "a-2<=0;-a+4<=0", "0=0": "1<=0;1<=0", "-2a+c+7=0": "-2a+c+8<=0;2a-c-6<=0", "9999=0": "10000<=0;-9998<=0", "-9999=0": "-9998<=0;10000<=0", "100a-100d=0": "100a-100d+1<=0;-100a+100d+1<=0",
		"2|a": "2!a", "2!a": "2|a", "1|0": "1!0", "1!0": "1|0", "100|-a-10000": "100!-a-10000", "100!10000": "100|10000",
	}
	for s, want := range cases {
		got, ok := impl.NegateAtom(atomOf(t, s))
		if joined(got) != want || !ok {
			t.Errorf("NegateAtom(%s) = %s, %v, want %s", s, joined(got), ok, want)
		}
	}
	for _, s := range []string{"-10000<=0", "a-10000<=0", "-10000=0", "10000=0", "a+10000=0", "-d-10000=0"} {
		got, ok := impl.NegateAtom(atomOf(t, s))
		wantNoAtoms(t, "NegateAtom of "+s, got, ok)
	}
}

func TestNegateAtom(t *testing.T) {
	for _, a := range every(someAtoms(), 5) {
		list, ok := impl.NegateAtom(a)
		beyond := a.Kind == 0 && a.Term.N == -10000 || a.Kind == 1 && (a.Term.N == 10000 || a.Term.N == -10000)
		if beyond {
			wantNoAtoms(t, "NegateAtom of "+impl.FormatAtom(a), list, ok)
			continue
		}
		count := 1
		if a.Kind == 1 {
			count = 2
		}
		if len(list) != count || !ok {
			t.Errorf("NegateAtom(%s) = %v, %v", impl.FormatAtom(a), list, ok)
			continue
		}
		for _, m := range somePoints {
			negated := tells(list[0], m) || tells(list[count-1], m)
			if !impl.AtomValid(list[0]) || !impl.AtomValid(list[count-1]) || negated == tells(a, m) {
				t.Errorf("NegateAtom(%s) = %s, in %v", impl.FormatAtom(a), joined(list), m)
			}
		}
	}
	for _, bad := range badAtoms() {
		list, ok := impl.NegateAtom(bad)
		wantNoAtoms(t, "NegateAtom of "+strconv.Itoa(bad.Kind), list, ok)
	}
}

func TestSplitZero(t *testing.T) {
	for _, x := range someTerms() {
		opposite, _ := combined(x, -1, x, 0)
		list, ok := impl.SplitZero(impl.Atom{Kind: 1, Term: x})
		wantAtoms(t, "SplitZero of "+impl.FormatTerm(x), list, ok, []impl.Atom{{Term: x}, {Term: opposite}})
	}
	for _, a := range every(someAtoms(), 11) {
		if a.Kind == 1 {
			continue
		}
		list, ok := impl.SplitZero(a)
		wantNoAtoms(t, "SplitZero of "+impl.FormatAtom(a), list, ok)
	}
	for _, bad := range badAtoms() {
		list, ok := impl.SplitZero(bad)
		wantNoAtoms(t, "SplitZero of an atom that is not valid", list, ok)
	}
}

func TestTruthAtom(t *testing.T) {
	if a := impl.TruthAtom(true); a != (impl.Atom{}) || impl.FormatAtom(a) != "0<=0" {
		t.Errorf("TruthAtom(true) = %v", a)
	}
	if a := impl.TruthAtom(false); a != (impl.Atom{Term: impl.Term{N: 1}}) || impl.FormatAtom(a) != "1<=0" {
		t.Errorf("TruthAtom(false) = %v", a)
	}
}

func TestTightenAtomTexts(t *testing.T) {
	cases := map[string]string{
		// rounding up, also of negative numbers
		"4a-6b+3<=0": "2a-3b+2<=0", "4a-6b-3<=0": "2a-3b-1<=0", "4a-6b+4<=0": "2a-3b+2<=0", "4a-6b-4<=0": "2a-3b-2<=0", "4a-6b+5<=0": "2a-3b+3<=0", "4a-6b-5<=0": "2a-3b-2<=0", "4a-6b+1<=0": "2a-3b+1<=0", "4a-6b-1<=0": "2a-3b<=0",
		"7a-1<=0": "a<=0", "7a-6<=0": "a<=0", "7a-7<=0": "a-1<=0", "7a-13<=0": "a-1<=0", "7a-14<=0": "a-2<=0", "-7a+1<=0": "-a+1<=0", "-7a+7<=0": "-a+1<=0", "-7a+8<=0": "-a+2<=0",
		"100a-9999<=0": "a-99<=0", "-100d+9901<=0": "-d+100<=0", "-100d+10000<=0": "-d+100<=0", "3b-10000<=0": "b-3333<=0", "-3b+10000<=0": "-b+3334<=0", "a-10000<=0": "a-10000<=0",
		// true, or never, of natural numbers
		"a<=0": "a<=0", "-a<=0": "0<=0", "a+1<=0": "1<=0", "a-1<=0": "a-1<=0", "-a+1<=0": "-a+1<=0", "-a-1<=0": "0<=0", "2a+1<=0": "1<=0", "-2a-1<=0": "0<=0", "2a-1<=0": "a<=0", "a+b<=0": "a+b<=0", "a+b+c+d+1<=0": "1<=0", "-a-b-c-d<=0": "0<=0", "-a-b-c-d+1<=0": "-a-b-c-d+1<=0",
		"a-b<=0": "a-b<=0", "a-b+1<=0": "a-b+1<=0", "a-b-1<=0": "a-b-1<=0", "-a+d+1<=0": "-a+d+1<=0", "3c+7<=0": "1<=0", "-3c-7<=0": "0<=0", "a+b+c-d+1<=0": "a+b+c-d+1<=0", "-a-b-c+d<=0": "-a-b-c+d<=0",
		// the coefficients are all 0
		"5<=0": "1<=0", "-5<=0": "0<=0", "0<=0": "0<=0", "1<=0": "1<=0", "10000<=0": "1<=0", "-10000<=0": "0<=0", "0=0": "0<=0", "1=0": "1<=0", "-1=0": "1<=0", "7=0": "1<=0", "-10000=0": "1<=0",
		"5|7": "1<=0", "5|10": "0<=0", "5|0": "0<=0", "5!7": "0<=0", "5!10": "1<=0", "5!0": "1<=0", "5|-7": "1<=0", "5|-10": "0<=0", "5!-10": "1<=0", "5|5a-10": "0<=0", "5!5a-10b+5": "1<=0", "5|5a+1": "1<=0", "5!5a+1": "0<=0",
		// signs
		"-2a+4b-6=0": "a-2b+3=0", "2a-4b+6=0": "a-2b+3=0", "-a=0": "a=0", "a=0": "a=0", "-b+c=0": "b-c=0", "b-c=0": "b-c=0", "-d+9=0": "d-9=0", "d-9=0": "d-9=0", "-3c+d-1=0": "3c-d+1=0", "-a-b+5=0": "a+b-5=0", "-100d+10000=0": "d-100=0", "100d+10000=0": "1<=0",
		"2a-1=0": "1<=0", "2a+1=0": "1<=0", "-2a+4b-5=0": "1<=0", "a+b+1=0": "1<=0", "-a-1=0": "1<=0", "-a-b-c-d-1=0": "1<=0", "-6a-12b-18=0": "1<=0", "6a+12b-18=0": "a+2b-3=0", "2a+3b-1=0": "2a+3b-1=0", "a+b=0": "a+b=0", "-a-b=0": "a+b=0",
		"6a-9d-3=0": "2a-3d-1=0", "-6a+9d-4=0": "1<=0", "3=0": "1<=0",
		// moduli
		"6|4a+2": "3|2a+1", "6|4a+1": "1<=0", "6!4a+2": "3!2a+1", "6!4a+1": "0<=0", "4|-a+9": "4|3a+1", "4!-a+9": "4!3a+1", "1|a": "0<=0", "1!a": "1<=0", "1|0": "0<=0", "1!0": "1<=0", "1|-7a+d-1": "0<=0", "1!-7a+d-1": "1<=0",
		"7|a": "7|a", "7|8a-7b+15": "7|a+1", "7!-8a": "7!6a", "12|8a+6b+4": "6|4a+3b+2", "12|8a+6b+3": "1<=0", "12|-4a-8": "3|2a+1", "12|3a-9b+6": "4|a+b+2", "100|100a+50b": "2|b", "100|100a-100b+100c-100d+10000": "0<=0", "100|100a-100b+100c-100d+9999": "1<=0", "100!100a+9999": "0<=0",
		"100|a": "100|a", "100|-a-1": "100|99a+99", "100|99d-10000": "100|99d", "99|98c+9999": "99|98c", "100!50a+50": "2!a+1", "3|3a+b": "3|b", "2|2a+4b+1": "1<=0", "2!2a+4b+1": "0<=0", "60|20a+30b+50": "6|2a+3b+5", "97|-96a+96": "97|a+96",
	}
	for s, want := range cases {
		got, ok := impl.TightenAtom(atomOf(t, s))
		if impl.FormatAtom(got) != want || !ok {
			t.Errorf("TightenAtom(%s) = %s, %v, want %s", s, impl.FormatAtom(got), ok, want)
		}
	}
}

// slowTight follows the document's rules by trying numbers instead of calculating them.
func slowTight(a impl.Atom) impl.Atom {
	if a.Kind < 2 {
		return slowTightSum(a)
	}
	m := numbersOf(a.Term)
	h := a.Mod
	for i := range m {
		for m[i] < 0 {
			m[i] += a.Mod
		}
		for m[i] >= a.Mod {
			m[i] -= a.Mod
		}
	}
	for a.Mod%h != 0 || m[0]%h != 0 || m[1]%h != 0 || m[2]%h != 0 || m[3]%h != 0 {
		h--
	}
	if m[4]%h != 0 {
		return impl.TruthAtom(a.Kind == 3)
	}
	if h == a.Mod {
		return impl.TruthAtom(a.Kind == 2)
	}
	for i := range m {
		m[i] /= h
	}
	return impl.Atom{Kind: a.Kind, Mod: a.Mod / h, Term: termOf(m)}
}

func slowTightSum(a impl.Atom) impl.Atom {
	m := numbersOf(a.Term)
	g := slowContent(a.Term)
	if a.Kind == 1 {
		if g == 0 || m[4]%g != 0 {
			return impl.TruthAtom(m == [5]int{})
		}
		for i := range m { // the first that is not 0 decides, and the number is not first here
			if m[i] < 0 {
				for j := range m {
					m[j] = -m[j]
				}
			}
			if m[i] != 0 {
				break
			}
		}
	}
	if g != 0 {
		rounded := -10000
		for rounded*g < m[4] {
			rounded++
		}
		m = [5]int{m[0] / g, m[1] / g, m[2] / g, m[3] / g, rounded}
	}
	if slices.Min(m[:4]) >= 0 && m[4] > 0 {
		return impl.TruthAtom(false)
	}
	if a.Kind == 0 && slices.Max(m[:4]) <= 0 && m[4] <= 0 {
		return impl.TruthAtom(true)
	}
	return impl.Atom{Kind: a.Kind, Term: termOf(m)}
}

func TestTightenAtom(t *testing.T) {
	for _, a := range append(every(someAtoms(), 3), smallAtoms()...) {
		got, ok := impl.TightenAtom(a)
		wantAtom(t, "TightenAtom of "+impl.FormatAtom(a), got, ok, slowTight(a))
		again, ok := impl.TightenAtom(got)
		wantAtom(t, "TightenAtom of the tightened "+impl.FormatAtom(got), again, ok, got)
	}
	for _, bad := range badAtoms() {
		got, ok := impl.TightenAtom(bad)
		wantNoAtom(t, "TightenAtom", got, ok)
	}
}

// TestTightenedTruth is the first half of P2: a tightened atom is true in the same points.
func TestTightenedTruth(t *testing.T) {
	for _, a := range append(every(someAtoms(), 3), smallAtoms()...) {
		tight, _ := impl.TightenAtom(a)
		if !impl.AtomValid(tight) {
			t.Errorf("TightenAtom(%s) = %v is not valid", impl.FormatAtom(a), tight)
			continue
		}
		for _, m := range somePoints {
			if tells(a, m) != tells(tight, m) {
				t.Errorf("TightenAtom(%s) = %s differs in %v", impl.FormatAtom(a), impl.FormatAtom(tight), m)
			}
		}
	}
	for _, a := range smallAtoms() {
		tight, _ := impl.TightenAtom(a)
		for b := range 14 {
			for d := range 14 {
				m := [4]int{7, b, 8, d}
				if tells(a, m) != tells(tight, m) {
					t.Errorf("TightenAtom(%s) = %s differs in %v", impl.FormatAtom(a), impl.FormatAtom(tight), m)
				}
			}
		}
	}
}

// TestTightenedMultiples is the second half of P2: atoms that are multiples of each other are tightened to the same.
func TestTightenedMultiples(t *testing.T) {
	compared := 0
	for _, a := range append(every(someAtoms(), 3), smallAtoms()...) {
		want, _ := impl.TightenAtom(a)
		for _, k := range []int{1, 2, 3, 5, 7, 12, 50, 100} {
			b, ok := impl.ScaleAtom(a, k)
			if !ok {
				continue
			}
			compared++
			got, ok := impl.TightenAtom(b)
			wantAtom(t, "TightenAtom of "+impl.FormatAtom(b), got, ok, want)
			if b.Kind == 1 {
				b.Term, _ = impl.ScaleTerm(b.Term, -1)
				got, ok = impl.TightenAtom(b)
				wantAtom(t, "TightenAtom of "+impl.FormatAtom(b), got, ok, want)
			}
			if b.Kind >= 2 { // Mod may be added to any number of the term
				b.Term, ok = impl.AddTerms(b.Term, impl.Term{A: b.Mod, B: -b.Mod, D: b.Mod, N: -3 * b.Mod})
				if got, _ = impl.TightenAtom(b); ok && got != want {
					t.Errorf("TightenAtom(%s) = %s, want %s", impl.FormatAtom(b), impl.FormatAtom(got), impl.FormatAtom(want))
				}
			}
		}
	}
	if compared < 10000 {
		t.Errorf("only %d multiples were compared", compared)
	}
}

func TestTrivialAtom(t *testing.T) {
	cases := map[string]int{
		"-a<=0": 1, "a+1<=0": 0, "a-1<=0": -1, "a<=0": -1, "0<=0": 1, "1<=0": 0, "-5<=0": 1, "5<=0": 0, "-a+1<=0": -1, "-2a-1<=0": 1, "2a+1<=0": 0, "a-b<=0": -1,
		"0=0": 1, "3=0": 0, "-3=0": 0, "a=0": -1, "a+1=0": 0, "-a-1=0": 0, "2a-1=0": 0, "2a-2=0": -1, "2a+3b-1=0": -1,
		"1|a": 1, "1!a": 0, "6|4a+1": 0, "6!4a+1": 1, "6|4a+2": -1, "6!4a+2": -1, "5|10": 1, "5!10": 0, "5|11": 0, "5!11": 1, "100|100a": 1, "100!a": -1,
	}
	for s, want := range cases {
		if got := impl.TrivialAtom(atomOf(t, s)); got != want {
			t.Errorf("TrivialAtom(%s) = %d, want %d", s, got, want)
		}
	}
	for _, bad := range badAtoms() {
		if got := impl.TrivialAtom(bad); got != -2 {
			t.Errorf("TrivialAtom(%v) = %d", bad, got)
		}
	}
}

// TestTrivialAtomTruth looks at all points with small values. They show whether
// an atom is always or never true, but for an equation that is never true for a
// reason that the document's rules do not see.
func TestTrivialAtomTruth(t *testing.T) {
	for _, a := range smallAtoms() {
		always, never := true, true
		for b := range 16 {
			for d := range 16 {
				truth := tells(a, [4]int{1, b, 1, d})
				always = always && truth
				never = never && !truth
			}
		}
		got := impl.TrivialAtom(a)
		want := -1
		if always {
			want = 1
		} else if never {
			want = 0
		}
		if got != want && !(a.Kind == 1 && got == -1 && never) {
			t.Errorf("TrivialAtom(%s) = %d, want %d", impl.FormatAtom(a), got, want)
		}
	}
}

func TestScaleAtom(t *testing.T) {
	for _, a := range every(someAtoms(), 3) {
		for _, k := range []int{1, 2, 3, 10, 50, 99, 100} {
			term, valid := combined(a.Term, k, a.Term, 0)
			got, ok := impl.ScaleAtom(a, k)
			if !valid || a.Mod*k > 100 {
				wantNoAtom(t, "ScaleAtom of "+impl.FormatAtom(a), got, ok)
				continue
			}
			wantAtom(t, "ScaleAtom of "+impl.FormatAtom(a), got, ok, impl.Atom{Kind: a.Kind, Mod: a.Mod * k, Term: term})
		}
	}
	cases := []struct {
		text string
		k    int
		want string
	}{
		{"3|a+1", 2, "6|2a+2"}, {"3!a+1", 2, "6!2a+2"}, {"2a-b+3<=0", 5, "10a-5b+15<=0"}, {"2a-b+3=0", 5, "10a-5b+15=0"}, {"0<=0", 100, "0<=0"}, {"100=0", 100, "10000=0"}, {"1|a", 100, "100|100a"}, {"50|0", 2, "100|0"}, {"100!-d", 1, "100!-d"},
		{"50a<=0", 2, "100a<=0"}, {"51a<=0", 2, ""}, {"-51d=0", 2, ""}, {"5000=0", 2, "10000=0"}, {"5001=0", 2, ""}, {"-5001<=0", 2, ""}, {"51|0", 2, ""}, {"51!0", 2, ""}, {"2|0", 100, ""}, {"34|a", 3, ""}, {"33|a", 3, "99|3a"}, {"101<=0", 100, ""},
	}
	for _, x := range cases {
		got, ok := impl.ScaleAtom(atomOf(t, x.text), x.k)
		if impl.FormatAtom(got) != x.want && x.want != "" || ok != (x.want != "") || !ok && got != (impl.Atom{}) {
			t.Errorf("ScaleAtom(%s, %d) = %v, %v, want %s", x.text, x.k, got, ok, x.want)
		}
	}
}

func TestScaleAtomInvalid(t *testing.T) {
	for _, s := range []string{"0<=0", "0=0", "1|0", "1!0", "a-1<=0"} {
		for _, k := range append([]int{-100, -2, -1, 0, 101, 102, 1000}, extremes...) {
			got, ok := impl.ScaleAtom(atomOf(t, s), k)
			wantNoAtom(t, "ScaleAtom of "+s, got, ok)
		}
	}
	for _, bad := range badAtoms() {
		for _, k := range append([]int{0, 1, 2, 100}, extremes...) {
			got, ok := impl.ScaleAtom(bad, k)
			wantNoAtom(t, "ScaleAtom of an atom that is not valid", got, ok)
		}
	}
}

func TestSubstAtom(t *testing.T) {
	terms := every(someTerms(), 97)
	for _, a := range every(someAtoms(), 97) {
		for _, u := range terms {
			for v := range 4 {
				term, valid := substituted(a.Term, v, u)
				got, ok := impl.SubstAtom(a, v, u)
				if !valid {
					wantNoAtom(t, "SubstAtom in "+impl.FormatAtom(a), got, ok)
					continue
				}
				wantAtom(t, "SubstAtom in "+impl.FormatAtom(a), got, ok, impl.Atom{Kind: a.Kind, Mod: a.Mod, Term: term})
			}
		}
	}
	cases := []struct {
		text, put, want string
		v               int
	}{
		{"2|a+c", "2b+1", "2|2b+c+1", 0}, {"2!a+c", "2b+1", "2!a+2b+1", 2}, {"2a-b+3<=0", "b+1", "b+5<=0", 0}, {"2a-b+3=0", "2a+3", "0=0", 1}, {"100|a", "0", "100|0", 0}, {"3|a", "7c", "3|a", 3}, {"a<=0", "-a", "-a<=0", 0},
	}
	for _, x := range cases {
		put, _ := impl.ParseTerm(x.put)
		got, ok := impl.SubstAtom(atomOf(t, x.text), x.v, put)
		if impl.FormatAtom(got) != x.want || !ok {
			t.Errorf("SubstAtom(%s, %d, %s) = %v, %v, want %s", x.text, x.v, x.put, got, ok, x.want)
		}
	}
}

func TestSubstAtomInvalid(t *testing.T) {
	for _, s := range []string{"2a<=0", "2a=0", "3|2a", "3!2a"} {
		a := atomOf(t, s)
		for _, v := range noVars {
			got, ok := impl.SubstAtom(a, v, impl.Term{B: 1})
			wantNoAtom(t, "SubstAtom of no variable in "+s, got, ok)
		}
		for v := range 4 {
			for _, bad := range badTerms() {
				got, ok := impl.SubstAtom(a, v, bad)
				wantNoAtom(t, "SubstAtom of a term that is not valid in "+s, got, ok)
			}
		}
		got, ok := impl.SubstAtom(a, 0, impl.Term{B: 51})
		wantNoAtom(t, "SubstAtom past MaxCoef in "+s, got, ok)
		got, ok = impl.SubstAtom(a, 0, impl.Term{N: -5001})
		wantNoAtom(t, "SubstAtom past MaxConst in "+s, got, ok)
		got, ok = impl.SubstAtom(a, 0, impl.Term{C: 50, N: -5000})
		wantAtom(t, "SubstAtom up to the limits in "+s, got, ok, impl.Atom{Kind: a.Kind, Mod: a.Mod, Term: impl.Term{C: 100, N: -10000}})
	}
	for _, bad := range badAtoms() {
		for v := range 4 {
			got, ok := impl.SubstAtom(bad, v, impl.Term{})
			wantNoAtom(t, "SubstAtom in an atom that is not valid", got, ok)
		}
	}
}

func TestAtomVars(t *testing.T) {
	for k := range 16 {
		for _, n := range append([]int{1, -1, 100, -101}, extremes...) {
			m := [5]int{4: 9}
			var want []int
			for v := range 4 {
				if k>>v&1 == 1 {
					m[v] = n
					want = append(want, v)
				}
			}
			for _, a := range []impl.Atom{{}, {Kind: 1}, {Kind: 2, Mod: 3}, {Kind: 3, Mod: 1}, {Kind: 2}, {Mod: 7}, {Kind: -1}, {Kind: math.MaxInt, Mod: math.MinInt}} {
				a.Term = termOf(m)
				if got := impl.AtomVars(a); !slices.Equal(got, want) {
					t.Errorf("AtomVars(%v) = %v, want %v", a, got, want)
				}
			}
		}
	}
}

// TestAtomListsAreNew overwrites one result, with its unused capacity, and looks at the other.
func TestAtomListsAreNew(t *testing.T) {
	for _, s := range []string{"a-3<=0", "a-3=0", "2|a", "2!a"} {
		a := atomOf(t, s)
		first, _ := impl.NegateAtom(a)
		second, _ := impl.NegateAtom(a)
		want := slices.Clone(second)
		for i := range first[:cap(first)] {
			first[:cap(first)][i] = impl.Atom{Kind: 77}
		}
		if !slices.Equal(second, want) {
			t.Errorf("results of NegateAtom(%s) share memory", s)
		}
	}
	a := atomOf(t, "a-b=0")
	first, _ := impl.SplitZero(a)
	second, _ := impl.SplitZero(a)
	vars, others := impl.AtomVars(a), impl.AtomVars(a)
	for i := range first[:cap(first)] {
		first[:cap(first)][i] = impl.Atom{Kind: 77}
	}
	for i := range vars[:cap(vars)] {
		vars[:cap(vars)][i] = 77
	}
	if joined(second) != "a-b<=0;-a+b<=0" || !slices.Equal(others, []int{0, 1}) {
		t.Error("results of SplitZero or AtomVars share memory")
	}
}

// TestHugeAtoms calls the functions with numbers up to the ends of an int in all places: none may panic.
func TestHugeAtoms(t *testing.T) {
	for _, n := range extremes {
		x := impl.Term{A: n, B: n, C: n, D: n, N: n}
		for _, kind := range append([]int{0, 1, 2, 3}, extremes...) {
			a := impl.Atom{Kind: kind, Mod: n, Term: x}
			_, one := impl.EvalAtom(a, impl.Point{A: n, B: n, C: n, D: n})
			_, two := impl.NegateAtom(a)
			_, three := impl.SplitZero(a)
			_, four := impl.TightenAtom(a)
			_, five := impl.ScaleAtom(a, n)
			_, six := impl.SubstAtom(a, n, x)
			if one || two || three || four || five || six || impl.TrivialAtom(a) != -2 || impl.FormatAtom(a) != "" {
				t.Errorf("%v was accepted", a)
			}
		}
	}
}
