package tests

import (
	"fmt"
	"runtime"
	"slices"
	"strings"
	"sync"
	"testing"
	"time"

	"loop.example/presburger/impl"
)

// systemIn makes the system of a text that is known to be one, without parsing more than its atoms.
func systemIn(t *testing.T, s string) []impl.Atom {
	t.Helper()
	if s == "-" {
		return nil
	}
	return atomsIn(t, s)
}

// slowSystemText is the text of a system as the document defines it.
func slowSystemText(list []impl.Atom) string {
	if len(list) == 0 {
		return "-"
	}
	return strings.ReplaceAll(joined(list), ";", " ")
}

// slowSystem tells whether atoms are a system.
func slowSystem(list []impl.Atom) bool {
	for _, a := range list {
		if a.Kind < 0 || a.Kind > 1 || !impl.AtomValid(a) {
			return false
		}
	}
	return len(list) <= 40
}

// hasEquation tells whether a system has an equation.
func hasEquation(list []impl.Atom) bool {
	return slices.ContainsFunc(list, func(a impl.Atom) bool { return a.Kind == 1 })
}

// slowResult is the system of named atoms, with whether it is one.
func slowResult(named []impl.Atom) ([]impl.Atom, bool) {
	for _, a := range named {
		if !impl.AtomValid(a) {
			return nil, false
		}
	}
	clean := slowClean(named)
	return clean, len(clean) <= 40
}

// slowSplitSystem follows the document's rules for SplitSystem.
func slowSplitSystem(list []impl.Atom) ([]impl.Atom, bool) {
	if !slowSystem(list) {
		return nil, false
	}
	var named []impl.Atom
	for _, a := range list {
		named = append(named, impl.Atom{Term: a.Term})
		if m := numbersOf(a.Term); a.Kind == 1 {
			named = append(named, impl.Atom{Term: termOf([5]int{-m[0], -m[1], -m[2], -m[3], -m[4]})})
		}
	}
	return slowResult(named)
}

// slowShadow follows the document's rules for the shadows, with the second one of two lists for the dark one.
func slowShadow(list []impl.Atom, v int, dark bool) ([]impl.Atom, bool) {
	if !slowSystem(list) || hasEquation(list) || v < 0 || v > 3 {
		return nil, false
	}
	natural := termWith(v, -1)
	var named []impl.Atom
	for _, a := range list {
		if numbersOf(a.Term)[v] == 0 {
			named = append(named, a)
		}
	}
	for _, lower := range append([]impl.Atom{{Term: natural}}, list...) {
		low := numbersOf(lower.Term)
		for _, upper := range list {
			high := numbersOf(upper.Term)
			if low[v] >= 0 || high[v] <= 0 {
				continue
			}
			var sum [5]int
			for i := range sum {
				sum[i] = high[v]*low[i] - low[v]*high[i]
			}
			if dark {
				sum[4] += (high[v] - 1) * (-low[v] - 1)
			}
			named = append(named, impl.Atom{Term: termOf(sum)})
		}
	}
	return slowResult(named)
}

// slowLast is the last of the shadows by all variables, with whether all of them are found.
func slowLast(list []impl.Atom, dark bool) ([]impl.Atom, bool) {
	ok := true
	for v := range 4 {
		if list, ok = slowShadow(list, v, dark); !ok {
			return nil, false
		}
	}
	return list, true
}

// slowTest follows the document's rules for ShadowTest.
func slowTest(list []impl.Atom) int {
	split, ok := slowSplitSystem(list)
	if !ok {
		return -1
	}
	if last, ok := slowLast(split, false); ok && joined(last) == "1<=0" {
		return 0
	}
	if last, ok := slowLast(split, true); ok && joined(last) != "1<=0" {
		return 1
	}
	return -1
}

// slowRange are the least and the greatest value of a variable with which a system without equations is true of values of any size, -1 if there are arbitrarily great ones, and whether there are any. It tries the numbers next to all bounds.
func slowRange(list []impl.Atom, v int, values [4]int) (int, int, bool) {
	tries := []int{0}
	bounded := false
	values[v] = 0
	for _, a := range list {
		m := numbersOf(a.Term)
		if m[v] == 0 {
			continue
		}
		bounded = bounded || m[v] > 0
		middle := -(m[0]*values[0] + m[1]*values[1] + m[2]*values[2] + m[3]*values[3] + m[4]) / m[v]
		for n := max(0, middle-2); n <= middle+2; n++ {
			tries = append(tries, n)
		}
	}
	var found []int
	for _, n := range tries {
		values[v] = n
		if allTell(list, values) {
			found = append(found, n)
		}
	}
	switch {
	case len(found) == 0:
		return 0, 0, false
	case !bounded:
		return slices.Min(found), -1, true
	}
	return slices.Min(found), slices.Max(found), true
}

// pointsTo are all values up to a last one.
func pointsTo(last int) [][4]int {
	var list [][4]int
	for d := range last + 1 {
		for c := range last + 1 {
			for b := range last + 1 {
				for a := range last + 1 {
					list = append(list, [4]int{a, b, c, d})
				}
			}
		}
	}
	return list
}

// slowLeastPoint is the first one of the points up to a bound in which a system is true, with whether there is one.
func slowLeastPoint(list []impl.Atom, bound int) (impl.Point, bool) {
	var first [4]int
	found := false
	for _, values := range pointsTo(bound) {
		if allTell(list, values) && (!found || slices.Compare(values[:], first[:]) < 0) {
			first, found = values, true
		}
	}
	return pointOf(first), found
}

// claimOfSystem is the formula that a system has a solution.
func claimOfSystem(list []impl.Atom) impl.Formula {
	f := impl.Formula{}
	for i, a := range list {
		if i == 0 {
			f = atomForm(a)
		} else {
			f = pairForm(4, f, atomForm(a))
		}
	}
	return boundForm(7, 0, boundForm(7, 1, boundForm(7, 2, boundForm(7, 3, f))))
}

// system makes a system of so many atoms, with coefficients up to a size, few of which are never true alone. One in so many atoms is an equation, or none for 0.
func (d *dice) system(count int, coef int, equations int) []impl.Atom {
	var list []impl.Atom
	for range count {
		var m [5]int
		for range 1 + d.roll(3) {
			m[d.roll(4)] = d.roll(2*coef+1) - coef
		}
		m[4] = d.roll(8*coef+1) - 5*coef
		a := impl.Atom{Term: termOf(m)}
		if equations > 0 && d.roll(equations) == 0 {
			v := d.roll(4)
			m[v], m[(v+1+d.roll(3))%4] = 1+d.roll(coef)*d.roll(2), -1-d.roll(coef)
			a = impl.Atom{Kind: 1, Term: termOf(m)}
		}
		if d.roll(20) > 0 && max(m[0], m[1], m[2], m[3]) > 0 && min(m[0], m[1], m[2], m[3]) >= 0 {
			a.Term.N = -max(m[4], -m[4])
		}
		list = append(list, a)
	}
	return list
}

// wedge makes a system with lower and upper bounds of a variable with coefficients from 2 on, which come near to each other, and some other atoms.
func (d *dice) wedge(v int, coef int) []impl.Atom {
	list := d.system(d.roll(2), coef, 0)
	for i := range 2 + d.roll(3) {
		var m [5]int
		for range d.roll(3) {
			m[d.roll(4)] = d.roll(2*coef+1) - coef
		}
		m[v] = 2 + d.roll(coef)
		m[4] = -d.roll(8 * coef)
		if i%2 == 0 {
			m[v], m[4] = -m[v], d.roll(3*coef)
		}
		list = append(list, impl.Atom{Term: termOf(m)})
	}
	return list
}

// splitSystems are systems without equations, about small and about great numbers.
func splitSystems() [][]impl.Atom {
	roll := dice(91)
	list := [][]impl.Atom{nil, {}, make([]impl.Atom, 1), make([]impl.Atom, 40), {{Term: impl.Term{N: 1}}}}
	for i := range 500 {
		list = append(list, roll.system(1+i%7, 1+i%4, 0))
	}
	for i := range 200 {
		list = append(list, roll.system(1+i%5, []int{12, 40, 100}[i%3], 0))
	}
	for i := range 30 {
		list = append(list, roll.system(8+i%33, 1+i%3, 0))
	}
	for i := range 300 {
		list = append(list, roll.wedge(i%4, []int{1, 2, 3, 5, 60}[i%5]))
	}
	return list
}

// someSystems are systems with and without equations.
func someSystems() [][]impl.Atom {
	roll := dice(92)
	list := [][]impl.Atom{{{Kind: 1}}, {{Kind: 1, Term: impl.Term{N: 1}}}, {{Kind: 1, Term: impl.Term{A: -100, B: 100, C: -100, D: 100, N: 10000}}}}
	for i := range 500 {
		list = append(list, roll.system(1+i%5, 1+i%4, 2))
	}
	for i := range 200 {
		list = append(list, roll.system(1+i%4, []int{12, 40, 100}[i%3], 2))
	}
	for i := range 60 {
		list = append(list, roll.system(10+i%31, 1+i%3, 1+i%3))
	}
	return append(list, splitSystems()...)
}

// badSystems are lists that are no systems, because of an atom in any place or because of their length.
func badSystems() [][]impl.Atom {
	var list [][]impl.Atom
	bad := slices.Concat(badAtoms(), []impl.Atom{
		{Kind: 2, Mod: 2}, {Kind: 3, Mod: 2}, {Kind: 2, Mod: 1}, {Kind: 3, Mod: 1}, {Kind: 2, Mod: 2, Term: impl.Term{A: 1}}, {Kind: 3, Mod: 100, Term: impl.Term{D: -7, N: 3}}, {Kind: 2, Mod: 3, Term: impl.Term{N: 1}},
	})
	for _, a := range bad {
		list = append(list, []impl.Atom{a})
	}
	for _, a := range append(every(bad, 11), bad[len(bad)-7:]...) {
		list = append(list, []impl.Atom{a, {}, {}}, []impl.Atom{{}, a, {}}, []impl.Atom{{}, {}, a}, append(make([]impl.Atom, 39), a), []impl.Atom{{Term: impl.Term{N: 1}}, a}, []impl.Atom{{Kind: 1, Term: impl.Term{A: 1, N: -3}}, a})
	}
	for _, count := range []int{41, 42, 80, 600, 601, 1000000} {
		list = append(list, make([]impl.Atom, count))
	}
	equations := make([]impl.Atom, 41)
	for i := range equations {
		equations[i] = impl.Atom{Kind: 1, Term: impl.Term{A: 1, B: -1}}
	}
	return append(list, equations)
}

// wantSystem looks whether a system is the one with a text, which is empty if there is none.
func wantSystem(t *testing.T, what string, got []impl.Atom, ok bool, want string) {
	t.Helper()
	if want == "" {
		wantNoAtoms(t, what, got, ok)
	} else if text := slowSystemText(got); text != want || !ok {
		t.Errorf("%s = %s, %v, want %s", what, text, ok, want)
	}
}

// wantSlow looks whether a system is the one that the document's rules give.
func wantSlow(t *testing.T, what string, got []impl.Atom, ok bool, want []impl.Atom, can bool) {
	t.Helper()
	if can {
		wantAtoms(t, what, got, ok, want)
	} else {
		wantNoAtoms(t, what, got, ok)
	}
}

// repeated is the text of count atoms, which a function makes of their numbers.
func repeated(count int, atom func(i int) string) string {
	var texts []string
	for i := range count {
		texts = append(texts, atom(i))
	}
	return strings.Join(texts, " ")
}

func TestSystemLimit(t *testing.T) {
	if impl.MaxSystem != 40 {
		t.Error("the limit is not that of the document")
	}
}

func TestSystemValid(t *testing.T) {
	for _, list := range someSystems() {
		if !impl.SystemValid(list) {
			t.Errorf("SystemValid(%s) = false", slowSystemText(list))
		}
	}
	for _, list := range badSystems() {
		if impl.SystemValid(list) {
			t.Errorf("SystemValid of %d atoms, with %v first, = true", len(list), list[0])
		}
	}
	if whole := make([]impl.Atom, 60); !impl.SystemValid(whole[:40]) || impl.SystemValid(whole[:41]) {
		t.Error("SystemValid does not tell just 40 atoms from one more")
	}
}

// systemTexts are texts of systems.
var systemTexts = []string{"-", "0<=0", "1<=0", "0=0", "-a<=0", "a-2b+1<=0 a+b-4=0", "a=0 a=0 a=0", "-100a-100b-100c-100d-10000<=0 100a+100b+100c+100d+10000=0", "2a-4<=0 0<=0 1=0", "a=0 b<=0 c=0 d<=0"}

func TestSystemTexts(t *testing.T) {
	for _, text := range systemTexts {
		list := systemIn(t, text)
		if got := impl.FormatSystem(list); got != text {
			t.Errorf("FormatSystem(%s) = %q", text, got)
		}
		got, ok := impl.ParseSystem(text)
		wantAtoms(t, "ParseSystem "+text, got, ok, list)
	}
	for _, list := range someSystems() {
		text := slowSystemText(list)
		if got := impl.FormatSystem(list); got != text {
			t.Errorf("FormatSystem(%s) = %q", text, got)
		}
		got, ok := impl.ParseSystem(text)
		wantAtoms(t, "ParseSystem "+text, got, ok, list)
	}
	for _, list := range badSystems() {
		if got := impl.FormatSystem(list); got != "" {
			t.Errorf("FormatSystem of %d atoms, with %v first, = %q", len(list), list[0], got)
		}
	}
}

func TestParseSystemInvalid(t *testing.T) {
	texts := []string{
		"", " ", "  ", "a", "0", "--", "- ", " -", "- -", "-\n", "- a<=0", "a<=0 -", "a<=0 - b<=0", "-0", "true", "false", "and a<=0 b<=0", "a<=0 / b<=0", "a<=0;b<=0", "a<=0,b<=0", "a<=0\tb<=0", "a<=0\nb<=0", "a<=0\n",
		" a<=0", "a<=0 ", "a<=0  b<=0", " a<=0 b<=0", "a<=0 b<=0 ", "a<=0   b=0", "a<=0b<=0", "a<=0 b", "a b<=0", "a<0", "a<=1", "a>=0", "a=1", "a<=0 b+a=0", "a<=0 01=0", "a<=0 101b=0", "10001<=0", "a<=0 \x00", "a<=0\x00", "\xff", "a<=0 \xff", "a<=0\u00a0b<=0", "a\u22640",
		"2|a", "2!a", "1|0", "1!0", "a<=0 2|a", "2|a a<=0", "a=0 3!b c=0", "100|100a", "a<=0 2|a b<=0",
	}
	for _, s := range texts {
		got, ok := impl.ParseSystem(s)
		wantNoAtoms(t, "ParseSystem "+s, got, ok)
	}
	same := func(int) string { return "a-7<=0" }
	different := func(i int) string { return fmt.Sprintf("%da-b+%d=0", i+2, i+1) }
	for _, atom := range []func(int) string{same, different} {
		got, ok := impl.ParseSystem(repeated(40, atom))
		wantSystem(t, "ParseSystem of 40 atoms", got, ok, repeated(40, atom))
		for _, s := range []string{repeated(41, atom), repeated(42, atom), repeated(80, atom), repeated(40, atom) + " ", repeated(40, atom) + " -", repeated(39, atom) + " 2|a", repeated(40, atom) + " 2|a"} {
			got, ok := impl.ParseSystem(s)
			wantNoAtoms(t, "ParseSystem of too much", got, ok)
		}
	}
	for _, long := range []string{"a", "0<=0 ", "- ", " ", "-", "a=0", "\xff", "a<=0 - "} {
		got, ok := impl.ParseSystem(strings.Repeat(long, 50000))
		wantNoAtoms(t, "ParseSystem of a long text", got, ok)
	}
}

// isSystemText tells the texts of systems in another way than the program does.
func isSystemText(s string) bool {
	words := strings.Split(s, " ")
	for _, word := range words {
		if !isAtomText(word) || strings.ContainsAny(word, "|!") {
			return s == "-"
		}
	}
	return len(words) <= 40
}

func TestParseSystemNearly(t *testing.T) {
	accepted := 0
	check := func(s string) {
		got, ok := impl.ParseSystem(s)
		if ok != isSystemText(s) {
			t.Errorf("ParseSystem(%q) = %v, %v", s, got, ok)
		}
		if ok && impl.FormatSystem(got) != s {
			t.Errorf("ParseSystem(%q) has the text %q", s, impl.FormatSystem(got))
		}
		if !ok && len(got) > 0 {
			t.Errorf("ParseSystem(%q) = %v, false", s, got)
		}
		if ok {
			accepted++
		}
	}
	for _, text := range systemTexts {
		for _, s := range nearly(text) {
			check(s)
		}
		for i := range len(text) + 1 {
			for _, c := range []string{" ", "  ", "-", " - ", "=0 ", "<=0 ", "<", "2|", "3!", "=0 b", " a<=0 "} {
				check(text[:i] + c + text[i:])
			}
		}
	}
	if accepted < 100 {
		t.Errorf("only %d of the nearby texts are those of systems", accepted)
	}
}

func TestSplitSystemTexts(t *testing.T) {
	cases := map[string]string{
		"-": "-", "0<=0": "-", "0=0": "-", "1<=0": "1<=0", "1=0": "1<=0", "-1=0": "1<=0", "-1<=0": "-", "-a<=0": "-",
		"a=0": "a<=0", "-a=0": "a<=0", "a-3=0": "a-3<=0 -a+3<=0", "-a+3=0": "-a+3<=0 a-3<=0", "a+3=0": "1<=0", "2a-5=0": "a-2<=0 -a+3<=0", "2a-4=0": "a-2<=0 -a+2<=0", "4a-6b+3=0": "2a-3b+2<=0 -2a+3b-1<=0",
		"a-2b+1<=0 a+b-4=0": "a-2b+1<=0 a+b-4<=0 -a-b+4<=0", "a+b-4=0 a-2b+1<=0": "a+b-4<=0 -a-b+4<=0 a-2b+1<=0", "a-b=0 b-5=0": "a-b<=0 -a+b<=0 b-5<=0 -b+5<=0", "a-b=0 -a+b=0": "a-b<=0 -a+b<=0", "a-b<=0 a-b=0": "a-b<=0 -a+b<=0", "-2a+2b<=0 a-b=0": "-a+b<=0 a-b<=0",
		"a-3=0 b+1=0": "1<=0", "1<=0 a-3=0": "1<=0", "2a-5<=0 4b+2c-7<=0": "a-2<=0 2b+c-3<=0", "10000=0": "1<=0", "100a-10000=0": "a-100<=0 -a+100<=0", "-100a-100b-100c-100d-10000=0": "1<=0", "99a-100b-10000=0": "99a-100b-10000<=0 -99a+100b+10000<=0",
		"2|a": "", "a=0 2!a": "", "3|0": "",
	}
	for text, want := range cases {
		got, ok := impl.SplitSystem(systemIn(t, text))
		wantSystem(t, "SplitSystem "+text, got, ok, want)
	}
	line := func(i int) string { return fmt.Sprintf("a-b-%d<=0", i+1) }
	equation := func(i int) string { return fmt.Sprintf("a-b-%d=0", i+1) }
	pair := func(i int) string { return fmt.Sprintf("a-b-%d<=0 -a+b+%d<=0", i+1, i+1) }
	same := func(int) string { return "a-b-1=0" }
	lists := map[string]string{
		repeated(40, line): repeated(40, line), repeated(41, line): "", repeated(20, equation): repeated(20, pair), repeated(21, equation): "", repeated(20, equation) + " a-b-1<=0": repeated(20, pair), repeated(20, equation) + " a-b-77<=0": "",
		repeated(40, same): "a-b-1<=0 -a+b+1<=0", repeated(41, same): "", repeated(39, equation) + " 1<=0": "1<=0", repeated(40, equation): "", repeated(20, equation) + " " + repeated(20, equation): repeated(20, pair),
	}
	for text, want := range lists {
		got, ok := impl.SplitSystem(systemIn(t, text))
		wantSystem(t, "SplitSystem "+text, got, ok, want)
	}
}

func TestSplitSystem(t *testing.T) {
	points := append(pointsTo(4), somePoints...)
	refused := 0
	for _, list := range someSystems() {
		got, ok := impl.SplitSystem(list)
		want, can := slowSplitSystem(list)
		wantSlow(t, "SplitSystem "+slowSystemText(list), got, ok, want, can)
		if !ok {
			refused++
			continue
		}
		if !impl.SystemValid(got) || hasEquation(got) {
			t.Errorf("SplitSystem(%s) = %s", slowSystemText(list), slowSystemText(got))
		}
		for _, values := range points {
			if allTell(list, values) != allTell(got, values) {
				t.Errorf("SplitSystem(%s) = %s is wrong in %v", slowSystemText(list), slowSystemText(got), values)
				break
			}
		}
	}
	if refused < 5 || refused > 40 {
		t.Errorf("%d systems are refused", refused)
	}
}

// solveTexts are systems with what SolveEquation returns for them; the text of the result is empty if there is none.
var solveTexts = []struct {
	text string
	want string
	v    int
	term string
}{
	{"a=0", "-", 0, "0"}, {"-a=0", "-", 0, "0"}, {"a-3=0", "-", 0, "3"}, {"-a+3=0", "-", 0, "3"}, {"a+3=0", "1<=0", 0, "-3"}, {"-a-3=0", "1<=0", 0, "-3"}, {"d-7=0", "-", 3, "7"},
	{"a-b=0", "-", 0, "b"}, {"a+b=0", "b<=0", 0, "-b"}, {"-a-b=0", "b<=0", 0, "-b"}, {"-a+b=0", "-", 0, "b"}, {"a-2b+1<=0 a+b-4=0", "b-4<=0 -b+2<=0", 0, "-b+4"}, {"a+b-4=0 a-2b+1<=0", "b-4<=0 -b+2<=0", 0, "-b+4"},
	{"2a-b-1=0 a-4<=0", "-a+1<=0 a-4<=0", 1, "2a-1"}, {"2a+b-1=0 a-4<=0", "a<=0 a-4<=0", 1, "-2a+1"}, {"-2a+3b-c=0 a-b=0", "2a-3b<=0 a-b=0", 2, "-2a+3b"}, {"2a+3b-5c+d-7=0 d-9<=0", "2a+3b-5c-7<=0 -2a-3b+5c-2<=0", 3, "-2a-3b+5c+7"},
	{"2a-4=0 b+c-1=0", "c-1<=0 a-2=0", 1, "-c+1"}, {"2a-4=0 3b-2c=0 -c+d-1=0 a-c<=0", "-d+1<=0 a-2=0 3b-2d+2=0 a-d+1<=0", 2, "d-1"}, {"a-b<=0 2a-c=0 b-c=0", "a-b<=0 2a-b=0", 2, "2a"}, {"b-c<=0 a-d=0 c-d=0", "b-c<=0 c-d=0", 0, "d"},
	{"a-b=0 a-b=0", "-", 0, "b"}, {"a-b=0 a+b-4=0", "b-2=0", 0, "b"}, {"a-b=0 a+b-5=0", "1<=0", 0, "b"}, {"a-b=0 b-c=0 a-c-1<=0", "b-c=0 b-c-1<=0", 0, "b"}, {"a-b=0 2a-2c-1=0", "1<=0", 0, "b"}, {"b-c=0 a-b=0", "a-c=0", 1, "c"},
	{"a-b-3=0 -a<=0 -b<=0", "-", 0, "b+3"}, {"a+b-3=0 -a<=0 -b<=0", "b-3<=0", 0, "-b+3"}, {"a+b-3=0 2a-5<=0 0<=0", "b-3<=0 -b+1<=0", 0, "-b+3"},
	{"-", "", 0, "0"}, {"a-b<=0", "", 0, "0"}, {"0=0", "", 0, "0"}, {"1=0", "", 0, "0"}, {"2a-4=0", "", 0, "0"}, {"2a-3b=0 -a<=0", "", 0, "0"}, {"2a-3b-1=0 5c+100d-7=0", "", 0, "0"}, {"a-1<=0 2a-1=0", "", 0, "0"},
	{"a-50b=0 2a-c<=0", "100b-c<=0", 0, "50b"}, {"a-51b=0 2a-c<=0", "", 0, "0"}, {"a-51b=0 2a-2b-c<=0", "100b-c<=0", 0, "51b"}, {"a-51b=0 c<=0", "c<=0", 0, "51b"}, {"a-100b-100c-100d-10000=0", "-", 0, "100b+100c+100d+10000"}, {"a+100b+100c+100d+10000=0", "1<=0", 0, "-100b-100c-100d-10000"},
	{"a-5000=0 2a-b<=0", "-b+10000<=0", 0, "5000"}, {"a-5001=0 2a-b<=0", "", 0, "0"}, {"a+5001=0 -2a<=0", "", 0, "0"}, {"a+5000=0 -2a<=0", "1<=0", 0, "-5000"}, {"a-5001=0 2a-b=0 1<=0", "", 0, "0"}, {"a-5001=0 1<=0", "1<=0", 0, "5001"}, {"a-51b=0 1<=0 2a<=0", "", 0, "0"},
	{"a-1=0 2|a", "", 0, "0"}, {"2!b a-1=0", "", 0, "0"},
}

func TestSolveEquationTexts(t *testing.T) {
	for _, x := range solveTexts {
		got, v, term, ok := impl.SolveEquation(systemIn(t, x.text))
		wantSystem(t, "SolveEquation "+x.text, got, ok, x.want)
		if text := impl.FormatTerm(term); v != x.v || text != x.term {
			t.Errorf("SolveEquation(%s) takes the variable %d and the term %s", x.text, v, text)
		}
	}
	equation := func(i int) string { return fmt.Sprintf("a-b-%d=0", i+1) }
	list := systemIn(t, repeated(40, equation))
	if got, v, term, ok := impl.SolveEquation(list); slowSystemText(got) != "1<=0" || v != 0 || impl.FormatTerm(term) != "b+1" || !ok {
		t.Errorf("SolveEquation of 40 equations = %s, %d, %v, %v", slowSystemText(got), v, term, ok)
	}
	line := func(i int) string { return fmt.Sprintf("a-%db<=0", i+2) }
	got, _, _, ok := impl.SolveEquation(systemIn(t, repeated(39, line)+" a-c-1=0"))
	wantSystem(t, "SolveEquation of 40 atoms", got, ok, repeated(39, func(i int) string { return fmt.Sprintf("-%db+c+1<=0", i+2) }))
}

// slowSolve follows the document's rules for SolveEquation.
func slowSolve(list []impl.Atom) ([]impl.Atom, int, impl.Term, bool) {
	for i, a := range list {
		m := numbersOf(a.Term)
		for v := range 4 {
			if a.Kind != 1 || m[v] != 1 && m[v] != -1 {
				continue
			}
			sign := -m[v]
			m[v] = 0
			term := termOf([5]int{sign * m[0], sign * m[1], sign * m[2], sign * m[3], sign * m[4]})
			named := []impl.Atom{{Term: termOf([5]int{-sign * m[0], -sign * m[1], -sign * m[2], -sign * m[3], -sign * m[4]})}}
			for j, other := range list {
				put, ok := substituted(other.Term, v, term)
				if j != i && !ok {
					return nil, 0, impl.Term{}, false
				}
				if j != i {
					named = append(named, impl.Atom{Kind: other.Kind, Term: put})
				}
			}
			result, ok := slowResult(named)
			return result, v, term, ok
		}
	}
	return nil, 0, impl.Term{}, false
}

func TestSolveEquation(t *testing.T) {
	points := append(pointsTo(4), somePoints...)
	solved, never, refused := 0, 0, 0
	for _, list := range someSystems() {
		text := slowSystemText(list)
		got, v, term, ok := impl.SolveEquation(list)
		want, w, other, can := slowSolve(list)
		wantSlow(t, "SolveEquation "+text, got, ok, want, can)
		if v != w || term != other {
			t.Errorf("SolveEquation(%s) takes the variable %d and the term %v, not %d and %v", text, v, term, w, other)
		}
		if !ok {
			refused++
			continue
		}
		solved++
		if joined(got) == "1<=0" {
			never++
		}
		for _, values := range points {
			m := numbersOf(term)
			equal := values[v] == m[0]*values[0]+m[1]*values[1]+m[2]*values[2]+m[3]*values[3]+m[4]
			if allTell(list, values) != (equal && allTell(got, values)) {
				t.Errorf("SolveEquation(%s) = %s, %d, %v is wrong in %v", text, slowSystemText(got), v, term, values)
				break
			}
		}
	}
	if solved < 200 || never < 20 || never > solved/2 || refused < 500 {
		t.Errorf("%d systems are solved, %d of them never true, and %d are refused", solved, never, refused)
	}
}

// boundsTexts are systems with what BoundsAt returns for a in a point; the least value is -1 if there is none.
var boundsTexts = []struct {
	text     string
	b, c, d  int
	least    int
	greatest int
}{
	{"-", 0, 0, 0, 0, -1}, {"-", 1000, 7, 1, 0, -1}, {"0<=0", 0, 0, 0, 0, -1}, {"1<=0", 0, 0, 0, -1, 0}, {"-1<=0", 0, 0, 0, 0, -1},
	{"a-3<=0", 0, 0, 0, 0, 3}, {"a<=0", 0, 0, 0, 0, 0}, {"a+1<=0", 0, 0, 0, -1, 0}, {"2a-7<=0", 0, 0, 0, 0, 3}, {"2a-6<=0", 0, 0, 0, 0, 3}, {"2a-5<=0", 0, 0, 0, 0, 2}, {"2a+1<=0", 0, 0, 0, -1, 0}, {"2a<=0", 0, 0, 0, 0, 0}, {"3a-1<=0", 0, 0, 0, 0, 0}, {"100a-99<=0", 0, 0, 0, 0, 0}, {"100a-100<=0", 0, 0, 0, 0, 1},
	{"-a+3<=0", 0, 0, 0, 3, -1}, {"-a<=0", 0, 0, 0, 0, -1}, {"-a-3<=0", 0, 0, 0, 0, -1}, {"-2a+7<=0", 0, 0, 0, 4, -1}, {"-2a+6<=0", 0, 0, 0, 3, -1}, {"-2a+5<=0", 0, 0, 0, 3, -1}, {"-2a-7<=0", 0, 0, 0, 0, -1}, {"-3a-1<=0", 0, 0, 0, 0, -1}, {"-3a+1<=0", 0, 0, 0, 1, -1}, {"-100a+1<=0", 0, 0, 0, 1, -1}, {"-100a+101<=0", 0, 0, 0, 2, -1},
	{"a-3<=0 -a+3<=0", 0, 0, 0, 3, 3}, {"a-3<=0 -a+4<=0", 0, 0, 0, -1, 0}, {"-a+4<=0 a-3<=0", 0, 0, 0, -1, 0}, {"2a-5<=0 -2a+5<=0", 0, 0, 0, -1, 0}, {"2a-7<=0 -2a+5<=0", 0, 0, 0, 3, 3}, {"3a-8<=0 -3a+7<=0", 0, 0, 0, -1, 0}, {"-a+2<=0 -a+5<=0 -a+3<=0 a-9<=0 a-7<=0 a-8<=0", 0, 0, 0, 5, 7}, {"-2a+2<=0 -3a+9<=0 5a-40<=0 2a-15<=0", 0, 0, 0, 3, 7},
	{"2a-b-7<=0 -3a+4<=0", 2, 0, 0, 2, 4}, {"2a-b-7<=0 -3a+4<=0", 3, 0, 0, 2, 5}, {"a-b<=0 -a+c<=0", 5, 3, 0, 3, 5}, {"a-b<=0 -a+c<=0", 3, 5, 0, -1, 0}, {"a-b<=0 -a+c<=0", 4, 4, 9, 4, 4}, {"a+b+c+d-10<=0", 1, 2, 3, 0, 4}, {"a+b+c+d-10<=0", 1, 2, 7, 0, 0}, {"a+b+c+d-10<=0", 1, 2, 8, -1, 0},
	{"b-3<=0", 3, 0, 0, 0, -1}, {"b-3<=0", 4, 0, 0, -1, 0}, {"b-3<=0 a-5<=0", 3, 0, 0, 0, 5}, {"b-3<=0 a-5<=0", 4, 0, 0, -1, 0}, {"a-5<=0 -d+1<=0", 0, 0, 0, -1, 0}, {"a-5<=0 -d+1<=0", 0, 0, 1, 0, 5}, {"-a+1<=0 0<=0 -b+1<=0", 1000, 0, 0, 1, -1},
	{"-a+100b+100c+100d+10000<=0", 1000, 1000, 1000, 310000, -1}, {"-3a+100b+100c+100d+10000<=0", 1000, 1000, 1000, 103334, -1}, {"a-100b-100c-100d-10000<=0", 1000, 1000, 1000, 0, 310000}, {"3a-100b-100c-100d-10000<=0", 1000, 1000, 1000, 0, 103333}, {"-a+1001<=0", 0, 0, 0, 1001, -1}, {"a-100b<=0 -a+1001<=0", 11, 0, 0, 1001, 1100}, {"a-10000<=0 -a+10000<=0", 0, 0, 0, 10000, 10000},
}

// wantRange looks whether BoundsAt returns what it should, which is no value for the least value -1.
func wantRange(t *testing.T, list []impl.Atom, v int, p impl.Point, least int, greatest int) {
	t.Helper()
	low, high, ok := impl.BoundsAt(list, v, p)
	if can := least >= 0; ok != can || can && (low != least || high != greatest) || !can && (low != 0 || high != 0) {
		t.Errorf("BoundsAt(%s, %d, %v) = %d, %d, %v, want %d, %d", slowSystemText(list), v, p, low, high, ok, least, greatest)
	}
}

func TestBoundsAtTexts(t *testing.T) {
	for _, x := range boundsTexts {
		for v := range 4 {
			var list []impl.Atom
			for _, a := range systemIn(t, x.text) {
				m := numbersOf(a.Term)
				m[0], m[v] = m[v], m[0]
				list = append(list, impl.Atom{Term: termOf(m)})
			}
			for _, own := range []int{0, 1, 6, 1000} { // the value of the variable itself does not count
				values := [4]int{own, x.b, x.c, x.d}
				values[0], values[v] = values[v], values[0]
				wantRange(t, list, v, pointOf(values), x.least, x.greatest)
			}
		}
	}
	for _, text := range []string{"a=0", "b-3=0", "a-3<=0 0=0", "1=0", "a-3<=0 -b=0 c<=0"} {
		wantRange(t, systemIn(t, text), 0, impl.Point{}, -1, 0)
	}
	for _, v := range noVars {
		wantRange(t, nil, v, impl.Point{}, -1, 0)
		wantRange(t, systemIn(t, "a-3<=0"), v, impl.Point{}, -1, 0)
	}
	for _, p := range badPoints() {
		for v := range 4 { // also where the value that is not valid is that of the variable
			wantRange(t, nil, v, p, -1, 0)
			wantRange(t, systemIn(t, "a-3<=0 b-c<=0"), v, p, -1, 0)
		}
	}
}

func TestBoundsAt(t *testing.T) {
	roll := dice(93)
	none, open, closed := 0, 0, 0
	for _, list := range splitSystems() {
		for i := range 40 {
			var values [4]int
			for v := range values {
				values[v] = roll.roll([]int{4, 12, 1001}[i%3])
			}
			v := i % 4
			least, greatest, ok := slowRange(list, v, values)
			if !ok {
				least = -1
			}
			wantRange(t, list, v, pointOf(values), least, greatest)
			switch {
			case !ok:
				none++
				continue
			case greatest == -1:
				open++
			default:
				closed++
			}
			for n := max(0, least-3); n < least+6; n++ {
				values[v] = n
				if is := n >= least && (greatest == -1 || n <= greatest); is != allTell(list, values) {
					t.Errorf("%s is not true in %v just if it is between %d and %d", slowSystemText(list), values, least, greatest)
				}
			}
		}
	}
	if none < 2000 || open < 2000 || closed < 2000 {
		t.Errorf("%d times there is no value, %d times no greatest one, and %d times one", none, open, closed)
	}
}

// shadowTexts are systems with their real and dark shadows by a variable; the text is empty if there is none.
var shadowTexts = []struct {
	text string
	v    int
	real string
	dark string
}{
	{"-", 0, "-", "-"}, {"-", 3, "-", "-"}, {"0<=0", 0, "-", "-"}, {"1<=0", 0, "1<=0", "1<=0"}, {"a-3<=0 2b-5<=0", 2, "a-3<=0 b-2<=0", "a-3<=0 b-2<=0"}, {"b-2<=0 a-3<=0 2b-4<=0", 3, "b-2<=0 a-3<=0", "b-2<=0 a-3<=0"},
	{"a-2b+1<=0 -a+3b-1<=0", 1, "1<=0", "1<=0"}, {"a-2b+1<=0 -a+3b-1<=0", 0, "-b+1<=0 b<=0", "-b+1<=0 b<=0"}, {"a-2b<=0 -a+3b-6<=0", 1, "a-12<=0", "a-10<=0"}, {"a-2b<=0 -a+3b-6<=0", 0, "b-6<=0", "b-6<=0"},
	{"-a+3<=0 b<=0", 0, "b<=0", "b<=0"}, {"-2a+3<=0 -3a+b<=0", 0, "-", "-"}, // no upper bounds
	{"a-b<=0", 0, "-", "-"}, {"a-b+2<=0", 0, "-b+2<=0", "-b+2<=0"}, {"a+b-5<=0", 0, "b-5<=0", "b-5<=0"}, {"a+2<=0", 0, "1<=0", "1<=0"}, {"a-2<=0", 0, "-", "-"}, {"5a+b-7<=0", 0, "b-7<=0", "b-7<=0"}, {"3a-b+2c-4<=0", 0, "-b+2c-4<=0", "-b+2c-4<=0"}, {"3a-b+2c-4<=0", 1, "-", "-"}, {"3a-b+2c-4<=0", 2, "3a-b-4<=0", "3a-b-4<=0"}, // just the lower bound that the variable is a natural number
	{"a+b-5<=0 -a<=0", 0, "b-5<=0", "b-5<=0"}, {"-a<=0 a+b-5<=0 -a<=0", 0, "b-5<=0", "b-5<=0"}, {"-2a<=0 a+b-5<=0", 0, "b-5<=0", "b-5<=0"}, {"-2a<=0 3a-b<=0", 0, "-", "-b+1<=0"}, {"-2a<=0 3a-b<=0 c-1<=0", 0, "c-1<=0", "c-1<=0 -b+1<=0"}, // the system names it too
	{"2a-5<=0 -2a+5<=0", 0, "-", "1<=0"}, {"2a-6<=0 -2a+5<=0", 0, "-", "-"}, {"3a-8<=0 -3a+7<=0", 0, "-", "1<=0"}, {"3a-8<=0 -2a+5<=0", 0, "-", "1<=0"}, {"3a-9<=0 -2a+5<=0", 0, "-", "-"}, {"2a-b<=0 -2a+c<=0", 0, "-b+c<=0", "-b+c+1<=0"},
	{"-a+b<=0 2a-c<=0", 0, "2b-c<=0", "2b-c<=0"}, {"-2a+b<=0 a-c<=0", 0, "b-2c<=0", "b-2c<=0"}, {"-2a+b<=0 3a-c<=0", 0, "3b-2c<=0", "3b-2c+2<=0"}, {"-4a+b<=0 6a-c<=0", 0, "3b-2c<=0", "3b-2c+8<=0"}, {"-5a+b+2<=0 7a-c-3<=0", 0, "7b-5c-1<=0", "7b-5c+23<=0"},
	{"-a+b<=0 a-c<=0 -2a+d<=0 3a-8<=0 d-9<=0", 0, "d-9<=0 b-c<=0 b-2<=0 -2c+d<=0 d-5<=0", "d-9<=0 b-c<=0 b-2<=0 -2c+d<=0 d-4<=0"}, {"d-9<=0 3a-8<=0 -2a+d<=0 a-c<=0 -a+b<=0", 0, "d-9<=0 d-5<=0 -2c+d<=0 b-2<=0 b-c<=0", "d-9<=0 d-4<=0 -2c+d<=0 b-2<=0 b-c<=0"}, // the order of the sums
	{"a-d+2<=0 b-c<=0 a-c+1<=0 -a+b<=0 d-7<=0", 0, "b-c<=0 d-7<=0 -d+2<=0 -c+1<=0 b-d+2<=0 b-c+1<=0", "b-c<=0 d-7<=0 -d+2<=0 -c+1<=0 b-d+2<=0 b-c+1<=0"},
	{"b-3<=0 a-5<=0 -a+6<=0", 0, "1<=0", "1<=0"}, {"b-3<=0 a-5<=0 -a+6<=0", 1, "a-5<=0 -a+6<=0", "a-5<=0 -a+6<=0"}, {"1<=0 a-b<=0", 1, "1<=0", "1<=0"}, {"b-c<=0 c-d<=0 2b-2c-1<=0", 0, "b-c<=0 c-d<=0", "b-c<=0 c-d<=0"}, {"4a-4b<=0 -6a+6c<=0", 0, "-b+c<=0", "-b+c+1<=0"},
	{"a-2b<=0 -50a+c<=0", 0, "-100b+c<=0", "-100b+c<=0"}, {"a-2b<=0 -51a+c<=0", 0, "", ""}, {"a-2b<=0 -51a+2b+c<=0", 0, "-100b+c<=0", "-100b+c<=0"}, {"-a+2b<=0 50a-c<=0", 0, "100b-c<=0", "100b-c<=0"}, {"-a+2b<=0 51a-c<=0", 0, "", ""}, {"a-2b<=0 1<=0 -51a+c<=0", 0, "", ""}, {"a-2b<=0 -51a+c<=0", 1, "-51a+c<=0", "-51a+c<=0"}, {"a-2b<=0 -51a+c<=0", 2, "a-2b<=0", "a-2b<=0"}, // coefficients at the limit
	{"a+5000<=0 -2a<=0", 0, "1<=0", "1<=0"}, {"a+5001<=0 -2a<=0", 0, "", ""}, {"a-5000<=0 -2a<=0", 0, "-", "-"}, {"a-5001<=0 -2a<=0", 0, "", ""}, {"-a-5000<=0 2a-b<=0", 0, "-", "-"}, {"-a-5001<=0 2a-b<=0", 0, "", ""}, {"-a+5000<=0 2a-b<=0", 0, "-b+10000<=0", "-b+10000<=0"}, {"-a+5001<=0 2a-b<=0", 0, "", ""}, // numbers at the limit
	{"-2a+99<=0 100a+25<=0", 0, "1<=0", ""}, {"-2a+b+99<=0 100a-c+1<=0", 0, "-c+1<=0 50b-c+4951<=0", ""}, {"-2a-99<=0 100a-75<=0", 0, "", "-"}, {"-2a+b-99<=0 100a+c-75<=0", 0, "", "c-75<=0 50b+c-4975<=0"}, {"-100a-100<=0 100a+100<=0", 0, "1<=0", "1<=0"}, {"-100a+b<=0 100a-b<=0", 0, "-", "1<=0"}, {"-100a+200<=0 100a-b<=0", 0, "", ""}, {"-100a+100<=0 100a-b<=0", 0, "-b+100<=0", ""},
	{"a=0", 0, "", ""}, {"b-1=0", 0, "", ""}, {"0=0", 0, "", ""}, {"a-3<=0 b=0", 0, "", ""}, {"1<=0 1=0", 0, "", ""}, {"2|a", 0, "", ""}, {"a-3<=0 2!b", 0, "", ""},
}

func TestShadowTexts(t *testing.T) {
	for _, x := range shadowTexts {
		list := systemIn(t, x.text)
		got, ok := impl.RealShadow(list, x.v)
		wantSystem(t, fmt.Sprintf("RealShadow(%s, %d)", x.text, x.v), got, ok, x.real)
		got, ok = impl.DarkShadow(list, x.v)
		wantSystem(t, fmt.Sprintf("DarkShadow(%s, %d)", x.text, x.v), got, ok, x.dark)
	}
}

// firstPrimes are greater than the numbers of the first lower bounds.
var firstPrimes = []int{11, 13, 17, 19, 23, 29, 31, 37}

// multiple is the text of b a positive number of times.
func multiple(k int) string {
	if k == 1 {
		return "b"
	}
	return fmt.Sprintf("%db", k)
}

// pairsOfBounds is the text of a system with so many lower and upper bounds of a, the sums of which all differ.
func pairsOfBounds(lower int, upper int) string {
	low := repeated(lower, func(i int) string { return "-a+" + multiple(i+1) + "<=0" })
	return low + " " + repeated(upper, func(i int) string { return fmt.Sprintf("a-%dc<=0", firstPrimes[i]) })
}

// sumsOfBounds is the text of the shadow of such a system by a.
func sumsOfBounds(lower int, upper int) string {
	return repeated(lower*upper, func(i int) string {
		return fmt.Sprintf("%s-%dc<=0", multiple(i/upper+1), firstPrimes[i%upper])
	})
}

// TestShadowsGreat looks at shadows of systems at the limit, and at those that are at the limit or too great themselves.
func TestShadowsGreat(t *testing.T) {
	lower := func(i int) string { return fmt.Sprintf("-a+%d<=0", i+2) }
	upper := func(i int) string { return fmt.Sprintf("a-%d<=0", 100+i) }
	behind := func(i int) string { return fmt.Sprintf("b-%d<=0", i+1) }
	cases := map[string]string{
		pairsOfBounds(6, 6): sumsOfBounds(6, 6), pairsOfBounds(5, 8): sumsOfBounds(5, 8), pairsOfBounds(8, 5): sumsOfBounds(8, 5), pairsOfBounds(6, 7): "", pairsOfBounds(7, 6): "", pairsOfBounds(20, 8): "", pairsOfBounds(5, 8) + " d-7<=0": "", "d-7<=0 " + pairsOfBounds(7, 5): "d-7<=0 " + sumsOfBounds(7, 5),
		pairsOfBounds(5, 8) + " 0<=0": sumsOfBounds(5, 8), pairsOfBounds(20, 8) + " 1<=0": "1<=0", "1<=0 " + pairsOfBounds(6, 7): "1<=0", pairsOfBounds(6, 7) + " a+1<=0": "1<=0", pairsOfBounds(20, 8) + " -a+5<=0 a-4<=0": "1<=0",
		repeated(20, lower) + " " + repeated(20, upper): "-", repeated(19, lower) + " " + repeated(21, upper): "-", repeated(20, upper) + " " + repeated(20, func(i int) string { return fmt.Sprintf("-a+%d<=0", 101-i) }): "1<=0",
		repeated(40, lower): "-", repeated(40, upper): "-", repeated(40, behind): repeated(40, behind), repeated(39, behind) + " a-c<=0": repeated(39, behind), repeated(39, behind) + " a+c-1<=0": repeated(39, behind) + " c-1<=0", repeated(38, behind) + " a+c-1<=0 -a+d<=0": repeated(38, behind) + " c-1<=0 c+d-1<=0", repeated(37, behind) + " a+c-1<=0 -a+d<=0 -a+2d<=0": repeated(37, behind) + " c-1<=0 c+d-1<=0 c+2d-1<=0", repeated(37, behind) + " a+c-1<=0 -a+d<=0 a+2c<=0": "",
	}
	for text, want := range cases {
		list := systemIn(t, text)
		if len(list) > 40 {
			t.Errorf("%s is no system", text)
		}
		for name, shadow := range map[string]func([]impl.Atom, int) ([]impl.Atom, bool){"RealShadow": impl.RealShadow, "DarkShadow": impl.DarkShadow} {
			got, ok := shadow(list, 0)
			wantSystem(t, name+" "+text, got, ok, want)
		}
	}
	for _, text := range []string{repeated(41, lower), repeated(41, behind)} {
		for v := range 4 {
			got, ok := impl.RealShadow(systemIn(t, text), v)
			wantNoAtoms(t, "RealShadow of 41 atoms", got, ok)
			got, ok = impl.DarkShadow(systemIn(t, text), v)
			wantNoAtoms(t, "DarkShadow of 41 atoms", got, ok)
		}
	}
}

func TestShadows(t *testing.T) {
	found, refused, differ := 0, 0, 0
	for _, list := range someSystems() {
		for v := range 4 {
			var results [2][]impl.Atom
			for i, shadow := range []func([]impl.Atom, int) ([]impl.Atom, bool){impl.RealShadow, impl.DarkShadow} {
				got, ok := shadow(list, v)
				want, can := slowShadow(list, v, i == 1)
				wantSlow(t, fmt.Sprintf("shadow %d of %s by %d", i, slowSystemText(list), v), got, ok, want, can)
				if ok {
					found++
					results[i] = got
				} else if !hasEquation(list) {
					refused++
				}
				for _, a := range got {
					if numbersOf(a.Term)[v] != 0 {
						t.Errorf("shadow %d of %s by %d has the atom %v", i, slowSystemText(list), v, a)
					}
				}
			}
			if !slices.Equal(results[0], results[1]) {
				differ++
			}
		}
		for _, v := range noVars {
			got, ok := impl.RealShadow(list, v)
			wantNoAtoms(t, "RealShadow by no variable", got, ok)
			got, ok = impl.DarkShadow(list, v)
			wantNoAtoms(t, "DarkShadow by no variable", got, ok)
		}
	}
	if found < 5000 || refused < 300 || differ < 200 {
		t.Errorf("%d shadows are found, %d are refused, and %d times they differ", found, refused, differ)
	}
}

// TestShadowsHoldSolutions looks whether every solution lies in the real shadow, and above every point of the dark shadow there is one; and whether both shadows are the same, and just those of the solutions, for an exact variable.
func TestShadowsHoldSolutions(t *testing.T) {
	roll := dice(94)
	points := append(pointsTo(3), somePoints...)
	for range 60 {
		var values [4]int
		size := []int{10, 40, 1000000}[roll.roll(3)]
		for v := range values {
			values[v] = roll.roll(size)
		}
		points = append(points, values)
	}
	above, outside, between, exact := 0, 0, 0, 0
	for _, list := range splitSystems() {
		for v := range 4 {
			real, okReal := impl.RealShadow(list, v)
			dark, okDark := impl.DarkShadow(list, v)
			if impl.ExactVar(list, v) {
				exact++
				if okReal != okDark || !slices.Equal(real, dark) {
					t.Errorf("%s and %s are the shadows of %s by the exact variable %d", slowSystemText(real), slowSystemText(dark), slowSystemText(list), v)
				}
			}
			for _, values := range points {
				least, _, is := slowRange(list, v, values)
				inReal, inDark := okReal && allTell(real, values), okDark && allTell(dark, values)
				if is && okReal && !inReal || !is && inDark || inDark && okReal && !inReal {
					t.Errorf("%s by %d in %v: there is a solution: %v, in the real shadow: %v, in the dark one: %v", slowSystemText(list), v, values, is, inReal, inDark)
				}
				switch {
				case is && inDark:
					above++
					values[v] = least
					if !allTell(list, values) {
						t.Errorf("%v is no solution of %s", values, slowSystemText(list))
					}
				case okReal && !inReal:
					outside++
				case inReal && okDark && !inDark:
					between++
				}
			}
		}
	}
	if above < 20000 || outside < 20000 || between < 3000 || exact < 500 {
		t.Errorf("%d points lie in dark shadows, %d outside of real ones, %d between them, and %d variables are exact", above, outside, between, exact)
	}
}

func TestExactVarTexts(t *testing.T) {
	cases := map[string]string{ // the exact variables
		"-": "abcd", "0<=0": "abcd", "1<=0": "abcd", "a<=0": "abcd", "2a<=0": "abcd", "-2a<=0": "abcd", "100a-100b<=0": "abcd", "2a<=0 -a<=0": "abcd", "-2a<=0 a<=0": "abcd", "a-b<=0 -a+b<=0": "abcd",
		"2a<=0 -2a<=0": "bcd", "2a<=0 3a<=0": "abcd", "-2a<=0 -3a<=0": "abcd", "2a<=0 3a<=0 -4a<=0": "bcd", "2a-2b<=0 -3a<=0": "bcd", "2a-2b<=0 3b<=0": "acd", "2a-2b<=0 -3a+3b<=0": "cd", "2a-2b<=0 -3a+3b+2c<=0 -2c+2d<=0": "d", "100a-b<=0 -100a+b<=0": "bcd", "a-2b<=0 -a+3b-6<=0": "acd", "2a-2b+2c-2d<=0 -2a+2b-2c+2d<=0": "", "-a-b-c-d<=0 2a+2b+2c+2d<=0": "abcd",
		"a<=0 b=0": "", "0=0": "", "a-b=0": "", "2|a": "", "a<=0 2!b": "",
	}
	for text, want := range cases {
		list := systemIn(t, text)
		for v := range 4 {
			if got := impl.ExactVar(list, v); got != strings.Contains(want, string(rune('a'+v))) {
				t.Errorf("ExactVar(%s, %d) = %v", text, v, got)
			}
		}
		for _, v := range noVars {
			if impl.ExactVar(list, v) {
				t.Errorf("ExactVar(%s, %d) = true", text, v)
			}
		}
	}
}

// testTexts are systems with what ShadowTest returns for them.
var testTexts = map[string]int{
	"-": 1, "0<=0": 1, "0=0": 1, "1<=0": 0, "1=0": 0, "-1=0": 0, "-1<=0": 1, "a=0": 1, "a+1=0": 0, "a+1<=0": 0, "-d-1<=0": 1, "a-3<=0 -a+4<=0": 0, "a-3<=0 -a+3<=0": 1, "d-3<=0 -d+4<=0": 0, "d-3<=0 -d+3<=0": 1, "-a+10000<=0": 1, "-a+10000<=0 a-9999<=0": 0,
	"a-2b+1<=0 -a+3b-1<=0": 0, "2a-2b-1=0": 0, "2a-5=0": 0, "2a-4=0": 1, "2a-5<=0 -2a+5<=0": 0, "a-b<=0 -a+b+1<=0": 0, "a-b<=0 b-c<=0 c-d<=0 -a+d<=0": 1, "a-b<=0 b-c<=0 c-d<=0 -a+d+1<=0": 0, "a-b<=0 b-c<=0 c-d<=0 -a+d-1<=0": 1, "a+b-3=0 a-b-1=0": 1, "a+b-2=0 a-b-1=0": 0, "a+b+c+d-1=0": 1, "a+b+c+d+1=0": 0,
	"3a-5b-1=0": -1, "3a-5b-1<=0 -3a+5b-1<=0": 1, "3a-5b-1<=0 -3a+5b<=0": -1, "3a-5b-1<=0 -3a+5b-20<=0": 1, "2a-3b=0 -b+1<=0 b-1<=0": -1, "-3a+2b=0": -1, "2a-3b=0": -1, "2a-b=0": -1, "2a-b=0 b-1=0": -1, "a-2b=0 a-1=0": 0, "a-2b=0 a-2=0": 1, "2a-b<=0 -2a+b-1<=0": 1, "2a-b<=0 -2a+b-1<=0 b-7<=0": 1,
	"a-2b<=0 -51a+c<=0": -1, "a-2b<=0 -51a+c<=0 1<=0": 0, "a-2b<=0 -51a+c<=0 d+1<=0": 0, "a-2b<=0 -51a+c<=0 d-1<=0 -d+2<=0": -1, "a-2b<=0 -50a+c<=0": 1, // sums that are too great
	"-2a+b-99<=0 100a+c-75<=0": 1, "-2a+b-99<=0 100a+c-75<=0 d-1<=0 -d+2<=0": -1, "-2a+b-99<=0 100a+c-75<=0 d-1<=0 -d+1<=0": 1, // just the sum for the real shadow is too great
	"-2a-b+99<=0 100a-c+25<=0 b<=0 c<=0": 0, "-2a-b+99<=0 100a-c+25<=0 b<=0": -1, "-2a-b+99<=0 100a-c+25<=0": -1, // just the sum for the dark shadow is too great
	"2|a": -1, "a-3<=0 -a+4<=0 2|a": -1, "1<=0 1|0": -1, "1|0": -1,
}

func TestShadowTestTexts(t *testing.T) {
	for text, want := range testTexts {
		list := systemIn(t, text)
		if got := impl.ShadowTest(list); got != want {
			t.Errorf("ShadowTest(%s) = %d", text, got)
		}
		if slow := slowTest(list); slow != want {
			t.Errorf("the document's rules give %d for %s", slow, text)
		}
	}
	behind := func(i int) string { return fmt.Sprintf("b-%d<=0", i+1) }
	equation := func(i int) string { return fmt.Sprintf("a-b-%d=0", i+1) }
	cases := map[string]int{
		repeated(40, behind): 1, repeated(39, behind) + " -b+1<=0": 1, repeated(39, behind) + " -b+2<=0": 0, repeated(39, behind) + " 1<=0": 0, repeated(41, behind): -1, repeated(40, behind) + " 1<=0": -1, repeated(41, func(int) string { return "1<=0" }): -1,
		repeated(20, equation): 0, repeated(21, equation): -1, repeated(21, equation) + " 1<=0": 0, // the second one is too great even when it is split
		pairsOfBounds(5, 8): 1, pairsOfBounds(6, 7): -1, pairsOfBounds(6, 7) + " d<=0": -1, pairsOfBounds(6, 7) + " d+1<=0": 0,
	}
	for text, want := range cases {
		if got := impl.ShadowTest(systemIn(t, text)); got != want {
			t.Errorf("ShadowTest(%s) = %d", text, got)
		}
	}
}

// closeSystems are systems of atoms that are true or false for small values already.
func closeSystems() [][]impl.Atom {
	roll := dice(95)
	var list [][]impl.Atom
	for i := range 250 {
		list = append(list, roll.system(2+i%5, 1+i%3, i%4))
	}
	for i := range 150 {
		list = append(list, roll.wedge(i%4, 1+i%4))
	}
	return list
}

func TestShadowTest(t *testing.T) {
	counts := map[int]int{}
	points := append(pointsTo(4), somePoints...)
	for _, list := range slices.Concat(someSystems(), closeSystems()) {
		got := impl.ShadowTest(list)
		if want := slowTest(list); got != want {
			t.Errorf("ShadowTest(%s) = %d, want %d", slowSystemText(list), got, want)
		}
		counts[got]++
		if got == 0 && slices.ContainsFunc(points, func(values [4]int) bool { return allTell(list, values) }) {
			t.Errorf("ShadowTest(%s) = 0, but there is a solution", slowSystemText(list))
		}
	}
	if counts[0] < 200 || counts[1] < 200 || counts[-1] < 100 {
		t.Errorf("the results are %v", counts)
	}
}

// TestShadowTestTogether calls ShadowTest from many sides at once, and looks whether it returns the same each time, and leaves nothing that goes on.
func TestShadowTestTogether(t *testing.T) {
	lists := every(closeSystems(), 5)
	before := runtime.NumGoroutine()
	results := make([][]int, 8)
	var group sync.WaitGroup
	for i := range results {
		group.Add(1)
		go func() {
			defer group.Done()
			for range 5 {
				for _, list := range lists {
					results[i] = append(results[i], impl.ShadowTest(list))
				}
			}
		}()
	}
	group.Wait()
	for i, list := range results {
		for j, got := range list {
			if want := results[0][j%len(lists)]; got != want {
				t.Errorf("ShadowTest(%s) = %d from side %d, but %d before", slowSystemText(lists[j%len(lists)]), got, i, want)
			}
		}
	}
	for range 100 {
		if runtime.NumGoroutine() <= before {
			return
		}
		time.Sleep(10 * time.Millisecond)
	}
	t.Errorf("%d goroutines go on, %d more than before", runtime.NumGoroutine(), runtime.NumGoroutine()-before)
}

func TestHasSolutionTexts(t *testing.T) {
	cases := map[string]string{
		"-": "yes", "0<=0": "yes", "1<=0": "no", "0=0": "yes", "1=0": "no", "-1=0": "no", "a=0": "yes", "a+1=0": "no", "-a-1=0": "no", "-a-1<=0": "yes", "a+1<=0": "no", "d-7=0": "yes", "a-3<=0 -a+4<=0": "no", "a-3<=0 -a+3<=0": "yes",
		"3a-5b-1=0": "yes", "2a-2b-1=0": "no", "4a-6b-3=0": "no", "2a+3b-1=0": "no", "2a+3b-5=0": "yes", "3a+5b-7=0": "no", "3a+5b-8=0": "yes", "a-2b+1<=0 -a+3b-1<=0": "no", "2a-3b=0 -b+1<=0 b-1<=0": "no", "2a-3b=0 -b+1<=0 b-2<=0": "yes", "a+b+c+d-1=0": "yes", "a+b+c+d+1=0": "no",
		"-a+10000<=0": "yes", "-a+10000<=0 a-9999<=0": "no", "a-b<=0 b-c<=0 c-d<=0 -a+d+1<=0": "no", "a-b<=0 b-c<=0 c-d<=0 -a+d-1<=0": "yes", "2a-5<=0 -2a+5<=0": "no",
		"67a-61b-1=0": "", "61a-7b=0": "yes", "67a-61b-1=0 1=0": "no", "2|a": "", "1|0": "", "1<=0 3!a": "",
	}
	for text, want := range cases {
		is, ok := impl.HasSolution(systemIn(t, text))
		if ok != (want != "") || is != (want == "yes") {
			t.Errorf("HasSolution(%s) = %v, %v", text, is, ok)
		}
	}
	behind := func(i int) string { return fmt.Sprintf("b-%d<=0", i+1) }
	for text, want := range map[string]bool{repeated(40, behind): true, repeated(39, behind) + " -b+1<=0": true, repeated(39, behind) + " -b+2<=0": false} {
		if is, ok := impl.HasSolution(systemIn(t, text)); is != want || !ok {
			t.Errorf("HasSolution(%s) = %v, %v", text, is, ok)
		}
	}
	if is, ok := impl.HasSolution(systemIn(t, repeated(41, behind))); is || ok {
		t.Errorf("HasSolution of 41 atoms = %v, %v", is, ok)
	}
}

// TestHasSolution compares HasSolution with the document's rules, with a search, with LeastPoint and with ShadowTest.
func TestHasSolution(t *testing.T) {
	points := append(pointsTo(5), somePoints...)
	yes, no, refused, tested := 0, 0, 0, 0
	for i, list := range slices.Concat(closeSystems(), every(someSystems(), 4)) {
		is, ok := impl.HasSolution(list)
		if i%3 == 0 {
			open, can := slowOpen(claimOfSystem(list))
			if ok != can || is != (can && open.Kind == 0) {
				t.Errorf("HasSolution(%s) = %v, %v, want %s, %v", slowSystemText(list), is, ok, slowText(open), can)
			}
		}
		switch {
		case !ok:
			refused++
			continue
		case is:
			yes++
		default:
			no++
		}
		if seen := slices.ContainsFunc(points, func(values [4]int) bool { return allTell(list, values) }); seen && !is {
			t.Errorf("HasSolution(%s) = false, but there is one", slowSystemText(list))
		}
		if p, found := impl.LeastPoint(list, 8); found && !is {
			t.Errorf("HasSolution(%s) = false, but LeastPoint finds %v", slowSystemText(list), p)
		}
		if got := impl.ShadowTest(list); got >= 0 {
			tested++
			if (got == 1) != is {
				t.Errorf("HasSolution(%s) = %v, but ShadowTest returns %d", slowSystemText(list), is, got)
			}
		}
	}
	if yes < 150 || no < 100 || refused > 350 || tested < 250 {
		t.Errorf("%d systems have solutions, %d have none, %d are refused, %d are tested by shadows", yes, no, refused, tested)
	}
}

func TestLeastPointTexts(t *testing.T) {
	none := [4]int{-1}
	cases := []struct {
		text  string
		bound int
		want  [4]int
	}{
		{"-", 0, [4]int{}}, {"-", 8, [4]int{}}, {"0<=0", 0, [4]int{}}, {"1<=0", 8, none}, {"0=0", 3, [4]int{}}, {"1=0", 3, none}, {"-1=0", 3, none}, {"a=0", 8, [4]int{}},
		{"a-1=0", 0, none}, {"a-1=0", 1, [4]int{1}}, {"a-1=0", 8, [4]int{1}}, {"a-8=0", 8, [4]int{8}}, {"a-8=0", 7, none}, {"a-9=0", 8, none}, {"d-8=0", 8, [4]int{0, 0, 0, 8}}, {"d-8=0", 7, none}, {"d-9=0", 8, none}, {"-c+5<=0", 8, [4]int{0, 0, 5, 0}}, {"-b+5<=0", 4, none}, {"-b+5<=0", 5, [4]int{0, 5}},
		{"-a-b-c-d+32<=0", 8, [4]int{8, 8, 8, 8}}, {"-a-b-c-d+33<=0", 8, none}, {"-a-b-c-d+31<=0", 8, [4]int{7, 8, 8, 8}}, {"-a-b-c-d+9<=0", 8, [4]int{0, 0, 1, 8}}, {"-a-b-c-d+1<=0", 1, [4]int{0, 0, 0, 1}}, {"-a-b-c-d+1<=0", 0, none}, {"-a-b-c-d+4<=0", 1, [4]int{1, 1, 1, 1}}, {"a+b+c+d<=0", 0, [4]int{}},
		{"-a-b+3<=0", 2, [4]int{1, 2}}, {"-a-b+3<=0", 3, [4]int{0, 3}}, {"2a+3b-12=0", 8, [4]int{0, 4}}, {"2a+3b-11=0", 8, [4]int{1, 3}}, {"2a+3b-11=0", 2, none}, {"2a+3b-11=0", 3, [4]int{1, 3}}, {"3a-5b-1=0 -b+1<=0", 8, [4]int{2, 1}}, {"3a-5b-1=0 -b+2<=0", 8, [4]int{7, 4}}, {"3a-5b-1=0 -b+2<=0", 6, none},
		{"-a+b<=0 -b+c<=0 -c+d<=0 -d+2<=0", 8, [4]int{2, 2, 2, 2}}, {"a-b+1<=0 b-c+1<=0 c-d+1<=0", 8, [4]int{0, 1, 2, 3}}, {"a-b+1<=0 b-c+1<=0 c-d+1<=0", 2, none}, {"-a+1<=0 a+b-8=0 -a+c<=0 -c+2<=0", 8, [4]int{2, 6, 2, 0}},
		{"2|a", 8, none}, {"1|0", 8, none}, {"a=0 2!b", 8, none},
	}
	for _, x := range cases {
		got, ok := impl.LeastPoint(systemIn(t, x.text), x.bound)
		if can := x.want != none; ok != can || can && got != pointOf(x.want) || !can && got != (impl.Point{}) {
			t.Errorf("LeastPoint(%s, %d) = %v, %v", x.text, x.bound, got, ok)
		}
	}
	for _, bound := range append([]int{-100, -2, -1, 9, 10, 1000}, extremes...) {
		for _, text := range []string{"-", "a<=0", "a-3=0", "1<=0"} {
			if got, ok := impl.LeastPoint(systemIn(t, text), bound); got != (impl.Point{}) || ok {
				t.Errorf("LeastPoint(%s, %d) = %v, %v", text, bound, got, ok)
			}
		}
	}
	line := func(i int) string { return fmt.Sprintf("-a-b-c-d+%d<=0", 1+i%32) }
	if got, ok := impl.LeastPoint(systemIn(t, repeated(40, line)), 8); got != (impl.Point{A: 8, B: 8, C: 8, D: 8}) || !ok {
		t.Errorf("LeastPoint of 40 atoms = %v, %v", got, ok)
	}
	if got, ok := impl.LeastPoint(systemIn(t, repeated(41, line)), 8); got != (impl.Point{}) || ok {
		t.Errorf("LeastPoint of 41 atoms = %v, %v", got, ok)
	}
}

func TestLeastPoint(t *testing.T) {
	found, none := 0, 0
	for i, list := range slices.Concat(closeSystems(), every(someSystems(), 4)) {
		for _, bound := range []int{0, 1, 3, 2 + i%7} {
			got, ok := impl.LeastPoint(list, bound)
			want, can := slowLeastPoint(list, bound)
			if got != want || ok != can {
				t.Errorf("LeastPoint(%s, %d) = %v, %v, want %v, %v", slowSystemText(list), bound, got, ok, want, can)
			}
			if ok {
				found++
			} else {
				none++
			}
		}
	}
	if found < 500 || none < 500 {
		t.Errorf("%d points are found, and %d times there is none", found, none)
	}
}

// TestBadSystems looks whether all functions refuse lists that are no systems.
func TestBadSystems(t *testing.T) {
	for i, list := range badSystems() {
		what := fmt.Sprintf("the bad list %d of %d atoms, with %v first", i, len(list), list[0])
		got, ok := impl.SplitSystem(list)
		wantNoAtoms(t, "SplitSystem of "+what, got, ok)
		got, v, term, ok := impl.SolveEquation(list)
		wantNoAtoms(t, "SolveEquation of "+what, got, ok)
		if v != 0 || term != (impl.Term{}) {
			t.Errorf("SolveEquation of %s takes the variable %d and the term %v", what, v, term)
		}
		for _, v := range []int{0, 3, 4, -1} {
			if low, high, ok := impl.BoundsAt(list, v, impl.Point{}); low != 0 || high != 0 || ok {
				t.Errorf("BoundsAt of %s = %d, %d, %v", what, low, high, ok)
			}
			got, ok = impl.RealShadow(list, v)
			wantNoAtoms(t, "RealShadow of "+what, got, ok)
			got, ok = impl.DarkShadow(list, v)
			wantNoAtoms(t, "DarkShadow of "+what, got, ok)
			if impl.ExactVar(list, v) {
				t.Errorf("ExactVar of %s = true", what)
			}
		}
		if got := impl.ShadowTest(list); got != -1 {
			t.Errorf("ShadowTest of %s = %d", what, got)
		}
		if is, ok := impl.HasSolution(list); is || ok {
			t.Errorf("HasSolution of %s = %v, %v", what, is, ok)
		}
		for _, bound := range []int{0, 8, 9} {
			if p, ok := impl.LeastPoint(list, bound); p != (impl.Point{}) || ok {
				t.Errorf("LeastPoint of %s = %v, %v", what, p, ok)
			}
		}
	}
}

// TestSystemsMemory looks whether systems share memory with arguments or with each other, unused capacity included.
func TestSystemsMemory(t *testing.T) {
	for _, list := range every(someSystems(), 3) {
		whole := slices.Grow(list, 7)
		lists := [][]impl.Atom{whole}
		keep := func(got []impl.Atom, _ bool) { lists = append(lists, got) }
		for range 2 {
			keep(impl.ParseSystem(slowSystemText(list)))
			keep(impl.SplitSystem(whole))
			got, _, _, _ := impl.SolveEquation(whole)
			keep(got, true)
			for v := range 4 {
				keep(impl.RealShadow(whole, v))
				keep(impl.DarkShadow(whole, v))
			}
		}
		wantFreshAtoms(t, slowSystemText(list), lists...)
	}
}

// TestSystemsUnchanged calls the functions and looks whether their arguments are left as they are, also beyond their length.
func TestSystemsUnchanged(t *testing.T) {
	for _, list := range every(slices.Concat(someSystems(), closeSystems()), 5) {
		whole := slices.Concat(list, []impl.Atom{{Kind: 1, Term: impl.Term{A: 1, N: -7}}, {Kind: 9}, {Kind: 2, Mod: 5}})
		before := slices.Clone(whole)
		system := whole[:len(list)]
		impl.SystemValid(system)
		impl.FormatSystem(system)
		impl.SplitSystem(system)
		impl.SolveEquation(system)
		for v := range 4 {
			impl.BoundsAt(system, v, impl.Point{A: 1, B: 2, C: 3})
			impl.RealShadow(system, v)
			impl.DarkShadow(system, v)
			impl.ExactVar(system, v)
		}
		impl.ShadowTest(system)
		impl.HasSolution(system)
		impl.LeastPoint(system, 2)
		if !slices.Equal(whole, before) {
			t.Errorf("%v was changed to %v", before, whole)
		}
	}
}
