package tests

import (
	"fmt"
	"math"
	"regexp"
	"slices"
	"strings"
	"testing"

	"loop.example/presburger/impl"
)

// stepsIn reads a text of steps, without the program's help. The steps need not be valid.
func stepsIn(t *testing.T, s string) []impl.Step {
	t.Helper()
	if s == "-" {
		return nil
	}
	var steps []impl.Step
	for _, word := range strings.Fields(s) {
		var step impl.Step
		for _, pair := range strings.Split(word, "+") {
			var times, from int
			if _, err := fmt.Sscanf(pair, "%dx%d", &times, &from); err != nil {
				t.Fatalf("%q is no text of steps: %v", s, err)
			}
			step.From = append(step.From, from)
			step.Times = append(step.Times, times)
		}
		steps = append(steps, step)
	}
	return steps
}

// slowProofText is the text of steps as the document defines it.
func slowProofText(steps []impl.Step) string {
	var words []string
	for _, s := range steps {
		var pairs []string
		for i := range s.From {
			pairs = append(pairs, fmt.Sprintf("%dx%d", s.Times[i], s.From[i]))
		}
		words = append(words, strings.Join(pairs, "+"))
	}
	if len(words) == 0 {
		return "-"
	}
	return strings.Join(words, " ")
}

// slowStepValid tells whether a step is valid behind so many lines.
func slowStepValid(s impl.Step, lines int) bool {
	if len(s.From) == 0 || len(s.From) != len(s.Times) {
		return false
	}
	sorted := slices.Clone(s.From)
	slices.Sort(sorted)
	sorted = slices.Compact(sorted)
	return slices.Equal(sorted, s.From) && sorted[0] >= 0 && sorted[len(sorted)-1] < lines && slices.Min(s.Times) >= 1 && slices.Max(s.Times) <= 1000
}

// slowStart follows the document's rules for StartLines.
func slowStart(list []impl.Atom) ([]impl.Atom, bool) {
	if !slowSystem(list) || hasEquation(list) {
		return nil, false
	}
	lines := []impl.Atom{{Term: impl.Term{A: -1}}, {Term: impl.Term{B: -1}}, {Term: impl.Term{C: -1}}, {Term: impl.Term{D: -1}}}
	return append(lines, list...), true
}

// slowRun follows the document's rules for RunStep.
func slowRun(lines []impl.Atom, s impl.Step) (impl.Atom, bool) {
	for _, a := range lines {
		if a.Kind != 0 || !impl.AtomValid(a) {
			return impl.Atom{}, false
		}
	}
	if len(lines) > 244 || !slowStepValid(s, len(lines)) {
		return impl.Atom{}, false
	}
	var sum [5]int
	for i, n := range s.From {
		for j, k := range numbersOf(lines[n].Term) {
			sum[j] += s.Times[i] * k
		}
	}
	a := impl.Atom{Term: termOf(sum)}
	if !impl.AtomValid(a) {
		return impl.Atom{}, false
	}
	return slowTight(a), true
}

// slowLines follows the document's rules for ProofLines.
func slowLines(list []impl.Atom, steps []impl.Step) ([]impl.Atom, bool) {
	lines, ok := slowStart(list)
	if !ok || len(steps) > 200 {
		return nil, false
	}
	for _, s := range steps {
		line, ok := slowRun(lines, s)
		if !ok {
			return nil, false
		}
		lines = append(lines, line)
	}
	return lines, true
}

// slowProves follows the document's rules for ProofValid.
func slowProves(list []impl.Atom, steps []impl.Step) bool {
	lines, ok := slowLines(list, steps)
	return ok && len(steps) > 0 && impl.FormatAtom(lines[len(lines)-1]) == "1<=0"
}

// slowFind follows the document's rules for FindProof, and tells why it ends.
func slowFind(list []impl.Atom) ([]impl.Step, string) {
	lines, ok := slowStart(list)
	if !ok {
		return nil, "no system"
	}
	var current []int
	for i, a := range list {
		if slowTight(a) == impl.TruthAtom(false) {
			return []impl.Step{{From: []int{4 + i}, Times: []int{1}}}, "atom"
		}
		current = append(current, 4+i)
	}
	var steps []impl.Step
	for v := range 4 {
		var next []int
		coef := func(n int) int { return numbersOf(lines[n].Term)[v] }
		known := func(a impl.Atom) bool {
			return slices.ContainsFunc(next, func(n int) bool { return lines[n] == a })
		}
		for _, n := range current {
			if coef(n) == 0 && !known(lines[n]) {
				next = append(next, n)
			}
		}
		for _, low := range append([]int{v}, current...) {
			for _, high := range current {
				if coef(low) >= 0 || coef(high) <= 0 {
					continue
				}
				s := impl.Step{From: []int{min(low, high), max(low, high)}}
				for _, n := range s.From {
					s.Times = append(s.Times, max(coef(low+high-n), -coef(low+high-n)))
				}
				line, ok := slowRun(lines, s)
				switch text := impl.FormatAtom(line); {
				case !ok:
					return nil, "sum"
				case len(steps) == 200:
					return nil, "steps"
				case text == "1<=0":
					return append(steps, s), "line"
				case text != "0<=0" && !known(line):
					next = append(next, len(lines))
					lines = append(lines, line)
					steps = append(steps, s)
				}
			}
		}
		current = next
	}
	return nil, "variables"
}

// slowTrim follows the document's rules for TrimProof, for a valid proof.
func slowTrim(list []impl.Atom, steps []impl.Step) []impl.Step {
	first := 4 + len(list)
	needed := map[int]bool{}
	var need func(n int)
	need = func(n int) {
		if needed[n] || n < first {
			return
		}
		needed[n] = true
		for _, other := range steps[n-first].From {
			need(other)
		}
	}
	need(first + len(steps) - 1)
	var trimmed []impl.Step
	for i, s := range steps {
		if !needed[first+i] {
			continue
		}
		made := impl.Step{Times: s.Times}
		for _, n := range s.From {
			left := n
			for other := first; other < n; other++ {
				if !needed[other] {
					left--
				}
			}
			made.From = append(made.From, left)
		}
		trimmed = append(trimmed, made)
	}
	return trimmed
}

// step makes a step that names some of so many lines, each of them at most so often.
func (d *dice) step(lines int, most int) impl.Step {
	var s impl.Step
	for n := range lines {
		if d.roll(lines) < 2 || len(s.From) == 0 && n == lines-1 {
			s.From = append(s.From, n)
			s.Times = append(s.Times, 1+d.roll(most))
		}
	}
	return s
}

// wantSteps looks whether steps are those of a text, which is empty if there are none.
func wantSteps(t *testing.T, what string, got []impl.Step, ok bool, want string) {
	t.Helper()
	switch {
	case want == "":
		wantNoSteps(t, what, got, ok)
	case slowProofText(got) != want || !ok:
		t.Errorf("%s = %s, %v, want %s", what, slowProofText(got), ok, want)
	}
}

func wantNoSteps(t *testing.T, what string, got []impl.Step, ok bool) {
	t.Helper()
	if len(got) != 0 || ok {
		t.Errorf("%s = %v, %v, want no steps", what, got, ok)
	}
}

// wrongSteps are steps that are not valid behind any number of lines up to so many.
func wrongSteps(lines int) []impl.Step {
	list := []impl.Step{
		{}, {From: []int{}, Times: []int{}}, {From: []int{0}}, {Times: []int{1}}, {From: []int{0, 1}, Times: []int{1}}, {From: []int{0}, Times: []int{1, 1}}, {From: []int{0, 1, 2}, Times: []int{1, 1}}, {From: nil, Times: []int{1, 1}},
		{From: []int{1, 0}, Times: []int{1, 1}}, {From: []int{0, 0}, Times: []int{1, 1}}, {From: []int{1, 1}, Times: []int{1, 2}}, {From: []int{0, 2, 1}, Times: []int{1, 1, 1}}, {From: []int{0, 1, 1}, Times: []int{1, 1, 1}}, {From: []int{0, 1, 0}, Times: []int{1, 1, 1}}, {From: []int{2, 1, 3}, Times: []int{1, 1, 1}},
		{From: []int{-1}, Times: []int{1}}, {From: []int{-1, 0}, Times: []int{1, 1}}, {From: []int{-2, -1, 0, 1}, Times: []int{1, 1, 1, 1}}, {From: []int{lines}, Times: []int{1}}, {From: []int{lines + 1}, Times: []int{1}}, {From: []int{0, lines}, Times: []int{1, 1}}, {From: []int{lines, 0}, Times: []int{1, 1}},
	}
	for _, n := range extremes {
		list = append(list, impl.Step{From: []int{n}, Times: []int{1}}, impl.Step{From: []int{0, n}, Times: []int{1, 1}}, impl.Step{From: []int{n, 0}, Times: []int{1, 1}})
	}
	for _, k := range append([]int{-1000, -2, -1, 0, 1001, 1002, 10000}, extremes...) {
		list = append(list, impl.Step{From: []int{0}, Times: []int{k}}, impl.Step{From: []int{0, 1}, Times: []int{k, 1}}, impl.Step{From: []int{0, 1}, Times: []int{1, k}}, impl.Step{From: []int{0, 1, 2}, Times: []int{1, k, 1}})
	}
	long := make([]int, 100000)
	return append(list, impl.Step{From: long, Times: long}, impl.Step{From: long}, impl.Step{Times: long})
}

func TestProofLimits(t *testing.T) {
	if impl.MaxSteps != 200 || impl.MaxTimes != 1000 {
		t.Error("the limits are not those of the document")
	}
}

func TestStepValidTexts(t *testing.T) {
	cases := []struct {
		text  string
		lines int // with which the step begins to be valid
	}{
		{"1x0", 1}, {"1000x0", 1}, {"999x0", 1}, {"1x1", 2}, {"7x243", 244}, {"1x0+1x1", 2}, {"2x1+1x4", 5}, {"1x0+1x4", 5}, {"1000x0+1x1+1000x2", 3}, {"3x0+3x7+3x9", 10}, {"1x100000", 100001},
	}
	for _, x := range cases {
		s := stepsIn(t, x.text)[0]
		for lines := -3; lines < x.lines+5; lines++ {
			if got := impl.StepValid(s, lines); got != (lines >= x.lines) {
				t.Errorf("StepValid(%s, %d) = %v", x.text, lines, got)
			}
		}
		for _, lines := range extremes {
			if got := impl.StepValid(s, lines); got != (lines > 0) {
				t.Errorf("StepValid(%s, %d) = %v", x.text, lines, got)
			}
		}
	}
	last := impl.Step{From: []int{0, math.MaxInt - 1}, Times: []int{1, 1}}
	if !impl.StepValid(last, math.MaxInt) || impl.StepValid(last, math.MaxInt-1) || impl.StepValid(impl.Step{From: []int{math.MaxInt}, Times: []int{1}}, math.MaxInt) {
		t.Error("StepValid does not tell the greatest numbers of lines apart")
	}
	after := impl.Step{From: []int{math.MaxInt - 1, math.MinInt}, Times: []int{1, 1}}
	if impl.StepValid(after, math.MaxInt) {
		t.Error("StepValid takes a negative number behind the greatest one")
	}
	var all impl.Step
	for n := range 100000 {
		all.From, all.Times = append(all.From, n), append(all.Times, 1+n%1000)
	}
	if !impl.StepValid(all, 100000) || impl.StepValid(all, 99999) || !impl.StepValid(all, 100001) {
		t.Error("StepValid of many lines")
	}
}

func TestStepValid(t *testing.T) {
	roll := dice(101)
	valid := 0
	for i := range 20000 {
		var s impl.Step
		count := roll.roll(4)
		for n := range count {
			s.From = append(s.From, roll.roll(3)+2*n-roll.roll(2)*roll.roll(2))
			s.Times = append(s.Times, []int{0, 1, 1, 2, 500, 999, 1000, 1000, 1001}[roll.roll(9)])
		}
		if roll.roll(10) == 0 {
			s.Times = append(s.Times, 1)
		}
		lines := i%10 - 1
		if got := impl.StepValid(s, lines); got != slowStepValid(s, lines) {
			t.Errorf("StepValid(%v, %d) = %v", s, lines, got)
		} else if got {
			valid++
		}
	}
	if valid < 1000 || valid > 15000 {
		t.Errorf("%d steps are valid", valid)
	}
	for _, s := range wrongSteps(10) {
		for lines := -1; lines <= 10; lines++ {
			if impl.StepValid(s, lines) {
				t.Errorf("StepValid(%v, %d) = true", s, lines)
			}
		}
	}
}

func TestStartLines(t *testing.T) {
	natural := "-a<=0 -b<=0 -c<=0 -d<=0"
	for _, text := range []string{"a-b<=0 -a+b+1<=0", "0<=0", "1<=0", "-a<=0", "2a-4<=0 2a-4<=0", "-100a-100b-100c-100d-10000<=0 100a+100b+100c+100d+10000<=0", repeated(40, func(i int) string { return fmt.Sprintf("2a-%db<=0", i+2) })} {
		got, ok := impl.StartLines(systemIn(t, text))
		wantSystem(t, "StartLines "+text, got, ok, natural+" "+text)
	}
	for _, list := range [][]impl.Atom{nil, {}} {
		got, ok := impl.StartLines(list)
		wantSystem(t, "StartLines of no atoms", got, ok, natural)
	}
	for _, text := range []string{"a=0", "1=0", "0=0", "a<=0 b=0", "a=0 b<=0", "a<=0 b=0 1<=0", "2|a", "a<=0 1|0", "3!b", repeated(41, func(int) string { return "a<=0" })} {
		got, ok := impl.StartLines(systemIn(t, text))
		wantNoAtoms(t, "StartLines "+text, got, ok)
	}
	for _, list := range slices.Concat(someSystems(), badSystems()) {
		got, ok := impl.StartLines(list)
		want, can := slowStart(list)
		wantSlow(t, fmt.Sprintf("StartLines of %d atoms", len(list)), got, ok, want, can)
	}
}

// stepTexts are systems and a step behind their lines, with its line; the text is empty if there is none.
var stepTexts = []struct {
	system string
	step   string
	want   string
}{
	{"a-b<=0 -a+b+1<=0", "2x1+1x4", "a-3b<=0"}, {"a-b<=0 -a+b+1<=0", "1x4+1x5", "1<=0"}, {"2a-2b-1<=0 -2a+2b+1<=0", "1x4+1x5", "0<=0"}, {"a-b<=0 -a+b+1<=0", "3x4+3x5", "1<=0"}, {"a-b<=0 -a+b+1<=0", "1x4", "a-b<=0"},
	{"a-b<=0 -a+b+1<=0", "7x4", "a-b<=0"}, {"a-b<=0 -a+b+1<=0", "7x5", "-a+b+1<=0"}, {"2a-2b+1<=0", "1x4", "a-b+1<=0"}, {"2a-2b+1<=0", "2x4", "a-b+1<=0"}, {"2a-2b-1<=0", "1x4", "a-b<=0"}, {"4a-6b+3<=0", "1x4", "2a-3b+2<=0"}, {"3a-2<=0 3b-2<=0", "1x4+1x5", "a+b-1<=0"}, {"3a-2<=0 3b-2<=0", "2x4+1x5", "2a+b-2<=0"},
	{"-", "1x0", "0<=0"}, {"-", "5x0+6x1+7x2+8x3", "0<=0"}, {"-", "100x0", "0<=0"}, {"-", "101x0", ""}, {"-", "1000x3", ""}, {"a<=0", "101x0+1x4", "0<=0"}, {"a<=0", "102x0+1x4", ""}, {"a<=0", "1000x0+1000x4", "0<=0"}, {"a+1<=0", "999x0+999x4", "1<=0"}, {"100a-100b<=0 -100a+100b<=0", "1000x4+1000x5", "0<=0"}, {"100a<=0 -100a<=0", "1000x4+999x5", "a<=0"}, {"100a<=0 -100a<=0", "1000x4+998x5", ""}, // only the whole sum has to be valid
	{"a-b+c-d<=0", "100x4", "a-b+c-d<=0"}, {"a-b+c-d<=0", "101x4", ""}, {"b-d<=0", "101x4", ""}, {"a-50c<=0", "2x4", "a-50c<=0"}, {"a-51c<=0", "2x4", ""}, {"a-51c<=0", "2x2+2x4", ""}, {"a-51c<=0 c<=0", "2x4+2x5", "a-50c<=0"},
	{"1<=0", "1000x4", "1<=0"}, {"10<=0", "1000x4", "1<=0"}, {"11<=0", "1000x4", ""}, {"-10<=0", "1000x4", "0<=0"}, {"-11<=0", "1000x4", ""}, {"a-100<=0", "100x4", "a-100<=0"}, {"a-101<=0", "100x4", ""}, {"a-10000<=0", "1x4", "a-10000<=0"}, {"a-10000<=0", "2x4", ""}, {"a-10000<=0 -a+10000<=0", "1000x4+1000x5", "0<=0"}, {"a-10000<=0 -a+10000<=0", "1000x4+999x5", "a-10000<=0"}, {"a-10000<=0 -a+10000<=0", "1000x4+998x5", ""}, {"a+b-10000<=0 b+10000<=0", "1x4+1x5", "a+2b<=0"},
	{"0<=0 1<=0", "1x4", "0<=0"}, {"0<=0 1<=0", "1x5", "1<=0"}, {"0<=0 1<=0", "1000x4+1000x5", "1<=0"}, {"-7<=0 6<=0", "1x4+1x5", "0<=0"}, {"-7<=0 6<=0", "1x4+2x5", "1<=0"}, {"5a+3<=0", "1x4", "1<=0"}, {"5a<=0", "1x4", "a<=0"}, {"-5a-b-3<=0", "1x4", "0<=0"}, {"-5a-b+3<=0", "1x4", "-5a-b+3<=0"},
	{"2a-3b+1<=0 -3a+4b-2<=0", "3x4+2x5", "0<=0"}, {"2a-3b+1<=0 -3a+4b-2<=0", "4x4+3x5", "0<=0"}, {"2a-3b+1<=0 -3a+4b-1<=0", "3x4+2x5", "-b+1<=0"}, {"2a-3b+1<=0 -3a+4b-1<=0", "4x4+3x5", "-a+1<=0"}, {"a-2b+1<=0 -a+3b-1<=0", "1x4+1x5", "b<=0"}, {"a-2b+1<=0 -a+3b-1<=0", "1x0+1x4", "-b+1<=0"}, {"a+b+c+d-1<=0", "1x0+1x1+1x2+1x3+1x4", "0<=0"}, {"a+b+c+d+1<=0", "1x0+1x1+1x2+1x3+1x4", "1<=0"},
	{"a<=0", "1x5", ""}, {"-", "1x4", ""}, {"a<=0", "1x0+1x5", ""}, {"a<=0", "1x4+1x0", ""}, {"a<=0", "1x4+1x4", ""}, {"a<=0", "0x4", ""}, {"a<=0", "1001x4", ""}, {"a<=0", "1000x1+1x4", ""},
}

// behindNatural are the lines of a text behind those that no variable is negative.
func behindNatural(t *testing.T, text string) []impl.Atom {
	t.Helper()
	return append(atomsIn(t, "-a<=0 -b<=0 -c<=0 -d<=0"), systemIn(t, text)...)
}

func TestRunStepTexts(t *testing.T) {
	for _, x := range stepTexts {
		got, ok := impl.RunStep(behindNatural(t, x.system), stepsIn(t, x.step)[0])
		what := "RunStep " + x.step + " of " + x.system
		if x.want == "" {
			wantNoAtom(t, what, got, ok)
		} else {
			wantAtom(t, what, got, ok, atomOf(t, x.want))
		}
	}
}

// TestRunStepLines looks at lists of lines that are empty, just at the limit, too long, or not valid.
func TestRunStepLines(t *testing.T) {
	one := impl.Step{From: []int{0}, Times: []int{1}}
	for _, lines := range [][]impl.Atom{nil, {}} {
		got, ok := impl.RunStep(lines, one)
		wantNoAtom(t, "RunStep without lines", got, ok)
	}
	lines := make([]impl.Atom, 300)
	for i := range lines {
		lines[i] = impl.Atom{Term: impl.Term{A: 1, N: -i}}
	}
	whole := impl.Step{From: []int{0, 243}, Times: []int{1, 1}}
	for count := range len(lines) {
		got, ok := impl.RunStep(lines[:count], one)
		if 1 <= count && count <= 244 {
			wantAtom(t, fmt.Sprintf("RunStep of %d lines", count), got, ok, lines[0])
		} else {
			wantNoAtom(t, fmt.Sprintf("RunStep of %d lines", count), got, ok)
		}
		got, ok = impl.RunStep(lines[:count], whole)
		if count == 244 {
			wantAtom(t, "RunStep with the last one of 244 lines", got, ok, impl.Atom{Term: impl.Term{A: 1, N: -121}})
		} else {
			wantNoAtom(t, fmt.Sprintf("RunStep with the line 243 of %d lines", count), got, ok)
		}
	}
	var all impl.Step
	for n := range 244 {
		all.From, all.Times = append(all.From, n), append(all.Times, 1000)
	}
	got, ok := impl.RunStep(make([]impl.Atom, 244), all)
	wantAtom(t, "RunStep of 244 lines, each 1000 times", got, ok, impl.Atom{})
	got, ok = impl.RunStep(make([]impl.Atom, 1000000), one)
	wantNoAtom(t, "RunStep of a million lines", got, ok)
	bad := slices.Concat(badAtoms(), atomsIn(t, "a=0 0=0 1=0 2|a 3!b 1|0 1!0 100|c-7"))
	for _, a := range bad {
		for place := range 3 {
			lines := atomsIn(t, "a<=0 b<=0 1<=0")
			lines[place] = a
			for named := range 3 { // also lines that are not named have to be valid
				got, ok := impl.RunStep(lines, impl.Step{From: []int{named}, Times: []int{1}})
				wantNoAtom(t, fmt.Sprintf("RunStep with the line %v at %d", a, place), got, ok)
			}
		}
	}
	for _, s := range wrongSteps(244) {
		got, ok := impl.RunStep(lines[:244], s)
		wantNoAtom(t, fmt.Sprintf("RunStep of %d and %d numbers", len(s.From), len(s.Times)), got, ok)
	}
	for _, s := range wrongSteps(3) {
		got, ok := impl.RunStep(lines[:3], s)
		wantNoAtom(t, fmt.Sprintf("RunStep of %d and %d numbers behind 3 lines", len(s.From), len(s.Times)), got, ok)
	}
}

// TestRunStep compares RunStep with the document's rules, and looks whether its line is true where all lines are.
func TestRunStep(t *testing.T) {
	roll := dice(102)
	points := append(pointsTo(3), somePoints...)
	found, refused, always, never := 0, 0, 0, 0
	for i, list := range slices.Concat(splitSystems(), closeSystems()) {
		lines := append(atomsIn(t, "-a<=0 -b<=0 -c<=0 -d<=0"), list...)
		for _, most := range []int{1, 3, 12, []int{100, 1001}[i%2]} {
			s := roll.step(len(lines), most)
			got, ok := impl.RunStep(lines, s)
			want, can := slowRun(lines, s)
			what := fmt.Sprintf("RunStep %v of %s", s, slowSystemText(lines))
			if !can {
				wantNoAtom(t, what, got, ok)
				refused++
				continue
			}
			wantAtom(t, what, got, ok, want)
			found++
			switch joined([]impl.Atom{got}) {
			case "0<=0":
				always++
			case "1<=0":
				never++
			}
			for _, values := range points {
				if allTell(list, values) && !tells(got, values) {
					t.Errorf("%s = %v is wrong in %v", what, got, values)
					break
				}
			}
		}
	}
	if found < 1500 || refused < 500 || always < 300 || never < 30 {
		t.Errorf("%d lines are found, of which %d are always true and %d never, and %d steps are refused", found, always, never, refused)
	}
}

// proofTexts are systems and steps, with their lines behind those of the system, and whether the steps are a proof. The lines are empty if there are none.
var proofTexts = []struct {
	system string
	steps  string
	lines  string
	proves bool
}{
	{"a-b<=0 -a+b+1<=0", "-", "-", false}, {"a-b<=0 -a+b+1<=0", "1x4+1x5", "1<=0", true}, {"a-b<=0 -a+b+1<=0", "1x4", "a-b<=0", false}, {"2a-2b-1<=0 -2a+2b+1<=0", "1x4+1x5", "0<=0", false}, {"2a-2b-1<=0 -2a+2b+1<=0", "1x4 1x5 1x6+1x7", "a-b<=0 -a+b+1<=0 1<=0", true}, // rounded by steps
	{"a-b<=0 -a+b+1<=0", "1x4+1x5 1x0", "1<=0 0<=0", false}, {"a-b<=0 -a+b+1<=0", "1x4+1x5 1x0 1x6", "1<=0 0<=0 1<=0", true}, {"a-b<=0 -a+b+1<=0", "1x4+1x5 1x6", "1<=0 1<=0", true}, {"a-b<=0 -a+b+1<=0", "1x0 1x4+1x5+1x6", "0<=0 1<=0", true}, // just the last line tells
	{"a-2b+1<=0 -a+3b-1<=0", "1x0+1x4 1x4+1x5 1x6+1x7", "-b+1<=0 b<=0 1<=0", true}, {"a-2b+1<=0 -a+3b-1<=0", "1x0+1x4 1x4+1x5 1x6", "-b+1<=0 b<=0 -b+1<=0", false}, {"a-2b+1<=0 -a+3b-1<=0", "1x0+3x4+2x5", "1<=0", true}, {"a-2b+1<=0 -a+3b-1<=0", "1x0+1x4 1x4+1x5 1x6+1x7+1x8", "", false},
	{"a-2b+1<=0 -a+3b-1<=0", "1x0+1x4 1x6+1x7", "", false}, {"a-2b+1<=0 -a+3b-1<=0", "1x6", "", false}, {"a-2b+1<=0 -a+3b-1<=0", "1x4+1x6 1x4", "", false}, {"a-b<=0 -a+b+1<=0", "1x4+1x5 1x7", "", false}, // steps that name their own line, or a later one
	{"1<=0", "-", "-", false}, {"1<=0", "1x4", "1<=0", true}, {"a+1<=0", "1x4", "1<=0", true}, {"2a+1<=0", "1x4", "1<=0", true}, {"2a+1<=0", "1000x4", "", false}, {"5<=0", "3x4", "1<=0", true}, {"a<=0 1<=0", "1x4", "a<=0", false}, {"a<=0 1<=0", "1x0+1x4+1x5", "1<=0", true},
	{"-", "-", "-", false}, {"-", "1x0", "0<=0", false}, {"-", "1x0+1x1+1x2+1x3 1x4", "0<=0 0<=0", false}, {"-", "1x4", "", false}, {"0<=0", "1x4", "0<=0", false}, {"a-5<=0", "1x4 1x0 1x4+1x5", "a-5<=0 0<=0 a-5<=0", false},
	{"a-b<=0 b-c<=0 c-d<=0 -a+d+1<=0", "1x4+1x7 1x5+1x8 1x6+1x9", "-b+d+1<=0 -c+d+1<=0 1<=0", true}, {"a-b<=0 b-c<=0 c-d<=0 -a+d+1<=0", "1x4+1x5+1x6+1x7", "1<=0", true}, {"a-b<=0 b-c<=0 c-d<=0 -a+d<=0", "1x4+1x5+1x6+1x7", "0<=0", false},
	{"a-b<=0 -a+b+1<=0", "1000x4+1000x5", "1<=0", true}, {"a-b<=0 -a+b+1<=0", "1001x4+1001x5", "", false}, {"a-b<=0 -a+b+1<=0", "1x4+1x5 0x0", "", false}, {"a-b<=0 -a+b+1<=0", "1x5+1x4", "", false}, {"a-b<=0 -a+b+1<=0", "1x4+1x4 1x4+1x5", "", false}, {"a-b<=0 -a+b+1<=0", "101x4 1x4+1x5", "", false},
	{"a=0", "-", "", false}, {"a=0", "1x4", "", false}, {"1=0", "1x4", "", false}, {"1<=0 a=0", "1x4", "", false}, {"0=0 1<=0", "1x5", "", false}, {"2|a 1<=0", "1x5", "", false}, {"1|0", "-", "", false},
}

func TestProofTexts(t *testing.T) {
	for _, x := range proofTexts {
		list, steps := systemIn(t, x.system), stepsIn(t, x.steps)
		got, ok := impl.ProofLines(list, steps)
		want := ""
		if x.lines != "" {
			want = slowSystemText(slices.Concat(behindNatural(t, x.system), systemIn(t, x.lines)))
		}
		wantSystem(t, "ProofLines "+x.steps+" of "+x.system, got, ok, want)
		if is := impl.ProofValid(list, steps); is != x.proves {
			t.Errorf("ProofValid(%s, %s) = %v", x.system, x.steps, is)
		}
	}
}

// chainOf are so many steps behind 4 lines and those of a system, each of which takes the line before it once; the last one takes the first line of the system.
func chainOf(system int, count int) []impl.Step {
	var steps []impl.Step
	for i := range count {
		steps = append(steps, impl.Step{From: []int{3 + system + i}, Times: []int{1}})
	}
	if count > 0 {
		steps[count-1].From[0] = 4
	}
	return steps
}

// TestProofGreat looks at proofs of as many steps as there can be, and of more.
func TestProofGreat(t *testing.T) {
	line := func(i int) string { return fmt.Sprintf("%d<=0", i+1) }
	for _, size := range []int{1, 2, 40} {
		list := systemIn(t, repeated(size, line))
		for _, count := range []int{0, 1, 2, 199, 200, 201, 202, 400} {
			steps := chainOf(size, count)
			got, ok := impl.ProofLines(list, steps)
			is := impl.ProofValid(list, steps)
			if count > 200 {
				wantNoAtoms(t, fmt.Sprintf("ProofLines of %d steps", count), got, ok)
			} else if len(got) != 4+size+count || !ok {
				t.Errorf("ProofLines of %d steps has %d lines, %v", count, len(got), ok)
			}
			if is != (1 <= count && count <= 200) {
				t.Errorf("ProofValid of %d steps = %v", count, is)
			}
			trimmed, ok := impl.TrimProof(list, steps)
			if is {
				wantSteps(t, fmt.Sprintf("TrimProof of %d steps", count), trimmed, ok, "1x4")
			} else {
				wantNoSteps(t, fmt.Sprintf("TrimProof of %d steps", count), trimmed, ok)
			}
		}
	}
	steps := chainOf(41, 1)
	if got, ok := impl.ProofLines(systemIn(t, repeated(41, line)), steps); len(got) != 0 || ok || impl.ProofValid(systemIn(t, repeated(41, line)), steps) {
		t.Errorf("ProofLines of 41 atoms = %v, %v", got, ok)
	}
	many := make([]impl.Step, 1000000)
	if got, ok := impl.ProofLines(nil, many); len(got) != 0 || ok || impl.ProofValid(nil, many) || impl.FormatProof(many) != "" {
		t.Errorf("ProofLines of a million steps = %v, %v", got, ok)
	}
}

// mixed puts other steps between those of a proof, which have other numbers then.
func (d *dice) mixed(list []impl.Atom, proof []impl.Step) []impl.Step {
	lines, _ := slowStart(list)
	numbers := make([]int, len(lines))
	for i := range numbers {
		numbers[i] = i
	}
	var steps []impl.Step
	add := func(s impl.Step) {
		if line, ok := slowRun(lines, s); ok {
			lines, steps = append(lines, line), append(steps, s)
		}
	}
	for _, s := range proof {
		for d.roll(2) == 0 && len(steps)+len(proof) < 200 {
			add(d.step(len(lines), 2))
		}
		moved := impl.Step{Times: slices.Clone(s.Times)}
		for _, n := range s.From {
			moved.From = append(moved.From, numbers[n])
		}
		numbers = append(numbers, len(lines))
		add(moved)
	}
	return steps
}

// proof makes so many steps behind the lines of a system, most of them valid.
func (d *dice) proof(lines int, count int) []impl.Step {
	var steps []impl.Step
	for i := range count {
		s := d.step(lines+i, 1+d.roll(3))
		if d.roll(100) == 0 {
			s.From[0] = lines + i + d.roll(2)
		}
		steps = append(steps, s)
	}
	return steps
}

// TestProofLines compares ProofLines and ProofValid with the document's rules, and looks whether all lines are true where the system is, and whether there is a solution of what is proved to have none.
func TestProofLines(t *testing.T) {
	roll := dice(103)
	points := append(pointsTo(3), somePoints...)
	found, refused, valid := 0, 0, 0
	for i, list := range slices.Concat(someSystems(), closeSystems()) {
		tries := [][]impl.Step{roll.proof(4+len(list), 1), roll.proof(4+len(list), 2), roll.proof(4+len(list), 3+i%5)}
		if steps, why := slowFind(list); why == "line" || why == "atom" {
			tries = append(tries, roll.mixed(list, steps), append(roll.mixed(list, steps), impl.Step{From: []int{i % 3}, Times: []int{1 + i%100}}))
		}
		for _, steps := range tries {
			what := slowProofText(steps) + " of " + slowSystemText(list)
			got, ok := impl.ProofLines(list, steps)
			want, can := slowLines(list, steps)
			wantSlow(t, "ProofLines "+what, got, ok, want, can)
			is := impl.ProofValid(list, steps)
			if is != slowProves(list, steps) {
				t.Errorf("ProofValid(%s) = %v", what, is)
			}
			if is {
				valid++
			}
			if !ok {
				refused++
				continue
			}
			found++
			for _, values := range points {
				if allTell(list, values) && (is || !allTell(got, values)) {
					t.Errorf("the lines or the proof of %s are wrong in %v", what, values)
					break
				}
			}
		}
	}
	if found < 2000 || refused < 1000 || valid < 100 {
		t.Errorf("%d times lines are found, %d times they are refused, and %d proofs are valid", found, refused, valid)
	}
}

// wantNoProof looks whether steps are refused by all functions that take a proof.
func wantNoProof(t *testing.T, what string, list []impl.Atom, steps ...impl.Step) {
	t.Helper()
	got, ok := impl.ProofLines(list, steps)
	wantNoAtoms(t, "ProofLines "+what, got, ok)
	if impl.ProofValid(list, steps) {
		t.Errorf("ProofValid %s = true", what)
	}
	trimmed, ok := impl.TrimProof(list, steps)
	wantNoSteps(t, "TrimProof "+what, trimmed, ok)
}

func TestProofLinesInvalid(t *testing.T) {
	list := atomsIn(t, "a-b<=0 -a+b+1<=0")
	good := stepsIn(t, "1x4+1x5")
	for i, s := range wrongSteps(6) {
		wantNoProof(t, fmt.Sprintf("of the bad step %d", i), list, s)
		wantNoProof(t, fmt.Sprintf("with the bad step %d first", i), list, s, good[0])
	}
	for i, s := range wrongSteps(7) {
		wantNoProof(t, fmt.Sprintf("with the bad step %d last", i), list, good[0], s)
		wantNoProof(t, fmt.Sprintf("with the bad step %d second", i), list, good[0], s, good[0])
	}
	for i, list := range badSystems() {
		for _, steps := range [][]impl.Step{nil, chainOf(1, 1), stepsIn(t, "1x0"), stepsIn(t, "1x5")} {
			wantNoProof(t, fmt.Sprintf("of the bad list %d of %d atoms", i, len(list)), list, steps...)
		}
		got, ok := impl.FindProof(list)
		wantNoSteps(t, fmt.Sprintf("FindProof of the bad list %d", i), got, ok)
		for _, bound := range []int{0, 2, 8, 9, -1} {
			if p, steps, code := impl.CertifySystem(list, bound); p != (impl.Point{}) || len(steps) != 0 || code != -1 {
				t.Errorf("CertifySystem of the bad list %d, %d = %v, %v, %d", i, bound, p, steps, code)
			}
		}
	}
}

// textsOfSteps are texts of steps.
var textsOfSteps = []string{"-", "1x0", "1x43", "1000x0", "999x43", "1x4+1x5", "1x0+1x4 1x4+1x5 1x6+1x7", "2x1+1x4", "1x43 1x44 1x45", "1x0 1x0 1x0", "10x9+100x10+1000x11", "1x0+1x1+1x2+1x3", "7x0 1x44", "200x20+30x30"}

// lastLines is the text of so many steps, each of which takes the last line that it can name.
func lastLines(count int) string {
	return repeated(count, func(i int) string { return fmt.Sprintf("%dx%d", 1+i%1000, 43+i) })
}

// allOf is the text of the step that takes all of so many lines.
func allOf(lines int) string {
	return strings.ReplaceAll(repeated(lines, func(i int) string { return fmt.Sprintf("%dx%d", 1000-i, i) }), " ", "+")
}

func TestProofFormat(t *testing.T) {
	greatest := repeated(200, func(i int) string { return allOf(44 + i) })
	for _, text := range append(textsOfSteps, lastLines(200), lastLines(199), allOf(44), greatest, "1x0 "+allOf(45)) {
		steps := stepsIn(t, text)
		if got := impl.FormatProof(steps); got != text {
			t.Errorf("FormatProof(%v) = %q", steps, got)
		}
		got, ok := impl.ParseProof(text)
		wantSteps(t, "ParseProof "+text, got, ok, text)
	}
	if got := impl.FormatProof([]impl.Step{}); got != "-" {
		t.Errorf("FormatProof of no steps = %q", got)
	}
	roll := dice(104)
	for i := range 300 {
		steps := roll.proof(44, i%40)
		text := slowProofText(steps)
		if !isProofText(text) {
			if got := impl.FormatProof(steps); got != "" {
				t.Errorf("FormatProof(%v) = %q", steps, got)
			}
			got, ok := impl.ParseProof(text)
			wantNoSteps(t, "ParseProof "+text, got, ok)
			continue
		}
		if got := impl.FormatProof(steps); got != text {
			t.Errorf("FormatProof(%v) = %q", steps, got)
		}
		got, ok := impl.ParseProof(text)
		wantSteps(t, "ParseProof "+text, got, ok, text)
	}
}

func TestFormatProofInvalid(t *testing.T) {
	for before := range 4 {
		front := stepsIn(t, lastLines(before))
		for i, s := range wrongSteps(44 + before) {
			for _, behind := range [][]impl.Step{nil, stepsIn(t, "1x0")} {
				if got := impl.FormatProof(slices.Concat(front, []impl.Step{s}, behind)); got != "" {
					t.Errorf("FormatProof with the bad step %d = %q", i, got)
				}
			}
		}
	}
	for _, text := range []string{"1x44", "1x0 1x45", "1x43 1x45", "1x0+1x44", "0x0", "1001x0", "1x1+1x0", "1x0+1x0", "1x-1", lastLines(201), lastLines(200) + " 1x0", lastLines(199) + " 1x243 1x0", lastLines(199) + " 1x244", allOf(45), "1x0 " + allOf(46)} {
		if got := impl.FormatProof(stepsIn(t, text)); got != "" {
			t.Errorf("FormatProof of the steps %s = %q", text, got)
		}
		got, ok := impl.ParseProof(text)
		wantNoSteps(t, "ParseProof "+text, got, ok)
	}
}

func TestParseProofInvalid(t *testing.T) {
	texts := []string{
		"", " ", "  ", "x", "1x", "x1", "1", "0", "+", "--", "- ", " -", "- -", "-\n", "-0", "- 1x0", "1x0 -", "1x0 - 1x0", "-+1x0", "1x0+-", "-x0", "1x-", "-1x0", "1x-0", "1x-1",
		"0x1", "0x0", "1001x0", "1x44", "1x0 1x45", "1x0+1x44", "10000x0", "1x100", "99999999999999999999x0", "1x99999999999999999999", "9223372036854775808x0", "1x9223372036854775807", "18446744073709551617x0", "1x18446744073709551616",
		"01x1", "1x01", "1x00", "00x1", "+1x1", "1x+1", "1x1+01x2", "1x1+1x02", "1x1+1x1", "1x2+1x1", "1x1+2x1", "1x1 0x1", "1x1+0x2", "1x1+1001x2", "1_0x1", "1x1_0", "1.0x1", "1e2x1", "0b1x1", "0x1x1", "1x0x1", "1x0b1",
		" 1x0", "1x0 ", "1x0  1x1", "1x0 1x1 ", " 1x0 1x1", "1x0   1x1", "1x0+ 1x1", "1x0 +1x1", "1x0 + 1x1", "1 x0", "1x 0", "1x0+", "+1x0", "1x0++1x1", "1x0+1x1+", "1x0+ +1x1", "1x0\t1x1", "1x0\n1x1", "1x0\n", "1x0,1x1", "1x0;1x1", "1x0/1x1", "1X0", "1*0", "1\u00d70", "x0+1x1", "1x+1x1", "1x0+x1", "1x0+1x", "1x0+1",
		"1x0\x00", "\x001x0", "1\x00x0", "1x\x000", "\xff", "1x0\xff", "1x0 \xff", "\uff11x0", "1x0\u00a01x1", "a", "1a0", "1xa", "true", "a<=0", "1x4+1x5<=0", "1x4+1x5=0",
		lastLines(201), lastLines(200) + " ", lastLines(200) + " -", " " + lastLines(200), lastLines(199) + " 1x244", allOf(45), allOf(44) + "+", allOf(44) + "+1x44", allOf(44) + " " + allOf(46),
	}
	for _, s := range texts {
		got, ok := impl.ParseProof(s)
		wantNoSteps(t, "ParseProof "+s, got, ok)
		if isProofText(s) {
			t.Errorf("%q is the text of steps", s)
		}
	}
	for _, long := range []string{"1x0 ", "1x0+", "- ", "-", " ", "+", "x", "1", "1x0", "9x", "0", "\xff", "1x4+1x5 "} {
		got, ok := impl.ParseProof(strings.Repeat(long, 300000))
		wantNoSteps(t, "ParseProof of a long text", got, ok)
		got, ok = impl.ParseProof("1x0 " + strings.Repeat(long, 300000))
		wantNoSteps(t, "ParseProof of a long text behind a step", got, ok)
	}
}

var pairText = regexp.MustCompile(`\A([1-9][0-9]{0,2}|1000)x(0|[1-9][0-9]{0,2})\z`)

// isProofText tells the texts of steps in another way than the program does.
func isProofText(s string) bool {
	if s == "-" {
		return true
	}
	words := strings.Split(s, " ")
	for i, word := range words {
		before := -1
		for _, pair := range strings.Split(word, "+") {
			if !pairText.MatchString(pair) {
				return false
			}
			from := 0
			for _, digit := range pair[strings.Index(pair, "x")+1:] {
				from = 10*from + int(digit-'0')
			}
			if from <= before || from > 43+i {
				return false
			}
			before = from
		}
	}
	return len(words) <= 200
}

func TestParseProofNearly(t *testing.T) {
	accepted, refused := 0, 0
	check := func(s string) {
		got, ok := impl.ParseProof(s)
		if ok != isProofText(s) {
			t.Errorf("ParseProof(%q) = %v, %v", s, got, ok)
		}
		if ok && (impl.FormatProof(got) != s || slowProofText(got) != s) {
			t.Errorf("ParseProof(%q) has the text %q", s, impl.FormatProof(got))
		}
		if !ok && len(got) > 0 {
			t.Errorf("ParseProof(%q) = %v, false", s, got)
		}
		if ok {
			accepted++
		} else {
			refused++
		}
	}
	for _, text := range textsOfSteps {
		for _, s := range nearly(text) {
			check(s)
		}
		for i := range len(text) + 1 {
			for _, c := range []string{"x", "x1", "1x", "  ", "+", "++", " - ", "x0 1", "+1x4", " 1x4", "1x4+", "1x4 ", "0", "00", "4", "43", "44", "1000x1+", "001"} {
				check(text[:i] + c + text[i:])
			}
		}
	}
	if accepted < 300 || refused < 3000 {
		t.Errorf("%d of the nearby texts are those of steps, and %d are not", accepted, refused)
	}
}

// findTexts are systems with the proofs that FindProof returns for them; the text is empty if there is none.
var findTexts = map[string]string{
	"a-b<=0 -a+b+1<=0": "1x4+1x5", "a-2b+1<=0 -a+3b-1<=0": "1x0+1x4 1x4+1x5 1x6+1x7", "-a+3<=0 a-2<=0": "1x4+1x5", "a-2<=0 -a+3<=0": "1x4+1x5", "d-3<=0 -d+4<=0": "1x4+1x5", "a-d<=0 -a+d+1<=0": "1x4+1x5", "2a-1<=0 -a+1<=0": "1x4+2x5", "-a+1<=0 2a-1<=0": "2x4+1x5", "100b-99<=0 -b+1<=0": "1x4+100x5",
	"3a-b<=0 -2a+c<=0 b-1<=0 -c+2<=0": "2x4+3x5 2x6+1x8 1x7+1x9", "-a+b+1<=0 -b+c+1<=0 -c+d+1<=0 a-d<=0": "1x4+1x7 1x1+1x8 1x5+1x8 1x2+1x10 1x6+1x10", "a-b<=0 b-c<=0 c-d<=0 -a+d+1<=0": "1x4+1x7 1x5+1x8 1x6+1x9", "a+b-3<=0 -a+2<=0 -b+2<=0": "1x0+1x4 1x4+1x5 1x6+1x8", "-b+2<=0 -a+2<=0 a+b-3<=0": "1x0+1x6 1x5+1x6 1x4+1x8",

	// Atoms that are never true: the first one is taken, once, whatever the others are.
	"1<=0": "1x4", "a+1<=0": "1x4", "2a+1<=0": "1x4", "7<=0": "1x4", "a<=0 b+c+7<=0": "1x5", "a-3<=0 1<=0 2<=0 -a+4<=0": "1x5", "3<=0 1<=0": "1x4", "-a+4<=0 a-3<=0 2b+2c+1<=0": "1x6", "100a+100b+100c+100d+10000<=0": "1x4", "a-2b<=0 -51a+c<=0 d+1<=0": "1x6", "-a+1<=0 a+1<=0 1<=0": "1x5",

	// There is a solution, or only rounding before adding would tell that there is none.
	"-": "", "0<=0": "", "-1<=0": "", "a<=0": "", "-a<=0": "", "a-3<=0 -a+3<=0": "", "-a-b-c-d+4000<=0": "", "a-b<=0 b-c<=0 c-d<=0 -a+d<=0": "", "2a-2b-1<=0 -2a+2b+1<=0": "", "a-b<=0 -a+b<=0": "", "2a-5<=0 -2a+5<=0": "", "2a-3<=0 -2a+2<=0": "", "3a-5b-1<=0 -3a+5b<=0": "", "2a-3b<=0 -2a+3b<=0 -b+1<=0 b-1<=0": "",

	// Equal lines: among the atoms, and those of steps.
	"b-1<=0 b-1<=0 -b+2<=0": "1x4+1x6", "-b+2<=0 -b+2<=0 b-1<=0 b-1<=0": "1x4+1x6", "a-b<=0 a-b<=0 -a+c<=0 b-1<=0 -c+2<=0": "1x4+1x6 1x7+1x9 1x8+1x10", "b-1<=0 a+b-1<=0 -b+2<=0": "1x4+1x6", "2b-2<=0 a+b-1<=0 -b+2<=0": "1x0+1x5 1x4+2x6", "a+b-1<=0 2a+2b-2<=0 -b+2<=0": "1x0+1x4 1x6+1x7",

	// Sums that are not valid end a search, also those that are always true, but not what comes before them.
	"a-2b<=0 -51a+c<=0": "", "a-2b<=0 -51a+c<=0 d-1<=0 -d+2<=0": "", "a-2b<=0 -50a+c<=0 d-1<=0 -d+2<=0": "50x4+1x5 1x6+1x7", "a-1<=0 -a+2<=0 a-2b<=0 -51a+c<=0": "1x4+1x5", "-51a+c<=0 a-2b<=0 a-1<=0 -a+2<=0": "", "a-1<=0 -a+2<=0 b-2c<=0 -51b+d<=0": "1x4+1x5", "b-1<=0 -b+2<=0 a-2c<=0 -51a+d<=0": "",
	"100a-100b<=0 -100a+100c<=0 d-1<=0 -d+2<=0": "", "100a-10000<=0 -2a<=0 b-1<=0 -b+2<=0": "", "100a-10000<=0 -a<=0 b-1<=0 -b+2<=0": "1x6+1x7", "a-5001<=0 -2a+b<=0 d-1<=0 -d+2<=0": "", "a-5000<=0 -2a+b<=0 d-1<=0 -d+2<=0": "2x4+1x5 1x6+1x7", "99a-b<=0 -a+c<=0 d-1<=0 -d+2<=0": "1x4+99x5 1x6+1x7",

	"a=0": "", "1=0": "", "a=0 1<=0": "", "1<=0 0=0": "", "a+1=0": "", "2|a": "", "1<=0 2|a": "", "1|0": "", "1<=0 1!0": "",
}

func TestFindProofTexts(t *testing.T) {
	for text, want := range findTexts {
		list := systemIn(t, text)
		got, ok := impl.FindProof(list)
		wantSteps(t, "FindProof "+text, got, ok, want)
		slow, why := slowFind(list)
		if found := why == "line" || why == "atom"; found != (want != "") || found && slowProofText(slow) != want {
			t.Errorf("the document's rules give %s for %s", slowProofText(slow), text)
		}
		if is := impl.ProofValid(list, got); is != (want != "") {
			t.Errorf("ProofValid of FindProof of %s = %v", text, is)
		}
	}
}

// greatPrimes are greater than the numbers of the lower bounds of a grid.
var greatPrimes = []int{11, 13, 17, 19, 23, 29, 31, 37, 41, 43, 47, 53, 59, 61, 67, 71, 73, 79, 83, 89}

// lowBounds is the text of so many lower bounds of a, with something added to each.
func lowBounds(count int, more string) string {
	return repeated(count, func(i int) string { return "-a+" + multiple(i+1) + more + "<=0" })
}

// highBounds is the text of so many upper bounds of a, the sums of which with lower ones all differ.
func highBounds(count int) string {
	return repeated(count, func(i int) string { return fmt.Sprintf("a-%dc<=0", greatPrimes[i]) })
}

// gridOf is the text of a system for whose proof each one of so many lower bounds of a is combined with each one of so many upper ones. The last one of these steps alone has a line that is never true.
func gridOf(lower int, upper int) string {
	return lowBounds(lower-1, "+d") + " -a+d+2<=0 " + highBounds(upper-1) + " a-1<=0"
}

// TestFindProofGreat looks at searches that take just as many steps as there can be, and one more.
func TestFindProofGreat(t *testing.T) {
	extra := "a+b-5<=0 "        // with it, a step takes also the line that a is not negative
	behind := " b-1<=0 -b+2<=0" // what is never true of b is found only after all steps about a
	cases := map[string]int{
		gridOf(2, 2): 4, gridOf(10, 19): 190, gridOf(10, 20): 200, gridOf(10, 21): -1, gridOf(8, 21): 168, extra + gridOf(10, 18): 191, extra + gridOf(9, 21): 199, extra + gridOf(10, 19): -1, extra + "a+20b-5<=0 " + gridOf(9, 20): 200,
		lowBounds(10, "") + " " + highBounds(19) + behind: 191, lowBounds(10, "") + " " + highBounds(20) + behind: -1, lowBounds(10, "") + " " + highBounds(20): -1, lowBounds(10, "") + " " + highBounds(19): -1, lowBounds(10, "") + " " + highBounds(20) + behind + " c+d+1<=0": 1,
	}
	for text, count := range cases {
		list := systemIn(t, text)
		got, ok := impl.FindProof(list)
		slow, why := slowFind(list)
		if count < 0 {
			wantNoSteps(t, "FindProof "+text, got, ok)
			if why != "steps" && why != "variables" {
				t.Errorf("the search for a proof of %s ends because of %s", text, why)
			}
			continue
		}
		wantSteps(t, "FindProof "+text, got, ok, slowProofText(slow))
		if len(got) != count || !impl.ProofValid(list, got) {
			t.Errorf("FindProof(%s) has %d steps", text, len(got))
		}
	}
	// The shadows take as many atoms as they need for this, but a proof has no such line.
	if list := systemIn(t, extra+gridOf(10, 19)); impl.ShadowTest(list) != 0 {
		t.Error("the shadows do not tell that there is no solution")
	}
}

// tightSystems are systems without equations whose atoms are as tight as can be.
func tightSystems() [][]impl.Atom {
	var list [][]impl.Atom
	for _, system := range slices.Concat(someSystems(), closeSystems()) {
		if tight, ok := slowSplitSystem(system); ok {
			list = append(list, tight)
		}
	}
	return list
}

// TestFindProof compares FindProof with the document's rules.
func TestFindProof(t *testing.T) {
	reasons := map[string]int{}
	for _, list := range slices.Concat(someSystems(), closeSystems(), tightSystems()) {
		text := slowSystemText(list)
		got, ok := impl.FindProof(list)
		slow, why := slowFind(list)
		reasons[why]++
		if why != "line" && why != "atom" {
			wantNoSteps(t, "FindProof "+text, got, ok)
			continue
		}
		wantSteps(t, "FindProof "+text, got, ok, slowProofText(slow))
		if !impl.ProofValid(list, got) || !slowProves(list, got) {
			t.Errorf("FindProof(%s) = %s is not valid", text, slowProofText(got))
		}
		if parsed, ok := impl.ParseProof(impl.FormatProof(got)); slowProofText(parsed) != slowProofText(got) || !ok {
			t.Errorf("FindProof(%s) = %s has the text %q", text, slowProofText(got), impl.FormatProof(got))
		}
	}
	for why, least := range map[string]int{"no system": 200, "atom": 300, "line": 300, "sum": 100, "variables": 500} {
		if reasons[why] < least {
			t.Errorf("%d searches end because of %s", reasons[why], why)
		}
	}
}

// TestProofsAgree looks whether what is proved to have no solution has none, by a search and by chapter 9, and whether a proof is found of each tight system that the real shadows tell to have none.
func TestProofsAgree(t *testing.T) {
	points := append(pointsTo(4), somePoints...)
	proved, unproved, shadows := 0, 0, 0
	for i, list := range tightSystems() {
		text := slowSystemText(list)
		steps, ok := impl.FindProof(list)
		test := impl.ShadowTest(list)
		if test == 0 {
			shadows++
		}
		if !ok {
			unproved++
			if _, why := slowFind(list); test == 0 && why != "steps" {
				t.Errorf("there is no proof of %s, but the real shadows are never true", text)
			}
			continue
		}
		proved++
		if last, all := slowLast(list, false); all && joined(last) != "1<=0" {
			t.Errorf("there is a proof of %s, but its real shadows are true: %s", text, joined(last))
		}
		if test == 1 || slices.ContainsFunc(points, func(values [4]int) bool { return allTell(list, values) }) {
			t.Errorf("there is a proof of %s, but there is a solution", text)
		}
		if p, found := impl.LeastPoint(list, 8); found {
			t.Errorf("%s proves that %s has no solution, but %v is one", slowProofText(steps), text, p)
		}
		if i%5 == 0 {
			if is, can := impl.HasSolution(list); is && can {
				t.Errorf("there is a proof of %s, but HasSolution is true", text)
			}
		}
	}
	if proved < 300 || unproved < 300 || shadows < 300 {
		t.Errorf("%d systems have a proof, %d have none, %d have real shadows that are never true", proved, unproved, shadows)
	}
}

// trimTexts are systems and proofs with what is left of these; the text is empty if they are not valid.
var trimTexts = []struct {
	system string
	steps  string
	want   string
}{
	{"a-b<=0 -a+b+1<=0", "1x4+1x5", "1x4+1x5"}, {"a-b<=0 -a+b+1<=0 c-d<=0", "1x0+1x4 1x4+1x5", "1x4+1x5"}, {"a-b<=0 -a+b+1<=0", "1x0 1x1 1x2 1x3 1x4 1x5 7x4+7x5", "7x4+7x5"}, {"a-b<=0 -a+b+1<=0", "1x4+1x5 1x4+1x5", "1x4+1x5"}, {"a-b<=0 -a+b+1<=0", "1x4+1x5 1x6", "1x4+1x5 1x6"}, {"a-b<=0 -a+b+1<=0", "1x4+1x5 1x0 1x6", "1x4+1x5 1x6"}, {"a-b<=0 -a+b+1<=0", "1x4 1x5 1x4+1x7", "1x5 1x4+1x6"},
	{"a-2b+1<=0 -a+3b-1<=0", "1x0+1x4 1x4+1x5 1x6+1x7", "1x0+1x4 1x4+1x5 1x6+1x7"}, {"a-2b+1<=0 -a+3b-1<=0", "1x1 1x0+1x4 1x2 1x4+1x5 1x3 1x7+1x9", "1x0+1x4 1x4+1x5 1x6+1x7"}, {"a-2b+1<=0 -a+3b-1<=0", "1x4+1x5 1x0 1x0+1x4 5x6+5x8", "1x4+1x5 1x0+1x4 5x6+5x7"}, {"a-2b+1<=0 -a+3b-1<=0", "1x0+1x4 1x4+1x5 1x6+1x7 1x0+3x4+2x5", "1x0+3x4+2x5"},
	{"1<=0", "1x4", "1x4"}, {"1<=0", "1x4 1x5 1x6", "1x4 1x5 1x6"}, {"1<=0", "1x4 1x5 1x4", "1x4"}, {"1<=0", "1x4 1x5 1x5", "1x4 1x5"}, {"1<=0", "1x4 1x4 1x6", "1x4 1x5"}, {"1<=0", "1x4 1x4 1x5+1x6", "1x4 1x4 1x5+1x6"}, {"1<=0", "1x4 1x5 1x6 1x5+1x7 1x6 1x8+3x9", "1x4 1x5 1x6 1x5+1x7 1x6 1x8+3x9"}, {"1<=0", "1x4 1x5 1x6 1x5+1x7 1x6 2x4+1x9", "1x4 1x5 1x6 2x4+1x7"}, {"1<=0 0<=0", "1x5 1x4 1x7 1x6+1x8", "1x5 1x4 1x7 1x6+1x8"}, {"1<=0 0<=0", "1x5 1x4 1x7 1x5+1x7", "1x4 1x5+1x6"},
	{"a-b<=0 -a+b+1<=0", "-", ""}, {"a-b<=0 -a+b+1<=0", "1x4", ""}, {"a-b<=0 -a+b+1<=0", "1x4+1x5 1x4", ""}, {"a-b<=0 -a+b+1<=0", "1x7 1x4+1x5", ""}, {"a-b<=0 -a+b+1<=0", "101x4 1x4+1x5", ""}, {"a-b<=0 -a+b+1<=0", "0x0 1x4+1x5", ""}, {"1<=0", "-", ""}, {"-", "-", ""}, {"-", "1x0", ""}, {"a=0 1<=0", "1x5", ""}, {"1=0", "1x4", ""}, {"1<=0 2|a", "1x4", ""},
}

func TestTrimProofTexts(t *testing.T) {
	for _, x := range trimTexts {
		list := systemIn(t, x.system)
		got, ok := impl.TrimProof(list, stepsIn(t, x.steps))
		wantSteps(t, "TrimProof "+x.steps+" of "+x.system, got, ok, x.want)
		if x.want != "" && !impl.ProofValid(list, got) {
			t.Errorf("TrimProof %s of %s is not valid", x.steps, x.system)
		}
	}
	for count := 2; count <= 200; count += 33 {
		chain := repeated(count, func(i int) string { return fmt.Sprintf("1x%d", 4+i) })
		got, ok := impl.TrimProof(systemIn(t, "1<=0"), stepsIn(t, chain))
		wantSteps(t, "TrimProof "+chain, got, ok, chain)
		apart := repeated(count-1, func(int) string { return "1x4" })
		got, ok = impl.TrimProof(systemIn(t, "1<=0"), stepsIn(t, apart+fmt.Sprintf(" 5x%d", 3+count)))
		wantSteps(t, "TrimProof "+apart, got, ok, "1x4 5x5")
	}
}

// TestTrimProof compares TrimProof with the document's rules, for proofs that are found and those with other steps between them.
func TestTrimProof(t *testing.T) {
	roll := dice(105)
	trimmed, none, some, most := 0, 0, 0, 0
	for _, list := range slices.Concat(someSystems(), closeSystems(), tightSystems()) {
		found, ok := impl.FindProof(list)
		if !ok {
			continue
		}
		own, _ := impl.TrimProof(list, found)
		for _, steps := range [][]impl.Step{found, roll.mixed(list, found), roll.mixed(list, own)} {
			what := "TrimProof " + slowProofText(steps) + " of " + slowSystemText(list)
			got, ok := impl.TrimProof(list, steps)
			wantSteps(t, what, got, ok, slowProofText(slowTrim(list, steps)))
			wantSteps(t, what, got, ok, slowProofText(own)) // the other steps are not needed
			if !impl.ProofValid(list, got) {
				t.Errorf("%s is not valid", what)
			}
			again, ok := impl.TrimProof(list, got)
			wantSteps(t, what+", again", again, ok, slowProofText(got))
			trimmed++
			switch {
			case len(got) == len(steps):
				none++
			case len(got) > 1:
				some++
			default:
				most++
			}
		}
	}
	if trimmed < 1500 || none < 300 || some < 300 || most < 300 {
		t.Errorf("%d proofs are trimmed: no step is left out of %d, some of %d, all but the last of %d", trimmed, none, some, most)
	}
}

func TestCertifySystemTexts(t *testing.T) {
	cases := []struct {
		text  string
		bound int
		code  int
		want  [4]int
		steps string
	}{
		{"-a+2<=0", 3, 1, [4]int{2}, "-"}, {"-a+2<=0", 2, 1, [4]int{2}, "-"}, {"-a+2<=0", 1, -1, [4]int{}, "-"}, {"-a+9<=0", 3, -1, [4]int{}, "-"}, {"-a+8<=0", 8, 1, [4]int{8}, "-"}, {"-a+9<=0", 8, -1, [4]int{}, "-"}, {"-a+2<=0", 8, 1, [4]int{2}, "-"}, {"-b-d+3<=0", 2, 1, [4]int{0, 1, 0, 2}, "-"}, {"-b-d+3<=0", 8, 1, [4]int{0, 0, 0, 3}, "-"},
		{"-", 0, 1, [4]int{}, "-"}, {"-", 8, 1, [4]int{}, "-"}, {"0<=0", 0, 1, [4]int{}, "-"}, {"a<=0", 0, 1, [4]int{}, "-"}, {"-a+1<=0", 0, -1, [4]int{}, "-"}, {"-a+1<=0", 1, 1, [4]int{1}, "-"},
		{"a-b<=0 -a+b+1<=0", 0, 0, [4]int{}, "1x4+1x5"}, {"a-b<=0 -a+b+1<=0", 3, 0, [4]int{}, "1x4+1x5"}, {"a-b<=0 -a+b+1<=0", 8, 0, [4]int{}, "1x4+1x5"}, {"1<=0", 0, 0, [4]int{}, "1x4"}, {"1<=0", 8, 0, [4]int{}, "1x4"}, {"a-2b+1<=0 -a+3b-1<=0", 8, 0, [4]int{}, "1x0+1x4 1x4+1x5 1x6+1x7"}, {"-a+1000<=0 a-999<=0", 8, 0, [4]int{}, "1x4+1x5"},
		{"2a-2b-1<=0 -2a+2b+1<=0", 8, -1, [4]int{}, "-"}, {"2a-5<=0 -2a+5<=0", 8, -1, [4]int{}, "-"}, {"3a-5b-1<=0 -3a+5b<=0", 8, 1, [4]int{}, "-"}, {"a-2b<=0 -51a+c<=0 d-1<=0 -d+2<=0", 8, -1, [4]int{}, "-"}, {gridOf(10, 20), 1, 0, [4]int{}, "many"}, {gridOf(10, 21), 1, -1, [4]int{}, "-"},
		{"a-2=0", 3, 1, [4]int{2}, "-"}, {"a-2=0", 1, -1, [4]int{}, "-"}, {"a-b=0 a-b-1=0", 8, -1, [4]int{}, "-"}, {"1=0", 8, -1, [4]int{}, "-"}, {"a=0 1<=0", 8, -1, [4]int{}, "-"}, {"3a-5b-1=0 -b+1<=0", 8, 1, [4]int{2, 1}, "-"}, {"0=0", 0, 1, [4]int{}, "-"}, {"2|a", 8, -1, [4]int{}, "-"}, {"1<=0 2|a", 8, -1, [4]int{}, "-"},
	}
	for _, x := range cases {
		list := systemIn(t, x.text)
		p, steps, code := impl.CertifySystem(list, x.bound)
		if text := slowProofText(steps); code != x.code || p != pointOf(x.want) || text != x.steps && (x.steps != "many" || len(steps) != 200) {
			t.Errorf("CertifySystem(%s, %d) = %v, %s, %d", x.text, x.bound, p, text, code)
		}
	}
	// A bound that is not valid leaves no point, but a proof needs none.
	for _, bound := range append([]int{-100, -2, -1, 9, 10, 1000}, extremes...) {
		for text, want := range map[string]string{"-": "-", "a<=0": "-", "-a+2<=0": "-", "a-3=0": "-", "1=0": "-", "1<=0": "1x4", "a-b<=0 -a+b+1<=0": "1x4+1x5"} {
			p, steps, code := impl.CertifySystem(systemIn(t, text), bound)
			if got := slowProofText(steps); got != want || p != (impl.Point{}) || code != 0 && want != "-" || code != -1 && want == "-" {
				t.Errorf("CertifySystem(%s, %d) = %v, %s, %d", text, bound, p, got, code)
			}
		}
	}
}

func TestCertifySystem(t *testing.T) {
	codes := map[int]int{}
	for i, list := range slices.Concat(closeSystems(), every(someSystems(), 3), every(tightSystems(), 4)) {
		for _, bound := range []int{0, 1, 2 + i%7, 8, 9, -1} {
			p, steps, code := impl.CertifySystem(list, bound)
			codes[code]++
			least, isPoint := impl.Point{}, false
			if 0 <= bound && bound <= 8 {
				least, isPoint = slowLeastPoint(list, bound)
			}
			proof, why := slowFind(list)
			isProof := !isPoint && (why == "line" || why == "atom")
			want := -1
			switch {
			case isPoint:
				want = 1
			case isProof:
				want = 0
			}
			if !isPoint {
				least = impl.Point{}
			}
			if !isProof {
				proof = nil
			}
			if code != want || p != least || slowProofText(steps) != slowProofText(proof) {
				t.Errorf("CertifySystem(%s, %d) = %v, %s, %d, want %v, %s, %d", slowSystemText(list), bound, p, slowProofText(steps), code, least, slowProofText(proof), want)
			}
			if code == 0 && !impl.ProofValid(list, steps) {
				t.Errorf("CertifySystem(%s, %d) has a proof that is not valid", slowSystemText(list), bound)
			}
		}
	}
	if codes[1] < 1000 || codes[0] < 1000 || codes[-1] < 500 {
		t.Errorf("the codes are %v", codes)
	}
}

// onceOnly returns a function that looks whether it is shown no place in memory twice.
func onceOnly(t *testing.T, what string) func(place any) {
	seen := map[any]bool{}
	return func(place any) {
		t.Helper()
		if seen[place] {
			t.Errorf("%s: memory is shared", what)
		}
		seen[place] = true
	}
}

// wantFreshSteps looks whether steps and the lists within them share memory, unused capacity included.
func wantFreshSteps(t *testing.T, what string, proofs ...[]impl.Step) {
	t.Helper()
	see := onceOnly(t, what)
	for _, steps := range proofs {
		steps = steps[:cap(steps)]
		for i := range steps {
			see(&steps[i])
			for _, numbers := range [][]int{steps[i].From, steps[i].Times} {
				numbers = numbers[:cap(numbers)]
				for j := range numbers {
					see(&numbers[j])
				}
			}
		}
	}
}

// TestProofsMemory looks whether results share memory with arguments or with each other, unused capacity included.
func TestProofsMemory(t *testing.T) {
	roll := dice(106)
	for _, list := range append(every(tightSystems(), 5), atomsIn(t, "a-2b+1<=0 -a+3b-1<=0"), atomsIn(t, "1<=0")) {
		whole := slices.Grow(list, 7)
		lists := [][]impl.Atom{whole}
		found, ok := impl.FindProof(whole)
		var proofs [][]impl.Step
		keep := func(got []impl.Step, _ bool) { proofs = append(proofs, got) }
		keep(found, true)
		for range 2 {
			got, _ := impl.StartLines(whole)
			lists = append(lists, got)
			keep(impl.FindProof(whole))
			keep(impl.ParseProof(impl.FormatProof(found)))
			_, steps, _ := impl.CertifySystem(whole, 1)
			keep(steps, true)
		}
		if ok {
			mixed := roll.mixed(list, found)
			keep(mixed, true)
			for range 2 {
				got, _ := impl.ProofLines(whole, mixed)
				lists = append(lists, got)
				keep(impl.TrimProof(whole, mixed))
				keep(impl.TrimProof(whole, found))
			}
		}
		wantFreshAtoms(t, slowSystemText(list), lists...)
		wantFreshSteps(t, slowSystemText(list), proofs...)
	}
	for _, text := range []string{lastLines(200), allOf(44) + " " + allOf(45), strings.Join(textsOfSteps[1:3], " ")} {
		first, _ := impl.ParseProof(text)
		second, _ := impl.ParseProof(text)
		wantFreshSteps(t, text, first, second)
	}
}

// TestProofsUnchanged calls the functions and looks whether their arguments are left as they are, also beyond their length.
func TestProofsUnchanged(t *testing.T) {
	roll := dice(107)
	numbers := func(proof []impl.Step) []int {
		var all []int
		for _, s := range proof {
			all = slices.Concat(all, []int{len(s.From), cap(s.From)}, s.From[:cap(s.From)], []int{len(s.Times), cap(s.Times)}, s.Times[:cap(s.Times)])
		}
		return all
	}
	for _, list := range every(slices.Concat(someSystems(), closeSystems(), tightSystems()), 5) {
		whole := slices.Concat(list, []impl.Atom{{Kind: 1, Term: impl.Term{A: 1, N: -7}}, {Kind: 9}, {Kind: 2, Mod: 5}})
		system := whole[:len(list)]
		steps := roll.proof(4+len(list), 3)
		if found, ok := impl.FindProof(list); ok {
			steps = roll.mixed(list, found)
		}
		for i := range steps { // what is behind the lists in them is not to be touched
			steps[i].From = append(steps[i].From, -7, -8)[:len(steps[i].From)]
			steps[i].Times = append(steps[i].Times, -9)[:len(steps[i].Times)]
		}
		all := append(steps, impl.Step{From: []int{-5}}, impl.Step{Times: []int{-6}})
		steps = all[:len(steps)]
		atoms, before := slices.Clone(whole), numbers(all)
		lines, _ := impl.StartLines(system)
		lines = append(lines, impl.Atom{Kind: 7})
		seen := slices.Clone(lines)
		for _, s := range steps {
			impl.StepValid(s, len(lines))
			impl.RunStep(lines[:len(lines)-1], s)
		}
		impl.ProofLines(system, steps)
		impl.ProofValid(system, steps)
		impl.FormatProof(steps)
		impl.FindProof(system)
		impl.TrimProof(system, steps)
		impl.CertifySystem(system, 2)
		if !slices.Equal(whole, atoms) || !slices.Equal(lines, seen) || !slices.Equal(numbers(all), before) {
			t.Errorf("an argument about %s was changed", slowSystemText(list))
		}
	}
}
