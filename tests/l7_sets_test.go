package tests

import (
	"math"
	"regexp"
	"slices"
	"strings"
	"testing"

	"loop.example/presburger/impl"
)

// Numbers that are just past a limit of their argument, or far from it.
var (
	badShifts  = append([]int{-1, -2, -240, -400, 401, 402, 640, 100000}, extremes...)
	badFactors = append([]int{0, -1, -2, -240, 241, 242, 400, 100000}, extremes...)
	badSteps   = append([]int{-1, -2, -240, 241, 242, 400, 100000}, extremes...)
	badCounts  = append([]int{-1, -2, -1000000, 1000001, 1000002}, extremes...)
)

func zeros(count int) string {
	return strings.Repeat("0", count)
}

func ones(count int) string {
	return strings.Repeat("1", count)
}

// setOf reads a set without the program's help.
func setOf(text string) impl.Set {
	head, loop, _ := strings.Cut(text, "(")
	return impl.Set{Head: head, Loop: strings.TrimSuffix(loop, ")")}
}

// isIn tells whether a natural number is in a valid set, as the document says.
func isIn(s impl.Set, n int) bool {
	for n >= len(s.Head)+1000*len(s.Loop) {
		n -= 1000 * len(s.Loop)
	}
	for n >= len(s.Head)+len(s.Loop) {
		n -= len(s.Loop)
	}
	return (s.Head + s.Loop)[n] == '1'
}

// numbersFrom tells which of the first numbers are in a valid set.
func numbersFrom(s impl.Set, count int) []bool {
	list := make([]bool, count)
	for n := range list {
		switch {
		case n < len(s.Head):
			list[n] = s.Head[n] == '1'
		case n < len(s.Head)+len(s.Loop):
			list[n] = s.Loop[n-len(s.Head)] == '1'
		default:
			list[n] = list[n-len(s.Loop)]
		}
	}
	return list
}

// slowSet finds the normal form of a set of which it is told so many first numbers that a loop cannot seem to repeat without doing so.
func slowSet(list []bool) (impl.Set, bool) {
	for loop := 1; loop <= 240; loop++ {
		head := len(list) - loop
		for head > 0 && list[head-1] == list[head-1+loop] {
			head--
		}
		if head > 400 {
			continue
		}
		text := ""
		for _, is := range list[:head+loop] {
			text += map[bool]string{false: "0", true: "1"}[is]
		}
		return impl.Set{Head: text[:head], Loop: text[head:]}, true
	}
	return impl.Set{}, false
}

// wantSet looks whether a result is the normal form of the set of the numbers that is tells, or refused if this is not valid. From head on, is must repeat after each loop numbers. It returns whether there is a result.
func wantSet(t *testing.T, what string, got impl.Set, ok bool, head int, loop int, is func(n int) bool) bool {
	t.Helper()
	list := make([]bool, max(head, 400)+loop+240)
	for n := range list {
		list[n] = is(n)
	}
	want, can := slowSet(list)
	if got != want || ok != can {
		t.Errorf("%s = %v, %v, want %v, %v", what, got, ok, want, can)
	}
	if ok {
		for n, in := range list {
			if impl.HasNumber(got, n) != in {
				t.Errorf("%s = %v, wrong of %d", what, got, n)
				break
			}
		}
	}
	return can
}

// wantSetText compares a result with a text, which is empty if there is none.
func wantSetText(t *testing.T, what string, got impl.Set, ok bool, want string) {
	t.Helper()
	if got != setOf(want) || ok != (want != "") {
		t.Errorf("%s = %v, %v, want %q", what, got, ok, want)
	}
}

func wantNoSet(t *testing.T, what string, got impl.Set, ok bool) {
	t.Helper()
	if got != (impl.Set{}) || ok {
		t.Errorf("%s = %v, %v", what, got, ok)
	}
}

// digits makes bytes of which about one of so many is 1.
func (d *dice) digits(length int, every int) string {
	list := make([]byte, length)
	for i := range list {
		list[i] = '0'
		if d.roll(every) == 0 {
			list[i] = '1'
		}
	}
	return string(list)
}

// set makes a set with at most so many bytes. Its loop is often a repetition, and its head often ends as the loop does.
func (d *dice) set(head int, loop int) impl.Set {
	every := []int{1, 2, 3, 4, 5, 60}[d.roll(6)]
	part := d.digits(1+d.roll([]int{min(loop, 4), min(loop, 20), loop}[d.roll(3)]), every)
	s := impl.Set{Loop: strings.Repeat(part, 1+d.roll(loop/len(part)))}
	switch d.roll(3) {
	case 0:
		s.Head = d.digits(d.roll(head+1), every)
	case 1:
		many := strings.Repeat(part, head/len(part)+1)
		s.Head = d.digits(d.roll(head/2+1), every) + many[len(many)-d.roll(head/2+1):]
	}
	return s
}

// edgeSets are sets at the edges that the document names.
func edgeSets() []impl.Set {
	var list []impl.Set
	for _, text := range []string{
		"(0)", "(1)", "(00)", "(11)", "0(0)", "1(1)", "1(0)", "0(1)", "(01)", "(10)", "11(0)", "00(1)", "001(0)", "0110(0)", "10(110)", "101(101101)", "0101(01)", "1(01)", "0(01)", "(0011)", "(0101)", "000(001001)", "00(001)", "1(10)", "01(110)",
		zeros(400) + "(0)", zeros(400) + "(1)", ones(400) + "(0)", ones(400) + "(1)", zeros(399) + "1(0)", ones(399) + "0(1)", "1" + zeros(399) + "(0)", strings.Repeat("01", 200) + "(01)", strings.Repeat("10", 200) + "(01)",
		"(" + zeros(240) + ")", "(" + ones(240) + ")", "(" + zeros(239) + "1)", "(1" + zeros(239) + ")", "(" + ones(239) + "0)", "(" + strings.Repeat("01", 120) + ")", "(" + strings.Repeat(zeros(119)+"1", 2) + ")", "(" + zeros(120) + ones(120) + ")", "(" + zeros(238) + "1)", "(1" + zeros(238) + ")",
		zeros(400) + "(1" + zeros(239) + ")", ones(400) + "(" + ones(239) + "0)", zeros(399) + "1(" + zeros(239) + "1)", zeros(399) + "1(" + zeros(240) + ")", ones(400) + "(" + ones(240) + ")", zeros(400) + "(" + strings.Repeat("0011", 60) + ")",
	} {
		list = append(list, setOf(text))
	}
	return list
}

// someSets are edgeSets and others, small and great ones.
func someSets(seed dice, count int) []impl.Set {
	list := edgeSets()
	for range count {
		list = append(list, seed.set(12, 12), seed.set(400, 240))
	}
	return list
}

// smallSets are all sets with a head and a loop that are at most so long.
func smallSets(head int, loop int) []impl.Set {
	texts := []string{""}
	for i := 0; len(texts[i]) < max(head, loop); i++ {
		texts = append(texts, texts[i]+"0", texts[i]+"1")
	}
	var list []impl.Set
	for _, first := range texts {
		for _, second := range texts {
			if len(first) <= head && 1 <= len(second) && len(second) <= loop {
				list = append(list, impl.Set{Head: first, Loop: second})
			}
		}
	}
	return list
}

// badSets are sets that are not valid, each for one reason.
func badSets() []impl.Set {
	list := []impl.Set{
		{}, {Head: "1"}, {Head: "0"}, {Head: zeros(400)}, {Head: "10(110)"}, {Head: "(1)"}, {Loop: "(1)"}, {Head: "1(", Loop: "1)"},
		{Head: zeros(401), Loop: "0"}, {Head: ones(401), Loop: "1"}, {Head: zeros(402), Loop: "1"}, {Head: zeros(641), Loop: "01"}, {Head: ones(1000000), Loop: "1"},
		{Loop: zeros(241)}, {Loop: ones(241)}, {Loop: strings.Repeat("01", 121)}, {Loop: zeros(400)}, {Head: "1", Loop: ones(480)}, {Loop: zeros(1000000)}, {Head: zeros(401), Loop: zeros(241)},
		{Head: "١", Loop: "1"}, {Loop: "0１"}, {Head: "\xff", Loop: "1"}, {Loop: "1\x00"}, {Head: "true", Loop: "1"},
	}
	for _, c := range []byte("2/:. -x()\x00\x01\n\xb0\xb1\xff") { // at the start, inside and at the end
		for _, text := range []string{string([]byte{c}), string([]byte{c, '1', '0'}), string([]byte{'1', c, '0'}), string([]byte{'0', '1', c})} {
			list = append(list, impl.Set{Head: text, Loop: "1"}, impl.Set{Head: "01", Loop: text})
		}
	}
	return list
}

func TestSetLimits(t *testing.T) {
	if impl.MaxHead != 400 || impl.MaxLoop != 240 || impl.MaxProduct != 400 || impl.MaxAsked != 1000000 {
		t.Error("the limits are not those of the document")
	}
}

func TestSetValid(t *testing.T) {
	for _, s := range append(someSets(1, 100), smallSets(4, 4)...) {
		if !impl.SetValid(s) {
			t.Errorf("%v is refused", s)
		}
	}
	for _, s := range badSets() {
		if impl.SetValid(s) {
			t.Errorf("the set of %d and %d bytes, %.20q and %.20q, is accepted", len(s.Head), len(s.Loop), s.Head, s.Loop)
		}
	}
	for c := range 256 {
		one, want := string([]byte{byte(c)}), c == '0' || c == '1'
		for _, s := range []impl.Set{{Loop: one}, {Head: one, Loop: "1"}, {Head: "10" + one + "1", Loop: "01"}, {Head: "10", Loop: "0" + one + "1"}} {
			if impl.SetValid(s) != want {
				t.Errorf("SetValid(%q) = %v", s, !want)
			}
		}
	}
	for length := range 500 {
		if impl.SetValid(impl.Set{Head: zeros(length), Loop: "1"}) != (length <= 400) || impl.SetValid(impl.Set{Loop: zeros(length)}) != (1 <= length && length <= 240) {
			t.Errorf("SetValid of %d bytes", length)
		}
	}
}

func TestSetTexts(t *testing.T) {
	for _, x := range []struct {
		set  impl.Set
		text string
	}{
		{impl.Set{Loop: "0"}, "(0)"}, {impl.Set{Loop: "1"}, "(1)"}, {impl.Set{Head: "10", Loop: "110"}, "10(110)"}, {impl.Set{Head: "000", Loop: "00"}, "000(00)"}, {impl.Set{Head: zeros(400), Loop: ones(240)}, zeros(400) + "(" + ones(240) + ")"},
	} {
		if got := impl.FormatSet(x.set); got != x.text {
			t.Errorf("FormatSet(%v) = %q", x.set, got)
		}
	}
	for _, s := range append(someSets(2, 100), smallSets(5, 5)...) { // texts are of all valid sets, not of normal forms alone
		text := impl.FormatSet(s)
		if text != s.Head+"("+s.Loop+")" {
			t.Errorf("FormatSet(%v) = %q", s, text)
		}
		if got, ok := impl.ParseSet(text); got != s || !ok {
			t.Errorf("ParseSet(%q) = %v, %v", text, got, ok)
		}
	}
	for _, s := range badSets() {
		if got := impl.FormatSet(s); got != "" {
			t.Errorf("FormatSet(%.50q) = %q", s, got)
		}
		got, ok := impl.ParseSet(s.Head + "(" + s.Loop + ")")
		wantNoSet(t, "ParseSet of a bad set", got, ok)
	}
}

// setText tells the texts of sets in another way than the program does.
var setText = regexp.MustCompile(`^[01]{0,400}\([01]{1,240}\)$`)

func TestParseSetNearly(t *testing.T) {
	texts := []string{""}
	for i := 0; len(texts[i]) < 7; i++ {
		for _, c := range []string{"0", "1", "(", ")"} {
			texts = append(texts, texts[i]+c)
		}
	}
	for _, text := range []string{"10(110)", zeros(400) + "(1)", "(" + zeros(240) + ")", zeros(400) + "(" + ones(240) + ")"} {
		for i := range len(text) + 1 {
			for _, c := range []string{"0", "1", "2", "(", ")", " ", "\n", "\x00", "\xff", "[", "1)", "(1", "()"} {
				texts = append(texts, text[:i]+c+text[i:])
				if i < len(text) {
					texts = append(texts, text[:i]+c+text[i+1:], text[:i]+text[i+1:])
				}
			}
		}
	}
	accepted := 0
	for _, text := range texts {
		got, ok := impl.ParseSet(text)
		if ok != setText.MatchString(text) || ok && (got != setOf(text) || impl.FormatSet(got) != text) || !ok && got != (impl.Set{}) {
			t.Errorf("ParseSet(%q) = %v, %v", text, got, ok)
		}
		if ok {
			accepted++
		}
	}
	if accepted < 1000 || accepted > len(texts)/2 {
		t.Errorf("%d of %d texts are accepted", accepted, len(texts))
	}
}

func TestParseSetInvalid(t *testing.T) {
	for _, text := range []string{
		"", "0", "1", "10", "()", "10()", "(", ")", "1(", "1)", ")(", ")1(", "(1", "1)0(", "10)110(", "10(110", "10110)", // without a bracket, or without a loop
		"((1))", "(1)(1)", "1(1)(0)", "1((0)", "1(0))", "(1(0))", "((1)", "(1))", "()(1)", "(1)()", "0(1)0(1)", // more than one pair
		"(1)1", "(1)0", "10(110) ", "10(110)\n", "10(110)\x00", "(1).", "(1)101", // something behind the last one
		" (1)", "1 (1)", "(1 )", "( 1)", "-1(1)", "+(1)", "(-1)", "2(1)", "(2)", "1(2)", "1,0(1)", "[1]", "{1}", "(true)", "1（0）", "(１)", "\xff(1)", "(1\xff)",
		zeros(401) + "(1)", "(" + zeros(241) + ")", zeros(1000) + "(1)", zeros(1000000) + "(1)", "(" + ones(1000000) + ")", strings.Repeat("(1)", 100000), strings.Repeat("(", 100000), strings.Repeat(")", 100000), "(1" + strings.Repeat(")", 100000),
	} {
		got, ok := impl.ParseSet(text)
		wantNoSet(t, "ParseSet of "+text[:min(len(text), 50)], got, ok)
	}
}

func TestHasNumber(t *testing.T) {
	for text, want := range map[string][]int{"10(110)": {0, 2, 3, 5, 6, 8, 9, 11, 12}, "(0)": nil, "(1)": {0, 1, 2, 3, 4, 5, 6, 7, 8, 9, 10, 11, 12}, "001(0)": {2}, "(10)": {0, 2, 4, 6, 8, 10, 12}, "1(01)": {0, 2, 4, 6, 8, 10, 12}} {
		for n := -3; n <= 12; n++ {
			if got := impl.HasNumber(setOf(text), n); got != slices.Contains(want, n) {
				t.Errorf("HasNumber(%s, %d) = %v", text, n, got)
			}
		}
	}
	for _, s := range someSets(3, 60) {
		list := numbersFrom(s, len(s.Head)+5*len(s.Loop)+10)
		for n, want := range list { // in the head, at its end and behind it
			if impl.HasNumber(s, n) != want || isIn(s, n) != want {
				t.Errorf("HasNumber(%v, %d) = %v", s, n, !want)
			}
		}
		for more := range 2 * len(s.Loop) { // far behind it
			for _, far := range []int{1000000, math.MaxInt32, math.MaxInt - 1000} {
				n := far/len(s.Loop)*len(s.Loop) + more
				if got := impl.HasNumber(s, len(s.Head)+n); got != (s.Loop[more%len(s.Loop)] == '1') {
					t.Errorf("HasNumber(%v, %d) = %v", s, len(s.Head)+n, got)
				}
			}
		}
		for _, n := range []int{-1, -2, -240, -400, -1000000, math.MinInt32, math.MinInt + 1, math.MinInt} {
			if impl.HasNumber(s, n) {
				t.Errorf("HasNumber(%v, %d)", s, n)
			}
		}
	}
	full := math.MaxInt
	if !impl.HasNumber(setOf("(1)"), full) || !impl.HasNumber(setOf(zeros(400)+"(1)"), full) || impl.HasNumber(setOf(ones(400)+"(0)"), full) || impl.HasNumber(setOf("(10)"), full) || !impl.HasNumber(setOf("(01)"), full) {
		t.Error("HasNumber of the greatest int")
	}
	for _, s := range badSets() {
		for _, n := range append([]int{0, 1, 2, 400, 401, -1}, extremes...) {
			if impl.HasNumber(s, n) {
				t.Errorf("HasNumber(%.50q, %d)", s, n)
			}
		}
	}
}

func TestNormalSetTexts(t *testing.T) {
	for text, want := range map[string]string{
		"(0)": "(0)", "(1)": "(1)", "(00)": "(0)", "(111)": "(1)", "000(0)": "(0)", "11(111)": "(1)", "110(0)": "11(0)", "0(1)": "0(1)", "1(0)": "1(0)", // loops of one byte
		"(0101)": "(01)", "(010101)": "(01)", "(001001)": "(001)", "(011011011)": "(011)", "(0011)": "(0011)", "(00110011)": "(0011)", "(010011)": "(010011)", "(0110)": "(0110)", "(01010)": "(01010)", "(0100)": "(0100)", // loops that are repetitions, or seem to be
		"1(01)": "(10)", "0(10)": "(01)", "10(110)": "(101)", "0101(01)": "(01)", "1001(001)": "(100)", "0(0)": "(0)", "0(00)": "(0)", "01(10)": "01(10)", "00(10)": "0(01)", "11(01)": "1(10)", "110(10)": "1(10)", "10101(0101)": "(10)", "0001(001001)": "0(001)", "00(1000)": "(0010)", "0000(100)": "00(001)", // heads that end as the loop does
		zeros(400) + "(0)": "(0)", ones(400) + "(" + ones(240) + ")": "(1)", zeros(400) + "(1)": zeros(400) + "(1)", zeros(399) + "1(1)": zeros(399) + "(1)", zeros(399) + "1(0)": zeros(399) + "1(0)", strings.Repeat("10", 200) + "(10)": "(10)", strings.Repeat("10", 200) + "(01)": strings.Repeat("10", 200) + "(01)",
		"(" + zeros(239) + "1)": "(" + zeros(239) + "1)", zeros(239) + "(1" + zeros(239) + ")": "(" + zeros(239) + "1)", zeros(240) + "(1" + zeros(239) + ")": "0(" + zeros(239) + "1)", zeros(400) + "(1" + zeros(239) + ")": zeros(161) + "(" + zeros(239) + "1)", ones(400) + "(" + zeros(239) + "1)": ones(399) + "(1" + zeros(239) + ")",
	} {
		got, ok := impl.NormalSet(setOf(text))
		wantSetText(t, "NormalSet of "+text, got, ok, want)
	}
	for loop := 1; loop <= 240; loop++ { // each loop, repeated as often as it can be
		for times := 1; times*loop <= 240; times++ {
			part := zeros(loop-1) + "1"
			got, ok := impl.NormalSet(impl.Set{Loop: strings.Repeat(part, times)})
			wantSetText(t, "NormalSet of a repetition", got, ok, "("+part+")")
			if times > 1 { // not quite repeated
				text := "(" + strings.Repeat(part, times-1) + ones(loop) + ")"
				got, ok = impl.NormalSet(setOf(text))
				if loop > 1 {
					wantSetText(t, "NormalSet of no repetition", got, ok, text)
				}
			}
		}
	}
}

func TestNormalSet(t *testing.T) {
	shorter := 0
	for _, s := range slices.Concat(someSets(4, 400), smallSets(6, 6)) {
		got, ok := impl.NormalSet(s)
		if !wantSet(t, "NormalSet of "+s.Head+"("+s.Loop+")", got, ok, len(s.Head), len(s.Loop), func(n int) bool { return isIn(s, n) }) {
			t.Errorf("%v has no normal form", s)
		}
		if again, ok := impl.NormalSet(got); again != got || !ok {
			t.Errorf("NormalSet of the normal form %v = %v, %v", got, again, ok)
		}
		if len(got.Head) < len(s.Head) && len(got.Loop) < len(s.Loop) {
			shorter++
		}
	}
	if shorter < 200 {
		t.Errorf("only %d sets become shorter", shorter)
	}
	for _, s := range badSets() {
		got, ok := impl.NormalSet(s)
		wantNoSet(t, "NormalSet of a bad set", got, ok)
	}
}

// TestSameSet is the first half of P7: sets have the same numbers exactly if their normal forms are equal. These sets have the same numbers if so many first ones are.
func TestSameSet(t *testing.T) {
	sets, equal := smallSets(3, 4), 0
	var numbers []string
	var normal []impl.Set
	for _, s := range sets {
		text := ""
		for n := range 3 + 12 {
			text += map[bool]string{false: "0", true: "1"}[isIn(s, n)]
		}
		form, _ := impl.NormalSet(s)
		numbers, normal = append(numbers, text), append(normal, form)
	}
	for i, s := range sets {
		for j, other := range sets {
			want := numbers[i] == numbers[j]
			if got := impl.SameSet(s, other); got != want || (normal[i] == normal[j]) != want {
				t.Errorf("SameSet(%v, %v) = %v, and the normal forms are %v and %v", s, other, got, normal[i], normal[j])
			}
			if want {
				equal++
			}
		}
	}
	if equal < 2*len(sets) {
		t.Errorf("only %d pairs are of the same numbers", equal)
	}
}

// grown returns a set with the same numbers, whose head has some bytes more, and whose loop is repeated.
func grown(s impl.Set, more int, times int) impl.Set {
	text := s.Head + strings.Repeat(s.Loop, more/len(s.Loop)+times+1)
	head := len(s.Head) + more
	return impl.Set{Head: text[:head], Loop: text[head : head+times*len(s.Loop)]}
}

func TestSameSetGreat(t *testing.T) {
	roll := dice(5)
	for range 2000 {
		s := roll.set(1+roll.roll(200), 1+roll.roll(60))
		other := grown(s, roll.roll(401-len(s.Head)), 1+roll.roll(240/len(s.Loop)))
		if !impl.SameSet(s, other) || !impl.SameSet(other, s) {
			t.Errorf("%v and %v have the same numbers", s, other)
		}
		first, _ := impl.NormalSet(s)
		second, _ := impl.NormalSet(other)
		if first != second {
			t.Errorf("the normal forms of %v and %v are %v and %v", s, other, first, second)
		}
		text := []byte(other.Head + other.Loop)
		text[roll.roll(len(text))] ^= 1 // another number
		changed := impl.Set{Head: string(text[:len(other.Head)]), Loop: string(text[len(other.Head):])}
		third, _ := impl.NormalSet(changed)
		if impl.SameSet(s, changed) || impl.SameSet(changed, s) || third == first {
			t.Errorf("%v and %v have other numbers", s, changed)
		}
	}
	for _, bad := range badSets() {
		for _, s := range append(edgeSets(), bad) {
			if impl.SameSet(bad, s) || impl.SameSet(s, bad) {
				t.Errorf("SameSet of %v and %.50q", s, bad)
			}
		}
	}
}

// wantBoth looks at UnionSets and MeetSets of two sets, and returns whether both have a result.
func wantBoth(t *testing.T, s impl.Set, other impl.Set) bool {
	t.Helper()
	head, loop := max(len(s.Head), len(other.Head)), len(s.Loop)*len(other.Loop)/slowGcd(len(s.Loop), len(other.Loop))
	count := max(head, 400) + loop + 240
	first, second := numbersFrom(s, count), numbersFrom(other, count)
	got, ok := impl.UnionSets(s, other)
	one := wantSet(t, "UnionSets of "+s.Head+"("+s.Loop+") and "+other.Head+"("+other.Loop+")", got, ok, head, loop, func(n int) bool { return first[n] || second[n] })
	got, ok = impl.MeetSets(s, other)
	two := wantSet(t, "MeetSets of "+s.Head+"("+s.Loop+") and "+other.Head+"("+other.Loop+")", got, ok, head, loop, func(n int) bool { return first[n] && second[n] })
	return one && two
}

func TestUnionAndMeetSetsTexts(t *testing.T) {
	for _, x := range []struct{ s, t, union, meet string }{
		{"(10)", "(100)", "(101110)", "(100000)"}, {"(10)", "(01)", "(1)", "(0)"}, {"(10)", "(10)", "(10)", "(10)"}, {"0(01)", "00(01)", "00(1)", "(0)"}, {"0(01)", "00(10)", "0(01)", "0(01)"}, {"1(0)", "(100)", "(100)", "1(0)"}, {"1(0)", "001(0)", "101(0)", "(0)"}, {"110(0)", "011(0)", "111(0)", "01(0)"}, {"0(1)", "1(0)", "(1)", "(0)"}, {"000(1)", "11(0)", "110(1)", "(0)"},
		{"(0)", "(0)", "(0)", "(0)"}, {"(1)", "(0)", "(1)", "(0)"}, {"(1)", "(1)", "(1)", "(1)"}, {"(0)", "10(110)", "(101)", "(0)"}, {"(1)", "10(110)", "(1)", "(101)"}, {"(1111)", "(000000)", "(1)", "(0)"}, // the empty set, and all numbers
		{zeros(400) + "(1)", ones(400) + "(0)", "(1)", "(0)"}, {zeros(399) + "1(1)", ones(400) + "(0)", "(1)", zeros(399) + "1(0)"}, {zeros(399) + "1(0)", "1(0)", "1" + zeros(398) + "1(0)", "(0)"}, // heads of 400 bytes
		{"(1" + zeros(119) + ")", "(1" + zeros(79) + ")", "(1" + zeros(79) + "1" + zeros(39) + "1" + zeros(39) + "1" + zeros(79) + ")", "(1" + zeros(239) + ")"}, {"(1" + zeros(159) + ")", "(1" + zeros(239) + ")", "", ""}, // common loops of 240 and of 480 bytes
		{"(01" + zeros(158) + ")", "(0" + ones(239) + ")", "(0" + ones(239) + ")", "(01" + zeros(158) + ")"}, {"(10" + ones(158) + ")", "(1" + zeros(239) + ")", "(10" + ones(158) + ")", "(1" + zeros(239) + ")"}, // of 480, but what is made of them just fits
		{"(" + zeros(239) + "1)", "(" + zeros(238) + "1)", "", ""}, {"(" + ones(239) + "0)", "(" + ones(238) + "0)", "", ""}, {"(" + zeros(239) + "1)", "(" + ones(239) + ")", "(1)", "(" + zeros(239) + "1)"}, {"(" + ones(239) + "0)", "(" + zeros(239) + ")", "(" + ones(239) + "0)", "(0)"}, {zeros(399) + "1(" + zeros(239) + "1)", ones(240) + "(" + zeros(239) + ")", ones(240) + "(" + zeros(159) + "1" + zeros(80) + ")", "(0)"}, // loops of 240 and of 239 bytes
	} {
		for _, y := range [][2]impl.Set{{setOf(x.s), setOf(x.t)}, {setOf(x.t), setOf(x.s)}} {
			got, ok := impl.UnionSets(y[0], y[1])
			wantSetText(t, "UnionSets of "+x.s+" and "+x.t, got, ok, x.union)
			got, ok = impl.MeetSets(y[0], y[1])
			wantSetText(t, "MeetSets of "+x.s+" and "+x.t, got, ok, x.meet)
		}
	}
}

func TestUnionAndMeetSets(t *testing.T) {
	small := every(smallSets(3, 4), 3)
	for _, s := range small {
		for _, other := range small {
			if !wantBoth(t, s, other) {
				t.Errorf("%v and %v have no union, or do not meet", s, other)
			}
		}
	}
	edges := edgeSets()
	for _, s := range edges {
		for _, other := range edges {
			wantBoth(t, s, other)
		}
	}
	roll, refused := dice(6), 0
	for range 500 {
		if !wantBoth(t, roll.set(400, 240), roll.set(400, 240)) {
			refused++
		}
	}
	if refused < 50 || refused > 400 {
		t.Errorf("%d of the pairs are refused", refused)
	}
}

func TestOtherSet(t *testing.T) {
	for text, want := range map[string]string{"1(10)": "0(01)", "(0)": "(1)", "(1)": "(0)", "00(00)": "(1)", "1(11)": "(0)", "1(0)": "0(1)", "10(110)": "(010)", zeros(400) + "(1)": ones(400) + "(0)", zeros(399) + "1(0)": ones(399) + "0(1)", "(" + zeros(239) + "1)": "(" + ones(239) + "0)"} {
		got, ok := impl.OtherSet(setOf(text))
		wantSetText(t, "OtherSet of "+text, got, ok, want)
	}
	for _, s := range slices.Concat(someSets(7, 200), smallSets(4, 4)) {
		got, ok := impl.OtherSet(s)
		if !wantSet(t, "OtherSet of "+s.Head+"("+s.Loop+")", got, ok, len(s.Head), len(s.Loop), func(n int) bool { return !isIn(s, n) }) {
			t.Errorf("%v has no other set", s)
		}
		back, ok := impl.OtherSet(got)
		normal, _ := impl.NormalSet(s)
		if back != normal || !ok {
			t.Errorf("OtherSet of OtherSet of %v = %v, %v", s, back, ok)
		}
	}
}

func TestLeastAndGreatestOf(t *testing.T) {
	for _, x := range []struct {
		text            string
		least, greatest int
	}{
		{"(0)", -1, -1}, {"00(00)", -1, -1}, {zeros(400) + "(" + zeros(240) + ")", -1, -1}, {"(1)", 0, -2}, {"00(001)", 4, -2}, {"(01)", 1, -2}, {"0110(0)", 1, 2}, {"00(0)", -1, -1}, {"1(0)", 0, 0}, {"0001(0)", 3, 3}, {"10(110)", 0, -2}, {"1(01)", 0, -2},
		{zeros(399) + "1(0)", 399, 399}, {ones(400) + "(0)", 0, 399}, {"1" + zeros(399) + "(0)", 0, 0}, {"1" + zeros(398) + "1(0000)", 0, 399}, {zeros(400) + "(1)", 400, -2}, {zeros(400) + "(" + zeros(239) + "1)", 639, -2}, {"(" + zeros(239) + "1)", 239, -2}, {"1" + zeros(399) + "(" + zeros(239) + "1)", 0, -2},
	} {
		if got := impl.LeastOf(setOf(x.text)); got != x.least {
			t.Errorf("LeastOf(%s) = %d, want %d", x.text, got, x.least)
		}
		if got := impl.GreatestOf(setOf(x.text)); got != x.greatest {
			t.Errorf("GreatestOf(%s) = %d, want %d", x.text, got, x.greatest)
		}
	}
	for _, s := range slices.Concat(someSets(8, 200), smallSets(5, 5)) {
		list := numbersFrom(s, len(s.Head)+len(s.Loop))
		greatest := -1
		for n, in := range list {
			if in && n < len(s.Head) {
				greatest = n
			} else if in {
				greatest = -2
			}
		}
		if got := impl.LeastOf(s); got != slices.Index(list, true) {
			t.Errorf("LeastOf(%v) = %d", s, got)
		}
		if got := impl.GreatestOf(s); got != greatest {
			t.Errorf("GreatestOf(%v) = %d, want %d", s, got, greatest)
		}
	}
	for _, s := range badSets() {
		if least, greatest := impl.LeastOf(s), impl.GreatestOf(s); least != -1 || greatest != -3 {
			t.Errorf("LeastOf and GreatestOf %.50q = %d, %d", s, least, greatest)
		}
	}
}

func TestCountBelow(t *testing.T) {
	for _, x := range []struct {
		text    string
		n, want int
	}{
		{"10(110)", 7, 5}, {"10(110)", 0, 0}, {"10(110)", 1, 1}, {"10(110)", 2, 1}, {"10(110)", 3, 2}, {"(0)", 0, 0}, {"(0)", 1000000, 0}, {"(1)", 0, 0}, {"(1)", 1, 1}, {"(1)", 1000000, 1000000}, {"(01)", 1000000, 500000}, {"(10)", 999999, 500000}, {"(01)", 999999, 499999}, {"(001)", 1000000, 333333}, {"(100)", 1000000, 333334}, {"0001(0)", 3, 0}, {"0001(0)", 4, 1}, {"0001(0)", 1000000, 1},
		{ones(400) + "(0)", 399, 399}, {ones(400) + "(0)", 400, 400}, {ones(400) + "(0)", 401, 400}, {zeros(400) + "(1)", 400, 0}, {zeros(400) + "(1)", 401, 1}, {zeros(400) + "(1)", 1000000, 999600}, {"(" + zeros(239) + "1)", 239, 0}, {"(" + zeros(239) + "1)", 240, 1}, {"(" + zeros(239) + "1)", 1000000, 4166}, {"(1" + zeros(239) + ")", 1000000, 4167}, {ones(400) + "(" + zeros(239) + "1)", 1000000, 4565},
	} {
		if got := impl.CountBelow(setOf(x.text), x.n); got != x.want {
			t.Errorf("CountBelow(%s, %d) = %d, want %d", x.text, x.n, got, x.want)
		}
	}
	for _, s := range slices.Concat(someSets(9, 40), smallSets(4, 4)) {
		count := 0
		for n, in := range append(numbersFrom(s, len(s.Head)+3*len(s.Loop)+5), false) {
			if got := impl.CountBelow(s, n); got != count {
				t.Errorf("CountBelow(%v, %d) = %d, want %d", s, n, got, count)
			}
			if in {
				count++
			}
		}
	}
	for _, s := range someSets(10, 3) { // numbers far behind the head
		count := 0
		for n, in := range append(numbersFrom(s, 1000000), false) {
			if n%99991 == 0 || n >= 999990 {
				if got := impl.CountBelow(s, n); got != count {
					t.Errorf("CountBelow(%v, %d) = %d, want %d", s, n, got, count)
				}
			}
			if in {
				count++
			}
		}
		for _, n := range badCounts {
			if got := impl.CountBelow(s, n); got != -1 {
				t.Errorf("CountBelow(%v, %d) = %d", s, n, got)
			}
		}
	}
	for _, s := range badSets() {
		for _, n := range append([]int{0, 1, 7, 400, 1000000}, badCounts...) {
			if got := impl.CountBelow(s, n); got != -1 {
				t.Errorf("CountBelow(%.50q, %d) = %d", s, n, got)
			}
		}
	}
}

func TestProgressionSet(t *testing.T) {
	for _, x := range []struct {
		first, step int
		want        string
	}{
		{2, 3, "(001)"}, {2, 0, "001(0)"}, {4, 3, "00(001)"}, {0, 0, "1(0)"}, {0, 1, "(1)"}, {5, 1, "00000(1)"}, {0, 3, "(100)"}, {1, 3, "(010)"}, {3, 3, "0(001)"}, {0, 2, "(10)"}, {1, 2, "(01)"}, {2, 2, "0(01)"},
		{399, 0, zeros(399) + "1(0)"}, {400, 0, ""}, {400, 1, zeros(400) + "(1)"}, {399, 1, zeros(399) + "(1)"}, {0, 240, "(1" + zeros(239) + ")"}, {239, 240, "(" + zeros(239) + "1)"}, {240, 240, "0(" + zeros(239) + "1)"}, {400, 240, zeros(161) + "(" + zeros(239) + "1)"}, {400, 2, zeros(399) + "(01)"},
	} {
		got, ok := impl.ProgressionSet(x.first, x.step)
		wantSetText(t, "ProgressionSet", got, ok, x.want)
	}
	for _, first := range []int{0, 1, 2, 3, 7, 60, 119, 120, 199, 200, 238, 239, 240, 241, 300, 398, 399, 400} {
		for _, step := range []int{0, 1, 2, 3, 4, 7, 12, 30, 59, 60, 119, 120, 121, 180, 200, 238, 239, 240} {
			got, ok := impl.ProgressionSet(first, step)
			can := wantSet(t, "ProgressionSet", got, ok, first+1, max(step, 1), func(n int) bool { return n == first || step > 0 && n > first && (n-first)%step == 0 })
			if can != (first < 400 || step > 0) || can && impl.LeastOf(got) != first || can && step == 0 && impl.GreatestOf(got) != first {
				t.Errorf("ProgressionSet(%d, %d) = %v, %v", first, step, got, ok)
			}
		}
	}
	for _, first := range append([]int{0, 1, 400}, badShifts...) {
		for _, step := range badSteps {
			got, ok := impl.ProgressionSet(first, step)
			wantNoSet(t, "ProgressionSet with a bad step", got, ok)
		}
	}
	for _, first := range badShifts {
		for _, step := range []int{0, 1, 2, 240} {
			got, ok := impl.ProgressionSet(first, step)
			wantNoSet(t, "ProgressionSet with a bad first number", got, ok)
		}
	}
}

func TestShiftSetTexts(t *testing.T) {
	for _, x := range []struct {
		text string
		k    int
		want string
	}{
		{"(10)", 3, "00(01)"}, {"(10)", 0, "(10)"}, {"(1)", 0, "(1)"}, {"(1)", 1, "0(1)"}, {"(0)", 0, "(0)"}, {"(0)", 400, "(0)"}, {"00(00)", 7, "(0)"}, {"10(110)", 0, "(101)"}, {"10(110)", 1, "0(101)"}, {"10(110)", 2, "00(101)"}, {"01(0)", 2, "0001(0)"}, {"(001)", 1, "0(001)"}, {"(100)", 2, "(001)"}, {"(100)", 3, "0(001)"},
		{"(1)", 400, zeros(400) + "(1)"}, {"(1111)", 400, zeros(400) + "(1)"}, {"1(0)", 399, zeros(399) + "1(0)"}, {"1(0)", 400, ""}, {"01(0)", 399, ""}, {"0(1)", 399, zeros(400) + "(1)"}, {"0(1)", 400, ""}, {"11(1)", 400, zeros(400) + "(1)"}, {"(01)", 399, zeros(399) + "(01)"}, {"(01)", 400, zeros(400) + "(01)"}, {"(10)", 400, zeros(399) + "(01)"},
		{zeros(400) + "(0)", 400, "(0)"}, {ones(400) + "(1)", 400, zeros(400) + "(1)"}, {ones(400) + "(0)", 0, ones(400) + "(0)"}, {ones(400) + "(0)", 1, ""}, {zeros(400) + "(1)", 0, zeros(400) + "(1)"}, {zeros(400) + "(1)", 1, ""}, {"1" + zeros(399) + "(0)", 399, zeros(399) + "1(0)"}, {"1" + zeros(399) + "(0)", 400, ""}, {strings.Repeat("10", 200) + "(10)", 400, zeros(399) + "(01)"},
		{zeros(400) + "(1" + zeros(239) + ")", 239, zeros(400) + "(" + zeros(239) + "1)"}, {zeros(400) + "(1" + zeros(239) + ")", 240, ""}, {"(" + zeros(239) + "1)", 400, zeros(400) + "(" + zeros(239) + "1)"}, {"(1" + zeros(239) + ")", 400, zeros(161) + "(" + zeros(239) + "1)"},
	} {
		got, ok := impl.ShiftSet(setOf(x.text), x.k)
		wantSetText(t, "ShiftSet of "+x.text, got, ok, x.want)
	}
}

func TestShiftSet(t *testing.T) {
	roll, refused, fit := dice(11), 0, 0
	for _, s := range someSets(12, 150) {
		for _, k := range []int{0, 1, 2, 7, 239, 240, 399, 400, roll.roll(401), roll.roll(401)} {
			got, ok := impl.ShiftSet(s, k)
			can := wantSet(t, "ShiftSet of "+s.Head+"("+s.Loop+")", got, ok, len(s.Head)+k, len(s.Loop), func(n int) bool { return n >= k && isIn(s, n-k) })
			if !can {
				refused++
			} else if len(s.Head)+k > 400 {
				fit++
			}
		}
		for _, k := range badShifts {
			got, ok := impl.ShiftSet(s, k)
			wantNoSet(t, "ShiftSet by a bad number", got, ok)
		}
	}
	if refused < 300 || fit < 100 {
		t.Errorf("%d are refused, and %d fit although their head is long", refused, fit)
	}
}

func TestStretchSetTexts(t *testing.T) {
	for _, x := range []struct {
		text string
		k    int
		want string
	}{
		{"1(10)", 2, "1(0100)"}, {"1(10)", 1, "1(10)"}, {"10(110)", 1, "(101)"}, {"10(110)", 2, "(100010)"}, {"(0)", 240, "(0)"}, {"000(00)", 240, "(0)"}, {"(1)", 1, "(1)"}, {"(1)", 2, "(10)"}, {"0(1)", 2, "0(01)"}, {"0(1)", 3, "0(001)"}, {"11(0)", 3, "1001(0)"}, {"1(0)", 240, "1(0)"},
		{"(1)", 240, "(1" + zeros(239) + ")"}, {"(" + ones(240) + ")", 240, "(1" + zeros(239) + ")"}, {ones(400) + "(" + ones(240) + ")", 240, "(1" + zeros(239) + ")"}, {zeros(400) + "(" + zeros(240) + ")", 240, "(0)"}, {"(10)", 120, "(1" + zeros(239) + ")"}, {"(10)", 121, ""}, {"(" + strings.Repeat("10", 120) + ")", 120, "(1" + zeros(239) + ")"}, {"(01)", 120, "(" + zeros(120) + "1" + zeros(119) + ")"}, {"(" + zeros(239) + "1)", 1, "(" + zeros(239) + "1)"}, {"(" + zeros(239) + "1)", 2, ""}, // loops
		{"01(0)", 240, zeros(240) + "1(0)"}, {"001(0)", 199, zeros(398) + "1(0)"}, {"001(0)", 200, ""}, {zeros(399) + "1(0)", 1, zeros(399) + "1(0)"}, {zeros(399) + "1(0)", 2, ""}, {zeros(133) + "1(0)", 3, zeros(399) + "1(0)"}, {zeros(134) + "1(0)", 3, ""}, {"0(1)", 240, "0(" + zeros(239) + "1)"}, {"00(1)", 240, zeros(241) + "(" + zeros(239) + "1)"}, {"0000(1)", 133, zeros(400) + "(" + zeros(132) + "1)"}, {"000(1)", 200, ""}, // heads
	} {
		got, ok := impl.StretchSet(setOf(x.text), x.k)
		wantSetText(t, "StretchSet of "+x.text, got, ok, x.want)
	}
}

func TestStretchSet(t *testing.T) {
	roll, refused, fit := dice(13), 0, 0
	for _, s := range append(someSets(14, 60), every(smallSets(3, 4), 5)...) {
		for _, k := range []int{1, 2, 3, 5, 12, 60, 120, 239, 240, 1 + roll.roll(240)} {
			got, ok := impl.StretchSet(s, k)
			head, loop := len(s.Head)*k, len(s.Loop)*k
			list := numbersFrom(s, max(head, 400)/k+(loop+240)/k+2)
			can := wantSet(t, "StretchSet of "+s.Head+"("+s.Loop+")", got, ok, head, loop, func(n int) bool { return n%k == 0 && list[n/k] })
			if !can {
				refused++
			} else if head > 400 || loop > 240 {
				fit++
			}
		}
		for _, k := range badFactors {
			got, ok := impl.StretchSet(s, k)
			wantNoSet(t, "StretchSet by a bad factor", got, ok)
		}
	}
	if refused < 300 || fit < 100 {
		t.Errorf("%d are refused, and %d fit although they are made of more", refused, fit)
	}
}

func TestDivideSet(t *testing.T) {
	for _, x := range []struct {
		text string
		k    int
		want string
	}{
		{"(100)", 2, "(100)"}, {"(100)", 3, "(1)"}, {"(010)", 3, "(0)"}, {"(010)", 2, "(001)"}, {"(001)", 2, "(010)"}, {"10(110)", 1, "(101)"}, {"10(110)", 3, "(1)"}, {"(0)", 240, "(0)"}, {"(1)", 240, "(1)"}, {"(1)", 1, "(1)"}, {"000(00)", 7, "(0)"}, {"(1010)", 2, "(1)"}, {"(1000)", 2, "(10)"}, {"(1000)", 6, "(10)"}, {"0010(0)", 2, "01(0)"}, {"0001(0)", 2, "(0)"}, {"001(0)", 1, "001(0)"}, {"00001(0)", 2, "001(0)"}, {"0000(1)", 2, "00(1)"}, {"00000(1)", 2, "000(1)"},
		{"(1" + zeros(239) + ")", 240, "(1)"}, {"(1" + zeros(239) + ")", 120, "(10)"}, {"(1" + zeros(239) + ")", 239, "(1" + zeros(239) + ")"}, {"(01" + zeros(238) + ")", 239, "(" + zeros(239) + "1)"}, {"(" + zeros(239) + "1)", 240, "(0)"}, {"(1" + zeros(238) + ")", 240, "(1" + zeros(238) + ")"}, {"(1" + zeros(238) + ")", 239, "(1)"},
		{zeros(400) + "(1)", 1, zeros(400) + "(1)"}, {zeros(400) + "(1)", 2, zeros(200) + "(1)"}, {zeros(399) + "1(0)", 1, zeros(399) + "1(0)"}, {zeros(399) + "1(0)", 2, "(0)"}, {zeros(399) + "1(0)", 3, zeros(133) + "1(0)"}, {zeros(399) + "1(0)", 133, "0001(0)"}, {zeros(400) + "(1)", 240, "00(1)"}, {ones(400) + "(0)", 240, "11(0)"}, {ones(400) + "(0)", 200, "11(0)"}, {ones(400) + "(0)", 199, "111(0)"}, {ones(400) + "(" + zeros(239) + "1)", 240, "11(0)"},
	} {
		got, ok := impl.DivideSet(setOf(x.text), x.k)
		wantSetText(t, "DivideSet of "+x.text, got, ok, x.want)
	}
	roll := dice(15)
	for _, s := range append(someSets(16, 100), every(smallSets(4, 4), 5)...) {
		for _, k := range []int{1, 2, 3, 4, 6, 10, 120, 239, 240, 1 + roll.roll(240), 1 + roll.roll(240)} {
			got, ok := impl.DivideSet(s, k)
			if !wantSet(t, "DivideSet of "+s.Head+"("+s.Loop+")", got, ok, len(s.Head), len(s.Loop), func(n int) bool { return isIn(s, n*k) }) {
				t.Errorf("%v has no set divided by %d", s, k)
			}
		}
		for _, k := range badFactors {
			got, ok := impl.DivideSet(s, k)
			wantNoSet(t, "DivideSet by a bad factor", got, ok)
		}
	}
}

// wantSum looks at SumSets of two sets, and returns whether there is a result.
func wantSum(t *testing.T, s impl.Set, other impl.Set) bool {
	t.Helper()
	what := "SumSets of " + s.Head + "(" + s.Loop + ") and " + other.Head + "(" + other.Loop + ")"
	got, ok := impl.SumSets(s, other)
	if len(s.Loop)*len(other.Loop) > 400 {
		wantNoSet(t, what, got, ok)
		return false
	}
	// Far behind both heads and the greatest gap of both loops, the sums repeat after each product of them.
	loop := len(s.Loop) * len(other.Loop)
	head := len(s.Head) + len(other.Head) + len(s.Loop) + len(other.Loop) + loop
	count := max(head, 400) + loop + 240
	first, second := numbersFrom(s, count), numbersFrom(other, count)
	return wantSet(t, what, got, ok, head, loop, func(n int) bool {
		for m := range n + 1 {
			if first[m] && second[n-m] {
				return true
			}
		}
		return false
	})
}

func TestSumSetsTexts(t *testing.T) {
	step := func(first int, step int) string { return zeros(first) + "(1" + zeros(step-1) + ")" }
	for _, x := range []struct{ s, t, want string }{
		{"(100)", "(10000)", "10010110(1)"}, {"(10)", "(10)", "(10)"}, {"(01)", "(01)", "0(01)"}, {"(01)", "(10)", "(01)"}, {"10(110)", "01(0)", "0(101)"}, {"10(110)", "1(0)", "(101)"}, {"101(0)", "11(0)", "1111(0)"}, {"1001(0)", "1001(0)", "1001001(0)"}, {"(100)", "(100100)", "(100)"}, {"(1000)", "(100000)", "100(01)"}, {"0(1)", "0(1)", "00(1)"}, {"(100)", "11(0)", "(110)"}, {"(1)", "0001(0)", "000(1)"},
		{"(0)", "(0)", "(0)"}, {"(0)", "(10000)", "(0)"}, {"(0)", "(1)", "(0)"}, {"0000(00)", ones(400) + "(1)", "(0)"}, {"(0)", "(1" + zeros(239) + ")", "(0)"}, {zeros(400) + "(0)", ones(400) + "(0)", "(0)"}, {"(" + zeros(200) + ")", "(10)", "(0)"}, {"(" + zeros(201) + ")", "(10)", ""}, {"(" + zeros(240) + ")", "(00)", ""}, // the empty set
		{"1(0)", "(1" + zeros(239) + ")", "(1" + zeros(239) + ")"}, {"1(0)", "(0110)", "(0110)"}, {"00001(0)", "(10)", "000(01)"}, {zeros(399) + "1(0)", "1(0)", zeros(399) + "1(0)"}, {zeros(399) + "1(0)", "01(0)", ""}, {zeros(200) + "1(0)", zeros(199) + "1(0)", zeros(399) + "1(0)"}, {zeros(200) + "1(0)", zeros(200) + "1(0)", ""}, {zeros(399) + "1(0)", "(1)", zeros(399) + "(1)"}, {zeros(399) + "1(0)", "0(1)", zeros(400) + "(1)"}, {zeros(399) + "1(0)", "00(1)", ""}, {ones(400) + "(1)", ones(400) + "(1)", "(1)"}, {zeros(400) + "(1)", zeros(400) + "(1)", ""}, {zeros(400) + "(1)", "1(0)", zeros(400) + "(1)"}, // a set of one number
		{step(0, 20), step(0, 20), step(0, 20)}, {step(0, 200), step(0, 2), "(10)"}, {step(0, 200), step(1, 2), "(01)"}, {step(0, 80), step(0, 5), "(10000)"}, {step(40, 25), step(0, 16), "many"}, {step(41, 25), step(0, 16), ""}, {step(0, 240), "(1)", "(1)"}, {step(0, 200), "11(00)", "(11" + zeros(198) + ")"}, {step(0, 133), step(0, 3), "many"}, // a product of 400, or a little less
		{step(0, 134), step(0, 3), ""}, {step(0, 20), step(0, 21), ""}, {step(0, 201), step(0, 2), ""}, {step(0, 240), "(11)", ""}, {step(0, 240), "1(00)", ""}, {"(" + ones(20) + ")", "(" + ones(21) + ")", ""}, {"(" + ones(240) + ")", "(" + ones(240) + ")", ""}, {step(0, 100), step(0, 5), ""}, // and more
	} {
		for _, y := range [][2]impl.Set{{setOf(x.s), setOf(x.t)}, {setOf(x.t), setOf(x.s)}} {
			got, ok := impl.SumSets(y[0], y[1])
			if x.want == "many" {
				if !wantSum(t, y[0], y[1]) || len(got.Head) < 260 || !ok {
					t.Errorf("SumSets of %s and %s = %v, %v", x.s, x.t, got, ok)
				}
				continue
			}
			wantSetText(t, "SumSets of "+x.s+" and "+x.t, got, ok, x.want)
		}
	}
}

func TestSumSets(t *testing.T) {
	small := every(smallSets(3, 4), 5)
	for _, s := range small {
		for _, other := range small {
			if !wantSum(t, s, other) {
				t.Errorf("%v and %v have no sums", s, other)
			}
		}
	}
	edges := every(edgeSets(), 2)
	for _, s := range edges {
		for _, other := range edges {
			wantSum(t, s, other)
		}
	}
	roll, refused, wide := dice(17), 0, 0
	for range 600 {
		s := roll.set(roll.roll(401), 1+roll.roll(240))
		other := roll.set(roll.roll(401), min(240, max(1, (400+roll.roll(200))/len(s.Loop))))
		if !wantSum(t, s, other) {
			refused++
		} else if len(s.Loop)*len(other.Loop) > 240 {
			wide++
		}
	}
	if refused < 30 || refused > 400 || wide < 50 {
		t.Errorf("%d of the pairs are refused, and %d have long loops", refused, wide)
	}
}

// TestGapsOfSums is the second half of P7: sums of progressions have gaps up to the greatest one.
func TestGapsOfSums(t *testing.T) {
	pairs := 0
	for a := 1; a <= 240; a++ {
		for b := 1; b <= 240; b++ {
			first, _ := impl.ProgressionSet(0, a)
			second, _ := impl.ProgressionSet(0, b)
			sums, ok := impl.SumSets(first, second)
			if ok != (a*b <= 400) {
				t.Errorf("SumSets of the multiples of %d and %d = %v, %v", a, b, sums, ok)
			}
			gap := impl.GreatestGap(a, b)
			if !ok || gap == -2 {
				continue
			}
			pairs++
			gaps, _ := impl.OtherSet(sums)
			if got := impl.GreatestOf(gaps); got != gap || sums.Loop != "1" || len(sums.Head) != gap+1 || impl.CountBelow(gaps, 400) != (a-1)*(b-1)/2 {
				t.Errorf("the sums of multiples of %d and %d are %v, with the greatest gap %d, want %d", a, b, sums, got, gap)
			}
			for n := range gap + 3 {
				if impl.HasNumber(sums, n) != (impl.CountSolutions(a, b, n) > 0) {
					t.Errorf("%d is or is not a sum of multiples of %d and %d", n, a, b)
				}
			}
		}
	}
	if pairs < 1000 {
		t.Errorf("only %d pairs have a gap", pairs)
	}
	for _, x := range []struct{ a, b, from, other int }{{6, 4, 0, 0}, {6, 4, 3, 5}, {9, 6, 1, 0}, {16, 25, 20, 20}, {20, 20, 7, 0}, {12, 30, 11, 11}} { // a common divisor, or other first numbers
		first, _ := impl.ProgressionSet(x.from, x.a)
		second, _ := impl.ProgressionSet(x.other, x.b)
		sums, ok := impl.SumSets(first, second)
		g := slowGcd(x.a, x.b)
		gap := x.from + x.other + g*impl.GreatestGap(x.a/g, x.b/g)
		start := x.from + x.other
		if !ok || gap >= start && impl.HasNumber(sums, gap) || len(sums.Loop) != g {
			t.Errorf("the sums of %d, %d and so on and %d, %d and so on are %v, %v", x.from, x.from+x.a, x.other, x.other+x.b, sums, ok)
		}
		for n := gap + 1; n < gap+500; n++ {
			if impl.HasNumber(sums, n) != (n >= start && (n-start)%g == 0) {
				t.Errorf("the sums of multiples of %d and %d behind the gap %d are wrong of %d", x.a, x.b, gap, n)
			}
		}
	}
}

// TestSetsAgree looks whether functions tell the same where they speak of the same.
func TestSetsAgree(t *testing.T) {
	roll := dice(18)
	for range 400 {
		s, other, third := roll.set(40, 12), roll.set(40, 12), roll.set(40, 8)
		union, _ := impl.UnionSets(s, other)
		meet, _ := impl.MeetSets(s, other)
		outS, _ := impl.OtherSet(s)
		outOther, _ := impl.OtherSet(other)
		out, _ := impl.OtherSet(union)
		if also, ok := impl.MeetSets(outS, outOther); also != out || !ok {
			t.Errorf("outside of the union of %v and %v lies %v, but %v is outside of both", s, other, out, also)
		}
		for _, n := range []int{0, 1, 40, 1000, 999999, 1000000} {
			if impl.CountBelow(union, n)+impl.CountBelow(meet, n) != impl.CountBelow(s, n)+impl.CountBelow(other, n) || impl.CountBelow(s, n)+impl.CountBelow(outS, n) != n {
				t.Errorf("the counts of %v and %v below %d do not agree", s, other, n)
			}
		}
		k := 1 + roll.roll(20)
		normal, _ := impl.NormalSet(s)
		wide, okWide := impl.StretchSet(s, k)
		if back, ok := impl.DivideSet(wide, k); okWide && (back != normal || !ok) {
			t.Errorf("StretchSet of %v by %d, and DivideSet = %v, %v", s, k, back, ok)
		}
		one, _ := impl.ProgressionSet(k, 0)
		moved, _ := impl.ShiftSet(s, k)
		if sum, ok := impl.SumSets(s, one); sum != moved || !ok {
			t.Errorf("ShiftSet of %v by %d = %v, but SumSets = %v, %v", s, k, moved, sum, ok)
		}
		left, okLeft := impl.SumSets(union, third)
		first, okFirst := impl.SumSets(s, third)
		second, okSecond := impl.SumSets(other, third)
		if right, ok := impl.UnionSets(first, second); okLeft && okFirst && okSecond && (right != left || !ok) {
			t.Errorf("the sums of %v, %v and %v are %v and %v", s, other, third, left, right)
		}
		if least := impl.LeastOf(first); okFirst && least != -1 && least != impl.LeastOf(s)+impl.LeastOf(third) {
			t.Errorf("the least sum of %v and %v is %d", s, third, least)
		}
	}
}

// TestBadSets calls the functions with sets that are not valid: none may panic, or take them.
func TestBadSets(t *testing.T) {
	for _, bad := range badSets() {
		for _, s := range append(every(edgeSets(), 3), bad) {
			for _, x := range [][2]impl.Set{{bad, s}, {s, bad}} {
				got, ok := impl.UnionSets(x[0], x[1])
				wantNoSet(t, "UnionSets of a bad set", got, ok)
				got, ok = impl.MeetSets(x[0], x[1])
				wantNoSet(t, "MeetSets of a bad set", got, ok)
				got, ok = impl.SumSets(x[0], x[1])
				wantNoSet(t, "SumSets of a bad set", got, ok)
			}
		}
		got, ok := impl.OtherSet(bad)
		wantNoSet(t, "OtherSet of a bad set", got, ok)
		for _, k := range slices.Concat([]int{0, 1, 2, 240, 400}, badFactors, badShifts) {
			got, ok = impl.ShiftSet(bad, k)
			wantNoSet(t, "ShiftSet of a bad set", got, ok)
			got, ok = impl.StretchSet(bad, k)
			wantNoSet(t, "StretchSet of a bad set", got, ok)
			got, ok = impl.DivideSet(bad, k)
			wantNoSet(t, "DivideSet of a bad set", got, ok)
		}
	}
}
