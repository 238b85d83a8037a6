package tests

import (
	"fmt"
	"regexp"
	"slices"
	"strings"
	"testing"

	"loop.example/presburger/impl"
)

// coneIn reads a text as a cone, without the program's help. The cone need not be valid.
func coneIn(t *testing.T, s string) impl.Cone {
	t.Helper()
	var vectors []impl.Vector
	for _, text := range strings.Split(s, "+") {
		var v impl.Vector
		if _, err := fmt.Sscanf(text, "%d,%d", &v.X, &v.Y); err != nil {
			t.Fatalf("%q is no text of a cone: %v", s, err)
		}
		vectors = append(vectors, v)
	}
	return impl.Cone{Base: vectors[0], Periods: vectors[1:]}
}

// conesIn reads a text of cones with single spaces between them; there are none in the empty text.
func conesIn(t *testing.T, s string) []impl.Cone {
	t.Helper()
	var list []impl.Cone
	for _, text := range strings.Fields(s) {
		list = append(list, coneIn(t, text))
	}
	return list
}

// slowConeText is the text of a cone as the document defines it, also if it is not valid.
func slowConeText(c impl.Cone) string {
	texts := []string{fmt.Sprintf("%d,%d", c.Base.X, c.Base.Y)}
	for _, p := range c.Periods {
		texts = append(texts, fmt.Sprintf("%d,%d", p.X, p.Y))
	}
	return strings.Join(texts, "+")
}

// slowConeTexts are the texts of some cones with single spaces between them.
func slowConeTexts(list []impl.Cone) string {
	var texts []string
	for _, c := range list {
		texts = append(texts, slowConeText(c))
	}
	return strings.Join(texts, " ")
}

// slowVectorValid tells whether a vector is valid.
func slowVectorValid(v impl.Vector) bool {
	return 0 <= v.X && v.X <= 200 && 0 <= v.Y && v.Y <= 200
}

// slowConeValid tells whether a cone is valid.
func slowConeValid(c impl.Cone) bool {
	for _, p := range c.Periods {
		if !slowVectorValid(p) || p.X == 0 && p.Y == 0 {
			return false
		}
	}
	return slowVectorValid(c.Base) && len(c.Periods) <= 4
}

// plus returns the sum of a vector and so many times another one.
func plus(v impl.Vector, times int, p impl.Vector) impl.Vector {
	return impl.Vector{X: v.X + times*p.X, Y: v.Y + times*p.Y}
}

// sumsFrom gives all sums of a vector and multiples of periods whose numbers are at most so great, one by one, some of them more than once.
func sumsFrom(v impl.Vector, periods []impl.Vector, most int, give func(impl.Vector)) {
	if v.X > most || v.Y > most {
		return
	}
	if len(periods) == 0 {
		give(v)
		return
	}
	for n := range most + 1 {
		sumsFrom(plus(v, n, periods[0]), periods[1:], most, give)
	}
}

// slowVectors are the vectors of a valid cone whose numbers are at most so great.
func slowVectors(c impl.Cone, most int) map[impl.Vector]bool {
	vectors := map[impl.Vector]bool{}
	sumsFrom(c.Base, c.Periods, most, func(v impl.Vector) { vectors[v] = true })
	return vectors
}

// reached are the vectors of a valid cone up to the greatest ones, found by adding one period to a vector that is known.
func reached(c impl.Cone) map[impl.Vector]bool {
	vectors := map[impl.Vector]bool{c.Base: true}
	for list := []impl.Vector{c.Base}; len(list) > 0; list = list[1:] {
		for _, p := range c.Periods {
			if next := plus(list[0], 1, p); slowVectorValid(next) && !vectors[next] {
				vectors[next] = true
				list = append(list, next)
			}
		}
	}
	return vectors
}

// vector makes a vector whose numbers are at most so great.
func (d *dice) vector(most int) impl.Vector {
	return impl.Vector{X: d.roll(most + 1), Y: d.roll(most + 1)}
}

// cone makes a valid cone with so many periods, whose numbers are at most so great. Many periods are equal to others, multiples or sums of them, or have one number 0.
func (d *dice) cone(most int, periods int) impl.Cone {
	c := impl.Cone{Base: d.vector(most)}
	for len(c.Periods) < periods {
		p := d.vector(most)
		switch kind := d.roll(8); {
		case kind == 0:
			p.X = 0
		case kind == 1:
			p.Y = 0
		case kind == 2 && len(c.Periods) > 0:
			p = plus(impl.Vector{}, 1+d.roll(3), c.Periods[d.roll(len(c.Periods))])
		case kind == 3 && len(c.Periods) > 1:
			p = plus(c.Periods[0], 1, c.Periods[1])
		}
		if slowVectorValid(p) && p != (impl.Vector{}) {
			c.Periods = append(c.Periods, p)
		}
	}
	return c
}

// edgeConeTexts are texts of cones at the edges that the document names.
var edgeConeTexts = []string{
	"0,0", "1,1", "0,200", "200,0", "200,200", "7,13", // no periods
	"1,1+2,3", "0,0+1,1", "0,0+0,1", "0,0+1,0", "3,5+200,200", "200,200+200,200", "0,0+200,0", "0,0+0,200", "100,100+1,0", "5,0+0,3", "0,5+3,0", // one
	"0,0+1,0+0,1", "0,0+1,0+1,0", "0,0+0,1+0,1", "2,3+2,3+2,3", "0,0+2,3+4,6", "0,0+4,6+2,3", "1,0+2,1+1,2", "0,0+3,0+5,0", "0,0+0,3+0,5", "4,4+0,200+200,0",
	"0,0+1,0+0,1+2,3", "0,0+2,3+1,0+0,1", "0,0+2,0+3,0+0,7", "1,2+5,5+5,5+5,5", "0,0+6,10+15,0+0,4", "9,9+1,2+2,1+3,3",
	"0,0+1,0+0,1+2,3+1,0", "0,0+1,0+1,0+1,0+1,0", "3,1+6,6+10,10+15,15+7,7", "0,0+200,199+199,200+198,200+200,198", "0,0+2,4+3,1+5,5+8,6", "200,200+1,1+2,2+3,3+4,4", // MaxPeriods
}

// someCones are valid cones at the edges, and others, small and great ones.
func someCones(t *testing.T, seed dice, count int) []impl.Cone {
	t.Helper()
	var list []impl.Cone
	for _, text := range edgeConeTexts {
		list = append(list, coneIn(t, text))
	}
	for i := range count {
		list = append(list, seed.cone(6, i%5), seed.cone(25, i%5), seed.cone(200, i%5))
	}
	return list
}

// badParts are numbers that no vector has.
var badParts = append([]int{-1, -2, -200, -201, 201, 202, 1000}, extremes...)

// badVectors are vectors that are not valid, each for one number, or for both.
func badVectors() []impl.Vector {
	var list []impl.Vector
	for _, n := range badParts {
		list = append(list, impl.Vector{X: n}, impl.Vector{Y: n}, impl.Vector{X: n, Y: 200}, impl.Vector{X: 200, Y: n}, impl.Vector{X: 3, Y: n}, impl.Vector{X: n, Y: n})
	}
	return list
}

// badCones are cones that are not valid, each for one reason.
func badCones() []impl.Cone {
	one := impl.Vector{X: 1, Y: 1}
	var list []impl.Cone
	for _, v := range append(badVectors(), impl.Vector{}) { // as a period, 0 is wrong too
		if v != (impl.Vector{}) {
			list = append(list, impl.Cone{Base: v}, impl.Cone{Base: v, Periods: []impl.Vector{one}}, impl.Cone{Base: v, Periods: []impl.Vector{{X: 1}, {Y: 1}}})
		}
		list = append(list, impl.Cone{Periods: []impl.Vector{v}}, impl.Cone{Base: one, Periods: []impl.Vector{v}}, impl.Cone{Periods: []impl.Vector{v, one}}, impl.Cone{Periods: []impl.Vector{one, v}}, impl.Cone{Periods: []impl.Vector{one, v, one}}, impl.Cone{Periods: []impl.Vector{one, one, one, v}})
	}
	for _, count := range []int{5, 6, 8, 1000, 100000} {
		list = append(list, impl.Cone{Periods: slices.Repeat([]impl.Vector{one}, count)}, impl.Cone{Base: one, Periods: slices.Repeat([]impl.Vector{{X: 1}, {Y: 1}}, count)})
	}
	return append(list, impl.Cone{Periods: make([]impl.Vector, 1000000)})
}

// bad names a cone that is not valid, shortly if it is long.
func bad(c impl.Cone) string {
	if len(c.Periods) > 8 {
		return fmt.Sprintf("a cone with %d periods", len(c.Periods))
	}
	return slowConeText(c)
}

func sameCone(c impl.Cone, d impl.Cone) bool {
	return c.Base == d.Base && slices.Equal(c.Periods, d.Periods)
}

// wantCone compares a cone with a text, which is empty if there is none.
func wantCone(t *testing.T, what string, got impl.Cone, ok bool, want string) {
	t.Helper()
	switch {
	case want == "":
		wantNoCone(t, what, got, ok)
	case slowConeText(got) != want || !ok:
		t.Errorf("%s = %s, %v, want %s", what, slowConeText(got), ok, want)
	}
}

func wantNoCone(t *testing.T, what string, got impl.Cone, ok bool) {
	t.Helper()
	if !sameCone(got, impl.Cone{}) || ok {
		t.Errorf("%s = %v, %v, want no cone", what, got, ok)
	}
}

func TestConeConstants(t *testing.T) {
	if impl.MaxVector != 200 || impl.MaxPeriods != 4 || impl.MaxCones != 8 {
		t.Error("the limits are not those of the document")
	}
}

func TestConeValid(t *testing.T) {
	for _, c := range append(someCones(t, 111, 200), impl.Cone{}, impl.Cone{Periods: []impl.Vector{}}) {
		if !impl.ConeValid(c) || !slowConeValid(c) {
			t.Errorf("ConeValid(%s) = false", slowConeText(c))
		}
	}
	for _, c := range badCones() {
		if impl.ConeValid(c) || slowConeValid(c) {
			t.Errorf("ConeValid of %s = true", bad(c))
		}
	}
	hidden := impl.Cone{Periods: []impl.Vector{{X: 1}, {}, {X: -1}}[:1]}
	if !impl.ConeValid(hidden) {
		t.Error("what is beyond the length of Periods is looked at")
	}
	roll := dice(112)
	valid, not := 0, 0
	for range 40000 {
		number := func() int { return []int{0, 0, 1, 2, 100, 199, 200, 200, 201, -1}[roll.roll(10)] }
		c := impl.Cone{Base: impl.Vector{X: number(), Y: number()}}
		for range roll.roll(6) {
			c.Periods = append(c.Periods, impl.Vector{X: number(), Y: number()})
		}
		got := impl.ConeValid(c)
		if got != slowConeValid(c) {
			t.Errorf("ConeValid(%s) = %v", slowConeText(c), got)
		}
		if got {
			valid++
		} else {
			not++
		}
	}
	if valid < 1000 || not < 1000 {
		t.Errorf("%d cones are valid, %d are not", valid, not)
	}
}

func TestConeText(t *testing.T) {
	for _, c := range someCones(t, 113, 300) {
		text := slowConeText(c)
		if got := impl.FormatCone(c); got != text {
			t.Errorf("FormatCone(%s) = %q", text, got)
		}
		got, ok := impl.ParseCone(text)
		wantCone(t, "ParseCone "+text, got, ok, text)
	}
	for _, c := range badCones() {
		if got := impl.FormatCone(c); got != "" {
			t.Errorf("FormatCone of %s = %q", bad(c), got)
		}
		got, ok := impl.ParseCone(slowConeText(c))
		wantNoCone(t, "ParseCone of "+bad(c), got, ok)
	}
	if got := impl.FormatCone(impl.Cone{}); got != "0,0" {
		t.Errorf("FormatCone of the zero value = %q", got)
	}
}

func TestParseConeInvalid(t *testing.T) {
	texts := []string{
		"", " ", ",", "+", "-", "0", "1", "1,", ",1", ",,", "1,1,", ",1,1", "1,1,1", "1,,1", "1 1", "1;1", "1.1", "1,1.0", "(1,1)", "1, 1", "1 ,1", " 1,1", "1,1 ", "1,1\n", "\n1,1", "1,1\x00", "\x001,1", "1,\xff", "\uff11,1", "a,b", "1,a", "a,1", "none", "true", "1x1", "0x1,1", "1,0x1", "1_0,1", "1,1_0", "1e1,1", "0b1,1",
		"+1,1", "1,1+", "1,1++1,1", "+1,1+1,1", "1,1+1", "1,1+1,", "1,1+,1", "1,1+,", "1,1+1,1+", "1,1 +1,1", "1,1+ 1,1", "1,1 + 1,1", "1,1-1,1", "1,1 1,1", "1,1;1,1", "1,1,1,1", "1+1,1", "1,1+1+1,1", "1,1+1,1,1", "1,1+1,1\n", "1,1+\xff", "1,1+a,b", // empty parts, and parts with too few numbers or too many
		"0,0+0,0", "1,1+0,0", "1,1+2,3+0,0", "1,1+0,0+2,3", "0,0+1,0+0,1+2,3+0,0", // a period that is 0
		"01,1", "1,01", "00,0", "0,00", "001,1", "1,1+01,1", "1,1+1,01", "1,1+00,1", "1,1+1,00", "1,1+0,01", "1,1+2,3+1,001", // leading zeros
		"-1,0", "0,-1", "-0,0", "0,-0", "+0,0", "0,+0", "1,+1", "1,1+-1,1", "1,1+1,-1", "1,1+-0,1", "1,1+1,-0", "1,1+1,+1", "1,1++1,1", "--1,1", // signs
		"201,0", "0,201", "1,201", "1000,0", "0,2000", "1,1+201,0", "1,1+0,201", "1,1+2,3+300,1", "99999999999999999999,0", "0,99999999999999999999", "1,1+9223372036854775808,1", "18446744073709551617,1", "1,18446744073709551617", "1,1+1,18446744073709551617", "4294967297,1", // great numbers
		"1,1+1,0+1,0+1,0+1,0+1,0", "0,0+1,1+1,1+1,1+1,1+1,1+1,1", "0,0+1,1+1,1+1,1+1,1+", "0,0+1,1+1,1+1,1+1,1 ", "0,0+1,1+1,1+1,1+1,1+0,0", "0,0+1,1+1,1+1,1+1", // five periods, and what is nearly so
		"1,1+2,3 0,0", "1,1+2,3/0,0", "1,1+2,3;2,3",
	}
	for _, s := range texts {
		got, ok := impl.ParseCone(s)
		wantNoCone(t, fmt.Sprintf("ParseCone(%q)", s), got, ok)
		if isConeText(s) {
			t.Errorf("%q is the text of a cone", s)
		}
	}
	for _, long := range []string{"1,1+", "0,0+", "+", ",", "1", "0", "1,", "1,1", "9", "\xff", "+1,1", " "} {
		for _, front := range []string{"", "1,1+", "0,0+1,1+1,1+1,1+1,1+", "1,", "1,1+1,"} {
			got, ok := impl.ParseCone(front + strings.Repeat(long, 300000))
			wantNoCone(t, "ParseCone of a long text", got, ok)
		}
	}
}

var coneText = regexp.MustCompile(strings.ReplaceAll(`\AN,N(\+N,N){0,4}\z`, "N", `(0|[1-9][0-9]?|1[0-9][0-9]|200)`))

// isConeText tells the texts of cones in another way than the program does.
func isConeText(s string) bool {
	_, periods, _ := strings.Cut(s, "+")
	return coneText.MatchString(s) && !slices.Contains(strings.Split(periods, "+"), "0,0")
}

func TestParseConeNearly(t *testing.T) {
	accepted, refused := 0, 0
	check := func(s string) {
		got, ok := impl.ParseCone(s)
		if ok != isConeText(s) {
			t.Errorf("ParseCone(%q) = %v, %v", s, got, ok)
		}
		if !ok {
			wantNoCone(t, "ParseCone "+s, got, ok)
			refused++
			return
		}
		accepted++
		if impl.FormatCone(got) != s || slowConeText(got) != s {
			t.Errorf("ParseCone(%q) has the text %q", s, impl.FormatCone(got))
		}
	}
	for _, text := range append(edgeConeTexts, "0,0+1,1+1,1+1,1+1,1+1,1", "19,20+199,200", "20,19+99,100+10,201") {
		for _, s := range nearly(text) {
			check(s)
		}
		for i := range len(text) + 1 {
			for _, c := range []string{",", "+0,0", "+1,0", "0,1+", "+", "++", "00", "-", ",0", "0,"} {
				check(text[:i] + c + text[i:])
			}
		}
	}
	if accepted < 1000 || refused < 10000 {
		t.Errorf("%d of the nearby texts are those of cones, and %d are not", accepted, refused)
	}
}

// memberTexts are cones with vectors that are in them, and with others that are not.
var memberTexts = []struct {
	cone string
	in   string
	out  string
}{
	{"1,1+2,3", "1,1 3,4 5,7 7,10 133,199", "0,0 2,3 4,6 3,3 3,5 2,4 4,4 1,0 0,1 1,2 2,1 5,4 135,200 200,200"},
	{"0,0", "0,0", "1,0 0,1 1,1 200,200"}, {"200,200", "200,200", "199,200 200,199 0,0"}, {"7,13", "7,13", "13,7 14,26 0,0"},
	{"0,0+0,1", "0,0 0,1 0,2 0,199 0,200", "1,0 1,1 200,200 1,200"}, {"0,0+1,0", "0,0 1,0 200,0", "0,1 1,1 200,1"}, {"5,0+0,3", "5,0 5,3 5,6 5,198", "5,1 5,200 4,3 6,3 0,3 10,0 5,2"}, {"0,0+1,0+0,1", "0,0 1,0 0,1 200,200 0,200 200,0 17,91", ""},
	{"0,0+2,3+4,6", "0,0 2,3 4,6 6,9", "2,2 3,4 1,1 4,5"}, {"0,0+2,3+2,3", "0,0 2,3 4,6", "2,6 4,3 0,3"}, {"1,0+2,1+1,2", "1,0 3,1 2,2 4,3 5,2", "0,0 2,1 1,2 1,1 2,3 3,0"},
	{"0,0+3,0+5,0", "0,0 3,0 5,0 6,0 8,0 9,0 10,0 199,0 200,0", "1,0 2,0 4,0 7,0 3,1 0,1"}, {"0,0+6,10+15,0+0,4", "0,0 6,10 15,0 0,4 21,14 6,14", "6,0 6,6 3,0 0,2 12,16 9,0"},
	{"0,0+200,200", "0,0 200,200", "200,0 0,200 100,100 199,199"}, {"100,100+100,100", "100,100 200,200", "0,0 200,100"}, {"3,1+6,6+10,10+15,15+7,7", "3,1 9,7 10,8 13,11 18,16 16,14", "4,2 5,3 8,6 1,3 11,9 14,12"}, {"0,0+1,0+1,0+1,0+1,0", "0,0 1,0 200,0", "0,1 1,1"},
	{"0,0+2,4+3,1+5,5+8,6", "0,0 2,4 3,1 5,5 8,6 7,9 11,7 13,11 10,10", "1,1 1,2 4,4 6,4 0,4 8,7"}, {"200,200+1,1", "200,200", "0,0 199,199 1,1"}, {"9,9+1,2+2,1", "9,9 10,11 11,10 12,12", "0,0 8,8 10,10 9,10 11,11 10,9 1,2"},
}

func vectorsIn(t *testing.T, s string) []impl.Vector {
	t.Helper()
	var list []impl.Vector
	for _, c := range conesIn(t, s) {
		list = append(list, c.Base)
	}
	return list
}

func TestHasVectorTexts(t *testing.T) {
	for _, x := range memberTexts {
		c := coneIn(t, x.cone)
		for _, v := range vectorsIn(t, x.in) {
			if !impl.HasVector(c, v) {
				t.Errorf("HasVector(%s, %v) = false", x.cone, v)
			}
		}
		for _, v := range append(vectorsIn(t, x.out), badVectors()...) {
			if impl.HasVector(c, v) {
				t.Errorf("HasVector(%s, %v) = true", x.cone, v)
			}
		}
		// What lies before the base is in no cone, even if periods lead there and back.
		for _, p := range append(c.Periods, impl.Vector{X: 1}, impl.Vector{Y: 1}, impl.Vector{X: 1, Y: 1}) {
			if v := plus(c.Base, -1, p); impl.HasVector(c, v) {
				t.Errorf("HasVector(%s, %v) = true", x.cone, v)
			}
		}
	}
}

// TestHasVector compares HasVector with the sums that are found one by one.
func TestHasVector(t *testing.T) {
	in, out := 0, 0
	for _, c := range someCones(t, 114, 60) {
		most := max(c.Base.X, c.Base.Y) + 12
		for _, p := range c.Periods {
			most = max(most, min(p.X+p.Y, 40))
		}
		most = min(most, 200)
		near := most - 40
		vectors := slowVectors(c, most)
		for x := max(0, near); x <= most; x++ {
			for y := max(0, near); y <= most; y++ {
				v := impl.Vector{X: x, Y: y}
				if got := impl.HasVector(c, v); got != vectors[v] {
					t.Errorf("HasVector(%s, %v) = %v", slowConeText(c), v, got)
				} else if got {
					in++
				} else {
					out++
				}
			}
		}
	}
	if in < 2000 || out < 100000 {
		t.Errorf("%d vectors are in the cones, %d are not", in, out)
	}
}

// TestHasVectorGreat compares HasVector with the vectors that are reached from the base, up to the greatest ones.
func TestHasVectorGreat(t *testing.T) {
	roll := dice(115)
	in := 0
	for _, c := range every(someCones(t, 116, 40), 2) {
		vectors := reached(c)
		look := func(v impl.Vector) {
			if got := impl.HasVector(c, v); got != vectors[v] {
				t.Errorf("HasVector(%s, %v) = %v", slowConeText(c), v, got)
			}
		}
		count := 0
		for x := range 201 { // so that they come in one order
			for y := range 201 {
				if v := (impl.Vector{X: x, Y: y}); vectors[v] {
					if count%(1+len(vectors)/100) == 0 {
						look(v)
						in++
					}
					count++
				}
			}
		}
		for range 200 {
			look(roll.vector(200))
			look(plus(roll.vector(6), 1, impl.Vector{X: 194, Y: 194}))
		}
	}
	if in < 2000 {
		t.Errorf("only %d vectors are in the cones", in)
	}
}

func TestHasVectorInvalid(t *testing.T) {
	for _, c := range badCones() {
		for _, v := range []impl.Vector{{}, {X: 1, Y: 1}, {X: 2, Y: 2}, {X: 3}, {X: 200, Y: 200}, c.Base} {
			if impl.HasVector(c, v) {
				t.Errorf("HasVector(%s, %v) = true", bad(c), v)
			}
			if impl.AnyVector([]impl.Cone{c}, v) || impl.AnyVector([]impl.Cone{c, c, {Base: impl.Vector{X: 9}}, c}, v) {
				t.Errorf("AnyVector(%s, %v) = true", bad(c), v)
			}
			if !slowVectorValid(v) {
				continue
			}
			// The others need not be valid.
			if !impl.AnyVector([]impl.Cone{c, {Base: v}}, v) || !impl.AnyVector([]impl.Cone{{Base: v}, c}, v) {
				t.Errorf("AnyVector of %s and one that is just %v = false", bad(c), v)
			}
		}
	}
	for _, v := range badVectors() {
		for _, c := range []impl.Cone{{}, {Base: v}, {Base: v, Periods: []impl.Vector{v}}, {Periods: []impl.Vector{{X: 1}, {Y: 1}}}, {Base: impl.Vector{X: 200, Y: 200}, Periods: []impl.Vector{{X: 1}, {Y: 1}, {X: 1, Y: 1}}}} {
			if impl.HasVector(c, v) || impl.AnyVector([]impl.Cone{c, c}, v) {
				t.Errorf("HasVector(%s, %v) = true", slowConeText(c), v)
			}
		}
	}
}

func TestAnyVectorTexts(t *testing.T) {
	for _, list := range [][]impl.Cone{nil, {}, badCones(), badCones()[:1]} {
		for _, v := range []impl.Vector{{}, {X: 1, Y: 1}, {X: 200, Y: 200}, {X: -1}} {
			if impl.AnyVector(list, v) {
				t.Errorf("AnyVector of %d cones, %v = true", len(list), v)
			}
		}
	}
	for _, x := range []struct {
		cones string
		in    string
		out   string
	}{
		{"0,0 1,1+2,3", "0,0 1,1 3,4 5,7", "2,3 4,6 1,0"}, {"0,0+2,0 1,0+2,0", "0,0 1,0 2,0 3,0 199,0 200,0", "0,1 1,1"}, {"5,5", "5,5", "0,0 10,10"}, {"0,4 3,2 6,0", "0,4 3,2 6,0", "0,0 3,4 9,2 6,4"}, {"1,1+2,3 1,1+2,3", "1,1 3,4", "0,0"},
		{"201,0 1,1+2,3", "1,1 3,4", "201,0 0,0"}, {"1,1+2,3 0,0+0,0", "1,1 3,4", "0,0"}, {"0,0+0,0 1,1+1,1+1,1+1,1+1,1+1,1 -1,0", "", "0,0 1,1 2,2 -1,0"}, {"0,0+0,0 7,7+1,0 0,201", "7,7 8,7 200,7", "0,0 7,8 0,201"}, // some, or all, are not valid
	} {
		list := conesIn(t, x.cones)
		for _, v := range vectorsIn(t, x.in) {
			if !impl.AnyVector(list, v) {
				t.Errorf("AnyVector(%s, %v) = false", x.cones, v)
			}
		}
		for _, v := range vectorsIn(t, x.out) {
			if impl.AnyVector(list, v) {
				t.Errorf("AnyVector(%s, %v) = true", x.cones, v)
			}
		}
	}
}

// TestAnyVector compares AnyVector with the sums that are found one by one of each cone that is valid.
func TestAnyVector(t *testing.T) {
	roll := dice(117)
	in, out := 0, 0
	for i := range 150 {
		var list []impl.Cone
		vectors := map[impl.Vector]bool{}
		for range i % 5 {
			c := roll.cone(6, roll.roll(4))
			if roll.roll(4) == 0 {
				c.Periods = append(c.Periods, impl.Vector{})
			} else {
				for v := range slowVectors(c, 15) {
					vectors[v] = true
				}
			}
			list = append(list, c)
		}
		for x := range 16 {
			for y := range 16 {
				v := impl.Vector{X: x, Y: y}
				if got := impl.AnyVector(list, v); got != vectors[v] {
					t.Errorf("AnyVector(%s, %v) = %v", slowConeTexts(list), v, got)
				} else if got {
					in++
				} else {
					out++
				}
			}
		}
	}
	if in < 2000 || out < 2000 {
		t.Errorf("%d vectors are in the cones, %d are not", in, out)
	}
}

// sumTexts are pairs of cones with their sums; the text is empty if there is none.
var sumTexts = [][3]string{
	{"1,1+2,3", "2,0+1,0", "3,1+2,3+1,0"}, {"2,0+1,0", "1,1+2,3", "3,1+1,0+2,3"}, {"0,0", "0,0", "0,0"}, {"0,0", "1,1+2,3", "1,1+2,3"}, {"1,1+2,3", "0,0", "1,1+2,3"}, {"1,1+2,3", "1,1+2,3", "2,2+2,3+2,3"}, {"5,7", "3,4", "8,11"},
	{"0,0+1,0+0,1", "1,2+0,1+1,0", "1,2+1,0+0,1+0,1+1,0"}, {"0,0+1,0+2,0+3,0", "1,2+0,1", "1,2+1,0+2,0+3,0+0,1"}, {"0,0+1,0+2,0+3,0+4,0", "1,2", "1,2+1,0+2,0+3,0+4,0"}, {"1,2", "0,0+1,0+2,0+3,0+4,0", "1,2+1,0+2,0+3,0+4,0"}, // just MaxPeriods
	{"0,0+1,0+0,1", "1,2+0,1+1,0+1,1", ""}, {"0,0+1,0+2,0+3,0+4,0", "1,2+0,1", ""}, {"0,0+1,0", "1,2+0,1+1,0+1,1+2,2", ""}, {"0,0+1,0+2,0+3,0+4,0", "0,0+1,0+2,0+3,0+4,0", ""}, {"0,0+1,0+1,0+1,0", "0,0+1,0+1,0", ""}, // more, also if they are equal
	{"100,100", "100,100", "200,200"}, {"200,200", "0,0", "200,200"}, {"0,0", "200,200", "200,200"}, {"200,0+1,1", "0,200+2,2", "200,200+1,1+2,2"}, {"1,199+200,200", "199,1+200,200", "200,200+200,200+200,200"}, // a base that is just valid
	{"200,0", "1,0", ""}, {"0,200", "0,1", ""}, {"100,100", "101,100", ""}, {"100,100", "100,101", ""}, {"200,200", "200,200", ""}, {"200,0+1,1", "1,0", ""}, {"1,1", "0,200+1,1", ""}, // and one that is too great
}

func TestSumConesTexts(t *testing.T) {
	for _, x := range sumTexts {
		got, ok := impl.SumCones(coneIn(t, x[0]), coneIn(t, x[1]))
		wantCone(t, "SumCones "+x[0]+" "+x[1], got, ok, x[2])
	}
	for _, c := range badCones() {
		for _, d := range []impl.Cone{{}, {Base: impl.Vector{X: 1, Y: 1}, Periods: []impl.Vector{{X: 2, Y: 3}}}, {Base: plus(impl.Vector{}, -1, c.Base)}, c} {
			got, ok := impl.SumCones(c, d)
			wantNoCone(t, "SumCones of "+bad(c), got, ok)
			got, ok = impl.SumCones(d, c)
			wantNoCone(t, "SumCones with "+bad(c), got, ok)
		}
	}
}

// TestSumCones compares sums with the document's rules, and looks whether their vectors are the sums of vectors.
func TestSumCones(t *testing.T) {
	roll := dice(118)
	done, many, great := 0, 0, 0
	for i := range 600 {
		most := []int{3, 5, 180}[i%3]
		c, d := roll.cone(most, roll.roll(4)), roll.cone(most, roll.roll(4))
		what := "SumCones " + slowConeText(c) + " " + slowConeText(d)
		got, ok := impl.SumCones(c, d)
		want := impl.Cone{Base: plus(c.Base, 1, d.Base), Periods: slices.Concat(c.Periods, d.Periods)}
		if !slowConeValid(want) {
			wantNoCone(t, what, got, ok)
			if len(want.Periods) > 4 {
				many++
			} else {
				great++
			}
			continue
		}
		done++
		wantCone(t, what, got, ok, slowConeText(want))
		if most > 5 {
			continue
		}
		sums := map[impl.Vector]bool{}
		for v := range slowVectors(c, 14) {
			for w := range slowVectors(d, 14) {
				sums[plus(v, 1, w)] = true
			}
		}
		for x := range 15 {
			for y := range 15 {
				v := impl.Vector{X: x, Y: y}
				if is := impl.HasVector(got, v); is != sums[v] {
					t.Errorf("%v is wrong in %s: %v", v, what, is)
				}
			}
		}
	}
	if done < 200 || many < 100 || great < 50 {
		t.Errorf("%d cones are added, %d have too many periods, %d too great bases", done, many, great)
	}
}

func TestShiftCone(t *testing.T) {
	for _, x := range [][3]string{
		{"1,1+2,3", "0,4", "1,5+2,3"}, {"1,1+2,3", "0,0", "1,1+2,3"}, {"1,1+2,3", "5,7", "6,8+2,3"}, {"0,0", "200,200", "200,200"}, {"0,0+1,0+0,1+2,3+1,0", "3,1", "3,1+1,0+0,1+2,3+1,0"},
		{"1,1+2,3", "199,199", "200,200+2,3"}, {"1,1+2,3", "199,0", "200,1+2,3"}, {"200,200+1,1", "0,0", "200,200+1,1"}, {"100,0", "100,200", "200,200"}, // just valid
		{"1,1+2,3", "200,0", ""}, {"1,1+2,3", "0,200", ""}, {"200,200+1,1", "1,0", ""}, {"200,200+1,1", "0,1", ""}, {"100,0", "101,0", ""}, {"0,100", "0,101", ""}, {"200,200", "200,200", ""}, // and not
		{"1,1+2,3", "-1,0", ""}, {"1,1+2,3", "0,-1", ""}, {"1,1+2,3", "-1,-1", ""}, {"100,100", "201,0", ""}, {"0,0", "0,201", ""}, // no vectors
	} {
		got, ok := impl.ShiftCone(coneIn(t, x[0]), coneIn(t, x[1]).Base)
		wantCone(t, "ShiftCone "+x[0]+" "+x[1], got, ok, x[2])
	}
	for _, c := range badCones() {
		for _, v := range []impl.Vector{{}, {X: 1}, {X: 200, Y: 200}, plus(impl.Vector{}, -1, c.Base), c.Base} {
			got, ok := impl.ShiftCone(c, v)
			wantNoCone(t, "ShiftCone of "+bad(c), got, ok)
		}
	}
	done, refused := 0, 0
	for i, c := range someCones(t, 119, 60) {
		for _, v := range badVectors() {
			got, ok := impl.ShiftCone(c, v)
			wantNoCone(t, fmt.Sprintf("ShiftCone(%s, %v)", slowConeText(c), v), got, ok)
		}
		roll := dice(120 + i)
		for range 20 {
			v := roll.vector([]int{6, 200}[i%2])
			got, ok := impl.ShiftCone(c, v)
			want := impl.Cone{Base: plus(c.Base, 1, v), Periods: c.Periods}
			what := fmt.Sprintf("ShiftCone(%s, %v)", slowConeText(c), v)
			if !slowConeValid(want) {
				wantNoCone(t, what, got, ok)
				refused++
				continue
			}
			done++
			wantCone(t, what, got, ok, slowConeText(want))
			for range 20 {
				w := roll.vector(200)
				if further := plus(w, 1, v); slowVectorValid(further) && impl.HasVector(got, further) != impl.HasVector(c, w) {
					t.Errorf("%s is wrong in %v", what, further)
				}
			}
		}
	}
	if done < 1000 || refused < 500 {
		t.Errorf("%d cones are shifted, and %d not", done, refused)
	}
}

func TestTurnCone(t *testing.T) {
	for _, x := range [][2]string{
		{"1,2+3,4", "2,1+4,3"}, {"0,0", "0,0"}, {"0,7", "7,0"}, {"7,0", "0,7"}, {"1,1+2,3", "1,1+3,2"}, {"0,0+1,0+0,1", "0,0+0,1+1,0"}, {"5,6+1,2+3,4+5,6+7,8", "6,5+2,1+4,3+6,5+8,7"}, {"200,0+0,200+200,199", "0,200+200,0+199,200"},
		{"201,1", "1,201"}, {"-1,0", "0,-1"}, {"0,0+0,0", "0,0+0,0"}, {"1,2+-3,4+5,1000", "2,1+4,-3+1000,5"}, {"1,2+1,2+3,4+5,6+7,8+9,10+0,0", "2,1+2,1+4,3+6,5+8,7+10,9+0,0"}, // not valid
	} {
		for from, to := range map[string]string{x[0]: x[1], x[1]: x[0]} {
			wantCone(t, "TurnCone "+from, impl.TurnCone(coneIn(t, from)), true, to)
		}
	}
	turned := func(v impl.Vector) impl.Vector { return impl.Vector{X: v.Y, Y: v.X} }
	roll := dice(121)
	for _, c := range append(someCones(t, 122, 60), badCones()...) {
		got := impl.TurnCone(c)
		if got.Base != turned(c.Base) || !slices.EqualFunc(got.Periods, c.Periods, func(p impl.Vector, q impl.Vector) bool { return p == turned(q) }) {
			t.Errorf("TurnCone of %s = %s", bad(c), bad(got))
		}
		if !sameCone(impl.TurnCone(got), c) || impl.ConeValid(got) != impl.ConeValid(c) {
			t.Errorf("TurnCone of %s, turned again, is %s", bad(c), bad(impl.TurnCone(got)))
		}
		for range 20 {
			v := plus(c.Base, 1, roll.vector(9))
			if impl.HasVector(got, turned(v)) != impl.HasVector(c, v) {
				t.Errorf("TurnCone of %s is wrong in %v", bad(c), turned(v))
			}
		}
	}
}

// trimmedTexts are cones with what TrimCone leaves of them.
var trimmedTexts = [][2]string{
	{"0,0+1,0+0,1+2,3+1,0", "0,0+1,0+0,1"}, {"1,1+2,3", "1,1+2,3"}, {"0,0", "0,0"}, {"7,9", "7,9"}, {"0,0+1,0+0,1", "0,0+1,0+0,1"}, {"5,5+5,5", "5,5+5,5"}, {"3,1+2,0+3,0", "3,1+2,0+3,0"}, {"0,0+3,0+2,0", "0,0+3,0+2,0"}, {"0,0+1,2+2,1+3,4+4,3", "0,0+1,2+2,1+3,4+4,3"}, {"0,0+2,2+1,3+3,1", "0,0+2,2+1,3+3,1"}, {"0,0+200,200+199,200", "0,0+200,200+199,200"}, // none
	{"0,0+2,3+4,6", "0,0+2,3"}, {"0,0+4,6+2,3", "0,0+2,3"}, {"0,0+2,3+1,0+0,1", "0,0+1,0+0,1"}, {"0,0+1,0+2,3+0,1", "0,0+1,0+0,1"}, {"9,9+1,2+2,1+3,3", "9,9+1,2+2,1"}, {"0,0+2,0+3,0+4,0", "0,0+2,0+3,0"}, {"0,0+2,0+3,0+1,0", "0,0+1,0"}, {"0,0+6,0+9,0+15,0", "0,0+6,0+9,0"}, {"0,0+15,0+6,0+9,0", "0,0+6,0+9,0"}, {"0,0+5,0+3,0+8,1+8,0", "0,0+5,0+3,0+8,1"}, {"0,0+7,0+3,0+5,0", "0,0+7,0+3,0+5,0"}, {"0,0+0,2+0,3+0,7", "0,0+0,2+0,3"}, {"0,0+200,200+100,100", "0,0+100,100"}, // one
	{"0,0+1,1+1,1", "0,0+1,1"}, {"0,0+1,1+2,2+1,1", "0,0+1,1"}, {"0,0+2,3+1,0+2,3", "0,0+2,3+1,0"}, {"0,0+2,3+2,3+1,0", "0,0+2,3+1,0"}, {"0,0+1,0+2,3+2,3", "0,0+1,0+2,3"}, {"0,0+1,0+2,3+1,0+2,3", "0,0+1,0+2,3"}, {"0,0+1,0+2,3+2,3+1,0", "0,0+1,0+2,3"}, {"0,0+200,200+200,200", "0,0+200,200"}, {"1,2+5,5+5,5+5,5+5,5", "1,2+5,5"}, {"0,0+0,1+0,1", "0,0+0,1"}, // of equal ones, the first stays
	{"0,0+4,4+3,3+2,2+1,1", "0,0+1,1"}, {"0,0+1,1+2,2+3,3+4,4", "0,0+1,1"}, {"0,0+1,0+0,1+1,1+200,199", "0,0+1,0+0,1"}, {"0,0+4,4+1,0+8,8+0,1", "0,0+1,0+0,1"}, {"3,1+6,6+10,10+15,15+7,7", "3,1+6,6+10,10+15,15+7,7"}, {"3,1+6,6+10,10+16,16+22,22", "3,1+6,6+10,10"}, {"0,0+12,12+6,6+4,4+24,24", "0,0+6,6+4,4"}, {"0,0+2,4+3,1+5,5+8,6", "0,0+2,4+3,1"}, // several
}

func TestTrimConeTexts(t *testing.T) {
	for _, x := range trimmedTexts {
		got, ok := impl.TrimCone(coneIn(t, x[0]))
		wantCone(t, "TrimCone "+x[0], got, ok, x[1])
	}
	for _, c := range badCones() {
		got, ok := impl.TrimCone(c)
		wantNoCone(t, "TrimCone of "+bad(c), got, ok)
	}
}

// slowTrimmed follows the document's rules for TrimCone.
func slowTrimmed(c impl.Cone) impl.Cone {
	left := slices.Clone(c.Periods)
	for i := len(left) - 1; i >= 0; i-- {
		others := slices.Delete(slices.Clone(left), i, i+1)
		if slowVectors(impl.Cone{Periods: others}, max(left[i].X, left[i].Y))[left[i]] {
			left = others
		}
	}
	return impl.Cone{Base: c.Base, Periods: left}
}

// TestTrimCone compares TrimCone with the document's rules, and looks whether the vectors stay the same, and no more periods can be left out.
func TestTrimCone(t *testing.T) {
	roll := dice(123)
	left := map[int]int{}
	list := someCones(t, 124, 250)
	for i := range 400 { // many periods are sums of others, or equal
		list = append(list, roll.cone(1+i%3, 2+i%3))
	}
	for _, c := range list {
		what := "TrimCone " + slowConeText(c)
		got, ok := impl.TrimCone(c)
		wantCone(t, what, got, ok, slowConeText(slowTrimmed(c)))
		left[len(c.Periods)-len(got.Periods)]++
		again, ok := impl.TrimCone(got)
		wantCone(t, what+", again", again, ok, slowConeText(got))
		for i := range got.Periods {
			without := impl.Cone{Periods: slices.Delete(slices.Clone(got.Periods), i, i+1)}
			if impl.HasVector(without, got.Periods[i]) {
				t.Errorf("%s = %s, where %v is a sum of others", what, slowConeText(got), got.Periods[i])
			}
		}
		for range 40 {
			if v := plus(c.Base, 1, roll.vector(20)); impl.HasVector(got, v) != impl.HasVector(c, v) {
				t.Errorf("%s = %s is wrong in %v", what, slowConeText(got), v)
			}
		}
	}
	if left[0] < 200 || left[1] < 100 || left[2] < 50 || left[3] < 10 {
		t.Errorf("so many cones have lost so many periods: %v", left)
	}
}

// slowImage follows the document's rules for ImageOfCone, on a list of the numbers.
func slowImage(c impl.Cone, a int, b int) (impl.Set, bool) {
	first := a*c.Base.X + b*c.Base.Y
	if first > 400 {
		return impl.Set{}, false
	}
	list := make([]bool, 4000)
	list[first] = true
	image, ok := slowSet(list)
	for _, p := range c.Periods {
		step := a*p.X + b*p.Y
		if !ok || step > 240 || len(image.Loop)*max(step, 1) > 400 {
			return impl.Set{}, false
		}
		for n := step; n < len(list); n++ {
			list[n] = list[n] || list[n-step]
		}
		image, ok = slowSet(list)
	}
	return image, ok
}

// imageTexts are cones and factors with their images; the text is empty if there is none.
var imageTexts = []struct {
	cone string
	a, b int
	want string
}{
	{"1,1+2,3", 1, 1, "(00100)"}, {"1,1+2,3", 1, 0, "(01)"}, {"1,1+2,3", 0, 1, "(010)"}, {"1,1+2,3", 0, 0, "1(0)"}, {"1,1+2,3", 2, 5, "(" + zeros(7) + "1" + zeros(11) + ")"}, {"0,0", 7, 9, "1(0)"}, {"3,4", 2, 1, zeros(10) + "1(0)"}, {"3,4", 0, 0, "1(0)"}, {"0,0+1,0", 1, 0, "(1)"}, {"0,0+1,0", 0, 1, "1(0)"}, {"0,0+0,1", 1, 0, "1(0)"},
	{"0,0+1,0+0,1", 3, 5, "10010110(1)"}, {"0,0+3,0+5,0", 1, 1, "10010110(1)"}, {"0,0+2,3+3,2", 1, 1, "(10000)"}, {"0,0+1,1+1,1", 2, 1, "(100)"}, {"4,0+2,0+2,0+2,0+2,0", 1, 100, "000(01)"}, {"0,0+1,0+0,1+2,3+1,0", 4, 6, "100(01)"}, {"1,0+3,0+0,2+5,5+1,1", 1, 0, "0(1)"},
	{"0,0+1,0", 100, 100, "(1" + zeros(99) + ")"}, {"1,1+1,1", 100, 100, "0(" + zeros(199) + "1)"}, {"1,0", 100, 0, zeros(100) + "1(0)"}, {"0,0+2,0", 100, 100, "(1" + zeros(199) + ")"}, {"0,0+3,0", 100, 0, ""}, {"0,0+2,1", 100, 40, "(1" + zeros(239) + ")"}, {"0,0+2,1", 100, 41, ""}, {"0,0+200,40", 1, 1, "(1" + zeros(239) + ")"}, {"0,0+200,41", 1, 1, ""}, {"0,0+1,0+200,41", 1, 1, ""}, {"0,0+200,41+1,0", 1, 1, ""}, // periods at the limit
	{"199,200", 1, 1, zeros(399) + "1(0)"}, {"200,200", 1, 1, ""}, {"200,200", 2, 1, ""}, {"200,200", 100, 100, ""}, {"200,200", 0, 0, "1(0)"}, {"133,0", 3, 1, zeros(399) + "1(0)"}, {"100,0", 4, 1, ""}, {"101,0", 4, 1, ""}, {"0,80", 5, 5, ""}, {"200,200+1,0", 1, 1, ""}, {"200,200+1,1", 1, 1, ""}, {"199,200+1,0", 1, 1, zeros(399) + "(1)"}, {"199,200+2,0", 1, 1, zeros(398) + "(01)"}, {"198,200+2,0", 1, 1, zeros(397) + "(01)"}, // bases at the limit
	{"0,0+20,0+0,20", 1, 1, "(1" + zeros(19) + ")"}, {"0,0+20,0+0,21", 1, 1, ""}, {"0,0+200,0+2,0", 1, 1, "(10)"}, {"0,0+200,0+3,0", 1, 1, ""}, {"0,0+3,0+200,0", 1, 1, ""}, {"0,0+2,0+200,0", 1, 1, "(10)"}, {"0,0+1,0+200,0", 1, 1, "(1)"}, {"0,0+0,9+200,0", 1, 0, "(1" + zeros(199) + ")"}, // products of the loops at the limit
	{"0,0+2,0+200,0+3,0", 1, 1, "10(1)"}, {"0,0+2,0+3,0+200,0", 1, 1, "10(1)"}, {"0,0+200,0+2,0+3,0", 1, 1, "10(1)"}, {"0,0+3,0+2,0+200,0", 1, 1, "10(1)"}, {"0,0+200,0+3,0+2,0", 1, 1, ""}, {"0,0+3,0+200,0+2,0", 1, 1, ""}, // the order tells
	{"380,0+2,0+5,0", 1, 1, ""}, {"190,0+1,0+0,5", 2, 1, zeros(380) + "1010" + "(1)"}, {"198,0+1,0+0,5", 2, 1, zeros(396) + "1010(1)"}, {"199,0+1,0+0,5", 2, 1, ""}, {"200,0+1,0+0,1", 1, 1, zeros(200) + "(1)"}, // sums at the limit
}

func TestImageOfConeTexts(t *testing.T) {
	for _, x := range imageTexts {
		c := coneIn(t, x.cone)
		got, ok := impl.ImageOfCone(c, x.a, x.b)
		what := fmt.Sprintf("ImageOfCone(%s, %d, %d)", x.cone, x.a, x.b)
		wantSetText(t, what, got, ok, x.want)
		if !slowConeValid(c) {
			continue
		}
		want, can := slowImage(c, x.a, x.b)
		wantSame(t, what, got, ok, want, can)
	}
	for _, bad := range append([]int{-1, -2, -100, 101, 102, 200}, extremes...) {
		for _, text := range []string{"0,0", "1,1+2,3", "0,0+1,0", "0,0+0,1"} {
			for _, n := range []int{0, 1, 100, bad} {
				for _, x := range [][2]int{{bad, n}, {n, bad}} {
					got, ok := impl.ImageOfCone(coneIn(t, text), x[0], x[1])
					wantNoSet(t, fmt.Sprintf("ImageOfCone(%s, %d, %d)", text, x[0], x[1]), got, ok)
				}
			}
		}
	}
	for _, c := range badCones() {
		for _, x := range [][2]int{{0, 0}, {1, 1}, {0, 1}, {1, 0}, {100, 100}} {
			got, ok := impl.ImageOfCone(c, x[0], x[1])
			wantNoSet(t, "ImageOfCone of "+bad(c), got, ok)
		}
	}
}

// factors are pairs of factors for images.
var factors = [][2]int{{0, 0}, {1, 0}, {0, 1}, {1, 1}, {2, 1}, {1, 3}, {5, 2}, {4, 6}, {7, 7}, {0, 13}, {30, 1}, {100, 1}, {99, 100}}

// TestImageOfCone compares images with the document's rules, and with the values of the vectors.
func TestImageOfCone(t *testing.T) {
	found, refused, in, out := 0, 0, 0, 0
	for _, c := range someCones(t, 125, 60) {
		for _, x := range factors {
			a, b := x[0], x[1]
			what := fmt.Sprintf("ImageOfCone(%s, %d, %d)", slowConeText(c), a, b)
			got, ok := impl.ImageOfCone(c, a, b)
			want, can := slowImage(c, a, b)
			wantSame(t, what, got, ok, want, can)
			if !ok {
				refused++
				continue
			}
			found++
			if a == 0 || b == 0 {
				continue
			}
			// A vector with such a value has no number that is greater than it.
			values := map[int]bool{}
			for v := range slowVectors(c, min(24, max(c.Base.X, c.Base.Y)+8)) {
				values[a*v.X+b*v.Y] = true
				if !impl.HasNumber(got, a*v.X+b*v.Y) {
					t.Errorf("%s has no value of %v", what, v)
				}
			}
			for n := range min(25, max(c.Base.X, c.Base.Y)+9) {
				if impl.HasNumber(got, n) != values[n] {
					t.Errorf("%s is wrong of %d", what, n)
				} else if values[n] {
					in++
				} else {
					out++
				}
			}
		}
	}
	if found < 700 || refused < 700 || in < 500 || out < 3000 {
		t.Errorf("%d images are found, %d are refused; %d numbers are in them, and %d are not", found, refused, in, out)
	}
}

// TestImagesAgree looks whether images follow what becomes of cones: sums, shifts, turned and trimmed cones.
func TestImagesAgree(t *testing.T) {
	roll := dice(126)
	sums, shifts, turns, trims := 0, 0, 0, 0
	for range 800 {
		c, d := roll.cone(7, roll.roll(4)), roll.cone(7, roll.roll(2))
		x := factors[roll.roll(len(factors))]
		a, b := x[0], x[1]
		image, ok := impl.ImageOfCone(c, a, b)
		if !ok {
			continue
		}
		what := fmt.Sprintf("the image by %d and %d of %s", a, b, slowConeText(c))
		sum, okSum := impl.SumCones(c, d)
		whole, okWhole := impl.ImageOfCone(sum, a, b)
		other, okOther := impl.ImageOfCone(d, a, b)
		if added, can := impl.SumSets(image, other); okSum && okWhole && okOther && can {
			sums++
			if added != whole {
				t.Errorf("%s is %v, but with %s it is not the sum of both, but %v", what, image, slowConeText(d), whole)
			}
		}
		shifted, okShifted := impl.ShiftCone(c, d.Base)
		moved, okMoved := impl.ImageOfCone(shifted, a, b)
		if want, can := impl.ShiftSet(image, a*d.Base.X+b*d.Base.Y); okShifted && okMoved && can {
			shifts++
			if moved != want {
				t.Errorf("%s, shifted by %v, is %v", what, d.Base, moved)
			}
		}
		turns++
		if turned, ok := impl.ImageOfCone(impl.TurnCone(c), b, a); turned != image || !ok {
			t.Errorf("%s, turned, is %v", what, turned)
		}
		trimmed, _ := impl.TrimCone(c)
		if kept, ok := impl.ImageOfCone(trimmed, a, b); ok {
			trims++
			if kept != image {
				t.Errorf("%s, trimmed, is %v", what, kept)
			}
		}
	}
	if sums < 200 || shifts < 200 || turns < 200 || trims < 200 {
		t.Errorf("%d sums, %d shifts, %d turns and %d trims are compared", sums, shifts, turns, trims)
	}
}

// slowSolutions follows the document's rules for SolutionsOf, for numbers that are not too great.
func slowSolutions(a int, b int, c int) (string, bool) {
	x, y, can := slowPair(a, b, c)
	if !can {
		return "", true
	}
	text := fmt.Sprintf("%d,%d", x, y)
	switch {
	case a == 0 && b == 0:
		return text + "+1,0+0,1", true
	case a == 0:
		return text + "+1,0", true
	case b == 0:
		return text + "+0,1", true
	case a < 0 != (b < 0):
		common := slowGcd(a, b)
		return fmt.Sprintf("%s+%d,%d", text, max(b, -b)/common, max(a, -a)/common), true
	}
	var texts []string
	for x := range 101 {
		for y := range 101 {
			if a*x+b*y == c {
				texts = append(texts, fmt.Sprintf("%d,%d", x, y))
			}
		}
	}
	if len(texts) > 8 {
		return "", false
	}
	return strings.Join(texts, " "), true
}

// wantCones compares cones with a text.
func wantCones(t *testing.T, what string, got []impl.Cone, ok bool, want string, can bool) {
	t.Helper()
	if text := slowConeTexts(got); text != want || ok != can {
		t.Errorf("%s = %q, %v, want %q, %v", what, text, ok, want, can)
	}
}

func TestSolutionsOfTexts(t *testing.T) {
	for _, x := range []struct {
		a, b, c int
		want    string
		ok      bool
	}{
		{3, -2, 1, "1,1+2,3", true}, {-3, 2, -1, "1,1+2,3", true}, {-2, 3, 1, "1,1+3,2", true}, {3, -2, -1, "1,2+2,3", true}, {3, -2, 0, "0,0+2,3", true}, {1, -1, 0, "0,0+1,1", true}, {4, -6, 2, "2,1+3,2", true}, {6, -4, -2, "1,2+2,3", true}, {1, -1, 100, "100,0+1,1", true}, {1, -1, -100, "0,100+1,1", true}, {20, -19, 100, "5,0+19,20", true}, {20, -20, 100, "5,0+1,1", true}, {20, -20, 0, "0,0+1,1", true}, {-20, 20, 20, "0,1+1,1", true}, {2, -4, 5, "", true}, {20, -20, 99, "", true}, {-6, 9, 1, "", true}, {1, -20, -1, "19,1+20,1", true}, // different signs
		{2, 3, 12, "0,4 3,2 6,0", true}, {3, 2, 12, "0,6 2,3 4,0", true}, {3, 5, 7, "", true}, {3, 5, 8, "1,1", true}, {2, 4, 5, "", true}, {1, 1, 0, "0,0", true}, {20, 20, 0, "0,0", true}, {1, 1, -1, "", true}, {1, 1, -100, "", true}, {20, 20, 100, "0,5 1,4 2,3 3,2 4,1 5,0", true}, {20, 20, 99, "", true}, {1, 20, 19, "19,0", true}, {20, 1, 19, "0,19", true}, {20, 1, 20, "0,20 1,0", true}, {7, 13, 100, "5,5", true}, {15, 20, 100, "0,5 4,2", true}, // both positive
		{1, 1, 7, "0,7 1,6 2,5 3,4 4,3 5,2 6,1 7,0", true}, {1, 1, 8, "", false}, {2, 2, 14, "0,7 1,6 2,5 3,4 4,3 5,2 6,1 7,0", true}, {2, 2, 16, "", false}, {2, 2, 15, "", true}, {1, 1, 100, "", false}, {3, 4, 95, "1,23 5,20 9,17 13,14 17,11 21,8 25,5 29,2", true}, {3, 4, 96, "", false}, {1, 14, 99, "1,7 15,6 29,5 43,4 57,3 71,2 85,1 99,0", true}, {1, 14, 98, "0,7 14,6 28,5 42,4 56,3 70,2 84,1 98,0", true}, {1, 13, 100, "9,7 22,6 35,5 48,4 61,3 74,2 87,1 100,0", true}, {1, 12, 96, "", false}, {20, 1, 100, "0,100 1,80 2,60 3,40 4,20 5,0", true}, {12, 1, 96, "", false}, {12, 1, 95, "0,95 1,83 2,71 3,59 4,47 5,35 6,23 7,11", true}, // just MaxCones, and more
		{-1, -1, -2, "0,2 1,1 2,0", true}, {-2, -3, -12, "0,4 3,2 6,0", true}, {-3, -5, -7, "", true}, {-1, -1, 1, "", true}, {-1, -1, 0, "0,0", true}, {-1, -1, -7, "0,7 1,6 2,5 3,4 4,3 5,2 6,1 7,0", true}, {-1, -1, -8, "", false}, {-20, -20, -100, "0,5 1,4 2,3 3,2 4,1 5,0", true}, {-1, -1, -100, "", false}, {-1, -1, 100, "", true}, {-20, -1, -19, "0,19", true}, // both negative
		{0, 2, 4, "0,2+1,0", true}, {0, -2, -4, "0,2+1,0", true}, {0, 2, 5, "", true}, {0, 2, -4, "", true}, {0, -2, 4, "", true}, {0, 20, 0, "0,0+1,0", true}, {0, 1, 100, "0,100+1,0", true}, {0, -1, -100, "0,100+1,0", true}, {0, 20, 100, "0,5+1,0", true}, {0, -20, -100, "0,5+1,0", true}, // a is 0
		{2, 0, 4, "2,0+0,1", true}, {-2, 0, -4, "2,0+0,1", true}, {2, 0, 5, "", true}, {2, 0, -4, "", true}, {-2, 0, 4, "", true}, {20, 0, 0, "0,0+0,1", true}, {1, 0, 100, "100,0+0,1", true}, {-1, 0, -100, "100,0+0,1", true}, {20, 0, 100, "5,0+0,1", true}, {-20, 0, -100, "5,0+0,1", true}, // b is 0
		{0, 0, 0, "0,0+1,0+0,1", true}, {0, 0, 1, "", true}, {0, 0, -1, "", true}, {0, 0, 100, "", true}, {0, 0, -100, "", true}, // both are 0
		{21, 1, 1, "", false}, {1, 21, 1, "", false}, {-21, 1, 1, "", false}, {1, -21, 1, "", false}, {21, -21, 0, "", false}, {0, 21, 0, "", false}, {21, 0, 0, "", false}, {1, 1, 101, "", false}, {1, 1, -101, "", false}, {0, 0, 101, "", false}, {0, 0, -101, "", false}, {20, -20, 101, "", false}, {1, -1, -101, "", false}, {20, 20, -101, "", false}, // numbers that are too great
	} {
		got, ok := impl.SolutionsOf(x.a, x.b, x.c)
		wantCones(t, fmt.Sprintf("SolutionsOf(%d, %d, %d)", x.a, x.b, x.c), got, ok, x.want, x.ok)
	}
}

func TestSolutionsOfInvalid(t *testing.T) {
	for _, bad := range append([]int{-100, -22, -21, 21, 22, 100}, extremes...) {
		for _, n := range []int{0, 1, -1, 20, -20, bad} {
			for _, c := range []int{0, 1, -1, 100, -100, 101, bad} {
				got, ok := impl.SolutionsOf(bad, n, c)
				wantCones(t, fmt.Sprintf("SolutionsOf(%d, %d, %d)", bad, n, c), got, ok, "", false)
				got, ok = impl.SolutionsOf(n, bad, c)
				wantCones(t, fmt.Sprintf("SolutionsOf(%d, %d, %d)", n, bad, c), got, ok, "", false)
			}
		}
	}
	for _, bad := range append([]int{-1000, -102, -101, 101, 102, 1000}, extremes...) {
		for a := -20; a <= 20; a += 5 {
			for b := -20; b <= 20; b += 4 {
				got, ok := impl.SolutionsOf(a, b, bad)
				wantCones(t, fmt.Sprintf("SolutionsOf(%d, %d, %d)", a, b, bad), got, ok, "", false)
			}
		}
	}
}

// TestSolutionsOf compares the cones of all equations with the document's rules, and with what chapter 5 tells.
func TestSolutionsOf(t *testing.T) {
	none, lines, pairs, many := 0, 0, 0, 0
	for a := -20; a <= 20; a++ {
		for b := -20; b <= 20; b++ {
			for c := -100; c <= 100; c++ {
				what := fmt.Sprintf("SolutionsOf(%d, %d, %d)", a, b, c)
				got, ok := impl.SolutionsOf(a, b, c)
				want, can := slowSolutions(a, b, c)
				wantCones(t, what, got, ok, want, can)
				for _, k := range got {
					if !impl.ConeValid(k) {
						t.Errorf("%s has the cone %s, which is not valid", what, slowConeText(k))
					}
				}
				count := impl.CountSolutions(a, b, c)
				if a < 0 {
					count = impl.CountSolutions(-a, -b, -c)
				}
				switch _, _, solved := impl.LeastSolution(a, b, c); {
				case !solved && (len(got) > 0 || !ok):
					t.Errorf("%s = %s, %v, but there are no solutions", what, slowConeTexts(got), ok)
				case !solved:
					none++
				case count > 8 && (len(got) > 0 || ok), 0 <= count && count <= 8 && (len(got) != count || !ok), count < 0 && (len(got) != 1 || !ok):
					t.Errorf("%s = %s, %v, but there are %d solutions", what, slowConeTexts(got), ok, count)
				case count > 8:
					many++
				case count < 0:
					lines++
				default:
					pairs++
				}
			}
		}
	}
	if none < 10000 || lines < 10000 || pairs < 10000 || many < 1000 {
		t.Errorf("%d equations have no solutions, %d a cone with periods, %d some pairs, %d too many", none, lines, pairs, many)
	}
}

// TestSolutionsAre looks whether the vectors of the cones are just the solutions of an equation.
func TestSolutionsAre(t *testing.T) {
	some := 0
	for _, x := range someEquations() {
		a, b, c := x[0], x[1], x[2]
		list, ok := impl.SolutionsOf(a, b, c)
		if !ok {
			continue
		}
		look := func(x int, y int) {
			is := a*x+b*y == c
			if is {
				some++
			}
			if impl.AnyVector(list, impl.Vector{X: x, Y: y}) != is {
				t.Errorf("SolutionsOf(%d, %d, %d) = %s is wrong in %d,%d", a, b, c, slowConeTexts(list), x, y)
			}
		}
		for x := range 17 {
			for y := range 17 {
				look(x, y)
			}
		}
		for n := 17; n <= 200; n += 1 + n/17 { // and on and around the line behind them
			look(n, 3*n%201)
			if b == 0 {
				continue
			}
			for _, y := range []int{(c - a*n) / b, (c-a*n)/b + 1} {
				if 0 <= y && y <= 200 {
					look(n, y)
				}
			}
		}
	}
	if some < 5000 {
		t.Errorf("only %d vectors are solutions", some)
	}
}

// someEquations are equations of all kinds.
func someEquations() [][3]int {
	list := [][3]int{{20, -20, 100}, {20, -19, -100}, {-20, 19, 100}, {20, 20, 100}, {-20, -20, -100}, {1, -20, 100}, {20, -1, -100}, {0, 20, 100}, {-20, 0, -100}, {1, 1, 7}, {1, 1, 8}, {0, 0, 0}, {0, 0, 1}}
	for a := -5; a <= 5; a++ {
		for b := -4; b <= 4; b++ {
			for _, c := range []int{-12, -7, -2, -1, 0, 1, 3, 6, 10, 15} {
				if c%2 == 0 || (a+b+c)%2 == 0 {
					list = append(list, [3]int{a, b, c})
				}
			}
		}
	}
	return list
}

// equation is the formula that an equation says about a and b.
func equation(x [3]int) impl.Formula {
	return atomForm(impl.Atom{Kind: 1, Term: impl.Term{A: x[0], B: x[1], N: -x[2]}})
}

// TestSolutionsByFormulas looks whether the formula that one of the cones has a vector says the same as the equation, as chapter 6 decides.
func TestSolutionsByFormulas(t *testing.T) {
	done, undone := 0, 0
	for _, x := range someEquations() {
		list, ok := impl.SolutionsOf(x[0], x[1], x[2])
		if !ok {
			continue
		}
		var forms []impl.Formula
		for _, c := range list {
			f, ok := impl.ConeFormula(c)
			if !ok {
				t.Errorf("ConeFormula(%s) is refused", slowConeText(c))
			}
			forms = append(forms, f)
		}
		whole, _ := impl.JoinAny(forms)
		for _, pair := range [][2]impl.Formula{{whole, equation(x)}, {equation(x), whole}} {
			is, can := impl.EntailsFormula(pair[0], pair[1])
			if !can {
				undone++
				continue
			}
			done++
			if !is {
				t.Errorf("%s does not entail %s", slowText(pair[0]), slowText(pair[1]))
			}
		}
	}
	if done < 800 || undone > 200 {
		t.Errorf("%d entailments are decided, and %d are not", done, undone)
	}
}

// coneFormulaTexts are cones with their formulas; the text is empty if there is none.
var coneFormulaTexts = [][2]string{
	{"0,0", "and -a=0 -b=0"}, {"1,1", "and -a+1=0 -b+1=0"}, {"7,13", "and -a+7=0 -b+13=0"}, {"200,0", "and -a+200=0 -b=0"}, {"200,200", "and -a+200=0 -b+200=0"}, // no periods
	{"1,1+2,3", "some c and -a+2c+1=0 -b+3c+1=0"}, {"0,0+1,0", "some c and -a+c=0 -b=0"}, {"0,0+0,1", "some c and -a=0 -b+c=0"}, {"5,0+0,3", "some c and -a+5=0 -b+3c=0"}, {"0,0+100,100", "some c and -a+100c=0 -b+100c=0"}, {"200,199+100,1", "some c and -a+100c+200=0 -b+c+199=0"}, // one
	{"0,0+1,0+0,1", "some c some d and -a+c=0 -b+d=0"}, {"1,2+3,4+5,6", "some c some d and -a+3c+5d+1=0 -b+4c+6d+2=0"}, {"0,0+2,3+2,3", "some c some d and -a+2c+2d=0 -b+3c+3d=0"}, {"9,8+7,0+6,0", "some c some d and -a+7c+6d+9=0 -b+8=0"}, {"0,0+100,100+99,100", "some c some d and -a+100c+99d=0 -b+100c+100d=0"}, // two
	{"0,0+1,0+0,1+1,1", ""}, {"0,0+1,0+1,0+1,0", ""}, {"1,1+1,0+0,1+1,1+2,2", ""}, // more
	{"0,0+101,1", ""}, {"0,0+1,101", ""}, {"0,0+200,200", ""}, {"0,0+101,0", ""}, {"0,0+0,101", ""}, {"0,0+1,1+101,1", ""}, {"0,0+1,1+1,101", ""}, {"0,0+101,1+1,1", ""}, {"0,0+1,101+1,1", ""}, {"1,1+0,101+101,0", ""}, // numbers that are too great
}

func TestConeFormulaTexts(t *testing.T) {
	for _, x := range coneFormulaTexts {
		got, ok := impl.ConeFormula(coneIn(t, x[0]))
		if x[1] == "" {
			wantNoForm(t, "ConeFormula "+x[0], got, ok)
		} else {
			wantText(t, "ConeFormula "+x[0], got, ok, x[1])
		}
	}
	for _, c := range badCones() {
		got, ok := impl.ConeFormula(c)
		wantNoForm(t, "ConeFormula of "+bad(c), got, ok)
	}
}

// fewPeriods are cones with at most two periods, of small numbers.
func fewPeriods(seed dice, count int) []impl.Cone {
	var list []impl.Cone
	for i := range count {
		list = append(list, seed.cone(1+i%6, i%3))
	}
	return list
}

// TestConeFormula looks whether a formula is true of just the vectors of its cone, by chapter 3 as far as its bound reaches, and by chapter 6.
func TestConeFormula(t *testing.T) {
	bounded, in, out, eliminated, undone := 0, 0, 0, 0, 0
	for i, c := range fewPeriods(127, 240) {
		f, ok := impl.ConeFormula(c)
		if !ok || !impl.FormulaValid(f) || impl.NestedCount(f) != len(c.Periods) || slices.Contains(impl.FreeVars(f), 2) || slices.Contains(impl.FreeVars(f), 3) {
			t.Errorf("ConeFormula(%s) = %v, %v", slowConeText(c), f, ok)
		}
		small := map[impl.Vector]bool{} // with each period at most 8 times
		for n := range 9 {
			for m := range 9 {
				v := c.Base
				for j, p := range c.Periods {
					v = plus(v, []int{n, m}[j], p)
				}
				small[v] = true
			}
		}
		open, can := impl.EliminateAll(f)
		if !can {
			undone++
		}
		for x := range 15 {
			for y := range 15 {
				v := impl.Vector{X: x, Y: y}
				is, p := impl.HasVector(c, v), impl.Point{A: x, B: y, C: i % 7, D: i % 5}
				if truth, ok := impl.EvalBounded(f, p, 8); truth != small[v] || !ok {
					t.Errorf("ConeFormula(%s) = %s is %v in %v", slowConeText(c), slowText(f), truth, v)
				} else if truth && is {
					bounded++
				} else if truth {
					t.Errorf("HasVector(%s, %v) = false", slowConeText(c), v)
				}
				if !can {
					continue
				}
				eliminated++
				if truth, ok := impl.EvalOpen(open, p); truth != is || !ok {
					t.Errorf("%s, which is %s, is %v in %v", slowText(f), slowText(open), truth, v)
				}
				if is {
					in++
				} else {
					out++
				}
			}
		}
	}
	if bounded < 1500 || in < 1500 || out < 15000 || eliminated < 20000 || undone > 120 {
		t.Errorf("%d vectors are in cones by a bound; by elimination, which fails %d times, of %d there are %d in cones, and %d not", bounded, undone, eliminated, in, out)
	}
}

// TestConeFormulaGreat looks at the formulas of cones with one period in great vectors, by the least number of times that chapter 6 finds.
func TestConeFormulaGreat(t *testing.T) {
	roll := dice(128)
	found, none, undone := 0, 0, 0
	for range 400 {
		c := roll.cone(12, 1)
		f, ok := impl.ConeFormula(c)
		if !ok || f.Kind != 7 || f.Var != 2 {
			t.Fatalf("ConeFormula(%s) = %v, %v", slowConeText(c), f, ok)
		}
		for range 20 {
			times := roll.roll(16)
			v := plus(c.Base, times, c.Periods[0])
			if roll.roll(2) == 0 {
				v = plus(v, 1, roll.vector(1))
			}
			least, ok := impl.LeastWitness(f.Subs[0], 2, impl.Point{A: v.X, B: v.Y, C: roll.roll(9)})
			if !ok {
				undone++
				continue
			}
			if is := impl.HasVector(c, v); is != (least >= 0) || is && plus(c.Base, least, c.Periods[0]) != v {
				t.Errorf("LeastWitness of %s is %d in %v, but HasVector is %v", slowText(f), least, v, is)
			} else if is {
				found++
			} else {
				none++
			}
		}
	}
	if found < 2000 || none < 1000 || undone > 3000 {
		t.Errorf("%d times there is a number, %d times none, and %d times it is not known", found, none, undone)
	}
}

// TestConeFormulaSets looks whether the sets that chapter 8 finds of the numbers of vectors, and of sums of their multiples, are the images.
func TestConeFormulaSets(t *testing.T) {
	both, sums, undone := 0, 0, 0
	for i, c := range fewPeriods(129, 120) {
		f, _ := impl.ConeFormula(c)
		for v, x := range [][2]int{{1, 0}, {0, 1}} {
			got, ok := impl.ImageSet(f, 1-v, v)
			want, can := impl.ImageOfCone(c, x[0], x[1])
			if !ok || !can {
				undone++
				continue
			}
			both++
			if got != want {
				t.Errorf("the set of %s by %d is %v, but the image %v", slowText(f), v, got, want)
			}
		}
		if len(c.Periods) == 2 && i%2 == 0 {
			continue // these take long
		}
		x := [][2]int{{1, 1}, {2, 1}, {1, 3}, {0, 2}}[i%4]
		value := atomForm(impl.Atom{Kind: 1, Term: impl.Term{A: x[0], B: x[1], C: -1}})
		got, ok := impl.SetOfAny(boundForm(7, 0, boundForm(7, 1, pairForm(4, f, value))), 2)
		want, can := impl.ImageOfCone(c, x[0], x[1])
		if !ok || !can {
			undone++
			continue
		}
		sums++
		if got != want {
			t.Errorf("the set of the sums %v of %s is %v, but the image %v", x, slowText(f), got, want)
		}
	}
	if both < 100 || sums < 30 || undone > 220 {
		t.Errorf("%d sets of numbers and %d of sums are compared, %d are not", both, sums, undone)
	}
}

func TestCountVectorsTexts(t *testing.T) {
	for _, x := range []struct {
		cone  string
		bound int
		want  int
	}{
		{"1,1+2,3", 7, 3}, {"1,1+2,3", 6, 2}, {"1,1+2,3", 0, 0}, {"1,1+2,3", 1, 1}, {"1,1+2,3", 20, 7}, {"0,0+1,0+0,1", 3, 16}, {"0,0+1,0+0,1", 0, 1}, {"0,0+1,0+0,1", 20, 441}, {"1,0+1,0+0,1", 20, 420}, {"20,20+1,0+0,1", 20, 1}, {"20,19+1,0+0,1", 20, 2}, {"21,0+0,1", 20, 0}, {"0,21", 20, 0}, {"200,200", 20, 0}, {"20,20", 20, 1}, {"20,20", 19, 0}, {"0,20+1,0", 20, 21}, {"0,20+1,0", 19, 0}, {"0,0", 0, 1}, {"0,0", 20, 1},
		{"0,0+1,0", 20, 21}, {"0,0+0,1", 20, 21}, {"0,0+1,0+1,0+1,0+1,0", 20, 21}, {"0,0+1,1", 20, 21}, {"0,0+2,2+1,1", 20, 21}, {"0,0+20,20", 20, 2}, {"0,0+21,0", 20, 1}, {"0,0+0,21", 20, 1}, {"0,0+200,200", 20, 1}, {"0,0+3,0+5,0", 10, 7}, {"0,0+2,0+0,2", 20, 121}, {"0,0+2,0+0,2+1,1", 20, 221}, {"1,0+2,0+0,2+1,1", 20, 210}, {"0,0+1,2+2,1", 6, 11}, {"0,0+2,3+4,6", 12, 5}, // sums that can be made in many ways count once
		{"0,0", -1, -1}, {"0,0", 21, -1}, {"1,1+2,3", 21, -1}, {"1,1+2,3", -1, -1}, {"0,0+1,0+0,1", 200, -1}, {"201,0", 5, -1}, {"0,0+0,0", 5, -1},
	} {
		if got := impl.CountVectors(coneIn(t, x.cone), x.bound); got != x.want {
			t.Errorf("CountVectors(%s, %d) = %d, want %d", x.cone, x.bound, got, x.want)
		}
	}
}

// TestCountVectors compares CountVectors with the sums that are found one by one, and with HasVector.
func TestCountVectors(t *testing.T) {
	great := 0
	for _, c := range someCones(t, 130, 40) {
		vectors := slowVectors(c, 20)
		for bound := range 21 {
			want, also := 0, 0
			for x := range bound + 1 {
				for y := range bound + 1 {
					v := impl.Vector{X: x, Y: y}
					if vectors[v] {
						want++
					}
					if bound%6 == 2 && impl.HasVector(c, v) {
						also++
					}
				}
			}
			got := impl.CountVectors(c, bound)
			if got != want || bound%6 == 2 && got != also {
				t.Errorf("CountVectors(%s, %d) = %d, want %d", slowConeText(c), bound, got, want)
			}
			if got > 50 {
				great++
			}
		}
		for _, bound := range append([]int{-1, -2, -20, 21, 22, 200}, extremes...) {
			if got := impl.CountVectors(c, bound); got != -1 {
				t.Errorf("CountVectors(%s, %d) = %d", slowConeText(c), bound, got)
			}
		}
	}
	if great < 20 {
		t.Errorf("only %d times there are more than 50 vectors", great)
	}
	for _, c := range badCones() {
		for _, bound := range []int{0, 5, 20, 21, -1} {
			if got := impl.CountVectors(c, bound); got != -1 {
				t.Errorf("CountVectors of %s, %d = %d", bad(c), bound, got)
			}
		}
	}
}

// wantFreshCones looks whether lists of cones, or the periods within them, share memory, unused capacity included.
func wantFreshCones(t *testing.T, what string, lists ...[]impl.Cone) {
	t.Helper()
	see := onceOnly(t, what)
	for _, list := range lists {
		list = list[:cap(list)]
		for i := range list {
			see(&list[i])
			periods := list[i].Periods[:cap(list[i].Periods)]
			for j := range periods {
				see(&periods[j])
			}
		}
	}
}

// TestConesMemory looks whether results share memory with arguments or with each other, unused capacity included.
func TestConesMemory(t *testing.T) {
	for _, c := range someCones(t, 131, 40) {
		c.Periods = slices.Grow(slices.Clone(c.Periods), 5)
		none := impl.Cone{Periods: make([]impl.Vector, 0, 7)}
		whole := []impl.Cone{c, none}
		var forms [][]impl.Formula
		for range 2 {
			keep := func(got impl.Cone, _ bool) { whole = append(whole, got) }
			keep(impl.ParseCone(impl.FormatCone(c)))
			keep(impl.SumCones(c, none))
			keep(impl.SumCones(none, c))
			keep(impl.SumCones(c, impl.Cone{Periods: []impl.Vector{{X: 1}}}))
			keep(impl.ShiftCone(c, impl.Vector{}))
			keep(impl.TurnCone(c), true)
			keep(impl.TrimCone(c))
			if f, ok := impl.ConeFormula(c); ok {
				forms = append(forms, f.Subs)
			}
		}
		wantFreshCones(t, slowConeText(c), whole)
		wantFresh(t, slowConeText(c), nil, forms...)
	}
	common := []impl.Vector{{X: 1}, {X: 2}, {Y: 1}, {X: 9}} // of two arguments
	c, d := impl.Cone{Periods: common[:2]}, impl.Cone{Periods: common[:1]}
	sum, _ := impl.SumCones(c, d)
	other, _ := impl.SumCones(d, d)
	wantFreshCones(t, "cones with common periods", []impl.Cone{{Periods: common}, sum, other})
	for _, x := range someEquations() {
		first, _ := impl.SolutionsOf(x[0], x[1], x[2])
		second, _ := impl.SolutionsOf(x[0], x[1], x[2])
		wantFreshCones(t, fmt.Sprintf("SolutionsOf(%v)", x), first, second)
	}
}

// TestConesUnchanged calls the functions and looks whether their arguments are left as they are, also beyond their length.
func TestConesUnchanged(t *testing.T) {
	for _, c := range append(every(someCones(t, 132, 60), 2), every(badCones()[:60], 3)...) {
		all := append(slices.Clone(c.Periods), impl.Vector{X: -7, Y: 8}, impl.Vector{X: 9}, impl.Vector{}, impl.Vector{Y: 5}, impl.Vector{X: 201})
		c.Periods = all[:len(c.Periods)]
		list := []impl.Cone{c, {}, {Base: impl.Vector{X: -3}, Periods: all[1:2]}, c, {Periods: all}}
		before, periods := slices.Clone(list), slices.Clone(all)
		impl.ConeValid(c)
		impl.FormatCone(c)
		impl.HasVector(c, impl.Vector{X: 7, Y: 9})
		impl.AnyVector(list[:2], impl.Vector{X: 7, Y: 9})
		impl.SumCones(c, c)
		impl.SumCones(c, impl.Cone{Periods: []impl.Vector{{X: 77}}})
		impl.SumCones(impl.Cone{Periods: []impl.Vector{{X: 77}}}, c)
		impl.ShiftCone(c, impl.Vector{X: 1})
		impl.TurnCone(c)
		impl.TrimCone(c)
		impl.ImageOfCone(c, 1, 2)
		impl.ConeFormula(c)
		impl.CountVectors(c, 20)
		if !slices.Equal(all, periods) || !slices.EqualFunc(list, before, sameCone) {
			t.Errorf("an argument about %s was changed", slowConeText(c))
		}
	}
}
