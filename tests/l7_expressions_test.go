package tests

import (
	"math"
	"math/rand"
	"regexp"
	"slices"
	"strconv"
	"strings"
	"testing"

	"loop.example/distanceautomata/impl"
)

// growingAutomaton costs the number of the letters a, and flipAutomaton accepts even numbers of them.
const (
	growingAutomaton = "1;0;0;0a0:1 0b0:0"
	flipAutomaton    = "2;0;0;0a1:1 1a0:0"
)

// noExpressions are too long, or have other bytes, no parts, or brackets amiss.
var noExpressions = []string{
	"", "()#", "(()#)#", "a()#", "()#a", "(a)#()#", "(", ")", "#", ")#", "(#", "#a", "a#", "a)#", "(a", "(a)", "(a#", "(a)#)", "(a)#)#", "((a)#", "(a)##", "(a))#", "(a)b#", "((a))#", "(a)(b)#", "(a)#(b)", "(a)#(b", "(a)#b)#",
	"(a)# ", " (a)#", "(a )#", "( a)#", "(a) #", "a b", "a ", " a", "a\n", "\na", "\x00", "a\x00", "(\x00)#", "\xff", "(a\xff)#", "á", "（a）#", "c", "(c)#", "abc", "A", "B", "aB", "(A)#", "0", "-", "a*", "(a)*", "(a)w", "[a]#", "{a}#", "a|b", "(a,b)#", "(a)#;",
	")a(#", ")#(a", "(a)#(", "(a)#)", strings.Repeat("(", 120), strings.Repeat(")#", 60), strings.Repeat("(", 40) + strings.Repeat(")#", 40), strings.Repeat("(", 39) + "a" + strings.Repeat(")#", 38) + ")",
	strings.Repeat("a", 121), strings.Repeat("(a)#", 30) + "b", nested(40, "a"), nested(39, "abba"), nested(39, "ab") + "ab", "(" + strings.Repeat("a", 118) + ")#", strings.Repeat("ab", 500000), strings.Repeat("(", 1000000), nested(300000, "a"), strings.Repeat("(a)#", 100000),
}

// limitExpressions are as long as they may be, or shorter by a byte or two.
var limitExpressions = []string{
	strings.Repeat("a", 118), strings.Repeat("b", 119), strings.Repeat("ab", 60), strings.Repeat("(a)#", 30), strings.Repeat("(ba)#", 24),
	nested(39, "a"), nested(39, "ab"), nested(39, "abb"), "b" + nested(39, "a") + "a", nested(1, strings.Repeat("ab", 58)), nested(1, strings.Repeat("a", 117)), strings.Repeat("((a)#b)#", 15),
}

// noTimes are fewer than one, some of which wrap around to a few in 8, 16 or 32 bits.
var noTimes = []int{math.MinInt, math.MinInt + 2, -1 << 32, 2 - 1<<32, -65534, -254, -2, -1, 0}

// nested has a part repeated so many times within each other.
func nested(depth int, within string) string {
	return strings.Repeat("(", depth) + within + strings.Repeat(")#", depth)
}

var (
	plainWord     = regexp.MustCompile(`^[ab]+$`)
	innermostPart = regexp.MustCompile(`\([ab]+\)#`)
)

// rewritten replaces what is repeated and has nothing repeated within it, until there is no more of it.
func rewritten(e string, by func(within string) string) string {
	for innermostPart.MatchString(e) {
		e = innermostPart.ReplaceAllStringFunc(e, func(part string) string { return by(part[1 : len(part)-2]) })
	}
	return e
}

func plainExpression(e string) bool {
	return len(e) <= 120 && plainWord.MatchString(rewritten(e, func(string) string { return "a" }))
}

// plainExpansion cuts what is too long anyway, so that it does not become longer and longer.
func plainExpansion(e string, n int) (string, bool) {
	if !plainExpression(e) || n < 1 {
		return "", false
	}
	word := rewritten(e, func(within string) string {
		longer := strings.Repeat(within, min(n, 1001))
		return longer[:min(len(longer), 1001)]
	})
	return word, len(word) <= 1000
}

// plainDepth and plainBound are for expressions alone, in which the open brackets tell how deep a letter lies.
func plainDepth(e string) int {
	depth, deepest := 0, 0
	for _, b := range e {
		switch b {
		case '(':
			depth++
		case ')':
			depth--
		}
		deepest = max(deepest, depth)
	}
	return deepest
}

func plainBound(e string) int {
	sum, weight := 0, 3
	for _, b := range e {
		switch b {
		case '(':
			weight *= 2
		case ')':
			weight /= 2
		case 'a', 'b':
			sum += weight
		}
	}
	return min(sum, impl.Never)
}

// plainValue keeps the value of what stands before each open bracket on a pile.
func plainValue(a impl.Automaton, e string) (impl.Matrix, bool) {
	unit, _ := impl.GradesOf(plainUnit(a.States))
	pile := []impl.Matrix{unit}
	for _, b := range e {
		top := len(pile) - 1
		switch b {
		case '(':
			pile = append(pile, unit)
		case 'a', 'b':
			m, _ := impl.StepMatrix(a, string(b))
			m, _ = impl.GradesOf(m)
			pile[top] = plainGradeProduct(pile[top], m)
		case ')':
			if !plainIdempotent(pile[top]) {
				return impl.Matrix{}, false
			}
			pile[top-1] = plainGradeProduct(pile[top-1], plainStable(pile[top]))
			pile = pile[:top]
		}
	}
	return pile[0], true
}

// allExpressions are those of at most n bytes.
func allExpressions(n int) []string {
	var all []string
	for _, s := range allTexts(n) {
		if plainExpression(s) {
			all = append(all, s)
		}
	}
	return all
}

func allTexts(n int) []string {
	texts := []string{""}
	for at := 0; len(texts[at]) < n; at++ {
		for _, b := range "ab()#" {
			texts = append(texts, texts[at]+string(b))
		}
	}
	return texts
}

// someExpressions are the same ones in every run, put together from each other, whether they have a value or not.
func someExpressions(count int) []string {
	source := rand.New(rand.NewSource(7))
	all := []string{"a", "b"}
	for len(all) < count {
		e := all[source.Intn(len(all))]
		if source.Intn(3) > 0 {
			e += all[source.Intn(len(all))]
		} else {
			e = nested(1, e)
		}
		if len(e) <= 120 {
			all = append(all, e)
		}
	}
	return all
}

// valuedExpressions are put together likewise, but only an idempotent power is ever repeated, so that all of them have a value.
func valuedExpressions(a impl.Automaton, count int) []string {
	source := rand.New(rand.NewSource(int64(a.States)))
	all := []string{"a", "b"}
	for range 4 * count {
		e := all[source.Intn(len(all))]
		if source.Intn(2) > 0 {
			e += all[source.Intn(len(all))]
		} else {
			value, _ := plainValue(a, e)
			_, exponent, _ := impl.IdempotentOf(value)
			e = nested(1, strings.Repeat(e, exponent))
		}
		if len(e) <= 40 && !slices.Contains(all, e) && len(all) < count {
			all = append(all, e)
		}
	}
	return all
}

// wantNoExpression checks all functions that take an expression, for a text that is none.
func wantNoExpression(t *testing.T, a impl.Automaton, e string) {
	t.Helper()
	if impl.ExpressionValid(e) {
		t.Errorf("ExpressionValid(%.20q) = true", e)
	}
	if depth, bound, repeated := impl.DepthOf(e), impl.BoundOf(e), impl.RepeatExpression(e); depth != -1 || bound != -1 || repeated != "" {
		t.Errorf("DepthOf, BoundOf and RepeatExpression(%.20q) = %d, %d, %.20q", e, depth, bound, repeated)
	}
	for _, n := range []int{-1, 0, 1, 2, 1000, math.MaxInt} {
		if w, ok := impl.ExpandExpression(e, n); w != "" || ok {
			t.Errorf("ExpandExpression(%.20q, %d) = %.20q, %v", e, n, w, ok)
		}
	}
	wantNoValue(t, a, e)
	wantNoGrowth(t, a, e, -1, 0, 1, 20, 21)
}

func wantNoValue(t *testing.T, a impl.Automaton, e string) {
	t.Helper()
	m, ok := impl.ValueOf(a, e)
	wantNoMatrix(t, "ValueOf "+strconv.Quote(e[:min(len(e), 20)]), m, ok)
	if got := impl.GradeOf(a, e); got != -1 {
		t.Errorf("GradeOf(%v, %.20q) = %d", a, e, got)
	}
}

func wantNoGrowth(t *testing.T, a impl.Automaton, e string, mosts ...int) {
	t.Helper()
	for _, most := range mosts {
		if list, ok := impl.GrowthOf(a, e, most); len(list) != 0 || ok {
			t.Errorf("GrowthOf(%v, %.20q, %d) = %v, %v", a, e, most, list, ok)
		}
	}
}

func TestLimitOfExpressions(t *testing.T) {
	if impl.MaxExpression != 120 {
		t.Errorf("MaxExpression = %d", impl.MaxExpression)
	}
	for _, e := range limitExpressions {
		if len(e) < 117 || len(e) > 120 {
			t.Errorf("%q has %d bytes", e, len(e))
		}
	}
}

func TestExpressionValid(t *testing.T) {
	for _, e := range append(limitExpressions, "a", "b", "ab", "bbaba", "(a)#", "(ab)#", "((a)#)#", "((a)#b)#", "((a)#b)#a", "a(b(a)#)#b", "(a)#(b)#", "(((a)#b)#(a(b)#)#)#") {
		if !impl.ExpressionValid(e) {
			t.Errorf("ExpressionValid(%q) = false", e)
		}
	}
	a := automatonOf(t, growingAutomaton)
	for _, e := range noExpressions {
		wantNoExpression(t, a, e)
	}
	for b := range 256 {
		letter := string([]byte{byte(b)})
		want := letter == "a" || letter == "b"
		for _, e := range []string{letter, "a" + letter, letter + "b", "(" + letter + ")#", "a(b" + letter + "a)#"} {
			if got := impl.ExpressionValid(e); got != want {
				t.Errorf("ExpressionValid(%q) = %v", e, got)
			}
		}
	}
}

// Every text of at most eight of these bytes is an expression exactly if it can be rewritten to a word.
func TestAllShortTextsAsExpressions(t *testing.T) {
	for _, s := range allTexts(8) {
		if got := impl.ExpressionValid(s); got != plainExpression(s) {
			t.Errorf("ExpressionValid(%q) = %v", s, got)
		}
	}
}

// A byte less, one more, or another one in its place, anywhere in a text that is one.
func TestExpressionsWithOneByteAmiss(t *testing.T) {
	a := automatonOf(t, growingAutomaton)
	for _, e := range append(limitExpressions[:6:6], "((a)#b)#a", "a(b(ab)#)#(b)#") {
		for at := range len(e) {
			texts := []string{e[:at] + e[at+1:]}
			for _, b := range []string{"a", "b", "(", ")", "#", " ", "c", "\x00", "\xff"} {
				texts = append(texts, e[:at]+b+e[at:], e[:at]+b+e[at+1:])
			}
			for _, s := range texts {
				if plain := plainExpression(s); impl.ExpressionValid(s) != plain {
					t.Errorf("ExpressionValid(%q) = %v", s, !plain)
				} else if !plain {
					wantNoExpression(t, a, s)
				}
			}
		}
	}
}

func TestDepthOf(t *testing.T) {
	for e, want := range map[string]int{
		"a": 0, "abab": 0, "(a)#": 1, "(a)#(b)#(a)#": 1, "a(b)#": 1, "(b)#a": 1, "((a)#b)#": 2, "(a(b)#)#": 2, "((a)#)#": 2, "((a)#(b)#)#(a)#": 2, "(a)#((b)#a)#": 2, "((a)#b)#a(b)#": 2, "(((a)#)#(a)#)#(b)#": 3, "(b)#(a((ab)#)#)#b": 3,
		nested(39, "a"): 39, nested(39, "ab"): 39, strings.Repeat("a", 120): 0, strings.Repeat("(a)#", 30): 1,
	} {
		if got := impl.DepthOf(e); got != want {
			t.Errorf("DepthOf(%q) = %d, want %d", e, got, want)
		}
	}
	for _, e := range slices.Concat(allExpressions(8), someExpressions(1000), limitExpressions) {
		if got := impl.DepthOf(e); got != plainDepth(e) {
			t.Errorf("DepthOf(%q) = %d", e, got)
		}
	}
}

func TestBoundOf(t *testing.T) {
	// 333333 is the sum of twos that a letter counts for in each depth here, and three times that is 999999.
	greatest := nested(2, nested(2, nested(5, nested(1, nested(2, nested(4, nested(2, "a")+"a")+"a")+"a")+"a")+"a")+"a") + "a"
	for e, want := range map[string]int{
		"a": 3, "b": 3, "ab": 6, "(a)#": 6, "(ab)#": 12, "(a)#b": 9, "a(b)#": 9, "(a)#(b)#": 12, "((a)#b)#": 18, "((a)#)#": 12, "b((ab)#a(b)#)#a": 48, strings.Repeat("a", 120): 360,
		// Repeated parts and sums that are less than Never, and such that are not.
		nested(18, "a"): 786432, nested(18, "ab"): impl.Never, nested(19, "a"): impl.Never, nested(39, "ab"): impl.Never, nested(18, "a") + "a": 786435, "a" + nested(38, "a"): impl.Never,
		nested(17, "a") + nested(17, "a"): 786432, nested(18, "a") + nested(16, "a"): 983040, nested(18, "a") + nested(17, "a"): impl.Never, nested(18, "a") + nested(18, "b"): impl.Never, nested(1, nested(16, "a")+nested(17, "a")): impl.Never,
		greatest: impl.Never - 1, greatest + "a": impl.Never, "a" + greatest: impl.Never, nested(1, greatest): impl.Never,
	} {
		if got := impl.BoundOf(e); got != want {
			t.Errorf("BoundOf(%q) = %d, want %d", e, got, want)
		}
	}
	for _, e := range slices.Concat(allExpressions(8), someExpressions(1000), limitExpressions) {
		if got := impl.BoundOf(e); got != plainBound(e) {
			t.Errorf("BoundOf(%q) = %d, want %d", e, got, plainBound(e))
		}
	}
}

func TestRepeatExpression(t *testing.T) {
	for e, want := range map[string]string{
		"a": "(a)#", "ab": "(ab)#", "(a)#": "((a)#)#", "(a)#b": "((a)#b)#", "((a)#b)#a": "(((a)#b)#a)#", "(a)#(b)#": "((a)#(b)#)#",
		strings.Repeat("a", 116): nested(1, strings.Repeat("a", 116)), strings.Repeat("a", 117): nested(1, strings.Repeat("a", 117)), nested(38, "abb"): nested(39, "abb"), nested(38, "ab"): nested(39, "ab"), nested(38, "a") + "bb": nested(1, nested(38, "a")+"bb"),
		// One byte too long, and more than one.
		strings.Repeat("a", 118): "", strings.Repeat("a", 119): "", strings.Repeat("a", 120): "", nested(38, "abba"): "", nested(39, "a"): "", nested(39, "ab"): "", strings.Repeat("(a)#", 29): nested(1, strings.Repeat("(a)#", 29)), strings.Repeat("(a)#", 29) + "ab": "", strings.Repeat("(a)#", 30): "",
	} {
		if got := impl.RepeatExpression(e); got != want {
			t.Errorf("RepeatExpression(%q) = %q, want %q", e, got, want)
		}
	}
	for _, e := range append(someExpressions(1000), limitExpressions...) {
		want := nested(1, e)
		if len(want) > 120 {
			want = ""
		}
		if got := impl.RepeatExpression(e); got != want || got != "" && (!impl.ExpressionValid(got) || impl.DepthOf(got) != plainDepth(e)+1) {
			t.Errorf("RepeatExpression(%q) = %q", e, got)
		}
	}
}

func TestExpandExpression(t *testing.T) {
	for _, c := range []struct {
		e    string
		n    int
		want string
	}{
		{"a", 1, "a"}, {"ab", 3, "ab"}, {"(a)#", 1, "a"}, {"(a)#", 3, "aaa"}, {"(ab)#", 2, "abab"}, {"b(a)#b", 3, "baaab"}, {"(a)#(b)#", 2, "aabb"}, {"(a)#a", 2, "aaa"},
		{"((a)#b)#", 1, "ab"}, {"((a)#b)#", 2, "aabaab"}, {"((a)#b)#", 3, "aaabaaabaaab"}, {"(a(b)#)#", 2, "abbabb"}, {"((a)#)#", 3, "aaaaaaaaa"}, {"((ab)#a(b)#)#a", 2, "abababbababab" + "ba"}, {nested(3, "ab"), 2, "abababababababab"},
		// Without a repeated part, no number is too great.
		{"ab", 1001, "ab"}, {"bab", math.MaxInt, "bab"}, {strings.Repeat("a", 120), math.MaxInt, strings.Repeat("a", 120)}, {nested(39, "ab"), 1, "ab"}, {strings.Repeat("(a)#", 30), 1, strings.Repeat("a", 30)},
	} {
		if got, ok := impl.ExpandExpression(c.e, c.n); got != c.want || !ok {
			t.Errorf("ExpandExpression(%q, %d) = %q, %v, want %q", c.e, c.n, got, ok, c.want)
		}
	}
	for _, e := range slices.Concat(allExpressions(6), someExpressions(150), limitExpressions) {
		for _, n := range slices.Concat(noTimes, []int{1, 2, 3, 5, 10, 32, 100, 333, 1000, 1001, math.MaxInt}) {
			want, wantOk := plainExpansion(e, n)
			if !wantOk {
				want = ""
			}
			if got, ok := impl.ExpandExpression(e, n); got != want || ok != wantOk {
				t.Fatalf("ExpandExpression(%q, %d) = %.50q, %v, want %.50q, %v", e, n, got, ok, want, wantOk)
			}
		}
	}
}

// Each expansion by most has room in a word, and none by one more has.
func TestExpansionsThatBecomeTooLong(t *testing.T) {
	for _, c := range []struct {
		e       string
		most    int
		letters int
	}{
		{"(a)#", 1000, 1000}, {"(b)#a", 999, 1000}, {"(ab)#", 500, 1000}, {"a(ab)#", 499, 999}, {"(aba)#", 333, 999}, {"aa(aba)#", 332, 998}, {"(a)#(b)#", 500, 1000}, {"(a)#(b)#a", 499, 999}, {"(ababa)#", 200, 1000},
		{"((a)#)#", 31, 961}, {"((a)#b)#", 31, 992}, {"((a)#b)#" + strings.Repeat("a", 8), 31, 1000}, {"((a)#b)#" + strings.Repeat("a", 9), 30, 939}, {"(((a)#)#)#", 10, 1000}, {"b(((a)#)#)#", 9, 730}, {"(((a)#b)#a)#", 9, 819},
		{nested(9, "a"), 2, 512}, {nested(9, "a") + nested(8, "b"), 2, 768}, {nested(9, "a") + nested(9, "b"), 1, 2}, {nested(10, "a"), 1, 1}, {nested(39, "a"), 1, 1}, {nested(39, "ab"), 1, 2}, {strings.Repeat("a", 100) + "(" + strings.Repeat("b", 9) + ")#", 100, 1000},
	} {
		if got, ok := impl.ExpandExpression(c.e, c.most); len(got) != c.letters || !impl.WordValid(got) || !ok {
			t.Errorf("ExpandExpression(%q, %d) has %d letters, %v", c.e, c.most, len(got), ok)
		}
		// Products of some of these wrap around to few letters, or to a negative number of them.
		for _, n := range []int{c.most + 1, c.most + 2, 2*c.most + 2, 1001, 1 << 16, 1 << 31, 1<<31 + 1, 1 << 32, 1<<32 + 1, 1 << 61, 1 << 62, 1<<62 + 1, 3 << 61, 6148914691236517206, math.MaxInt - 1, math.MaxInt} {
			if got, ok := impl.ExpandExpression(c.e, n); got != "" || ok {
				t.Errorf("ExpandExpression(%q, %d) has %d letters, %v", c.e, n, len(got), ok)
			}
		}
	}
	for _, e := range []string{"a", "(a)#", "((a)#b)#", nested(39, "a")} {
		for _, n := range noTimes {
			if got, ok := impl.ExpandExpression(e, n); got != "" || ok {
				t.Errorf("ExpandExpression(%q, %d) = %q, %v", e, n, got, ok)
			}
		}
	}
}

func TestValueOf(t *testing.T) {
	for _, c := range []struct{ text, e, want string }{
		{growingAutomaton, "a", "1"}, {growingAutomaton, "b", "0"}, {growingAutomaton, "aa", "1"}, {growingAutomaton, "(a)#", "w"}, {growingAutomaton, "(b)#", "0"}, {growingAutomaton, "((a)#b)#", "w"}, {growingAutomaton, "(a)#(b)#a", "w"}, {"1;0;0;0a0:1", "b", "-"}, {"1;0;0;0a0:1", "(b)#a", "-"},
		{lesserAutomaton, "a", "1-/-0"}, {lesserAutomaton, "ab", "1-/-1"}, {lesserAutomaton, "(a)#", "w-/-0"}, {lesserAutomaton, "(b)#(a)#", "w-/-w"}, {lesserAutomaton, "(a)#b", "w-/-1"}, {lesserAutomaton, "((a)#b)#", "w-/-w"}, {lesserAutomaton, nested(39, "ab"), "w-/-w"},
		// The parts are multiplied in their order.
		{"2;0;1;0a1:1 1b1:0", "ab", "-1/--"}, {"2;0;1;0a1:1 1b1:0", "ba", "--/--"}, {"2;0;1;0a1:1 1b1:0", "a(b)#", "-1/--"}, {"2;0;1;0a1:1 1b1:1", "a(b)#", "-w/--"}, {"2;0;1;0a1:1 1b1:1", "(b)#a", "--/--"}, {"3;0;2;0a1:2 1b2:0 2a2:1", "aba", "--1/---/---"}, {"3;0;2;0a1:2 1b2:0 2a2:1", "ab(aa)#", "--w/---/---"},
		// What is repeated leads to its end past a state at which it costs nothing to wait.
		{exampleAutomaton, "a", "01/--"}, {exampleAutomaton, "(a)#", "01/--"}, {exampleAutomaton, "(a)#b", "-1/--"}, {exampleAutomaton, "(b)#", "--/-0"},
		// Only a power of what costs something here and there may be repeated.
		{flipAutomaton, "a", "-1/0-"}, {flipAutomaton, "aa", "1-/-1"}, {flipAutomaton, "(aa)#", "w-/-w"}, {flipAutomaton, "(aa)#a", "-w/w-"}, {flipAutomaton, "((aa)#)#", "w-/-w"}, {flipAutomaton, "((aa)#aa)#", "w-/-w"}, {flipAutomaton, "aaa", "-1/1-"},
	} {
		a := automatonOf(t, c.text)
		got, ok := impl.ValueOf(a, c.e)
		wantGrades(t, "ValueOf "+c.text+" and "+c.e, got, ok, c.want)
		if grade := impl.GradeOf(a, c.e); grade != min(leastBetween(a, got), impl.GradeNever) {
			t.Errorf("GradeOf(%q, %q) = %d", c.text, c.e, grade)
		}
	}
}

func TestRepeatedPartsThatAreNotIdempotent(t *testing.T) {
	for text, list := range map[string][]string{
		flipAutomaton: {"(a)#", "(aaa)#", "(a)#a", "a(a)#", "(aa)#(a)#", "(a)#(aa)#", "((a)#)#", "((a)#a)#", "(a(a)#)#", "((aa)#a)#", "(a(aa)#)#", "((aa)#(a)#)#", "((a)#(aa)#)#", nested(39, "a"), "(aa)#((aa)#(a(aa)#)#)#"},
		// The value after it is idempotent, and does not make up for it.
		"2;0;0;0a1:1 1a0:0 1b1:0": {"(a)#", "(a)#b", "b(a)#", "(b(a)#)#", "((a)#b)#", "bab(a)#bb", "((b)#(a)#)#"},
		// No step at all comes of these, but only of their powers.
		"2;0;1;0a1:0":             {"(a)#", "(a)#b", "b(a)#", "(b)#(a)#"},
		"3;0;2;0a1:0 1a2:0":       {"(a)#", "(aa)#", "(aa)#a", "b(aa)#"},
		"3;0;0;0a1:1 1a2:1 2a0:1": {"(a)#", "(aa)#", "(aaaa)#", "((aaa)#a)#"},
	} {
		a := automatonOf(t, text)
		for _, e := range list {
			if !impl.ExpressionValid(e) {
				t.Errorf("ExpressionValid(%q) = false", e)
			}
			wantNoValue(t, a, e)
		}
	}
	// It has words and costs all the same.
	flip := automatonOf(t, flipAutomaton)
	if list, ok := impl.GrowthOf(flip, "(a)#", 4); !slices.Equal(list, []int{impl.Never, 1, impl.Never, 2}) || !ok {
		t.Errorf("GrowthOf = %v, %v", list, ok)
	}
}

func TestValuesOfManyExpressions(t *testing.T) {
	values, none := 0, 0
	expressions := slices.Concat(allExpressions(5), someExpressions(150), limitExpressions)
	for states := 1; states <= impl.MaxStates; states++ {
		for _, a := range someAutomata(states, 60) {
			for _, e := range append(valuedExpressions(a, 40), expressions...) {
				want, ok := plainValue(a, e)
				if !ok {
					wantNoValue(t, a, e)
					none++
					continue
				}
				values++
				if got, ok := impl.ValueOf(a, e); !ok || !impl.SameMatrix(got, want) {
					t.Fatalf("ValueOf(%q, %q) = %v, %v, want %v", impl.FormatAutomaton(a), e, got, ok, want)
				}
				if got := impl.GradeOf(a, e); got != min(leastBetween(a, want), impl.GradeNever) {
					t.Fatalf("GradeOf(%q, %q) = %d", impl.FormatAutomaton(a), e, got)
				}
			}
		}
	}
	if values < 10000 || none < 10000 {
		t.Errorf("%d expressions have a value and %d have none", values, none)
	}
}

// The value of a word is what its costs have as grades, as these are far from Never.
func TestValuesOfWords(t *testing.T) {
	for states := 1; states <= impl.MaxStates; states++ {
		for _, a := range someAutomata(states, 60) {
			for _, w := range plainWords(6)[1:] {
				m, _ := impl.WordMatrix(a, w)
				want, _ := impl.GradesOf(m)
				if got, ok := impl.ValueOf(a, w); !ok || !impl.SameMatrix(got, want) {
					t.Fatalf("ValueOf(%q, %q) = %v, %v, want %v", impl.FormatAutomaton(a), w, got, ok, want)
				}
			}
		}
	}
}

func TestGradeOf(t *testing.T) {
	for _, c := range []struct {
		text, e string
		want    int
	}{
		{growingAutomaton, "a", 1}, {growingAutomaton, "b", 0}, {growingAutomaton, "(a)#", 2}, {growingAutomaton, "(b)#", 0}, {growingAutomaton, "((a)#b)#", 2}, {growingAutomaton, "(b)#a", 1}, {"1;0;0;", "a", 3}, {"1;0;0;", "(a)#", 3},
		{lesserAutomaton, "(a)#", 0}, {lesserAutomaton, "(a)#b", 1}, {lesserAutomaton, "(a)#(b)#", 2}, {exampleAutomaton, "(a)#", 1}, {exampleAutomaton, "(b)#", 3},
		{flipAutomaton, "a", 3}, {flipAutomaton, "aa", 1}, {flipAutomaton, "(aa)#", 2}, {flipAutomaton, "(a)#", -1},
		// Without a start or a final there is a grade all the same, as long as there is a value.
		{"1;;0;0a0:1", "(a)#", 3}, {"1;0;;0a0:1", "(a)#", 3}, {"1;;;0a0:0", "a", 3}, {"2;;;0a1:1 1a0:0", "(a)#", -1}, {"2;;;0a1:1 1a0:0", "(aa)#", 3},
	} {
		if got := impl.GradeOf(automatonOf(t, c.text), c.e); got != c.want {
			t.Errorf("GradeOf(%q, %q) = %d, want %d", c.text, c.e, got, c.want)
		}
	}
}

func TestGrowthOf(t *testing.T) {
	for _, c := range []struct {
		text, e string
		want    []int
	}{
		{growingAutomaton, "a", []int{1, 1, 1, 1, 1}}, {growingAutomaton, "b", []int{0, 0, 0}}, {growingAutomaton, "(a)#", []int{1, 2, 3, 4, 5}}, {growingAutomaton, "((a)#b)#", []int{1, 4, 9, 16}}, {growingAutomaton, "b(b)#", []int{0, 0}}, {"1;0;0;0a0:3", "(aa)#a", []int{9, 15, 21}},
		{lesserAutomaton, "((a)#b)#", []int{1, 2, 3}}, {lesserAutomaton, "(b)#(a)#", []int{1, 2, 3, 4, 5, 6}}, {lesserAutomaton, "(a)#", []int{0, 0, 0, 0}}, {exampleAutomaton, "(a)#", []int{1, 1, 1}}, {exampleAutomaton, "(b)#", []int{impl.Never, impl.Never}}, {flipAutomaton, "(a)#", []int{impl.Never, 1, impl.Never, 2, impl.Never, 3}},
		{lesserAutomaton, "(b)#(a)#", []int{1, 2, 3, 4, 5, 6, 7, 8, 9, 10, 11, 12, 13, 14, 15, 16, 17, 18, 19, 20}}, {growingAutomaton, "(a)#", nil}, {growingAutomaton, nested(39, "a"), []int{1}}, {"1;;;", "a", []int{impl.Never}},
	} {
		if got, ok := impl.GrowthOf(automatonOf(t, c.text), c.e, len(c.want)); !slices.Equal(got, c.want) || !ok {
			t.Errorf("GrowthOf(%q, %q, %d) = %v, %v, want %v", c.text, c.e, len(c.want), got, ok, c.want)
		}
	}
}

// As long as none of the expansions is too long there are costs, even if the next one would be.
func TestGrowthOfExpansionsThatBecomeTooLong(t *testing.T) {
	a := automatonOf(t, growingAutomaton)
	for e, most := range map[string]int{
		"a": 20, "(a)#": 20, "((a)#)#": 20, "((ab)#)#": 20, "((aab)#)#": 18, "((a)#" + strings.Repeat("b", 30) + ")#": 20, "((a)#" + strings.Repeat("b", 31) + ")#": 19, "(" + strings.Repeat("a", 50) + ")#": 20, "(" + strings.Repeat("a", 50) + ")#a": 19, "(" + strings.Repeat("a", 51) + ")#": 19,
		"(((a)#)#)#": 10, "(((a)#)#)#b": 9, nested(4, "a"): 5, nested(9, "a"): 2, nested(10, "a"): 1, nested(39, "ab"): 1, strings.Repeat("(a)#", 30): 20, strings.Repeat("((a)#b)#", 15): 7,
	} {
		for n := range 21 {
			list, ok := impl.GrowthOf(a, e, n)
			if ok != (n <= most) || ok && len(list) != n || !ok && len(list) != 0 {
				t.Errorf("GrowthOf(%q, %d) = %v, %v", e, n, list, ok)
			}
			for at, c := range list {
				w, _ := plainExpansion(e, at+1)
				if want := strings.Count(w, "a"); c != want {
					t.Errorf("GrowthOf(%q, %d) has %d for %d times, want %d", e, n, c, at+1, want)
				}
			}
		}
		wantNoGrowth(t, a, e, math.MinInt, -1<<32, -20, -1, 21, 22, 256, 1<<32, 1<<32+1, math.MaxInt)
	}
}

func TestGrowthsOfManyExpressions(t *testing.T) {
	for states := 1; states <= impl.MaxStates; states++ {
		for _, a := range someAutomata(states, 20) {
			for _, e := range someExpressions(100) {
				var want []int
				for n := 1; n <= 5; n++ {
					w, ok := plainExpansion(e, n)
					if !ok {
						wantNoGrowth(t, a, e, n)
						break
					}
					want = append(want, impl.CostOf(a, w))
					if got, ok := impl.GrowthOf(a, e, n); !slices.Equal(got, want) || !ok {
						t.Fatalf("GrowthOf(%q, %q, %d) = %v, %v, want %v", impl.FormatAutomaton(a), e, n, got, ok, want)
					}
				}
			}
		}
	}
}

func TestExpressionsInInvalidAutomata(t *testing.T) {
	for _, a := range invalidAutomata(t) {
		for _, e := range []string{"a", "b", "(a)#", "((a)#b)#", "", "c", "(a"} {
			wantNoValue(t, a, e)
			wantNoGrowth(t, a, e, -1, 0, 1, 20, 21)
		}
	}
}

func TestNoExpressionsInSomeAutomata(t *testing.T) {
	for _, s := range []string{"1;;;", exampleAutomaton, lesserAutomaton, "4;0 1 2 3;0 1 2 3;" + fullSteps} {
		for _, e := range noExpressions {
			wantNoExpression(t, automatonOf(t, s), e)
		}
	}
}

// wantCostOfGrade checks whether what an expansion by n costs fits the grade of its expression.
func wantCostOfGrade(t *testing.T, a impl.Automaton, e string, n int, grade int, c int) {
	t.Helper()
	fits := false
	switch grade {
	case impl.GradeNothing:
		fits = c == 0
	case impl.GradeSome:
		fits = c <= impl.BoundOf(e)
	case impl.GradeMany:
		fits = c < impl.Never && (n <= a.States || c >= n/(a.States+1))
	case impl.GradeNever:
		fits = c == impl.Never
	}
	if !fits {
		t.Fatalf("in %q the grade of %q is %d, but its expansion by %d costs %d", impl.FormatAutomaton(a), e, grade, n, c)
	}
}

// A grade tells of costs from starts to finals, and so does each cell of a value from one state to another one.
func TestGradesTellHowCostsGrow(t *testing.T) {
	var grades, cells [impl.GradeNever + 1]int
	for states := 1; states <= impl.MaxStates; states++ {
		for _, a := range someAutomata(states, 40) {
			for _, e := range valuedExpressions(a, 40) {
				value, _ := impl.ValueOf(a, e)
				grade := impl.GradeOf(a, e)
				for _, n := range []int{1, 2, 3, 4, 5, 6, 10, 20, 60} {
					w, ok := impl.ExpandExpression(e, n)
					if !ok {
						break
					}
					wantCostOfGrade(t, a, e, n, grade, impl.CostOf(a, w))
					grades[grade]++
					m, _ := impl.WordMatrix(a, w)
					for at, cell := range value.Cells {
						wantCostOfGrade(t, a, e, n, cell, m.Cells[at])
						cells[cell]++
					}
				}
			}
		}
	}
	if slices.Min(grades[:]) < 500 || slices.Min(cells[:]) < 5000 {
		t.Errorf("the grades are there %v times, and as cells %v times", grades, cells)
	}
}

// resultsOfExpression are what the functions return for an automaton and an expression, as texts.
func resultsOfExpression(a impl.Automaton, e string) []string {
	value, _ := impl.ValueOf(a, e)
	growth, _ := impl.GrowthOf(a, e, 6)
	word, _ := impl.ExpandExpression(e, 2)
	return []string{
		impl.FormatGrades(value), impl.FormatCosts(growth), word, impl.RepeatExpression(e), strconv.FormatBool(impl.ExpressionValid(e)),
		strconv.Itoa(impl.GradeOf(a, e)), strconv.Itoa(impl.DepthOf(e)), strconv.Itoa(impl.BoundOf(e)),
	}
}

func TestExpressionsAreToldAlike(t *testing.T) {
	a := automatonOf(t, "4;0 1 2;0 1 2 3;"+fullSteps)
	for _, e := range []string{"a", "(a)#", "((a)#b)#a", "((b)#(a)#b)#", "(a", ""} {
		wantAlike(t, 20, func() []string { return resultsOfExpression(a, e) })
	}
}

func TestArgumentsOfExpressionsAreLeftAlone(t *testing.T) {
	for _, a := range append(someAutomata(4, 30), invalidAutomata(t)...) {
		given := roomy(a)
		for _, e := range []string{"a", "(b)#", "((aa)#b)#", "c"} {
			resultsOfExpression(given, e)
		}
		wantUntouched(t, given, a)
	}
}

func TestResultsOfExpressionsShareNothing(t *testing.T) {
	for _, e := range []string{"a", "ab", "(ab)#", "(b)#(a)#"} {
		a := automatonOf(t, lesserAutomaton)
		makers := map[string]func() []int{
			"ValueOf":  func() []int { m, _ := impl.ValueOf(a, e); return m.Cells },
			"GrowthOf": func() []int { list, _ := impl.GrowthOf(a, e, 4); return list },
		}
		for name, maker := range makers {
			first, second := maker(), maker()
			want := slices.Clone(second)
			if len(want) != 4 {
				t.Errorf("%s of %q = %v", name, e, want)
			}
			first = first[:cap(first)]
			for i := range first {
				first[i] = 9
			}
			if !slices.Equal(second, want) || !slices.Equal(maker(), want) {
				t.Errorf("the results of %s share memory", name)
			}
		}
		m, _ := impl.ValueOf(a, e)
		want := impl.FormatGrades(m)
		overwrite(a)
		if got := impl.FormatGrades(m); got != want {
			t.Errorf("the value %s of %q has become %s", want, e, got)
		}
	}
}
