package tests

import (
	"math"
	"slices"
	"strconv"
	"strings"
	"testing"

	"loop.example/distanceautomata/impl"
)

// Letters a alone cost nothing in slowAutomaton, and neither does any word with few letters b, or few letters a between two of them; in longAutomaton, other words are that cheap.
const (
	slowAutomaton = "4;0 1;0 3;0a0:0 0b0:1 1a1:0 1b1:0 1b2:0 2a2:1 2b3:0 3a3:0 3b3:0"
	longAutomaton = "4;2 3;0 1;0a2:0 0b0:0 1a0:1 1a1:1 1a2:0 2a0:0 2a2:1 2a3:1 2b0:0 2b1:0 2b2:1 3a1:0 3a2:1 3b0:1 3b2:0 3b3:0"
)

// sinkingAutomaton costs more by the first expansion of what grows than by the second one.
const sinkingAutomaton = "3;0 1;1;0a2:0 0b1:0 1a1:1 1b0:0 1b1:1 1b2:1 2a0:0 2a1:1"

// nothingAccepted have no start, no final, or no way from the one to the other one.
var nothingAccepted = []string{
	"1;;;", "1;0;;", "1;;0;", "4;;;", "1;0;;0a0:0", "1;;0;0a0:1", "1;0;;0a0:1 0b0:0", "2;0;1;", "2;0;1;0a0:0", "2;0;1;0a0:1 0b0:2 1a1:1 1b1:3", "2;0;1;1a0:0 1b0:3", "3;0;2;0a1:0 1b0:1", "4;0 1;2 3;0a1:1 0b0:1 1a0:0 2a3:1 3a2:0",
}

// costsBetween grow between states, but not between starts and finals.
var costsBetween = []struct {
	text     string
	from, to int
	growing  string
}{
	{"1;0;;0a0:1", 0, 0, "(a)#"}, {"1;;0;0b0:3", 0, 0, "(b)#"}, {"1;;;0a0:1 0b0:0", 0, 0, "(a)#"},
	{"2;0;1;0a0:1", 0, 0, "(a)#"}, {"2;0;1;1b1:1", 1, 1, "(b)#"}, {"2;1;1;0a0:1 0a1:0 1a1:0", 0, 0, "(a)#"}, {"2;0;0;0a0:0 0a1:1 1a1:1", 1, 1, "(a)#"}, {"2;1;1;0a1:0 0b0:1", 0, 0, "(b)#"},
	// From one state to another one, it is paid many times, but no run goes this way.
	{"2;0;0;0a0:0 1a0:0 1b1:1", 1, 0, "(b)#a"}, {"2;1;0;0a1:1 0b0:1", 0, 1, "(b)#a"}, {"3;0;0;0b0:0 1a2:0 2b2:2", 1, 2, "a(b)#"},
}

func plainGrade(a impl.Automaton, e impl.Element) int {
	return min(leastBetween(a, e.Value), impl.GradeNever)
}

// plainFirst returns the expression of the first element that is asked for; the empty string if there is none.
func plainFirst(list []impl.Element, asked func(impl.Element) bool) string {
	for _, e := range list {
		if asked(e) {
			return e.Text
		}
	}
	return ""
}

func plainSome(a impl.Automaton, list []impl.Element) int {
	bounds := []int{0}
	for _, e := range list {
		if plainGrade(a, e) == impl.GradeSome {
			bounds = append(bounds, plainBound(e.Text))
		}
	}
	return slices.Max(bounds)
}

// plainOver tries all expansions that there can be, and returns what comes before the first one that is too long.
func plainOver(a impl.Automaton, e string, c int) string {
	for n := 1; n <= 60; n++ {
		w, ok := plainExpansion(e, n)
		if !ok {
			return ""
		}
		if impl.CostOf(a, w) >= c {
			return w
		}
	}
	return ""
}

// plainVerdict is for elements that are known.
func plainVerdict(a impl.Automaton, list []impl.Element) string {
	has := func(grade int) bool {
		return slices.ContainsFunc(list, func(e impl.Element) bool { return plainGrade(a, e) == grade })
	}
	for _, c := range []struct {
		holds bool
		word  string
	}{{has(impl.GradeMany), "growing"}, {has(impl.GradeSome), "bounded"}, {has(impl.GradeNothing), "free"}, {meets(a), "free"}} {
		if c.holds {
			return c.word
		}
	}
	return "none"
}

// plainGreatest goes through all costs of all states that words can have, and takes those over most as most, so that there are not too many of them.
// It returns the greatest cost of an accepted word, and -1 if there is none.
func plainGreatest(a impl.Automaton, most int) int {
	first := [4]int{impl.Never, impl.Never, impl.Never, impl.Never}
	none := first
	for _, p := range a.Starts {
		first[p] = 0
	}
	all := [][4]int{first}
	known := map[[4]int]bool{first: true}
	greatest := -1
	for at := 0; at < len(all); at++ {
		least := impl.Never
		for _, p := range a.Finals {
			least = min(least, all[at][p])
		}
		if least < impl.Never {
			greatest = max(greatest, least)
		}
		for _, letter := range []string{"a", "b"} {
			next := none
			for _, s := range a.Steps {
				if before := all[at][s.From]; s.Letter == letter && before < impl.Never {
					next[s.To] = min(next[s.To], before+s.Cost, most)
				}
			}
			if !known[next] {
				known[next] = true
				all = append(all, next)
			}
		}
	}
	return greatest
}

func wantBounded(t *testing.T, a impl.Automaton, want bool) {
	t.Helper()
	if is, ok := impl.IsBounded(a); is != want || !ok {
		t.Fatalf("IsBounded(%q) = %v, %v", impl.FormatAutomaton(a), is, ok)
	}
}

func wantGrowing(t *testing.T, a impl.Automaton, want string) {
	t.Helper()
	if e, ok := impl.GrowingOf(a); e != want || ok != (want != "") {
		t.Fatalf("GrowingOf(%q) = %q, %v, want %q", impl.FormatAutomaton(a), e, ok, want)
	}
}

func wantGrowingBetween(t *testing.T, a impl.Automaton, from int, to int, want string) {
	t.Helper()
	if e, ok := impl.GrowingBetween(a, from, to); e != want || ok != (want != "") {
		t.Fatalf("GrowingBetween(%v, %d, %d) = %q, %v, want %q", a, from, to, e, ok, want)
	}
}

func wantSome(t *testing.T, a impl.Automaton, want int) {
	t.Helper()
	if got := impl.SomeOf(a); got != want {
		t.Fatalf("SomeOf(%v) = %d, want %d", a, got, want)
	}
}

func wantOver(t *testing.T, a impl.Automaton, c int, want string) {
	t.Helper()
	if w, ok := impl.WordOver(a, c); w != want || ok != (want != "") {
		t.Fatalf("WordOver(%v, %d) = %.50q, %v, want %.50q", a, c, w, ok, want)
	}
}

func wantVerdict(t *testing.T, a impl.Automaton, want string) {
	t.Helper()
	if got := impl.VerdictOf(a); got != want {
		t.Fatalf("VerdictOf(%v) = %q, want %q", a, got, want)
	}
}

// wantNothingKnown checks all functions that need the elements of an automaton which has too many, or is not valid.
func wantNothingKnown(t *testing.T, a impl.Automaton) {
	t.Helper()
	if is, ok := impl.IsBounded(a); is || ok {
		t.Errorf("IsBounded(%v) = %v, %v", a, is, ok)
	}
	wantGrowing(t, a, "")
	wantSome(t, a, -1)
	for _, c := range []int{-1, 0, 1} {
		wantOver(t, a, c, "")
	}
	for _, p := range []int{-1, 0, 1, 3} {
		wantGrowingBetween(t, a, p, 0, "")
		wantGrowingBetween(t, a, 0, p, "")
	}
}

func TestMaxTimes(t *testing.T) {
	if impl.MaxTimes != 60 {
		t.Errorf("MaxTimes = %d", impl.MaxTimes)
	}
}

func TestBoundsOfSomeAutomata(t *testing.T) {
	for _, c := range []struct {
		text, verdict, growing string
		some                   int
	}{
		{lesserAutomaton, "growing", "(b)#(a)#", 9}, {growingAutomaton, "growing", "(a)#", 3}, {flipAutomaton, "growing", "(aa)#", 6}, {"1;0;0;0a0:3", "growing", "(a)#", 3}, {"1;0;0;0a0:1 0b0:1", "growing", "(a)#", 3}, {"1;0;0;0b0:2", "growing", "(b)#", 3},
		{"2;0 1;1;0a0:1 0b1:0 1a1:0", "growing", "(a)#b", 6}, {"2;0;1;0a1:0 1b0:1", "growing", "a(ba)#", 9}, {slowAutomaton, "growing", "((a)#b(a)#b)#", 42}, {longAutomaton, "growing", "((bb)#a(bb)#a)#", 30}, {sinkingAutomaton, "growing", "(aba)#", 24},
		{exampleAutomaton, "bounded", "", 6}, {"2;0;1;0a1:1", "bounded", "", 3}, {"2;0;1;0a1:3 1b1:0", "bounded", "", 3}, {"3;0;2;0a1:0 1a2:1", "bounded", "", 6}, {"3;0;2;0a1:1 0a2:1 1b1:0 1b2:1 2a2:0", "bounded", "", 9},
		// What costs some is bounded though others cost nothing, and though the empty word is accepted.
		{"2;0;0 1;0a0:0 0b1:1", "bounded", "", 3}, {"2;0;0 1;0a1:2", "bounded", "", 3}, {"3;0 2;1 2;0a1:1", "bounded", "", 3},
		{"1;0;0;0a0:0", "free", "", 0}, {"1;0;0;0a0:0 0b0:0", "free", "", 0}, {"2;0;1;0a1:0", "free", "", 0}, {"2;0;0;0a0:0 0b0:0 0b1:3 1b1:1", "free", "", 0},
		// Of these, the empty word alone is accepted, and no element is its value.
		{"1;0;0;", "free", "", 0}, {"4;2;2;", "free", "", 0}, {"2;0;0;0a1:1", "free", "", 0}, {"2;0;0;0a1:0 1a1:1 1b1:1", "free", "", 0}, {"3;0 1;1 2;0a0:1 2b2:1", "free", "", 0}, {"2;1;1;0a1:1", "free", "", 0},
		// All but the empty word cost many here, or nothing.
		{"2;0 1;0 1;0a0:0 1b1:1", "growing", "(b)#", 3},
	} {
		a := automatonOf(t, c.text)
		wantVerdict(t, a, c.verdict)
		wantBounded(t, a, c.verdict != "growing")
		wantGrowing(t, a, c.growing)
		wantSome(t, a, c.some)
	}
}

func TestAutomataThatAcceptNothing(t *testing.T) {
	for _, s := range nothingAccepted {
		a := automatonOf(t, s)
		wantVerdict(t, a, "none")
		wantBounded(t, a, true)
		wantGrowing(t, a, "")
		wantSome(t, a, 0)
		for _, c := range []int{-1, 0, 1, impl.Never} {
			wantOver(t, a, c, "")
		}
		if list, ok := impl.FreeWords(a, 7); len(list) != 0 || !ok {
			t.Errorf("FreeWords(%q, 7) = %q, %v", s, list, ok)
		}
	}
}

// That costs grow between other states does not matter to a verdict.
func TestCostsThatGrowBetweenStatesAlone(t *testing.T) {
	for _, c := range costsBetween {
		a := automatonOf(t, c.text)
		wantGrowingBetween(t, a, c.from, c.to, c.growing)
		wantGrowing(t, a, "")
		wantBounded(t, a, true)
		wantOver(t, a, 0, "")
		if got := impl.VerdictOf(a); got == "growing" {
			t.Errorf("VerdictOf(%q) = %q", c.text, got)
		}
	}
}

func TestGrowingBetween(t *testing.T) {
	for s, want := range map[string][]string{
		growingAutomaton: {"(a)#"}, exampleAutomaton: {"", "", "", ""}, flipAutomaton: {"(aa)#", "(aa)#a", "(aa)#a", "(aa)#"}, "1;0;0;0a0:0": {""}, "4;;;": slices.Repeat([]string{""}, 16),
		// Between one state and itself, costs may grow sooner than between starts and finals.
		lesserAutomaton:  {"(a)#", "", "", "(b)#"},
		slowAutomaton:    {"(bb)#", "", "", "", "", "", "b(a)#", "b(a)#b", "", "", "(a)#", "(a)#b", "", "", "", ""},
		sinkingAutomaton: {"(bab)#", "b(aa)#", "(bab)#", "(aa)#b", "(aa)#", "(aa)#b", "(aba)#", "(aba)#", "(aba)#"},
		// Starts and finals do not matter.
		"2;;;0a1:1 1a0:0": {"(aa)#", "(aa)#a", "(aa)#a", "(aa)#"},
	} {
		a := automatonOf(t, s)
		for from := range a.States {
			for to := range a.States {
				wantGrowingBetween(t, a, from, to, want[from*a.States+to])
			}
		}
	}
}

func TestGrowingBetweenNoStates(t *testing.T) {
	for _, s := range []string{growingAutomaton, lesserAutomaton, flipAutomaton, sinkingAutomaton, "4;;;0a0:1 0a3:1 3a0:1 3a3:1"} {
		a := automatonOf(t, s)
		for _, p := range []int{math.MinInt, -1 << 32, -4, -2, -1, a.States, a.States + 1, a.States * a.States, 4, 5, 16, 256, 1 << 32, 1 << 62, math.MaxInt - 1, math.MaxInt} {
			for q := range a.States {
				wantGrowingBetween(t, a, p, q, "")
				wantGrowingBetween(t, a, q, p, "")
			}
			// An index of a cell that lies within the matrix does not make them states.
			for _, q := range []int{math.MinInt, -p, -a.States, -1, a.States, math.MaxInt, p} {
				wantGrowingBetween(t, a, p, q, "")
			}
		}
	}
}

func TestWordOver(t *testing.T) {
	for _, c := range []struct {
		text string
		cost int
		want string
	}{
		{lesserAutomaton, 0, "ba"}, {lesserAutomaton, 1, "ba"}, {lesserAutomaton, 2, "bbaa"}, {lesserAutomaton, 5, "bbbbbaaaaa"}, {growingAutomaton, 0, "a"}, {growingAutomaton, 3, "aaa"}, {flipAutomaton, 0, "aa"}, {flipAutomaton, 2, "aaaa"},
		// The first expansion is the first one that is tried, even where the empty word costs enough.
		{"1;0;0;0a0:1", 0, "a"}, {"2;0;1;0a1:0 1b0:1", 0, "aba"}, {"2;0;1;0a1:0 1b0:1", 1, "aba"}, {"2;0;1;0a1:0 1b0:1", 2, "ababa"},
		// Costs that are passed over.
		{"1;0;0;0a0:3", 1, "a"}, {"1;0;0;0a0:3", 3, "a"}, {"1;0;0;0a0:3", 4, "aa"}, {"1;0;0;0a0:3", 6, "aa"}, {"1;0;0;0a0:3", 7, "aaa"}, {longAutomaton, 2, "bbbbabbbbabbbbabbbba"},
		// The second expansion costs 2, and the third one 3 again.
		{sinkingAutomaton, 2, "aba"}, {sinkingAutomaton, 3, "aba"}, {sinkingAutomaton, 4, strings.Repeat("aba", 4)},
		// The last one of all expansions, and none after it.
		{growingAutomaton, 60, strings.Repeat("a", 60)}, {growingAutomaton, 61, ""}, {"1;0;0;0a0:3", 178, strings.Repeat("a", 60)}, {"1;0;0;0a0:3", 180, strings.Repeat("a", 60)}, {"1;0;0;0a0:3", 181, ""}, {lesserAutomaton, 60, strings.Repeat("b", 60) + strings.Repeat("a", 60)}, {lesserAutomaton, 61, ""}, {sinkingAutomaton, 60, strings.Repeat("aba", 60)}, {sinkingAutomaton, 61, ""},
		// The last one that is no longer than a word, and none after it.
		{slowAutomaton, 21, strings.Repeat(strings.Repeat("a", 21)+"b", 42)}, {slowAutomaton, 22, ""}, {slowAutomaton, 60, ""}, {longAutomaton, 29, strings.Repeat(strings.Repeat("b", 30)+"a", 30)}, {longAutomaton, 30, ""},
		// Nothing grows.
		{exampleAutomaton, 0, ""}, {exampleAutomaton, 1, ""}, {"1;0;0;0a0:0", 0, ""}, {"1;0;0;", 0, ""},
	} {
		wantOver(t, automatonOf(t, c.text), c.cost, c.want)
	}
	for _, s := range []string{lesserAutomaton, growingAutomaton, flipAutomaton, slowAutomaton, exampleAutomaton} {
		for _, c := range []int{math.MinInt, 3 - 1<<32, -256, -3, -2, -1, 1001, 3000, 3001, impl.Never - 1, impl.Never, impl.Never + 1, 1 << 32, 1<<32 + 1, math.MaxInt} {
			wantOver(t, automatonOf(t, s), c, "")
		}
	}
}

func TestFreeWords(t *testing.T) {
	for _, c := range []struct {
		text string
		n    int
		want []string
	}{
		{lesserAutomaton, 0, []string{""}}, {lesserAutomaton, 1, []string{"", "a", "b"}}, {lesserAutomaton, 3, []string{"", "a", "b", "aa", "bb", "aaa", "bbb"}}, {growingAutomaton, 3, []string{"", "b", "bb", "bbb"}}, {exampleAutomaton, 7, nil}, {exampleAutomaton, 0, nil},
		{"1;0;0;", 0, []string{""}}, {"1;0;0;", 7, []string{""}}, {"1;0;0;0a0:1 0b0:3", 7, []string{""}}, {"2;0;1;0a1:0", 0, nil}, {"2;0;1;0a1:0", 1, []string{"a"}}, {"2;0;1;0a1:0", 7, []string{"a"}}, {"2;0;1;0a1:0 0b0:0 1b1:0", 3, []string{"a", "ab", "ba", "abb", "bab", "bba"}},
		// Costs are not nothing where a run that costs nothing is not from a start to a final.
		{"2;0;1;0a0:0 0b1:1", 3, nil}, {"3;0;2;0a1:0 0b2:3 1b1:0", 4, nil}, {flipAutomaton, 4, []string{""}}, {"1;0;0;0a0:0 0b0:0", 7, plainWords(7)},
	} {
		if list, ok := impl.FreeWords(automatonOf(t, c.text), c.n); !slices.Equal(list, c.want) || !ok {
			t.Errorf("FreeWords(%q, %d) = %q, %v, want %q", c.text, c.n, list, ok, c.want)
		}
	}
	// These do not depend on elements, so that there may be too many of them.
	all := differentAutomata(15)
	for _, s := range append(tooManyElements, fullElements...) {
		all = append(all, automatonOf(t, s))
	}
	for at, a := range all {
		n := at % 8
		var want []string
		for _, w := range plainWords(n) {
			if impl.CostOf(a, w) == 0 {
				want = append(want, w)
			}
		}
		if list, ok := impl.FreeWords(a, n); !slices.Equal(list, want) || !ok {
			t.Errorf("FreeWords(%v, %d) = %q, %v, want %q", a, n, list, ok, want)
		}
	}
}

func wantNoFreeWords(t *testing.T, a impl.Automaton, n int) {
	t.Helper()
	if list, ok := impl.FreeWords(a, n); len(list) != 0 || ok {
		t.Errorf("FreeWords(%v, %d) = %q, %v", a, n, list, ok)
	}
}

func TestFreeWordsThatAreNotShort(t *testing.T) {
	for _, n := range noShorts {
		for _, s := range []string{lesserAutomaton, "1;0;0;", "4;;;"} {
			wantNoFreeWords(t, automatonOf(t, s), n)
		}
	}
}

// All results are what the chapter says of the elements.
func TestBoundsOfManyAutomata(t *testing.T) {
	verdicts := map[string]int{}
	for _, a := range append(differentAutomata(30), gradedAutomata(19)...) {
		list, known := plainElements(a, 120)
		if !known {
			wantNothingKnown(t, a)
			wantVerdict(t, a, "unknown")
			verdicts["unknown"]++
			continue
		}
		growing := plainFirst(list, func(e impl.Element) bool { return plainGrade(a, e) == impl.GradeMany })
		verdict := plainVerdict(a, list)
		wantBounded(t, a, growing == "")
		wantGrowing(t, a, growing)
		wantSome(t, a, plainSome(a, list))
		wantVerdict(t, a, verdict)
		verdicts[verdict]++
		for at := range min(a.States*a.States, 2000/(len(list)*len(list))+1) {
			between := plainFirst(list, func(e impl.Element) bool { return e.Value.Cells[at] == impl.GradeMany })
			wantGrowingBetween(t, a, at/a.States, at%a.States, between)
		}
	}
	for _, verdict := range []string{"unknown", "growing", "bounded", "free", "none"} {
		if verdicts[verdict] < 5 {
			t.Errorf("only %d verdicts are %q", verdicts[verdict], verdict)
		}
	}
}

// Up to one more than the greatest cost there is, and at times beyond expansions that cost less than the ones before.
func TestWordsOverManyCosts(t *testing.T) {
	growing := 0
	for _, a := range differentAutomata(30) {
		e, ok := impl.GrowingOf(a)
		if list, _ := impl.ElementsOf(a); !ok || len(list) > 60 {
			continue
		}
		growing++
		for _, c := range []int{0, 1, 2, 3, 5, 12, 20, 40, 60, 61, 180, 181, 240} {
			wantOver(t, a, c, plainOver(a, e, c))
		}
		// That by n costs at least n divided by the states and one, from one more than the states on.
		if w, _ := plainExpansion(e, 60); len(w) <= 1000 {
			for c := range 60/(a.States+1) + 1 {
				if w, ok := impl.WordOver(a, c); !ok || impl.CostOf(a, w) < c || impl.CostOf(a, w) == impl.Never {
					t.Fatalf("WordOver(%v, %d) = %q, %v", a, c, w, ok)
				}
			}
		}
	}
	if growing < 50 {
		t.Errorf("costs of only %d automata grow", growing)
	}
}

// Elements tell what all words cost, however long they are.
func TestCostsAreBoundedOrNot(t *testing.T) {
	const most = 50
	bounded, growing := 0, 0
	for _, a := range append(differentAutomata(60), gradedAutomata(5)...) {
		is, ok := impl.IsBounded(a)
		if !ok {
			continue
		}
		greatest := plainGreatest(a, most)
		if is != (greatest < most) {
			t.Fatalf("IsBounded(%v) = %v, and some word costs %d", a, is, greatest)
		}
		switch {
		case !is:
			wantVerdict(t, a, "growing")
			growing++
		case greatest > 0:
			wantVerdict(t, a, "bounded")
			bounded++
		case greatest == 0:
			wantVerdict(t, a, "free")
		default:
			wantVerdict(t, a, "none")
		}
	}
	if bounded < 50 || growing < 100 {
		t.Errorf("costs of %d automata are bounded, and those of %d grow", bounded, growing)
	}
}

func TestTooManyElementsToTell(t *testing.T) {
	for _, s := range tooManyElements {
		a := automatonOf(t, s)
		wantNothingKnown(t, a)
		wantVerdict(t, a, "unknown")
	}
	// Finals do not matter to elements, even where it is plain that nothing is accepted without them.
	a := automatonOf(t, tooManyElements[0])
	a.Finals = nil
	wantNothingKnown(t, a)
	wantVerdict(t, a, "unknown")
	// As many as there may be are enough to tell.
	for _, s := range fullElements {
		a := automatonOf(t, s)
		list, _ := plainElements(a, 120)
		growing := plainFirst(list, func(e impl.Element) bool { return plainGrade(a, e) == impl.GradeMany })
		wantGrowing(t, a, growing)
		wantBounded(t, a, growing == "")
		wantSome(t, a, plainSome(a, list))
		wantVerdict(t, a, plainVerdict(a, list))
	}
}

func TestBoundsOfInvalidAutomata(t *testing.T) {
	for _, a := range invalidAutomata(t) {
		wantNothingKnown(t, a)
		wantVerdict(t, a, "")
		for _, n := range []int{-1, 0, 1, 7, 8} {
			wantNoFreeWords(t, a, n)
		}
		for _, p := range []int{a.States - 1, a.States, math.MaxInt} {
			wantGrowingBetween(t, a, p, p, "")
		}
	}
}

// resultsOfBounds are what the functions return for an automaton, as texts.
func resultsOfBounds(a impl.Automaton) []string {
	bounded, known := impl.IsBounded(a)
	growing, _ := impl.GrowingOf(a)
	between, _ := impl.GrowingBetween(a, 0, a.States-1)
	word, _ := impl.WordOver(a, 7)
	free, _ := impl.FreeWords(a, 4)
	return []string{strconv.FormatBool(bounded), strconv.FormatBool(known), growing, between, word, strconv.Itoa(impl.SomeOf(a)), impl.VerdictOf(a), strings.Join(free, " ")}
}

func TestBoundsAreToldAlike(t *testing.T) {
	for _, s := range []string{lesserAutomaton, flipAutomaton, slowAutomaton, longAutomaton} {
		a := automatonOf(t, s)
		wantAlike(t, 2, func() []string { return resultsOfBounds(a) })
	}
}

func TestArgumentsOfBoundsAreLeftAlone(t *testing.T) {
	for _, a := range append(differentAutomata(15), invalidAutomata(t)...) {
		given := roomy(a)
		resultsOfBounds(given)
		wantUntouched(t, given, a)
	}
}

func TestFreeWordsShareNothing(t *testing.T) {
	a := automatonOf(t, lesserAutomaton)
	first, _ := impl.FreeWords(a, 2)
	second, _ := impl.FreeWords(a, 2)
	clear(first[:cap(first)])
	overwrite(a)
	if !slices.Equal(second, []string{"", "a", "b", "aa", "bb"}) {
		t.Errorf("another result has become %q", second)
	}
	if third, ok := impl.FreeWords(automatonOf(t, lesserAutomaton), 2); !slices.Equal(third, second) || !ok {
		t.Errorf("the next result is %q, %v", third, ok)
	}
}
