package tests

import (
	"math"
	"slices"
	"strconv"
	"strings"
	"testing"

	"loop.example/distanceautomata/impl"
)

// lesserAutomaton costs the lesser one of the numbers of both letters.
const lesserAutomaton = "2;0 1;0 1;0a0:1 0b0:0 1a1:0 1b1:1"

// noWords have other bytes than the two letters, or too many of them.
var noWords = []string{
	"c", "A", "B", "ac", "ca", "aca", "abc", " ", "a ", " a", "a b", "ab\n", "\x00", "a\x00", "\x00a", "\xff", "ab\xff", "á", "`", "0", "-", "aB", "((a)#b)#",
	strings.Repeat("a", 1001), strings.Repeat("ab", 501), strings.Repeat("b", 100000), strings.Repeat("a", 999) + "c", strings.Repeat("b", 1000) + "\n",
}

var noShorts = []int{math.MinInt, -1 << 32, -8, -2, -1, 8, 9, 62, 63, 64, 1 << 32, math.MaxInt - 1, math.MaxInt}

// plainWords are the words of at most n letters, each made from an earlier one by one more letter.
func plainWords(n int) []string {
	words := []string{""}
	for at := 0; len(words[at]) < n; at++ {
		words = append(words, words[at]+"a", words[at]+"b")
	}
	return words
}

// plainCostOfRun is the chapter's word for a run, with the steps looked for one by one; -1 for a list that is none.
func plainCostOfRun(a impl.Automaton, w string, run []int) int {
	if len(run) != len(w)+1 || !slices.Contains(a.Starts, run[0]) || !slices.Contains(a.Finals, run[len(w)]) {
		return -1
	}
	sum := 0
	for at := range w {
		found := slices.IndexFunc(a.Steps, func(s impl.Step) bool {
			return s.From == run[at] && s.Letter == w[at:at+1] && s.To == run[at+1]
		})
		if found < 0 {
			return -1
		}
		sum += a.Steps[found].Cost
	}
	return sum
}

// plainLists are all lists of so many numbers from one number to another one, in the order of their first numbers that differ.
func plainLists(length int, from int, to int) [][]int {
	lists := [][]int{nil}
	for range length {
		var longer [][]int
		for _, list := range lists {
			for p := from; p <= to; p++ {
				longer = append(longer, append(slices.Clone(list), p))
			}
		}
		lists = longer
	}
	return lists
}

// plainBest looks at all runs in their order; it returns the least cost, the first run at it, and how many have it.
func plainBest(a impl.Automaton, w string) (int, []int, int) {
	least, first, count := impl.Never, []int(nil), 0
	for _, run := range plainLists(len(w)+1, 0, a.States-1) {
		c := plainCostOfRun(a, w, run)
		switch {
		case c >= 0 && c < least:
			least, first, count = c, run, 1
		case c == least:
			count++
		}
	}
	return least, first, count
}

func wantRun(t *testing.T, a impl.Automaton, w string, want []int) {
	t.Helper()
	if run, ok := impl.RunOf(a, w); !slices.Equal(run, want) || ok != (len(want) > 0) {
		t.Errorf("RunOf(%q, %q) = %v, %v, want %v", impl.FormatAutomaton(a), w, run, ok, want)
	}
}

// wantNoWord checks all functions that take a word, of an automaton or a word that is none.
func wantNoWord(t *testing.T, a impl.Automaton, w string) {
	t.Helper()
	if m, ok := impl.WordMatrix(a, w); m.Size != 0 || len(m.Cells) != 0 || ok {
		t.Errorf("WordMatrix(%v, %.20q) = %v, %v", a, w, m, ok)
	}
	if c := impl.CostOf(a, w); c != -1 {
		t.Errorf("CostOf(%v, %.20q) = %d", a, w, c)
	}
	if run, ok := impl.RunOf(a, w); len(run) != 0 || ok {
		t.Errorf("RunOf(%v, %.20q) = %v, %v", a, w, run, ok)
	}
	if list, ok := impl.PrefixCosts(a, w); len(list) != 0 || ok {
		t.Errorf("PrefixCosts(%v, %.20q) = %v, %v", a, w, list, ok)
	}
	for _, run := range [][]int{nil, {}, {0}, {1}, {0, 0}, {0, 1}, make([]int, len(w)), make([]int, len(w)+1)} {
		if c := impl.CostOfRun(a, w, run); c != -1 {
			t.Errorf("CostOfRun(%v, %.20q, %.20v) = %d", a, w, run, c)
		}
	}
}

func TestLimitsOfWords(t *testing.T) {
	if impl.MaxWord != 1000 || impl.MaxShort != 7 {
		t.Errorf("MaxWord = %d, MaxShort = %d", impl.MaxWord, impl.MaxShort)
	}
}

func TestWordValid(t *testing.T) {
	for _, w := range append(plainWords(10), strings.Repeat("a", 999), strings.Repeat("a", 1000), strings.Repeat("b", 1000), strings.Repeat("ab", 500)) {
		if !impl.WordValid(w) {
			t.Errorf("WordValid(%.20q) = false", w)
		}
	}
	for _, w := range noWords {
		if impl.WordValid(w) {
			t.Errorf("WordValid(%.20q) = true", w)
		}
	}
	for letter := range 256 {
		for _, w := range []string{string([]byte{byte(letter)}), string([]byte{'a', byte(letter), 'b'})} {
			if got := impl.WordValid(w); got != (letter == 'a' || letter == 'b') {
				t.Errorf("WordValid(%q) = %v", w, got)
			}
		}
	}
}

func TestCostsAndRunsOfSomeWords(t *testing.T) {
	for _, c := range []struct {
		text, word string
		cost       int
		run        []int
	}{
		{exampleAutomaton, "aab", 1, []int{0, 0, 1, 1}},
		{exampleAutomaton, "a", 1, []int{0, 1}},
		{exampleAutomaton, "abbb", 1, []int{0, 1, 1, 1, 1}},
		{lesserAutomaton, "aab", 1, []int{1, 1, 1, 1}},
		{lesserAutomaton, "abb", 1, []int{0, 0, 0, 0}},
		// Both runs cost the same, and the first one starts with 0.
		{lesserAutomaton, "ab", 1, []int{0, 0, 0}},
		{lesserAutomaton, "aabb", 2, []int{0, 0, 0, 0, 0}},
		// From the state 0, which is no start, the rest would be as cheap or cheaper.
		{"3;1 2;0;0a0:0 1a0:2 2a0:2", "a", 2, []int{1, 0}},
		{"3;1 2;0;0a0:2 1a0:3 2a0:2", "a", 2, []int{2, 0}},
		// The state 1 costs less to come to, but not to end from.
		{"4;0;3;0a1:0 0a2:1 1b3:3 2b3:1", "ab", 2, []int{0, 2, 3}},
		{"4;0;3;0a1:1 0a2:0 1b3:0 2b3:1", "ab", 1, []int{0, 1, 3}},
		{"4;0;3;0a1:0 0a2:0 2b3:3", "ab", 3, []int{0, 2, 3}},
		// The way by the state 1 comes to no end, and the one by 2 to no final.
		{"4;0;3;0a1:0 0a2:0 0a3:2 2a2:0 3a3:2", "aa", 4, []int{0, 3, 3}},
		// A run may pass starts and finals on its way.
		{"3;0 1;1 2;0a1:0 1b2:0 2a0:1", "aba", impl.Never, nil},
		{"3;0 1;1 2;0a1:0 1b2:0 2a0:1", "abaa", 1, []int{0, 1, 2, 0, 1}},
	} {
		a := automatonOf(t, c.text)
		if got := impl.CostOf(a, c.word); got != c.cost {
			t.Errorf("CostOf(%q, %q) = %d, want %d", c.text, c.word, got, c.cost)
		}
		wantRun(t, a, c.word, c.run)
	}
}

func TestTheEmptyWord(t *testing.T) {
	for s, want := range map[string][]int{
		"1;;;": nil, "1;0;;0a0:0": nil, "1;;0;0a0:0": nil, "1;0;0;": {0}, "1;0;0;0a0:3": {0}, exampleAutomaton: nil, lesserAutomaton: {0},
		"4;0 1 2 3;0 1 2 3;": {0}, "4;1 2 3;0 2 3;": {2}, "4;0 1;2 3;0a2:0 1b3:0": nil, "4;0 3;1 3;": {3}, "2;1;1;0a0:0": {1},
	} {
		a := automatonOf(t, s)
		c := 0
		if want == nil {
			c = impl.Never
		}
		if got := impl.CostOf(a, ""); got != c {
			t.Errorf("CostOf(%q, \"\") = %d, want %d", s, got, c)
		}
		wantRun(t, a, "", want)
		if list, ok := impl.PrefixCosts(a, ""); !slices.Equal(list, []int{c}) || !ok {
			t.Errorf("PrefixCosts(%q, \"\") = %v, %v, want %d", s, list, ok, c)
		}
		for p := -1; p <= 5; p++ {
			accepts := slices.Contains(a.Starts, p) && slices.Contains(a.Finals, p)
			if got := impl.CostOfRun(a, "", []int{p}); accepts != (got == 0) || !accepts && got != -1 {
				t.Errorf("CostOfRun(%q, \"\", [%d]) = %d", s, p, got)
			}
		}
		m, ok := impl.WordMatrix(a, "")
		wantMatrix(t, "WordMatrix("+s+", \"\")", m, ok, impl.FormatMatrix(plainUnit(a.States)))
		if w, ok := impl.CostliestWord(a, 0); w != "" || ok != (want != nil) {
			t.Errorf("CostliestWord(%q, 0) = %q, %v", s, w, ok)
		}
		if got := impl.CountAccepted(a, 0); got != min(len(want), 1) {
			t.Errorf("CountAccepted(%q, 0) = %d", s, got)
		}
	}
}

func TestWordsThatAreNotAccepted(t *testing.T) {
	for _, c := range []struct{ text, word string }{
		{exampleAutomaton, "b"}, {exampleAutomaton, "ba"}, {exampleAutomaton, "aba"}, {"1;0;0;", "a"}, {"1;0;0;0a0:0", "aab"}, {"1;;0;0a0:0", "a"}, {"1;0;;0a0:0", "a"},
		{"2;0;1;0a0:0 1a1:0", "aa"}, {"2;0;1;1a0:0", "a"}, {"2;0;1;0a1:0", "aa"}, {"1;;;0a0:0 0b0:0", strings.Repeat("ab", 500)},
	} {
		a := automatonOf(t, c.text)
		if got := impl.CostOf(a, c.word); got != impl.Never {
			t.Errorf("CostOf(%q, %q) = %d", c.text, c.word, got)
		}
		wantRun(t, a, c.word, nil)
		list, ok := impl.PrefixCosts(a, c.word)
		if len(list) != len(c.word)+1 || list[len(c.word)] != impl.Never || !ok {
			t.Errorf("PrefixCosts(%q, %q) = %v, %v", c.text, c.word, list, ok)
		}
	}
}

func TestCostsAndRunsOfManyAutomata(t *testing.T) {
	several := 0
	for states := 1; states <= impl.MaxStates; states++ {
		for _, a := range someAutomata(states, 60) {
			for _, w := range plainWords(7 - states) {
				least, first, count := plainBest(a, w)
				if got := impl.CostOf(a, w); got != least {
					t.Fatalf("CostOf(%q, %q) = %d, want %d", impl.FormatAutomaton(a), w, got, least)
				}
				wantRun(t, a, w, first)
				if first != nil && impl.CostOfRun(a, w, first) != least {
					t.Errorf("CostOfRun(%q, %q, %v) = %d, want %d", impl.FormatAutomaton(a), w, first, impl.CostOfRun(a, w, first), least)
				}
				if count > 1 && first != nil {
					several++
				}
			}
		}
	}
	if several < 500 {
		t.Errorf("only %d words have several runs of the least cost", several)
	}
}

func TestCostsOfAllAutomataOfTwo(t *testing.T) {
	for at, a := range automataOfTwo() {
		for i := range a.Steps {
			a.Steps[i].Cost = (at + i*i) % (impl.MaxStep + 1)
		}
		for _, w := range []string{"", "a", "ab", "bba"} {
			least, first, _ := plainBest(a, w)
			if got := impl.CostOf(a, w); got != least {
				t.Fatalf("CostOf(%q, %q) = %d, want %d", impl.FormatAutomaton(a), w, got, least)
			}
			wantRun(t, a, w, first)
		}
	}
}

func TestCostOfRunOfAllLists(t *testing.T) {
	for states := 1; states <= impl.MaxStates; states++ {
		for _, a := range someAutomata(states, 20) {
			for _, w := range []string{"", "a", "b", "ab", "bb"} {
				for length := range len(w) + 3 {
					for _, run := range plainLists(length, -1, states) {
						if got, want := impl.CostOfRun(a, w, run), plainCostOfRun(a, w, run); got != want {
							t.Fatalf("CostOfRun(%q, %q, %v) = %d, want %d", impl.FormatAutomaton(a), w, run, got, want)
						}
					}
				}
			}
		}
	}
}

func TestCostOfRunOfOtherNumbers(t *testing.T) {
	a := automatonOf(t, "4;0 1 2 3;0 1 2 3;"+fullSteps)
	for _, p := range []int{math.MinInt, -1 << 32, -4, -1, 4, 5, 1 << 32, 1<<32 + 1, math.MaxInt} {
		for at := range 3 {
			run := []int{0, 1, 2}
			if got := impl.CostOfRun(a, "ab", run); got != 3 {
				t.Errorf("CostOfRun of %v = %d, want 3", run, got)
			}
			run[at] = p
			if got := impl.CostOfRun(a, "ab", run); got != -1 {
				t.Errorf("CostOfRun of %v = %d, want -1", run, got)
			}
		}
		if got := impl.CostOfRun(a, "", []int{p}); got != -1 {
			t.Errorf("CostOfRun of [%d] = %d, want -1", p, got)
		}
	}
	if got := impl.CostOfRun(a, "ab", make([]int, 100000)); got != -1 {
		t.Errorf("CostOfRun of a long list = %d, want -1", got)
	}
}

func TestLongWords(t *testing.T) {
	dear := automatonOf(t, "1;0;0;0a0:3 0b0:2")
	all := strings.Repeat("a", impl.MaxWord)
	if got := impl.CostOf(dear, all); got != 3000 {
		t.Errorf("CostOf = %d, want 3000", got)
	}
	if got := impl.CostOfRun(dear, all, make([]int, 1001)); got != 3000 {
		t.Errorf("CostOfRun = %d, want 3000", got)
	}
	wantRun(t, dear, all, make([]int, 1001))
	m, ok := impl.WordMatrix(dear, all)
	wantMatrix(t, "WordMatrix", m, ok, "3000")
	list, ok := impl.PrefixCosts(dear, all)
	for n, c := range list {
		if len(list) != 1001 || c != 3*n || !ok {
			t.Fatalf("PrefixCosts has %d at %d of %d, %v", c, n, len(list), ok)
		}
	}
	lesser := automatonOf(t, lesserAutomaton)
	if got := impl.CostOf(lesser, strings.Repeat("ab", 500)); got != 500 {
		t.Errorf("CostOf = %d, want 500", got)
	}
	if got := impl.CostOf(lesser, strings.Repeat("a", 501)+strings.Repeat("b", 499)); got != 499 {
		t.Errorf("CostOf = %d, want 499", got)
	}
	// At each letter the run may stay or change, and only the last letter tells that it has to be in the state 3 then.
	many := automatonOf(t, "4;0;2;0a0:1 0a1:1 0a3:1 1a0:1 1a1:1 1a3:1 3a0:1 3a1:1 3a3:1 3b2:0")
	want := make([]int, 1001)
	want[999], want[1000] = 3, 2
	wantRun(t, many, strings.Repeat("a", 999)+"b", want)
}

func TestCostsOfLongWords(t *testing.T) {
	for states := 1; states <= impl.MaxStates; states++ {
		for at, a := range someAutomata(states, 40) {
			w := strings.Repeat(plainWords(6)[at+1], 1000)[:1000-at]
			list, ok := impl.PrefixCosts(a, w)
			run, accepted := impl.RunOf(a, w)
			if !ok || len(list) != len(w)+1 || impl.CostOf(a, w) != list[len(w)] || accepted != (list[len(w)] < impl.Never) {
				t.Fatalf("the costs of a word of %d letters in %q are %d and %d, with a run %v", len(w), impl.FormatAutomaton(a), impl.CostOf(a, w), list[len(w)], accepted)
			}
			if accepted && impl.CostOfRun(a, w, run) != list[len(w)] {
				t.Errorf("CostOfRun = %d, want %d", impl.CostOfRun(a, w, run), list[len(w)])
			}
			m, _ := impl.WordMatrix(a, w)
			if got := leastBetween(a, m); got != list[len(w)] {
				t.Errorf("from starts to finals WordMatrix has %d, want %d", got, list[len(w)])
			}
		}
	}
}

// leastBetween is the least cell from a start to a final.
func leastBetween(a impl.Automaton, m impl.Matrix) int {
	least := impl.Never
	for _, p := range a.Starts {
		for _, q := range a.Finals {
			least = min(least, m.Cells[p*m.Size+q])
		}
	}
	return least
}

func TestWordMatrix(t *testing.T) {
	for _, c := range []struct{ text, word, want string }{
		{exampleAutomaton, "", "0 -/- 0"}, {exampleAutomaton, "a", "0 1/- -"}, {exampleAutomaton, "b", "- -/- 0"}, {exampleAutomaton, "ab", "- 1/- -"}, {exampleAutomaton, "ba", "- -/- -"},
		{exampleAutomaton, "aa", "0 1/- -"}, {lesserAutomaton, "ab", "1 -/- 1"}, {lesserAutomaton, "aab", "2 -/- 1"}, {"1;;;", "", "0"}, {"1;;;", "a", "-"}, {"1;;;0a0:3", "aaa", "9"},
		{"3;;;", "", "0 - -/- 0 -/- - 0"}, {"2;;;0a1:2 1b0:1", "ab", "3 -/- -"}, {"2;;;0a1:2 1b0:1", "ba", "- -/- 3"}, {"2;;;0a1:2 1b0:1", "aba", "- 5/- -"},
	} {
		m, ok := impl.WordMatrix(automatonOf(t, c.text), c.word)
		wantMatrix(t, "WordMatrix("+c.text+", "+c.word+")", m, ok, c.want)
	}
}

func TestWordMatrixIsAProduct(t *testing.T) {
	for states := 1; states <= impl.MaxStates; states++ {
		for _, a := range someAutomata(states, 30) {
			steps := map[string]impl.Matrix{}
			for _, letter := range []string{"a", "b"} {
				steps[letter], _ = impl.StepMatrix(a, letter)
			}
			for _, w := range plainWords(6) {
				want := plainUnit(states)
				for _, letter := range strings.Split(w, "") {
					want = plainProduct(want, steps[letter])
				}
				got, ok := impl.WordMatrix(a, w)
				if !impl.SameMatrix(got, want) || !ok {
					t.Fatalf("WordMatrix(%q, %q) = %v, %v, want %v", impl.FormatAutomaton(a), w, got, ok, want)
				}
				if c := impl.CostOf(a, w); c != leastBetween(a, got) {
					t.Fatalf("CostOf(%q, %q) = %d, and WordMatrix is %v", impl.FormatAutomaton(a), w, c, got)
				}
			}
		}
	}
}

func TestPrefixCosts(t *testing.T) {
	for _, c := range []struct {
		text, word string
		want       []int
	}{
		{exampleAutomaton, "aba", []int{impl.Never, 1, 1, impl.Never}}, {exampleAutomaton, "baa", []int{impl.Never, impl.Never, impl.Never, impl.Never}},
		{lesserAutomaton, "aab", []int{0, 0, 0, 1}}, {"1;0;0;0a0:2 0b0:3", "abb", []int{0, 2, 5, 8}}, {"2;0;0;0a1:1 1a0:2", "aaaa", []int{0, impl.Never, 3, impl.Never, 6}},
		// A cost may become less again.
		{"3;0;1 2;0a1:3 0a2:0 1b1:0 1b2:3 2a1:1", "aba", []int{impl.Never, 0, 3, 7}}, {"3;0;1 2;0a1:3 0b0:0 1b2:0", "ab", []int{impl.Never, 3, 3}},
		{"2;0;1;0a1:3 0b0:0 0b1:1", "b", []int{impl.Never, 1}}, {"3;0;1 2;0a0:0 0a1:3 0b2:0", "ab", []int{impl.Never, 3, 0}},
	} {
		if got, ok := impl.PrefixCosts(automatonOf(t, c.text), c.word); !slices.Equal(got, c.want) || !ok {
			t.Errorf("PrefixCosts(%q, %q) = %v, %v, want %v", c.text, c.word, got, ok, c.want)
		}
	}
	for _, a := range someAutomata(3, 40) {
		for _, w := range plainWords(5) {
			var want []int
			for n := range len(w) + 1 {
				want = append(want, impl.CostOf(a, w[:n]))
			}
			if got, ok := impl.PrefixCosts(a, w); !slices.Equal(got, want) || !ok {
				t.Fatalf("PrefixCosts(%q, %q) = %v, %v, want %v", impl.FormatAutomaton(a), w, got, ok, want)
			}
		}
	}
}

func TestShortWords(t *testing.T) {
	for n := range impl.MaxShort + 1 {
		words, ok := impl.ShortWords(n)
		if !slices.Equal(words, plainWords(n)) || len(words) != 1<<(n+1)-1 || !ok {
			t.Errorf("ShortWords(%d) = %v, %v", n, words, ok)
		}
	}
	if words, _ := impl.ShortWords(2); !slices.Equal(words, []string{"", "a", "b", "aa", "ab", "ba", "bb"}) {
		t.Errorf("ShortWords(2) = %q", words)
	}
	for _, n := range noShorts {
		if words, ok := impl.ShortWords(n); len(words) != 0 || ok {
			t.Errorf("ShortWords(%d) = %v, %v", n, words, ok)
		}
	}
}

func TestCostliestWordAndCountOfSomeAutomata(t *testing.T) {
	for _, c := range []struct {
		text  string
		n     int
		word  string
		ok    bool
		count int
	}{
		{lesserAutomaton, 4, "aabb", true, 31}, {lesserAutomaton, 2, "ab", true, 7}, {lesserAutomaton, 0, "", true, 1}, {lesserAutomaton, 7, "aaabbb", true, 255},
		{exampleAutomaton, 0, "", false, 0}, {exampleAutomaton, 1, "a", true, 1}, {exampleAutomaton, 3, "a", true, 6}, {exampleAutomaton, 7, "a", true, 28},
		// No word costs more than the empty one, which costs nothing.
		{"1;0;0;", 7, "", true, 1}, {"1;0;0;0a0:0 0b0:0", 7, "", true, 255}, {"1;0;0;0a0:0 0b0:3", 7, "bbbbbbb", true, 255}, {"1;0;0;0b0:1", 5, "bbbbb", true, 6},
		// The word with the greatest cost is not the longest one.
		{"3;0;1 2;0a1:3 0b2:0 2b2:0", 3, "a", true, 4}, {"2;0;0 1;0b1:3 1a1:0", 4, "b", true, 5}, {"1;;;0a0:3 0b0:3", 7, "", false, 0}, {"2;0;1;0a0:3 0b0:3", 7, "", false, 0},
		{"4;0;3;0b1:0 1b2:0 2b3:0", 2, "", false, 0}, {"4;0;3;0b1:0 1b2:0 2b3:0", 3, "bbb", true, 1},
	} {
		a := automatonOf(t, c.text)
		if w, ok := impl.CostliestWord(a, c.n); w != c.word || ok != c.ok {
			t.Errorf("CostliestWord(%q, %d) = %q, %v, want %q", c.text, c.n, w, ok, c.word)
		}
		if got := impl.CountAccepted(a, c.n); got != c.count {
			t.Errorf("CountAccepted(%q, %d) = %d, want %d", c.text, c.n, got, c.count)
		}
	}
}

func TestCostliestWordAndCountOfManyAutomata(t *testing.T) {
	for states := 1; states <= impl.MaxStates; states++ {
		for _, a := range someAutomata(states, 40) {
			word, greatest, count := "", -1, 0
			for n := range impl.MaxShort + 1 {
				for _, w := range plainWords(n) {
					c := impl.CostOf(a, w)
					if len(w) == n && c < impl.Never {
						count++
					}
					if c < impl.Never && c > greatest {
						word, greatest = w, c
					}
				}
				if got, ok := impl.CostliestWord(a, n); got != word || ok != (count > 0) {
					t.Fatalf("CostliestWord(%q, %d) = %q, %v, want %q", impl.FormatAutomaton(a), n, got, ok, word)
				}
				if got := impl.CountAccepted(a, n); got != count {
					t.Fatalf("CountAccepted(%q, %d) = %d, want %d", impl.FormatAutomaton(a), n, got, count)
				}
			}
		}
	}
}

func wantNoShortWords(t *testing.T, a impl.Automaton, n int) {
	t.Helper()
	if w, ok := impl.CostliestWord(a, n); w != "" || ok {
		t.Errorf("CostliestWord(%v, %d) = %q, %v", a, n, w, ok)
	}
	if got := impl.CountAccepted(a, n); got != -1 {
		t.Errorf("CountAccepted(%v, %d) = %d", a, n, got)
	}
}

func TestWordsOfInvalidAutomata(t *testing.T) {
	for _, a := range invalidAutomata(t) {
		for _, w := range []string{"", "a", "b", "ab", "c"} {
			wantNoWord(t, a, w)
		}
		for _, n := range []int{-1, 0, 1, 7, 8} {
			wantNoShortWords(t, a, n)
		}
	}
}

func TestNoWords(t *testing.T) {
	for _, s := range []string{exampleAutomaton, lesserAutomaton, "1;;;", "1;0;0;0a0:0 0b0:0", "4;0 1 2 3;0 1 2 3;" + fullSteps} {
		a := automatonOf(t, s)
		for _, w := range noWords {
			wantNoWord(t, a, w)
		}
		for _, n := range noShorts {
			wantNoShortWords(t, a, n)
		}
	}
}

// resultsOfWord are what the functions that take a word return, as texts.
func resultsOfWord(a impl.Automaton, w string) []string {
	m, _ := impl.WordMatrix(a, w)
	run, _ := impl.RunOf(a, w)
	prefixes, _ := impl.PrefixCosts(a, w)
	costliest, _ := impl.CostliestWord(a, 4)
	return []string{
		impl.FormatMatrix(m), impl.FormatCosts(run), impl.FormatCosts(prefixes), costliest,
		strconv.Itoa(impl.CostOf(a, w)), strconv.Itoa(impl.CostOfRun(a, w, run)), strconv.Itoa(impl.CountAccepted(a, 4)),
	}
}

func TestWordsCostTheSameAgain(t *testing.T) {
	a := automatonOf(t, "4;0 1 2;0 1 2 3;"+fullSteps)
	for _, w := range []string{"", "ab", "bbaab", strings.Repeat("aab", 30)} {
		wantAlike(t, 20, func() []string { return resultsOfWord(a, w) })
	}
}

func TestArgumentsOfWordsAreLeftAlone(t *testing.T) {
	for _, a := range append(someAutomata(4, 30), someAutomata(2, 30)...) {
		given := clonedAutomaton(a)
		for _, w := range []string{"", "b", "abba"} {
			resultsOfWord(given, w)
		}
		if !sameAutomaton(a, given) {
			t.Errorf("%v has become %v", a, given)
		}
	}
	a := automatonOf(t, exampleAutomaton)
	for _, list := range [][]int{{0, 0, 1, 1, 7, 7}, {0, 1, 1, 1, 7, 7}, {9, 0, 1, 1, 7, 7}} {
		room := slices.Clone(list)
		impl.CostOfRun(a, "aab", room[:4])
		impl.CostOfRun(a, "aab", room[:3])
		if !slices.Equal(room, list) {
			t.Errorf("%v has become %v", list, room)
		}
	}
}

func TestResultsOfWordsShareNothing(t *testing.T) {
	a := automatonOf(t, "2;0 1;0 1;0a0:1 0a1:1 0b0:0 1a1:0 1b1:1")
	makers := map[string]func() []int{
		"RunOf":       func() []int { run, _ := impl.RunOf(a, "abab"); return run },
		"PrefixCosts": func() []int { list, _ := impl.PrefixCosts(a, "abab"); return list },
		"WordMatrix":  func() []int { m, _ := impl.WordMatrix(a, "abab"); return m.Cells },
		"the unit":    func() []int { m, _ := impl.WordMatrix(a, ""); return m.Cells },
	}
	for name, maker := range makers {
		first, second := maker(), maker()
		want := slices.Clone(second)
		first = first[:cap(first)]
		for i := range first {
			first[i] = 9
		}
		if !slices.Equal(second, want) || !slices.Equal(maker(), want) {
			t.Errorf("the results of %s share memory", name)
		}
	}
	words, _ := impl.ShortWords(3)
	words = words[:cap(words)]
	for i := range words {
		words[i] = "c"
	}
	if again, _ := impl.ShortWords(3); !slices.Equal(again, plainWords(3)) {
		t.Errorf("ShortWords(3) = %q", again)
	}
}
