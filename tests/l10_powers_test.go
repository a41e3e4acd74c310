package tests

import (
	"math"
	"slices"
	"strconv"
	"strings"
	"testing"

	"loop.example/distanceautomata/impl"
)

const (
	letterAutomaton = "2;0;1;0a1:0"
	oddAutomaton    = "2;0;1;0a1:1 1a0:0"
	allAutomaton    = "2;0;1;0a1:3 0b1:0 1a1:1 1b1:2"
	// twoThreeAutomaton accepts aa and aaa alone.
	twoThreeAutomaton = "4;0;2 3;0a1:0 1a2:0 2a3:0"
	// crossedAutomaton accepts a, ab and bb alone, so that the rest behind the shortest first factor may have no factors.
	crossedAutomaton = "4;0;1 3;0a1:0 0b2:0 1b3:0 2b3:0"
)

// The powers of these have one step too many, eight too many, and as many as there may be.
const (
	overfullPowers = "4;0;3;0a1:0 1a0:0 1a1:0 1a2:0 1a3:0 1b0:0 1b1:0 1b2:0 1b3:0 2a0:0 2a1:0 2a2:0 2a3:0 2b0:0 2b1:0 2b2:0 2b3:0 3a0:0 3a2:0 3a3:0 3b0:0 3b1:0 3b2:0 3b3:0"
	hugePowers     = "4;0;3;" + fullSteps
	fullPowers     = "4;0;3;0a1:0 1a0:0 1a1:0 1a2:0 1a3:0 1b0:0 1b1:0 1b2:0 1b3:0 2a0:0 2a1:0 2a2:0 2a3:0 2b0:0 2b1:0 2b2:0 2b3:0 3a0:0 3a2:0 3a3:0 3b0:0 3b1:0 3b2:0"
)

// powersUnknown have powers with too many elements, though they have few enough themselves.
var powersUnknown = []string{
	"4;0;0 1 2 3;0b1:0 0b2:0 1a0:0 1a2:0 1b0:0 1b2:0 1b3:0 2a0:0 3a1:0",
	"4;0 1;1 3;0a3:0 0b2:0 1a0:0 2a0:0 2a1:0 2b1:0 3b3:0",
	"4;0;3;0a2:0 0b3:0 1a0:0 1b1:0 1b2:0 1b3:0 2b1:0 3a0:0 3a1:0",
}

// plainPowers goes through all moves that there can be.
func plainPowers(a impl.Automaton) impl.Automaton {
	has := func(from int, s impl.Step) bool {
		return slices.ContainsFunc(a.Steps, func(other impl.Step) bool {
			return other.From == from && other.Letter == s.Letter && other.To == s.To
		})
	}
	powers := impl.Automaton{States: a.States, Starts: a.Starts, Finals: a.Finals}
	for _, s := range allSteps(a.States) {
		anew := slices.ContainsFunc(a.Starts, func(start int) bool { return has(start, s) })
		switch {
		case has(s.From, s):
			powers.Steps = append(powers.Steps, s)
		case slices.Contains(a.Finals, s.From) && anew:
			s.Cost = 1
			powers.Steps = append(powers.Steps, s)
		}
	}
	return powers
}

// acceptedWords are those of at most n letters that are not empty.
func acceptedWords(a impl.Automaton, n int) map[string]bool {
	accepted := map[string]bool{}
	for _, w := range plainWords(n)[1:] {
		accepted[w] = impl.CostOf(a, w) < impl.Never
	}
	return accepted
}

// plainSplits are all splits of a word, those with a shorter first factor that differs first.
func plainSplits(accepted map[string]bool, w string) [][]string {
	if w == "" {
		return [][]string{nil}
	}
	var splits [][]string
	for end := 1; end <= len(w); end++ {
		if !accepted[w[:end]] {
			continue
		}
		for _, rest := range plainSplits(accepted, w[end:]) {
			splits = append(splits, append([]string{w[:end]}, rest...))
		}
	}
	return splits
}

// plainSplit is the first one of the splits with the fewest factors, how many these are, and how many splits have as few.
func plainSplit(accepted map[string]bool, w string) ([]string, int, int) {
	var first []string
	least, count := impl.Never, 0
	for _, split := range plainSplits(accepted, w) {
		switch {
		case len(split) < least:
			first, least, count = split, len(split), 1
		case len(split) == least:
			count++
		}
	}
	return first, least, count
}

func wantPowers(t *testing.T, a impl.Automaton, want string) {
	t.Helper()
	got, ok := impl.PowerAutomaton(a)
	wantAutomaton(t, "PowerAutomaton("+impl.FormatAutomaton(a)+")", got, ok, want)
}

func wantFinite(t *testing.T, a impl.Automaton, want bool, wantKnown bool) {
	t.Helper()
	if is, ok := impl.HasFinitePowers(a); is != want || ok != wantKnown {
		t.Errorf("HasFinitePowers(%v) = %v, %v, want %v, %v", a, is, ok, want, wantKnown)
	}
}

// wantSplit checks both functions of a word; want is nil for one without factors, and empty for the empty one.
func wantSplit(t *testing.T, a impl.Automaton, w string, want []string) {
	t.Helper()
	count := len(want)
	if want == nil {
		count = impl.Never
	}
	if got := impl.FactorsOf(a, w); got != count {
		t.Fatalf("FactorsOf(%v, %q) = %d, want %d", a, w, got, count)
	}
	if split, ok := impl.SplitOf(a, w); !slices.Equal(split, want) || ok != (want != nil) {
		t.Fatalf("SplitOf(%v, %q) = %q, %v, want %q", a, w, split, ok, want)
	}
}

// wantNoSplit checks both functions of a word that is none, or of an invalid automaton.
func wantNoSplit(t *testing.T, a impl.Automaton, w string) {
	t.Helper()
	if got := impl.FactorsOf(a, w); got != -1 {
		t.Errorf("FactorsOf(%v, %.50q) = %d, want -1", a, w, got)
	}
	if split, ok := impl.SplitOf(a, w); len(split) != 0 || ok {
		t.Errorf("SplitOf(%v, %.50q) = %q, %v", a, w, split, ok)
	}
}

func wantHardest(t *testing.T, a impl.Automaton, n int, want string, most int) {
	t.Helper()
	if w, ok := impl.HardestWord(a, n); w != want || !ok {
		t.Fatalf("HardestWord(%v, %d) = %q, %v, want %q", a, n, w, ok, want)
	}
	if got := impl.MostFactors(a, n); got != most {
		t.Fatalf("MostFactors(%v, %d) = %d, want %d", a, n, got, most)
	}
}

func wantNoHardest(t *testing.T, a impl.Automaton, n int) {
	t.Helper()
	if w, ok := impl.HardestWord(a, n); w != "" || ok {
		t.Errorf("HardestWord(%v, %d) = %q, %v", a, n, w, ok)
	}
	if got := impl.MostFactors(a, n); got != -1 {
		t.Errorf("MostFactors(%v, %d) = %d, want -1", a, n, got)
	}
}

func TestPowerAutomaton(t *testing.T) {
	for s, want := range map[string]string{
		letterAutomaton: "2;0;1;0a1:0 1a1:1", oddAutomaton: "2;0;1;0a1:0 1a0:0 1a1:1", allAutomaton: "2;0;1;0a1:0 0b1:0 1a1:0 1b1:0",
		exampleAutomaton: "2;0;1;0a0:0 0a1:0 1a0:1 1a1:1 1b1:0", lesserAutomaton: "2;0 1;0 1;0a0:0 0a1:1 0b0:0 0b1:1 1a0:1 1a1:0 1b0:1 1b1:0",
		twoThreeAutomaton: "4;0;2 3;0a1:0 1a2:0 2a1:1 2a3:0 3a1:1", crossedAutomaton: "4;0;1 3;0a1:0 0b2:0 1a1:1 1b2:1 1b3:0 2b3:0 3a1:1 3b2:1",
		// A final that is a start goes on the same way for nothing, and the empty word is accepted in both.
		"1;0;0;0a0:3": "1;0;0;0a0:0", "2;0;0;0a1:2 1b0:1": "2;0;0;0a1:0 1b0:0", "2;0;0 1;0a1:2": "2;0;0 1;0a1:0 1a1:1",
		// Each final takes the steps of each start, this one the other's ones too.
		"3;0 1;1 2;0a2:0 1b0:0": "3;0 1;1 2;0a2:0 1a2:1 1b0:0 2a2:1 2b0:1",
		"4;0 1;2 3;0a2:1 1b3:1": "4;0 1;2 3;0a2:0 1b3:0 2a2:1 2b3:1 3a2:1 3b3:1",
		// By another letter, or to another state, there is none yet.
		"2;0;1;0a1:0 1b1:2": "2;0;1;0a1:0 1a1:1 1b1:0", "2;0;1;0a1:0 1a0:3": "2;0;1;0a1:0 1a0:0 1a1:1", "2;0;1;0a0:0 0a1:0 1a1:3": "2;0;1;0a0:0 0a1:0 1a0:1 1a1:0",
		// Steps from other states begin nothing anew.
		"3;0;2;0a1:0 1b2:3": "3;0;2;0a1:0 1b2:0 2a1:1", "2;1;1;0a0:3 0b1:2": "2;1;1;0a0:0 0b1:0",
		"1;;;": "1;;;", "1;0;0;": "1;0;0;", "1;0;;0a0:2": "1;0;;0a0:0", "1;;0;0b0:1": "1;;0;0b0:0", "2;1;0;0a1:1": "2;1;0;0a1:0", "4;0 1 2 3;0 1 2 3;": "4;0 1 2 3;0 1 2 3;",
	} {
		wantPowers(t, automatonOf(t, s), want)
	}
}

func TestPowersWithManySteps(t *testing.T) {
	full := automatonOf(t, fullPowers)
	got, ok := impl.PowerAutomaton(full)
	if want := plainPowers(full); len(got.Steps) != impl.MaxSteps || !sameAutomaton(got, want) || !ok {
		t.Errorf("PowerAutomaton has %d steps, %v", len(got.Steps), ok)
	}
	for _, s := range []string{overfullPowers, hugePowers} {
		a := automatonOf(t, s)
		got, ok = impl.PowerAutomaton(a)
		wantNoAutomaton(t, "PowerAutomaton("+s+")", got, ok)
		wantFinite(t, a, false, false)
		// Words have their factors all the same.
		for _, w := range plainWords(5) {
			split, _, _ := plainSplit(acceptedWords(a, 5), w)
			if w == "" {
				split = []string{}
			}
			wantSplit(t, a, w, split)
		}
	}
	// There may be as many steps as before if none is put in.
	wantPowers(t, automatonOf(t, "4;0;1;"+fullSteps), impl.FormatAutomaton(plainPowers(automatonOf(t, "4;0;1;"+fullSteps))))
}

func TestPowersOfManyAutomata(t *testing.T) {
	tooMany := 0
	for _, a := range append(append(differentAutomata(150), automataOfTwo()...), gradedAutomata(5)...) {
		want := plainPowers(a)
		got, ok := impl.PowerAutomaton(a)
		if len(want.Steps) > impl.MaxSteps {
			wantNoAutomaton(t, "PowerAutomaton("+impl.FormatAutomaton(a)+")", got, ok)
			tooMany++
			continue
		}
		if !sameAutomaton(got, want) || !ok {
			t.Fatalf("PowerAutomaton(%v) = %v, %v, want %v", a, got, ok, want)
		}
	}
	if tooMany < 20 {
		t.Errorf("only %d automata have powers with too many steps", tooMany)
	}
}

// A word that is not empty costs one less than its factors.
func TestCostsOfPowers(t *testing.T) {
	several := 0
	for _, a := range append(differentAutomata(40), gradedAutomata(40)...) {
		powers, ok := impl.PowerAutomaton(a)
		if !ok {
			continue
		}
		for _, w := range append(plainWords(6), "aababba", strings.Repeat("ab", 20), strings.Repeat("aab", 13), strings.Repeat("b", 40)) {
			c, count := impl.CostOf(powers, w), impl.FactorsOf(a, w)
			switch {
			case w == "":
				if c != impl.CostOf(a, w) && c != 0 || count != 0 {
					t.Fatalf("the empty word costs %d and has %d factors in %v", c, count, a)
				}
			case c == impl.Never || count == impl.Never:
				if c != count {
					t.Fatalf("%q costs %d in the powers of %v, and has %d factors", w, c, a, count)
				}
			case c != count-1:
				t.Fatalf("%q costs %d in the powers of %v, and has %d factors", w, c, a, count)
			}
			if count > 1 && count < impl.Never {
				several++
			}
		}
	}
	if several < 1000 {
		t.Errorf("only %d words have several factors", several)
	}
}

func TestFactorsOfSomeWords(t *testing.T) {
	for _, c := range []struct {
		text, word string
		want       []string
	}{
		{letterAutomaton, "", []string{}}, {letterAutomaton, "a", []string{"a"}}, {letterAutomaton, "aaa", []string{"a", "a", "a"}},
		{oddAutomaton, "aaa", []string{"aaa"}}, {allAutomaton, "abba", []string{"abba"}}, {exampleAutomaton, "aabab", []string{"aab", "ab"}},
		// Of several splits, the one with the shortest first factor, then the second one.
		{oddAutomaton, "aa", []string{"a", "a"}}, {oddAutomaton, "aaaa", []string{"a", "aaa"}}, {oddAutomaton, "aaaaaa", []string{"a", "aaaaa"}},
		{twoThreeAutomaton, "aaaa", []string{"aa", "aa"}}, {twoThreeAutomaton, "aaaaa", []string{"aa", "aaa"}}, {twoThreeAutomaton, "aaaaaa", []string{"aaa", "aaa"}}, {twoThreeAutomaton, "aaaaaaa", []string{"aa", "aa", "aaa"}}, {twoThreeAutomaton, "aaaaaaaa", []string{"aa", "aaa", "aaa"}},
		// A shorter first factor leaves a rest with more factors, or without any.
		{oddAutomaton, "aaaaa", []string{"aaaaa"}}, {twoThreeAutomaton, "aaaaaaaaa", []string{"aaa", "aaa", "aaa"}}, {crossedAutomaton, "ab", []string{"ab"}}, {crossedAutomaton, "abb", []string{"a", "bb"}}, {crossedAutomaton, "abbb", []string{"ab", "bb"}}, {crossedAutomaton, "aabb", []string{"a", "a", "bb"}}, {crossedAutomaton, "abab", []string{"ab", "ab"}},
		// The empty word is no factor, though it is accepted.
		{"2;0;0 1;0a1:0", "", []string{}}, {"2;0;0 1;0a1:0", "a", []string{"a"}}, {"2;0;0 1;0a1:0", "aa", []string{"a", "a"}}, {"2;0;0 1;0a1:0", "ab", nil}, {"2;0;0;0a1:0 1b0:0", "abab", []string{"abab"}}, {"2;0;0;0a1:0 1b0:0", "aba", nil},
		{"1;0;0;", "", []string{}}, {"1;0;0;", "a", nil}, {"1;0;0;0a0:0", "aaaa", []string{"aaaa"}}, {"1;0;0;0a0:0", "aaab", nil}, {"3;0 2;1 2;0a1:0", "aa", []string{"a", "a"}},
		// Words without factors, some of which have beginnings or ends with factors.
		{letterAutomaton, "b", nil}, {letterAutomaton, "ab", nil}, {letterAutomaton, "ba", nil}, {letterAutomaton, "aba", nil}, {twoThreeAutomaton, "a", nil}, {twoThreeAutomaton, "aab", nil}, {crossedAutomaton, "ba", nil}, {crossedAutomaton, "bbb", nil}, {crossedAutomaton, "aba", []string{"ab", "a"}},
		{exampleAutomaton, "ba", nil}, {"2;0;1;0a0:0", "aaaa", nil}, {"2;0;1;1a1:0", "a", nil},
		{"1;;;", "", []string{}}, {"1;;;", "a", nil}, {"1;;;0a0:0 0b0:0", "ab", nil}, {"1;0;;0a0:0", "a", nil}, {"1;;0;0a0:0", "a", nil}, {"1;;0;0a0:0", "", []string{}},
	} {
		wantSplit(t, automatonOf(t, c.text), c.word, c.want)
	}
}

// Costs do not matter, only whether a word is accepted.
func TestFactorsDoNotDependOnCosts(t *testing.T) {
	for _, a := range differentAutomata(15) {
		free := clonedAutomaton(a)
		for i := range free.Steps {
			free.Steps[i].Cost = 0
		}
		for _, w := range plainWords(5) {
			if got, want := impl.FactorsOf(a, w), impl.FactorsOf(free, w); got != want {
				t.Fatalf("FactorsOf(%v, %q) = %d, and %d without costs", a, w, got, want)
			}
		}
		powers, ok := impl.PowerAutomaton(a)
		others, alike := impl.PowerAutomaton(free)
		if !sameAutomaton(powers, others) || ok != alike {
			t.Fatalf("PowerAutomaton(%v) = %v, and %v without costs", a, powers, others)
		}
	}
}

func TestFactorsOfManyAutomata(t *testing.T) {
	several, none := 0, 0
	for at, a := range append(differentAutomata(40), gradedAutomata(40)...) {
		n := 5 + at%3
		accepted := acceptedWords(a, n)
		hardest, most := []string{""}, []int{0}
		for _, w := range plainWords(n) {
			split, least, count := plainSplit(accepted, w)
			if w == "" {
				split = []string{}
			}
			wantSplit(t, a, w, split)
			if count > 1 {
				several++
			}
			if least == impl.Never {
				none++
			}
			// Longer words begin with the hardest one of the shorter ones.
			for len(hardest) <= len(w) {
				hardest, most = append(hardest, hardest[len(hardest)-1]), append(most, most[len(most)-1])
			}
			if least < impl.Never && least > most[len(w)] {
				hardest[len(w)], most[len(w)] = w, least
			}
		}
		for letters := range n + 1 {
			wantHardest(t, a, letters, hardest[letters], most[letters])
		}
	}
	if several < 400 || none < 1000 {
		t.Errorf("%d words have several splits, and %d have none", several, none)
	}
}

func TestFactorsOfLongWords(t *testing.T) {
	letter, twoThree := automatonOf(t, letterAutomaton), automatonOf(t, twoThreeAutomaton)
	for _, n := range []int{39, 40} {
		wantSplit(t, letter, strings.Repeat("a", n), slices.Repeat([]string{"a"}, n))
		wantSplit(t, automatonOf(t, allAutomaton), strings.Repeat("b", n), []string{strings.Repeat("b", n)})
		wantSplit(t, letter, strings.Repeat("a", n-1)+"b", nil)
		wantSplit(t, letter, "b"+strings.Repeat("a", n-1), nil)
	}
	wantSplit(t, twoThree, strings.Repeat("a", 39), slices.Repeat([]string{"aaa"}, 13))
	wantSplit(t, twoThree, strings.Repeat("a", 40), append([]string{"aa", "aa"}, slices.Repeat([]string{"aaa"}, 12)...))
	wantSplit(t, automatonOf(t, oddAutomaton), strings.Repeat("a", 40), []string{"a", strings.Repeat("a", 39)})
	wantSplit(t, automatonOf(t, exampleAutomaton), strings.Repeat("aabb", 10), slices.Repeat([]string{"aabb"}, 10))
	wantSplit(t, automatonOf(t, "2;0;1;0a0:3 0a1:3 1a1:3"), strings.Repeat("a", 40), []string{strings.Repeat("a", 40)})
}

// Words with more than 40 letters may be split no more, and neither may texts that are no words.
func TestNoFactors(t *testing.T) {
	for _, s := range []string{letterAutomaton, oddAutomaton, allAutomaton, "1;0;0;", "1;;;", "1;0;0;0a0:0 0b0:0"} {
		a := automatonOf(t, s)
		for _, n := range []int{41, 42, 64, 80, 255, 999, 1000, 1001} {
			wantNoSplit(t, a, strings.Repeat("a", n))
			wantNoSplit(t, a, strings.Repeat("b", n-1)+"a")
		}
		for _, w := range append(noWords, "x", strings.Repeat("a", 39)+"x", strings.Repeat("a", 40)+"\n") {
			wantNoSplit(t, a, w)
		}
	}
}

func TestHardestWords(t *testing.T) {
	for _, c := range []struct {
		text string
		n    int
		word string
		most int
	}{
		{letterAutomaton, 0, "", 0}, {letterAutomaton, 1, "a", 1}, {letterAutomaton, 4, "aaaa", 4}, {letterAutomaton, 7, "aaaaaaa", 7}, {oddAutomaton, 1, "a", 1}, {oddAutomaton, 5, "aa", 2}, {oddAutomaton, 7, "aa", 2}, {allAutomaton, 4, "a", 1}, {allAutomaton, 7, "a", 1},
		{twoThreeAutomaton, 1, "", 0}, {twoThreeAutomaton, 2, "aa", 1}, {twoThreeAutomaton, 6, "aaaa", 2}, {twoThreeAutomaton, 7, "aaaaaaa", 3}, {crossedAutomaton, 2, "aa", 2}, {exampleAutomaton, 7, "abababa", 4},
		{"4;0 2;0 1 2;0a0:0 0b3:0 1a1:0 1a3:0 1b0:0 2a0:0 2a2:0 2b3:0 3b1:0", 7, "bbbb", 2}, {"4;3;2;1a2:0 2a3:0 3a0:0 3a1:0", 7, "aaaaaa", 3},
		// The empty word is the hardest one where no other one has factors.
		{"1;;;", 3, "", 0}, {"1;0;0;", 7, "", 0}, {"1;0;;0a0:0", 7, "", 0}, {"1;;0;0a0:0", 7, "", 0}, {"2;0;1;0a0:0 1b1:0", 7, "", 0}, {"2;0;0 1;0b1:0", 3, "bbb", 3}, {"1;0;0;0b0:1", 7, "b", 1},
	} {
		wantHardest(t, automatonOf(t, c.text), c.n, c.word, c.most)
	}
	for _, s := range []string{letterAutomaton, oddAutomaton, "1;;;", "1;0;0;"} {
		for _, n := range noShorts {
			wantNoHardest(t, automatonOf(t, s), n)
		}
	}
}

func TestFinitePowers(t *testing.T) {
	for s, want := range map[string]bool{
		letterAutomaton: false, exampleAutomaton: false, twoThreeAutomaton: false, crossedAutomaton: false, flipAutomaton: true,
		oddAutomaton: true, allAutomaton: true, lesserAutomaton: true, growingAutomaton: true, "4;3;2;1a2:0 2a3:0 3a0:0 3a1:0": true, "4;0 2;0 1 2;0a0:0 0b3:0 1a1:0 1a3:0 1b0:0 2a0:0 2a2:0 2b3:0 3b1:0": true,
		// That the empty word is accepted does not make a number enough.
		"1;0;0;": true, "1;;;": true, "1;0;0;0a0:3": true, "2;0;0 1;0a1:0": false, "2;0;0;0a1:0 1b0:3": true, "3;0 2;1 2;0a1:0": false,
		// Costs do not matter, neither those that grow nor those that do not.
		"2;0;1;0a1:0 1a1:1": true, "1;0;0;0a0:1 0b0:1": true, "2;0;1;0b1:3": false,
		"2;0;1;": true, "2;0;;0a1:0": true, "2;;1;0a1:0": true,
	} {
		wantFinite(t, automatonOf(t, s), want, true)
	}
}

func TestFinitePowersThatAreNotKnown(t *testing.T) {
	for at, s := range powersUnknown {
		a := automatonOf(t, s)
		if powers, ok := impl.PowerAutomaton(a); !ok || impl.VerdictOf(powers) != "unknown" || impl.VerdictOf(a) != "free" {
			t.Errorf("PowerAutomaton(%q) = %v, %v", s, powers, ok)
		}
		wantFinite(t, a, false, false)
		// Factors of short words are known all the same.
		if got, want := impl.MostFactors(a, 7), []int{2, 4, 7}[at]; got != want {
			t.Errorf("MostFactors(%q, 7) = %d, want %d", s, got, want)
		}
	}
	// Here only the elements of the automaton itself are too many.
	for s, want := range map[string]bool{
		tooManyElements[1]: true, tooManyElements[2]: true, "4;0 3;0 1;0b0:1 0b2:0 1b1:1 1b3:1 2a3:0 2b2:0 3a0:1 3b1:0": false,
	} {
		a := automatonOf(t, s)
		wantVerdict(t, a, "unknown")
		wantFinite(t, a, want, true)
	}
}

// Finite powers tell of all words, however long they are.
func TestPowersAreFiniteOrNot(t *testing.T) {
	const most = 50
	finite, infinite, unknown := 0, 0, 0
	for _, a := range append(differentAutomata(40), gradedAutomata(5)...) {
		powers, ok := impl.PowerAutomaton(a)
		if !ok {
			wantFinite(t, a, false, false)
			continue
		}
		is, known := impl.HasFinitePowers(a)
		if bounded, ok := impl.IsBounded(powers); is != bounded || known != ok {
			t.Fatalf("HasFinitePowers(%v) = %v, %v, and IsBounded of %v is %v, %v", a, is, known, powers, bounded, ok)
		}
		if !known {
			unknown++
			continue
		}
		greatest := plainGreatest(powers, most)
		if is != (greatest < most) {
			t.Fatalf("HasFinitePowers(%v) = %v, and some word has %d factors", a, is, greatest+1)
		}
		if count := impl.MostFactors(a, 6); is && count > greatest+1 {
			t.Fatalf("MostFactors(%v, 6) = %d, and no word has more than %d factors", a, count, greatest+1)
		}
		if is && greatest > 0 {
			finite++
		}
		if !is {
			infinite++
		}
	}
	if finite < 10 || infinite < 50 {
		t.Errorf("%d automata have finite powers of several factors, %d have none, and of %d this is not known", finite, infinite, unknown)
	}
}

func TestPowersOfInvalidAutomata(t *testing.T) {
	for _, a := range invalidAutomata(t) {
		got, ok := impl.PowerAutomaton(a)
		wantNoAutomaton(t, "PowerAutomaton of an invalid one", got, ok)
		wantFinite(t, a, false, false)
		for _, w := range []string{"", "a", "b", "ab", "x", strings.Repeat("a", 40), strings.Repeat("a", 41)} {
			wantNoSplit(t, a, w)
		}
		for _, n := range []int{math.MinInt, -1, 0, 1, 7, 8} {
			wantNoHardest(t, a, n)
		}
	}
}

// resultsOfPowers are what the functions return for an automaton, as texts.
func resultsOfPowers(a impl.Automaton) []string {
	powers, _ := impl.PowerAutomaton(a)
	finite, known := impl.HasFinitePowers(a)
	hardest, _ := impl.HardestWord(a, 4)
	split, _ := impl.SplitOf(a, strings.Repeat("aab", 13))
	return []string{
		impl.FormatAutomaton(powers), strconv.FormatBool(finite), strconv.FormatBool(known), hardest, strings.Join(split, " "),
		strconv.Itoa(impl.MostFactors(a, 4)), strconv.Itoa(impl.FactorsOf(a, strings.Repeat("ab", 20))),
	}
}

func TestPowersAreToldAlike(t *testing.T) {
	for _, s := range []string{lesserAutomaton, exampleAutomaton, crossedAutomaton, "3;0 1;1 2;0a1:0 0a2:1 0b0:0 1a2:3 1b0:1 2b1:0"} {
		a := automatonOf(t, s)
		wantAlike(t, 4, func() []string { return resultsOfPowers(a) })
	}
}

func TestArgumentsOfPowersAreLeftAlone(t *testing.T) {
	for _, a := range append(differentAutomata(10), invalidAutomata(t)...) {
		given := roomy(a)
		resultsOfPowers(given)
		wantUntouched(t, given, a)
	}
}

func TestResultsOfPowersShareNothing(t *testing.T) {
	for _, s := range []string{exampleAutomaton, lesserAutomaton, crossedAutomaton, "4;0 1 2;0 1 2;" + fullSteps, "1;0;0;"} {
		wantOwnMemory(t, "PowerAutomaton", func(from ...impl.Automaton) (impl.Automaton, bool) { return impl.PowerAutomaton(from[0]) }, s)
	}
	a := automatonOf(t, crossedAutomaton)
	first, _ := impl.SplitOf(a, "abbabb")
	second, _ := impl.SplitOf(a, "abbabb")
	clear(first[:cap(first)])
	overwrite(a)
	want := []string{"a", "bb", "a", "bb"}
	if third, ok := impl.SplitOf(automatonOf(t, crossedAutomaton), "abbabb"); !slices.Equal(second, want) || !slices.Equal(third, want) || !ok {
		t.Errorf("other results are %q and %q", second, third)
	}
}
