package tests

import (
	"math"
	"math/rand"
	"regexp"
	"slices"
	"sort"
	"strconv"
	"strings"
	"sync"
	"testing"

	"loop.example/distanceautomata/impl"
)

const exampleAutomaton = "2;0;1;0a0:0 0a1:1 1b1:0"

// fullSteps are the first 24 of all 32 possible steps of four states.
const fullSteps = "0a0:0 0a1:1 0a2:2 0a3:3 0b0:0 0b1:1 0b2:2 0b3:3 1a0:0 1a1:1 1a2:2 1a3:3 " +
	"1b0:0 1b1:1 1b2:2 1b3:3 2a0:0 2a1:1 2a2:2 2a3:3 2b0:0 2b1:1 2b2:2 2b3:3"

func automatonOf(t *testing.T, s string) impl.Automaton {
	t.Helper()
	a, ok := impl.ParseAutomaton(s)
	if !ok {
		t.Fatalf("ParseAutomaton(%q) = false", s)
	}
	return a
}

func wantAutomaton(t *testing.T, what string, got impl.Automaton, ok bool, want string) {
	t.Helper()
	if s := impl.FormatAutomaton(got); s != want || !ok {
		t.Errorf("%s = %q, %v, want %q", what, s, ok, want)
	}
}

func wantNoAutomaton(t *testing.T, what string, got impl.Automaton, ok bool) {
	t.Helper()
	if got.States != 0 || len(got.Starts) != 0 || len(got.Finals) != 0 || len(got.Steps) != 0 || ok {
		t.Errorf("%s = %v, %v, want none", what, got, ok)
	}
}

func sameAutomaton(a impl.Automaton, b impl.Automaton) bool {
	return a.States == b.States && slices.Equal(a.Starts, b.Starts) && slices.Equal(a.Finals, b.Finals) && slices.Equal(a.Steps, b.Steps)
}

func clonedAutomaton(a impl.Automaton) impl.Automaton {
	return impl.Automaton{States: a.States, Starts: slices.Clone(a.Starts), Finals: slices.Clone(a.Finals), Steps: slices.Clone(a.Steps)}
}

func stepOf(from int, letter string, to int, c int) impl.Step {
	return impl.Step{From: from, Letter: letter, To: to, Cost: c}
}

// allSteps are all possible steps in their order, at the cost 0.
func allSteps(states int) []impl.Step {
	var all []impl.Step
	for from := range states {
		for _, letter := range []string{"a", "b"} {
			for to := range states {
				all = append(all, impl.Step{From: from, Letter: letter, To: to})
			}
		}
	}
	return all
}

// chosen returns those states whose bits are set.
func chosen(states int, bits int) []int {
	var list []int
	for p := range states {
		if bits>>p&1 == 1 {
			list = append(list, p)
		}
	}
	return list
}

// someAutomata are the same ones in every run, from such with no step at all to such with as many as there may be.
func someAutomata(states int, count int) []impl.Automaton {
	source := rand.New(rand.NewSource(int64(states)))
	all := make([]impl.Automaton, count)
	for at := range all {
		a := impl.Automaton{States: states, Starts: chosen(states, source.Intn(1<<states)), Finals: chosen(states, source.Intn(1<<states))}
		often := source.Intn(5)
		for _, s := range allSteps(states) {
			if source.Intn(5) < often && len(a.Steps) < impl.MaxSteps {
				s.Cost = source.Intn(impl.MaxStep + 1)
				a.Steps = append(a.Steps, s)
			}
		}
		all[at] = a
	}
	return all
}

// automataOfTwo are all with two states, whose steps cost nothing.
func automataOfTwo() []impl.Automaton {
	steps := allSteps(2)
	var all []impl.Automaton
	for bits := range 1 << (4 + len(steps)) {
		a := impl.Automaton{States: 2, Starts: chosen(2, bits&3), Finals: chosen(2, bits>>2&3)}
		for at, s := range steps {
			if bits>>(4+at)&1 == 1 {
				a.Steps = append(a.Steps, s)
			}
		}
		all = append(all, a)
	}
	return all
}

// invalidAutomata are each but one change away from a valid one.
func invalidAutomata(t *testing.T) []impl.Automaton {
	t.Helper()
	var all []impl.Automaton
	change := func(text string, by func(a *impl.Automaton)) {
		a := automatonOf(t, text)
		by(&a)
		all = append(all, a)
	}
	all = append(all, impl.Automaton{})
	for _, n := range noSizes {
		change("1;;;", func(a *impl.Automaton) { a.States = n })
		change(exampleAutomaton, func(a *impl.Automaton) { a.States = n })
	}
	change(exampleAutomaton, func(a *impl.Automaton) { a.States = 1 })
	for _, p := range []int{math.MinInt, -1 << 32, -1, 2, 3, 4, 1 << 32, math.MaxInt} {
		change(exampleAutomaton, func(a *impl.Automaton) { a.Starts = []int{p} })
		change(exampleAutomaton, func(a *impl.Automaton) { a.Starts = []int{0, p} })
		change(exampleAutomaton, func(a *impl.Automaton) { a.Finals = []int{p} })
		change(exampleAutomaton, func(a *impl.Automaton) { a.Finals = []int{1, p} })
		change(exampleAutomaton, func(a *impl.Automaton) { a.Steps[0].From = p })
		change(exampleAutomaton, func(a *impl.Automaton) { a.Steps[2].From = p })
		change(exampleAutomaton, func(a *impl.Automaton) { a.Steps[0].To = p })
		change(exampleAutomaton, func(a *impl.Automaton) { a.Steps[2].To = p })
	}
	for _, list := range [][]int{{0, 0}, {1, 1}, {1, 0}, {0, 1, 1}, {0, 1, 0}, {0, 0, 1}, {0, 1, 2}, make([]int, 100)} {
		change(exampleAutomaton, func(a *impl.Automaton) { a.Starts = list })
		change(exampleAutomaton, func(a *impl.Automaton) { a.Finals = list })
	}
	for _, letter := range []string{"", "c", "A", "B", "aa", "ab", " a", "a ", "`", "0", ":", "\x00", "a\x00", "\xff", "á"} {
		change(exampleAutomaton, func(a *impl.Automaton) { a.Steps[0].Letter = letter })
		change("1;0;0;0a0:0", func(a *impl.Automaton) { a.Steps[0].Letter = letter })
	}
	for _, c := range []int{math.MinInt, -2, -1, 4, 5, 1 << 32, impl.Never, math.MaxInt} {
		change(exampleAutomaton, func(a *impl.Automaton) { a.Steps[0].Cost = c })
		change(exampleAutomaton, func(a *impl.Automaton) { a.Steps[2].Cost = c })
	}
	return append(all, automataWithStepsAmiss(t)...)
}

// automataWithStepsAmiss have steps that are the same, out of order, or too many.
func automataWithStepsAmiss(t *testing.T) []impl.Automaton {
	t.Helper()
	var all []impl.Automaton
	full := automatonOf(t, "4;0;3;"+fullSteps)
	for i := range full.Steps {
		twice := full.Steps[i]
		for c := range impl.MaxStep + 1 {
			twice.Cost = c
			a := clonedAutomaton(full)
			a.Steps = slices.Insert(a.Steps[:23], min(i+1, 23), twice)
			if i == 23 {
				a.Steps[22] = twice
			}
			all = append(all, a)
		}
		if i > 0 {
			b := clonedAutomaton(full)
			b.Steps[i-1], b.Steps[i] = b.Steps[i], b.Steps[i-1]
			all = append(all, b)
		}
	}
	more := clonedAutomaton(full)
	more.Steps = append(more.Steps, impl.Step{From: 3, Letter: "a", To: 0})
	most := clonedAutomaton(full)
	most.Steps = allSteps(4)
	return append(all, more, most)
}

var automatonText = regexp.MustCompile(`^([1-4]);((?:[0-3](?: [0-3])*)?);((?:[0-3](?: [0-3])*)?);((?:[0-3][ab][0-3]:[0-3](?: [0-3][ab][0-3]:[0-3])*)?)$`)

// plainAutomatonText reports whether s is the text of an automaton; as all its numbers have one digit, texts in ascending order are what they tell in order.
func plainAutomatonText(s string) bool {
	parts := automatonText.FindStringSubmatch(s)
	if parts == nil {
		return false
	}
	for _, p := range regexp.MustCompile(`[0-9]+`).FindAllString(parts[2]+" "+parts[3], -1) {
		if p >= parts[1] {
			return false
		}
	}
	steps := strings.Fields(parts[4])
	ways := make([]string, len(steps))
	for i, step := range steps {
		ways[i] = step[:3]
		if step[:1] >= parts[1] || step[2:3] >= parts[1] {
			return false
		}
	}
	return len(steps) <= 24 && plainAscending(strings.Fields(parts[2])) && plainAscending(strings.Fields(parts[3])) && plainAscending(ways)
}

func plainAscending(list []string) bool {
	return sort.StringsAreSorted(list) && len(slices.Compact(slices.Clone(list))) == len(list)
}

// plainText is the text of an automaton, field by field.
func plainText(a impl.Automaton) string {
	s := strconv.Itoa(a.States)
	for _, list := range [][]int{a.Starts, a.Finals} {
		s += ";"
		for i, p := range list {
			if i > 0 {
				s += " "
			}
			s += strconv.Itoa(p)
		}
	}
	s += ";"
	for i, step := range a.Steps {
		if i > 0 {
			s += " "
		}
		s += strconv.Itoa(step.From) + step.Letter + strconv.Itoa(step.To) + ":" + strconv.Itoa(step.Cost)
	}
	return s
}

// plainUseful goes along all ways of at most so many steps as there are states.
func plainUseful(a impl.Automaton) []int {
	var leads func(p int, to []int, steps int) bool
	leads = func(p int, to []int, steps int) bool {
		if slices.Contains(to, p) {
			return true
		}
		return steps > 0 && slices.ContainsFunc(a.Steps, func(s impl.Step) bool { return s.From == p && leads(s.To, to, steps-1) })
	}
	var useful []int
	for p := range a.States {
		fromStart := slices.ContainsFunc(a.Starts, func(start int) bool { return leads(start, []int{p}, a.States) })
		if fromStart && leads(p, a.Finals, a.States) {
			useful = append(useful, p)
		}
	}
	return useful
}

func TestLimitsOfAutomata(t *testing.T) {
	if impl.MaxSteps != 24 || impl.MaxStep != 3 {
		t.Errorf("MaxSteps = %d, MaxStep = %d", impl.MaxSteps, impl.MaxStep)
	}
}

func TestAutomatonValid(t *testing.T) {
	for _, a := range []impl.Automaton{
		{States: 1}, {States: 4}, {States: 1, Starts: []int{0}}, {States: 1, Finals: []int{0}}, {States: 1, Starts: []int{}, Finals: []int{}, Steps: []impl.Step{}},
		{States: 4, Starts: []int{0, 1, 2, 3}, Finals: []int{3}}, {States: 4, Starts: []int{3}, Finals: []int{0, 1, 2, 3}},
		{States: 2, Steps: []impl.Step{stepOf(0, "b", 1, 3), stepOf(1, "a", 0, 0)}}, {States: 2, Steps: []impl.Step{stepOf(0, "a", 1, 3), stepOf(0, "b", 0, 0)}},
		{States: 4, Steps: allSteps(4)[:24]}, {States: 4, Steps: allSteps(4)[8:]}, {States: 3, Steps: allSteps(3)},
	} {
		if !impl.AutomatonValid(a) {
			t.Errorf("AutomatonValid(%v) = false", a)
		}
	}
	for _, a := range invalidAutomata(t) {
		if impl.AutomatonValid(a) {
			t.Errorf("AutomatonValid(%v) = true", a)
		}
	}
}

func TestStepsOfEachCost(t *testing.T) {
	for c := -2; c <= 6; c++ {
		a := impl.Automaton{States: 1, Steps: []impl.Step{stepOf(0, "a", 0, c)}}
		if got := impl.AutomatonValid(a); got != (c >= 0 && c <= 3) {
			t.Errorf("AutomatonValid(%v) = %v", a, got)
		}
	}
}

func TestFunctionsOfInvalidAutomata(t *testing.T) {
	for _, a := range invalidAutomata(t) {
		if s := impl.FormatAutomaton(a); s != "" {
			t.Errorf("FormatAutomaton(%v) = %q", a, s)
		}
		if s := impl.LettersOf(a); s != "" {
			t.Errorf("LettersOf(%v) = %q", a, s)
		}
		for _, letter := range []string{"a", "b", "c", ""} {
			m, ok := impl.StepMatrix(a, letter)
			wantNoMatrix(t, "StepMatrix of an invalid automaton", m, ok)
		}
		b, ok := impl.ReverseAutomaton(a)
		wantNoAutomaton(t, "ReverseAutomaton of an invalid one", b, ok)
		b, ok = impl.FreeAutomaton(a)
		wantNoAutomaton(t, "FreeAutomaton of an invalid one", b, ok)
		if list := impl.UsefulOf(a); len(list) != 0 {
			t.Errorf("UsefulOf(%v) = %v", a, list)
		}
	}
}

func TestFormatAndParseAutomaton(t *testing.T) {
	for s, want := range map[string]impl.Automaton{
		"1;;;":         {States: 1},
		"4;;;":         {States: 4},
		"1;0;;":        {States: 1, Starts: []int{0}},
		"1;;0;":        {States: 1, Finals: []int{0}},
		"1;;;0a0:0":    {States: 1, Steps: []impl.Step{stepOf(0, "a", 0, 0)}},
		"3;0 1;1 2;":   {States: 3, Starts: []int{0, 1}, Finals: []int{1, 2}},
		"2;1;;0b1:3":   {States: 2, Starts: []int{1}, Steps: []impl.Step{stepOf(0, "b", 1, 3)}},
		"2;;0;1a0:2":   {States: 2, Finals: []int{0}, Steps: []impl.Step{stepOf(1, "a", 0, 2)}},
		"4;0 1 2 3;3;": {States: 4, Starts: []int{0, 1, 2, 3}, Finals: []int{3}},
		"1;0;0;0a0:1 0b0:0": {States: 1, Starts: []int{0}, Finals: []int{0},
			Steps: []impl.Step{stepOf(0, "a", 0, 1), stepOf(0, "b", 0, 0)}},
		exampleAutomaton: {States: 2, Starts: []int{0}, Finals: []int{1},
			Steps: []impl.Step{stepOf(0, "a", 0, 0), stepOf(0, "a", 1, 1), stepOf(1, "b", 1, 0)}},
	} {
		if got := impl.FormatAutomaton(want); got != s {
			t.Errorf("FormatAutomaton(%v) = %q, want %q", want, got, s)
		}
		if got, ok := impl.ParseAutomaton(s); !sameAutomaton(got, want) || !ok {
			t.Errorf("ParseAutomaton(%q) = %v, %v, want %v", s, got, ok, want)
		}
	}
}

func TestFormatAndParseManyAutomata(t *testing.T) {
	for states := 1; states <= impl.MaxStates; states++ {
		for _, a := range someAutomata(states, 300) {
			s := impl.FormatAutomaton(a)
			if s != plainText(a) || !plainAutomatonText(s) {
				t.Fatalf("FormatAutomaton(%v) = %q", a, s)
			}
			if b, ok := impl.ParseAutomaton(s); !sameAutomaton(a, b) || !ok {
				t.Fatalf("ParseAutomaton(%q) = %v, %v", s, b, ok)
			}
		}
	}
}

func checkParseAutomaton(t *testing.T, s string) {
	t.Helper()
	a, ok := impl.ParseAutomaton(s)
	if ok != plainAutomatonText(s) {
		t.Errorf("ParseAutomaton(%q) = %v, %v", s, a, ok)
	}
	if !ok {
		wantNoAutomaton(t, "ParseAutomaton", a, ok)
	}
	if ok && impl.FormatAutomaton(a) != s {
		t.Errorf("FormatAutomaton(%v) = %q, want %q", a, impl.FormatAutomaton(a), s)
	}
}

func TestParseAutomatonOfOtherTexts(t *testing.T) {
	for _, s := range []string{
		"", ";", ";;", ";;;", ";;;;", " ", "1", "1;", "1;;", "1;;;;", "1;;;;;", "0;;;", "5;;;", "9;;;", "10;;;", "-1;;;", "-;;;", "+1;;;", "01;;;", " 1;;;", "1 ;;;", "1; ;;",
		"1;;;\n", "\n1;;;", "1;;;\x00", "1;;; ", "1;-;;", "1;;-;", "1;00;;", "1;0 ;;", "1; 0;;", "2;0  1;;", "2;0,1;;", "2;0 1 ;;", "2;1 0;;", "2;0 0;;", "2;;1 0;", "2;;1 1;",
		"2;2;;", "2;;2;", "2;0 2;;", "2;1000000;;", "2;18446744073709551616;;", "18446744073709551617;;;", "2;;;0a2:0", "2;;;2a0:0", "2;;;0a0:4", "2;;;0a0:-1", "2;;;0a0:-",
		"2;;;0a0", "2;;;0a0:", "2;;;0a:0", "2;;;a0:0", "2;;;00:0", "2;;;0a00:0", "2;;;00a0:0", "2;;;0a0:00", "2;;;0a0:03", "2;;;0a0:0;", "2;;;0A0:0", "2;;;0c0:0", "2;;;0aa0:0",
		"2;;;0a0 :0", "2;;;0a0: 0", "2;;;0 a0:0", "2;;; 0a0:0", "2;;;0a0:0 ", "2;;;0a0:0  0a1:0", "2;;;0a0:00a1:0", "2;;;0a0:0;0a1:0", "2;;;0a0:0,0a1:0", "2;;;0a0:0 0a0:0",
		"2;;;0a0:0 0a0:1", "2;;;0a0:1 0a0:0", "2;;;0a1:0 0a0:0", "2;;;0b0:0 0a1:0", "2;;;1a0:0 0b1:0", "2;;;0a0:0 0b0:0 0a0:0", "2;0;1", "2;0;1;0a0:0 ;", "2;0;1;;0a0:0",
		"4;0;3;" + fullSteps + " 3a0:0", "4;0;3;" + fullSteps + " 3a0:0 3a1:0", "3;0;2;" + fullSteps, "４;;;", "1;0;0;0a0:0\xff", strings.Repeat("0 ", 100000),
		"1;" + strings.Repeat("0 ", 100000) + "0;;", "1;0;0;" + strings.Repeat("0a0:0 ", 100000) + "0a0:0", strings.Repeat(";", 100000), strings.Repeat("1", 100000),
	} {
		if plainAutomatonText(s) {
			t.Fatalf("%.100q is the text of an automaton", s)
		}
		checkParseAutomaton(t, s)
	}
}

func TestParseAutomatonOfAllShortTexts(t *testing.T) {
	var check func(s string)
	check = func(s string) {
		checkParseAutomaton(t, s)
		if len(s) == 6 {
			return
		}
		for _, letter := range "0124;a: " {
			check(s + string(letter))
		}
	}
	check("")
}

func TestParseAutomatonOfTextsAmiss(t *testing.T) {
	texts := []string{exampleAutomaton, "4;0 2 3;1 2 3;0a0:0 0a1:1 1b1:0 2a2:1 2b2:0 3a3:0 3b3:1", "4;0;3;" + fullSteps, "1;;0;0a0:3 0b0:2", "3;0 1 2;;1a2:0"}
	for _, s := range texts {
		checkParseAutomaton(t, s)
		for at := range len(s) + 1 {
			checkParseAutomaton(t, s[:at])
			checkParseAutomaton(t, s[at:])
			for _, by := range "012345;ab: -c" {
				checkParseAutomaton(t, s[:at]+string(by)+s[at:])
				if at < len(s) {
					checkParseAutomaton(t, s[:at]+string(by)+s[at+1:])
				}
			}
			if at < len(s) {
				checkParseAutomaton(t, s[:at]+s[at+1:])
			}
		}
	}
}

func TestLettersOf(t *testing.T) {
	for s, want := range map[string]string{
		"1;;;": "", "4;0 1;2 3;": "", "1;0;0;0a0:0": "a", "1;;;0b0:3": "b", "1;0;0;0a0:1 0b0:0": "ab", "2;0;1;0b1:0 1a0:0": "ab",
		"2;0;1;0a0:0 0a1:0 1a0:0 1a1:0": "a", "2;0;1;0b0:0 0b1:0 1b0:0 1b1:0": "b", "4;0;3;" + fullSteps: "ab", exampleAutomaton: "ab",
	} {
		if got := impl.LettersOf(automatonOf(t, s)); got != want {
			t.Errorf("LettersOf(%q) = %q, want %q", s, got, want)
		}
	}
}

func TestStepMatrix(t *testing.T) {
	for _, c := range []struct{ text, letter, want string }{
		{exampleAutomaton, "a", "0 1/- -"}, {exampleAutomaton, "b", "- -/- 0"}, {"1;;;", "a", "-"}, {"1;;;", "b", "-"}, {"1;0;0;0a0:3", "a", "3"}, {"1;0;0;0a0:3", "b", "-"},
		{"3;;;", "a", "- - -/- - -/- - -"}, {"4;0;3;" + fullSteps, "a", "0 1 2 3/0 1 2 3/0 1 2 3/- - - -"}, {"2;;;0b1:2 1b0:1", "b", "- 2/1 -"},
	} {
		m, ok := impl.StepMatrix(automatonOf(t, c.text), c.letter)
		wantMatrix(t, "StepMatrix("+c.text+", "+c.letter+")", m, ok, c.want)
	}
}

func TestStepMatrixOfManyAutomata(t *testing.T) {
	for states := 1; states <= impl.MaxStates; states++ {
		for _, a := range someAutomata(states, 200) {
			for _, letter := range []string{"a", "b"} {
				want := impl.Matrix{Size: states, Cells: slices.Repeat([]int{impl.Never}, states*states)}
				for _, s := range a.Steps {
					if s.Letter == letter {
						want.Cells[s.From*states+s.To] = s.Cost
					}
				}
				if m, ok := impl.StepMatrix(a, letter); !impl.SameMatrix(m, want) || !ok {
					t.Fatalf("StepMatrix(%v, %q) = %v, %v, want %v", a, letter, m, ok, want)
				}
			}
		}
	}
}

func TestStepMatrixOfOtherLetters(t *testing.T) {
	for _, letter := range []string{"", "c", "A", "B", "aa", "ab", "ba", " ", "a ", " a", "\x00", "a\x00", "\xff", "0", ":", "á", strings.Repeat("a", 100000)} {
		for _, s := range []string{exampleAutomaton, "1;;;"} {
			m, ok := impl.StepMatrix(automatonOf(t, s), letter)
			wantNoMatrix(t, "StepMatrix("+s+")", m, ok)
		}
	}
}

func TestReverseAutomaton(t *testing.T) {
	for s, want := range map[string]string{
		"1;;;": "1;;;", "1;0;;": "1;;0;", "1;;0;": "1;0;;", "3;0 1;2;": "3;2;0 1;", "2;;0 1;0a1:2": "2;0 1;;1a0:2", "1;0;0;0a0:1 0b0:3": "1;0;0;0a0:1 0b0:3",
		exampleAutomaton:                  "2;1;0;0a0:0 1a0:1 1b1:0",
		"2;0;1;0a1:1 1a0:2":               "2;1;0;0a1:2 1a0:1",
		"2;0;1;0a1:1 0b1:2 1a0:3":         "2;1;0;0a1:3 1a0:1 1b0:2",
		"4;0;3;0a3:1 1a2:2 2a1:3 3b0:0":   "4;3;0;0b3:0 1a2:3 2a1:2 3a0:1",
		"3;0;2;0b2:3 1a0:1 1b0:2 2a0:0":   "3;2;0;0a1:1 0a2:0 0b1:2 2b0:3",
		"3;0;2;0a2:0 0b2:0 1a2:1 2a2:2":   "3;2;0;2a0:0 2a1:1 2a2:2 2b0:0",
		"2;0 1;;0b1:0 1a1:1":              "2;;0 1;1a1:1 1b0:0",
		"4;0 3;1 2;0a1:0 0a2:0 3a1:1":     "4;1 2;0 3;1a0:0 1a3:1 2a0:0",
		"2;0;1;0a0:0 0b0:1 1a1:2 1b1:3":   "2;1;0;0a0:0 0b0:1 1a1:2 1b1:3",
		"4;3;0;0a1:3 1a2:3 2b3:3 3b0:3":   "4;0;3;0b3:3 1a0:3 2a1:3 3b2:3",
		"4;;;0a3:0 0b3:1 1a3:2 1b3:3":     "4;;;3a0:0 3a1:2 3b0:1 3b1:3",
		"3;1;1;0a1:1 0b1:1 1a1:0 2a1:2":   "3;1;1;1a0:1 1a1:0 1a2:2 1b0:1",
		"2;1;1;0a0:1 0a1:2 1a0:3 1a1:0":   "2;1;1;0a0:1 0a1:3 1a0:2 1a1:0",
		"3;0;0;0a1:1 1b2:1 2a0:1 2b0:2":   "3;0;0;0a2:1 0b2:2 1a0:1 2b1:1",
		"3;0 1 2;0;0b0:0 1b0:0 2b0:0":     "3;0;0 1 2;0b0:0 0b1:0 0b2:0",
		"2;0;0 1;0a1:0 0b1:0 1a0:0 1b0:3": "2;0 1;0;0a1:0 0b1:3 1a0:0 1b0:0",
	} {
		b, ok := impl.ReverseAutomaton(automatonOf(t, s))
		wantAutomaton(t, "ReverseAutomaton("+s+")", b, ok, want)
	}
}

func TestReverseAutomatonGoesBack(t *testing.T) {
	for states := 1; states <= impl.MaxStates; states++ {
		for _, a := range someAutomata(states, 200) {
			b, ok := impl.ReverseAutomaton(a)
			if !ok || !impl.AutomatonValid(b) || b.States != states || !slices.Equal(b.Starts, a.Finals) || !slices.Equal(b.Finals, a.Starts) {
				t.Fatalf("ReverseAutomaton(%v) = %v, %v", a, b, ok)
			}
			for _, letter := range []string{"a", "b"} {
				there, _ := impl.StepMatrix(a, letter)
				back, _ := impl.StepMatrix(b, letter)
				if turned, _ := impl.TurnMatrix(there); !impl.SameMatrix(back, turned) {
					t.Fatalf("ReverseAutomaton(%v) = %v", a, b)
				}
			}
			if c, ok := impl.ReverseAutomaton(b); !sameAutomaton(a, c) || !ok {
				t.Fatalf("ReverseAutomaton twice of %v = %v, %v", a, c, ok)
			}
		}
	}
}

func TestUsefulOf(t *testing.T) {
	for s, want := range map[string][]int{
		"1;;;": nil, "1;0;;": nil, "1;;0;": nil, "1;0;0;": {0}, "4;0 1 2 3;0 1 2 3;": {0, 1, 2, 3}, "4;0 2;2 3;": {2}, exampleAutomaton: {0, 1},
		"2;0;1;": nil, "2;0;1;1a0:0": nil, "2;0;1;0b1:3": {0, 1}, "2;0 1;1;0a0:0": {1}, "3;1;1;0a1:0 1a2:0": {1}, "3;1;1;0a1:0 1a2:0 2a0:0": {0, 1, 2},
		"3;;2;0a1:0 1a2:0": nil, "3;0;;0a1:0 1a2:0": nil, "4;0;2;0a1:0 1a2:0 1b3:0 3a3:0": {0, 1, 2}, "4;0;2;0a1:0 1a2:0 1b3:0 3a1:0": {0, 1, 2, 3},
		"4;3;0;1a0:3 2b1:3 3a2:3": {0, 1, 2, 3}, "4;0;3;0a1:0 1b2:0 2a3:0": {0, 1, 2, 3}, "4;0;3;0a1:0 2a3:0": nil, "4;0;0;0a1:0 1a2:0 2a3:0 3a1:0": {0},
		"4;3;3;0a3:0 1a3:0 2a3:0": {3}, "4;1;3;0a1:0 1a1:0 1a3:2 2b3:0 3b2:0": {1, 2, 3}, "3;0;2;0a2:0 1a1:0 1b2:0": {0, 2}, "3;0;2;0a1:0 0a2:0 1a1:0": {0, 2},
	} {
		if got := impl.UsefulOf(automatonOf(t, s)); !slices.Equal(got, want) {
			t.Errorf("UsefulOf(%q) = %v, want %v", s, got, want)
		}
	}
}

func TestUsefulOfAllAutomataOfTwo(t *testing.T) {
	for _, a := range automataOfTwo() {
		if got, want := impl.UsefulOf(a), plainUseful(a); !slices.Equal(got, want) {
			t.Errorf("UsefulOf(%v) = %v, want %v", a, got, want)
		}
	}
}

func TestUsefulOfManyAutomata(t *testing.T) {
	for states := 1; states <= impl.MaxStates; states++ {
		for _, a := range someAutomata(states, 400) {
			want := plainUseful(a)
			if got := impl.UsefulOf(a); !slices.Equal(got, want) {
				t.Errorf("UsefulOf(%v) = %v, want %v", a, got, want)
			}
			if b, _ := impl.ReverseAutomaton(a); !slices.Equal(impl.UsefulOf(b), want) {
				t.Errorf("UsefulOf(%v) = %v, want %v", b, impl.UsefulOf(b), want)
			}
		}
	}
}

func TestFreeAutomaton(t *testing.T) {
	for s, want := range map[string]string{
		"1;;;": "1;;;", "2;0;;": "2;0;;", "2;;0 1;": "2;;0 1;", "2;0;1;0a0:1 0a1:2 1a0:3": "2;0;1;", "2;0 1;1;0a0:0 1b0:0": "2;0 1;1;0a0:0 1b0:0",
		exampleAutomaton: "2;0;1;0a0:0 1b1:0", "4;0;3;" + fullSteps: "4;0;3;0a0:0 0b0:0 1a0:0 1b0:0 2a0:0 2b0:0", "1;0;0;0a0:0 0b0:1": "1;0;0;0a0:0",
	} {
		b, ok := impl.FreeAutomaton(automatonOf(t, s))
		wantAutomaton(t, "FreeAutomaton("+s+")", b, ok, want)
	}
}

func TestFreeAutomatonOfManyAutomata(t *testing.T) {
	for states := 1; states <= impl.MaxStates; states++ {
		for _, a := range someAutomata(states, 200) {
			want := clonedAutomaton(a)
			want.Steps = slices.DeleteFunc(want.Steps, func(s impl.Step) bool { return s.Cost > 0 })
			if b, ok := impl.FreeAutomaton(a); !sameAutomaton(b, want) || !ok {
				t.Fatalf("FreeAutomaton(%v) = %v, %v, want %v", a, b, ok, want)
			}
		}
	}
}

// resultsOfAutomaton are what the functions that take an automaton return, as texts.
func resultsOfAutomaton(a impl.Automaton) []string {
	reverse, _ := impl.ReverseAutomaton(a)
	free, _ := impl.FreeAutomaton(a)
	m, _ := impl.StepMatrix(a, "a")
	useful := impl.Automaton{States: impl.MaxStates, Starts: impl.UsefulOf(a)}
	return []string{
		impl.FormatAutomaton(a), impl.LettersOf(a), impl.FormatMatrix(m),
		impl.FormatAutomaton(reverse), impl.FormatAutomaton(free), impl.FormatAutomaton(useful),
	}
}

// wantAlike calls functions often and at once, as neither the order of a map nor another call may show in their results.
func wantAlike(t *testing.T, times int, results func() []string) {
	t.Helper()
	want := results()
	var workers sync.WaitGroup
	for range 8 {
		workers.Go(func() {
			for range times {
				if got := results(); !slices.Equal(got, want) {
					t.Errorf("the functions return %q, then %q", want, got)
				}
			}
		})
	}
	workers.Wait()
}

func TestAutomataAreToldAlike(t *testing.T) {
	a := automatonOf(t, "4;0;3;"+fullSteps)
	wantAlike(t, 50, func() []string { return resultsOfAutomaton(a) })
}

// roomy is an automaton with room behind the ends of its lists, which shows whether something is put there.
func roomy(a impl.Automaton) impl.Automaton {
	return impl.Automaton{
		States: a.States,
		Starts: append(slices.Clone(a.Starts), 7, 7)[:len(a.Starts)],
		Finals: append(slices.Clone(a.Finals), 7, 7)[:len(a.Finals)],
		Steps:  append(slices.Clone(a.Steps), impl.Step{Cost: 7}, impl.Step{Cost: 7})[:len(a.Steps)],
	}
}

// wantUntouched checks that an automaton made by roomy is as it was, its room included.
func wantUntouched(t *testing.T, given impl.Automaton, before impl.Automaton) {
	t.Helper()
	after := impl.Step{Cost: 7}
	starts, finals, steps := given.Starts[:len(before.Starts)+2], given.Finals[:len(before.Finals)+2], given.Steps[:len(before.Steps)+2]
	if !sameAutomaton(given, before) || starts[len(before.Starts)] != 7 || finals[len(before.Finals)] != 7 || steps[len(before.Steps)] != after {
		t.Errorf("%v has become %v", before, given)
	}
}

func TestAutomataAreLeftAlone(t *testing.T) {
	for _, a := range append(someAutomata(4, 50), invalidAutomata(t)...) {
		given := roomy(a)
		impl.AutomatonValid(given)
		resultsOfAutomaton(given)
		wantUntouched(t, given, a)
	}
}

// overwrite changes all that the lists of an automaton reach, their room included.
func overwrite(a impl.Automaton) {
	for _, list := range [][]int{a.Starts, a.Finals} {
		list = list[:cap(list)]
		for i := range list {
			list[i] = 9
		}
	}
	steps := a.Steps[:cap(a.Steps)]
	for i := range steps {
		steps[i] = impl.Step{From: 9, Letter: "z", To: 9, Cost: 9}
	}
}

// wantOwnMemory writes over a result, over what it was made from, and over one list of another result.
func wantOwnMemory(t *testing.T, what string, maker func(from ...impl.Automaton) (impl.Automaton, bool), texts ...string) {
	t.Helper()
	from := make([]impl.Automaton, len(texts))
	for i, s := range texts {
		from[i] = automatonOf(t, s)
	}
	first, _ := maker(from...)
	second, ok := maker(from...)
	want := impl.FormatAutomaton(second)
	overwrite(first)
	for i, s := range texts {
		wantAutomaton(t, "an argument of "+what, from[i], ok, s)
	}
	wantAutomaton(t, "another result of "+what, second, ok, want)
	again, ok := maker(from...)
	wantAutomaton(t, "the next result of "+what, again, ok, want)
	for _, a := range from {
		overwrite(a)
	}
	wantAutomaton(t, "a result of "+what, second, ok, want)
	starts := second.Starts[:cap(second.Starts)]
	for i := range starts {
		starts[i] = 9
	}
	if slices.Contains(second.Finals[:cap(second.Finals)], 9) {
		t.Errorf("the lists of a result of %s share memory", what)
	}
}

func TestAutomataShareNothing(t *testing.T) {
	for _, s := range []string{"4;0 1 2;1 2 3;" + fullSteps, "1;0;0;0a0:0 0b0:0", "2;0 1;0 1;0a0:0 1b1:0", exampleAutomaton} {
		for name, maker := range map[string]func(a impl.Automaton) (impl.Automaton, bool){
			"ReverseAutomaton": impl.ReverseAutomaton, "FreeAutomaton": impl.FreeAutomaton,
			"ParseAutomaton": func(impl.Automaton) (impl.Automaton, bool) { return impl.ParseAutomaton(s) },
		} {
			wantOwnMemory(t, name, func(from ...impl.Automaton) (impl.Automaton, bool) { return maker(from[0]) }, s)
		}
	}
}

func TestListsAndMatricesOfAutomataShareNothing(t *testing.T) {
	a := automatonOf(t, "4;0 1 2 3;0 1 2 3;"+fullSteps)
	first, second := impl.UsefulOf(a), impl.UsefulOf(a)
	m, _ := impl.StepMatrix(a, "a")
	n, _ := impl.StepMatrix(a, "a")
	want := impl.FormatMatrix(n)
	for _, list := range [][]int{first, m.Cells} {
		list = list[:cap(list)]
		for i := range list {
			list[i] = 9
		}
	}
	if !slices.Equal(second, []int{0, 1, 2, 3}) || impl.FormatMatrix(n) != want || impl.FormatAutomaton(a) != "4;0 1 2 3;0 1 2 3;"+fullSteps {
		t.Errorf("a result shares memory: %v, %v, %v", second, n, a)
	}
	overwrite(a)
	if !slices.Equal(second, []int{0, 1, 2, 3}) || impl.FormatMatrix(n) != want {
		t.Errorf("a result shares memory with its argument: %v, %v", second, n)
	}
}
