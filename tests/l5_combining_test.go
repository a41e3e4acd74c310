package tests

import (
	"cmp"
	"math"
	"slices"
	"strings"
	"testing"

	"loop.example/distanceautomata/impl"
)

// A combiner makes an automaton of two.
type combiner struct {
	name  string
	by    func(impl.Automaton, impl.Automaton) (impl.Automaton, bool)
	plain func(impl.Automaton, impl.Automaton) impl.Automaton
}

// A changer makes an automaton of one.
type changer struct {
	name string
	by   func(impl.Automaton) (impl.Automaton, bool)
}

func combiners() []combiner {
	return []combiner{{"MinAutomaton", impl.MinAutomaton, plainMin}, {"SumAutomaton", impl.SumAutomaton, plainSum}, {"ChainAutomaton", impl.ChainAutomaton, plainChain}}
}

// changers scale by all numbers that there may be.
func changers() []changer {
	all := []changer{{"SwapLetters", impl.SwapLetters}, {"TrimAutomaton", impl.TrimAutomaton}}
	for n := range impl.MaxStep + 1 {
		all = append(all, changer{"ScaleAutomaton", func(a impl.Automaton) (impl.Automaton, bool) { return impl.ScaleAutomaton(a, n) }})
	}
	return all
}

// shifted are the states numbered on behind others.
func shifted(list []int, by int) []int {
	var all []int
	for _, p := range list {
		all = append(all, p+by)
	}
	return all
}

func shiftedSteps(steps []impl.Step, by int) []impl.Step {
	var all []impl.Step
	for _, s := range steps {
		all = append(all, stepOf(s.From+by, s.Letter, s.To+by, s.Cost))
	}
	return all
}

// inOrder puts the cheapest one of several steps first and leaves out the others.
func inOrder(steps []impl.Step) []impl.Step {
	slices.SortFunc(steps, func(s impl.Step, t impl.Step) int {
		return cmp.Or(s.From-t.From, strings.Compare(s.Letter, t.Letter), s.To-t.To, s.Cost-t.Cost)
	})
	return slices.CompactFunc(steps, func(s impl.Step, t impl.Step) bool {
		return s.From == t.From && s.Letter == t.Letter && s.To == t.To
	})
}

// meets reports whether the empty word is accepted.
func meets(a impl.Automaton) bool {
	return slices.ContainsFunc(a.Starts, func(p int) bool { return slices.Contains(a.Finals, p) })
}

// plainMin is what MinAutomaton would return, valid or not, as are plainSum and plainChain.
func plainMin(a impl.Automaton, b impl.Automaton) impl.Automaton {
	return impl.Automaton{
		States: a.States + b.States,
		Starts: slices.Concat(a.Starts, shifted(b.Starts, a.States)),
		Finals: slices.Concat(a.Finals, shifted(b.Finals, a.States)),
		Steps:  slices.Concat(a.Steps, shiftedSteps(b.Steps, a.States)),
	}
}

func plainSum(a impl.Automaton, b impl.Automaton) impl.Automaton {
	sum := impl.Automaton{States: a.States * b.States}
	for p := range a.States {
		for q := range b.States {
			if slices.Contains(a.Starts, p) && slices.Contains(b.Starts, q) {
				sum.Starts = append(sum.Starts, p*b.States+q)
			}
			if slices.Contains(a.Finals, p) && slices.Contains(b.Finals, q) {
				sum.Finals = append(sum.Finals, p*b.States+q)
			}
		}
	}
	for _, s := range a.Steps {
		for _, u := range b.Steps {
			if s.Letter == u.Letter {
				sum.Steps = append(sum.Steps, stepOf(s.From*b.States+u.From, s.Letter, s.To*b.States+u.To, s.Cost+u.Cost))
			}
		}
	}
	sum.Steps = inOrder(sum.Steps)
	return sum
}

func plainChain(a impl.Automaton, b impl.Automaton) impl.Automaton {
	c := plainMin(a, b)
	if !meets(a) {
		c.Starts = slices.Clone(a.Starts)
	}
	if !meets(b) {
		c.Finals = shifted(b.Finals, a.States)
	}
	for _, s := range a.Steps {
		for _, start := range b.Starts {
			if slices.Contains(a.Finals, s.To) {
				c.Steps = append(c.Steps, stepOf(s.From, s.Letter, a.States+start, s.Cost))
			}
		}
	}
	c.Steps = inOrder(c.Steps)
	return c
}

// someCouples are of all sizes from which an automaton may be put together, and of some from which none may be.
func someCouples(count int) [][2]impl.Automaton {
	var all [][2]impl.Automaton
	for i := 1; i <= impl.MaxStates; i++ {
		for k := 1; k <= impl.MaxStates; k++ {
			as, bs := someAutomata(i, count), someAutomata(k, count+k)
			for at, a := range as {
				b := clonedAutomaton(bs[at+k])
				// Only steps that cost less let many sums be valid.
				for s := range b.Steps {
					b.Steps[s].Cost %= 1 + at%4
				}
				for s := range a.Steps {
					a.Steps[s].Cost %= 1 + at/4%4
				}
				all = append(all, [2]impl.Automaton{a, b})
			}
		}
	}
	return all
}

// wantCombined checks a result of two automata, the empty text standing for none.
func wantCombined(t *testing.T, c combiner, a string, b string, want string) {
	t.Helper()
	got, ok := c.by(automatonOf(t, a), automatonOf(t, b))
	what := c.name + "(" + a + ", " + b + ")"
	if want == "" {
		wantNoAutomaton(t, what, got, ok)
		return
	}
	wantAutomaton(t, what, got, ok, want)
}

func TestMinAutomaton(t *testing.T) {
	for _, c := range []struct{ a, b, want string }{
		{"1;0;0;0a0:1 0b0:0", "1;0;0;0a0:0 0b0:1", lesserAutomaton},
		{"1;;;", "1;;;", "2;;;"}, {"1;0;;", "1;;0;", "2;0;1;"}, {"1;;0;", "1;0;;", "2;1;0;"}, {"1;;;", "3;0 2;1;0b2:3", "4;1 3;2;1b3:3"},
		{"3;0 2;1;0b2:3", "1;;;", "4;0 2;1;0b2:3"}, {"2;0;1;0a1:1", "2;0;0 1;0b1:2 1b1:0", "4;0 2;1 2 3;0a1:1 2b3:2 3b3:0"},
		{exampleAutomaton, lesserAutomaton, "4;0 2 3;1 2 3;0a0:0 0a1:1 1b1:0 2a2:1 2b2:0 3a3:0 3b3:1"},
		{exampleAutomaton, exampleAutomaton, "4;0 2;1 3;0a0:0 0a1:1 1b1:0 2a2:0 2a3:1 3b3:0"},
		{"3;;2;2a0:1", "1;0;;0a0:3 0b0:3", "4;3;2;2a0:1 3a3:3 3b3:3"},
		// Both parts accept the empty word, and keep their own starts and finals.
		{"1;0;0;", "1;0;0;", "2;0 1;0 1;"}, {"2;0 1;1;", "2;0;0 1;", "4;0 1 2;1 2 3;"},
		// Too many states, even where no step leads to them.
		{"4;;;", "1;;;", ""}, {"1;;;", "4;;;", ""}, {"2;0;1;0a1:0", "3;0;2;", ""}, {"3;;;", "2;;;", ""}, {"4;0;0;", "4;0;0;", ""},
	} {
		wantCombined(t, combiners()[0], c.a, c.b, c.want)
	}
}

func TestSumAutomaton(t *testing.T) {
	for _, c := range []struct{ a, b, want string }{
		{"1;0;0;0a0:1", "1;0;0;0a0:1", "1;0;0;0a0:2"}, {"1;0;0;0a0:1 0b0:0", "1;0;0;0a0:0 0b0:1", "1;0;0;0a0:1 0b0:1"}, {"2;0;1;0a1:1", "1;0;0;0a0:1 0b0:0", "2;0;1;0a1:2"},
		// Only steps by one letter go together.
		{"1;0;0;0a0:1", "1;0;0;0b0:1", "1;0;0;"}, {"1;0;0;", "1;0;0;0a0:3 0b0:3", "1;0;0;"}, {"1;0;0;0a0:3", "1;0;0;0b0:3", "1;0;0;"},
		// The state of b counts up first.
		{"2;0;1;0a1:0", "2;1;0;1a0:1", "4;1;2;1a2:1"}, {"2;1;0;1a0:1", "2;0;1;0a1:0", "4;2;1;2a1:1"}, {"2;0 1;1;", "2;1;0 1;", "4;1 3;2 3;"}, {"1;0;0;0b0:1", "4;3;0;3b0:2", "4;3;0;3b0:3"},
		{"4;3;0;3b0:2", "1;0;0;0b0:1", "4;3;0;3b0:3"}, {"2;0;;", "2;;1;", "4;;;"}, {"1;;0;", "3;0;0 2;", "3;;0 2;"},
		{"2;0;1;0a0:0 0a1:1 1a0:1", "2;0;1;0a0:0 1a1:0", "4;0;3;0a0:0 0a2:1 1a1:0 1a3:1 2a0:1 3a1:1"},
		// Both parts accept the empty word, or one does only.
		{"1;0;0;", "1;0;0;", "1;0;0;"}, {"2;0;0;", "2;1;1;", "4;1;1;"}, {"2;0;0;", "2;0;1;", "4;0;1;"},
		// A sum that costs too much makes it none, even between states on no run.
		{"1;0;0;0a0:2", "1;0;0;0a0:2", ""}, {"1;0;0;0a0:1", "1;0;0;0a0:2", "1;0;0;0a0:3"}, {"1;0;0;0a0:0", "1;0;0;0a0:3", "1;0;0;0a0:3"}, {"1;0;0;0a0:1", "1;0;0;0a0:3", ""},
		{"1;;;0b0:3", "1;;;0b0:1", ""}, {"1;;;0b0:3", "1;;;0b0:3", ""}, {"2;0;0;0a0:0 1a1:2", "1;0;0;0a0:2", ""}, {"2;0;0;0a0:0 1b1:2", "1;0;0;0a0:2", "2;0;0;0a0:2"},
		// Too many states.
		{"3;;;", "2;;;", ""}, {"2;;;", "3;;;", ""}, {"4;;;", "2;;;", ""}, {"3;0;0;0a0:0", "3;0;0;0a0:0", ""}, {"4;0 3;3;", "4;3;0 3;", ""}, {"4;;;", "1;;;", "4;;;"}, {"1;;;", "4;;;", "4;;;"},
	} {
		wantCombined(t, combiners()[1], c.a, c.b, c.want)
	}
}

func TestChainAutomaton(t *testing.T) {
	for _, c := range []struct{ a, b, want string }{
		{"2;0;1;0a1:1", "2;0;0 1;0b1:2 1b1:0", "4;0;1 2 3;0a1:1 0a2:1 2b3:2 3b3:0"}, {"2;0;0 1;0b1:2 1b1:0", "2;0;1;0a1:1", "4;0 2;3;0b1:2 0b2:2 1b1:0 1b2:0 2a3:1"},
		{"2;0;1;0a1:0", "2;0;1;0b1:0", "4;0;3;0a1:0 0a2:0 2b3:0"}, {"1;;;", "1;;;", "2;;;"}, {"1;0;;0a0:1", "1;0;0;", "2;0;1;0a0:1"}, {"1;;0;0a0:1", "1;0;;", "2;;;0a0:1 0a1:1"},
		// The empty word in both parts, in the first one, in the second one, and in none.
		{"1;0;0;", "1;0;0;", "2;0 1;0 1;"}, {"1;0;0;0a0:1", "1;0;0;0b0:2", "2;0 1;0 1;0a0:1 0a1:1 1b1:2"}, {"2;0 1;1;", "2;0;0 1;", "4;0 1 2;1 2 3;"},
		{"1;0;0;", "2;0;1;0a1:3", "3;0 1;2;1a2:3"}, {"2;0;1;0a1:3", "1;0;0;", "3;0;1 2;0a1:3 0a2:3"}, {"2;0;1;", "2;0;1;", "4;0;3;"}, {"2;0;1;0b0:1", "2;1;0;", "4;0;2;0b0:1"},
		// A state that is a final but no start does not accept the empty word.
		{"2;0;1;0a1:1", "1;0;0;0b0:1", "3;0;1 2;0a1:1 0a2:1 2b2:1"}, {"2;0 1;0 1;", "1;;0;", "3;0 1;2;"}, {"2;0;0 1;", "1;;0;", "3;0;2;"},
		// Of steps to several finals, the cheapest one leads on.
		{"3;0;1 2;0a1:3 0a2:1", "1;0;0;", "4;0;1 2 3;0a1:3 0a2:1 0a3:1"}, {"3;0;1 2;0a1:1 0a2:3", "1;0;0;", "4;0;1 2 3;0a1:1 0a2:3 0a3:1"}, {"2;0;0 1;0a0:2 0a1:0 0b1:3", "1;0;0;", "3;0 2;0 1 2;0a0:2 0a1:0 0a2:0 0b1:3 0b2:3"},
		// A step to each start.
		{"2;0;1;0b1:2", "2;0 1;1;", "4;0;1 3;0b1:2 0b2:2 0b3:2"}, {"1;0;0;0a0:0 0b0:1", "3;1 2;0;", "4;0 2 3;1;0a0:0 0a2:0 0a3:0 0b0:1 0b2:1 0b3:1"}, {"2;0;1;0b1:2", "2;;1;", "4;0;3;0b1:2"},
		// Too many states.
		{"4;;;", "1;;;", ""}, {"1;;;", "4;;;", ""}, {"3;0;0;", "2;0;0;", ""}, {"4;0;0;", "4;0;0;", ""},
	} {
		wantCombined(t, combiners()[2], c.a, c.b, c.want)
	}
}

// stepsOf is the text of some steps at the cost 0.
func stepsOf(states int, letters string) string {
	var kept []impl.Step
	for _, s := range allSteps(states) {
		if strings.Contains(letters, s.Letter) {
			kept = append(kept, s)
		}
	}
	_, steps, _ := strings.Cut(impl.FormatAutomaton(impl.Automaton{States: states, Steps: kept}), ";;;")
	return steps
}

// TestTooManySteps has results with as many states as there may be, and with 24 steps, the most there may be, or with more.
func TestTooManySteps(t *testing.T) {
	one, two, three := stepsOf(1, "ab"), stepsOf(2, "ab"), stepsOf(3, "ab")
	for _, c := range []struct {
		combiner int
		a, b     string
		steps    int
	}{
		{0, "2;;;" + two, "2;;;" + two, 16}, {0, "1;;;" + one, "3;;;" + three, 20}, {0, "3;;;" + three, "1;;;" + one, 20},
		{1, "2;;;" + two, "2;;;" + two, 32}, {1, "2;;;" + stepsOf(2, "a"), "2;;;" + two, 16}, {1, "2;;;" + two, "2;;;0a0:0 0a1:0 1a0:0 1a1:0 0b0:0 1b1:0", 24},
		{1, "2;;;" + two, "2;;;0a0:0 0a1:0 0b0:0 0b1:0 1a0:0 1b0:0 1b1:0", 28}, {1, "1;;;" + one, "4;;;" + fullSteps, 24}, {1, "4;;;" + fullSteps, "1;;;" + one, 24},
		{2, "2;;0 1;" + two, "2;0 1;;" + two, 24}, {2, "1;;0;" + one, "3;0 1;;" + three, 24}, {2, "1;;0;" + one, "3;0 1 2;;" + three, 26}, {2, "1;;0;0a0:0", "3;0 1 2;;" + three, 22},
		{2, "3;;2;" + three, "1;0;;" + one, 26}, {2, "3;;2;" + three, "1;0;;", 24}, {2, "3;;0 1 2;" + three, "1;0;;0a0:0", 25}, {2, "3;;;" + three, "1;0;;" + one, 20},
	} {
		by := combiners()[c.combiner]
		a, b := parseUnordered(t, c.a), parseUnordered(t, c.b)
		got, ok := by.by(a, b)
		if c.steps > impl.MaxSteps {
			wantNoAutomaton(t, by.name+" with too many steps", got, ok)
		} else if len(got.Steps) != c.steps || !ok || !impl.AutomatonValid(got) {
			t.Errorf("%s(%q, %q) = %v, %v, want %d steps", by.name, c.a, c.b, got, ok, c.steps)
		}
		if plain := by.plain(a, b); len(plain.Steps) != c.steps {
			t.Errorf("%s(%q, %q) should have %d steps, not %d", by.name, c.a, c.b, len(plain.Steps), c.steps)
		}
	}
}

// parseUnordered reads the text of an automaton whose steps may be out of order.
func parseUnordered(t *testing.T, s string) impl.Automaton {
	t.Helper()
	at := strings.LastIndex(s, ";") + 1
	steps := strings.Fields(s[at:])
	slices.Sort(steps)
	return automatonOf(t, s[:at]+strings.Join(steps, " "))
}

func TestCombiningManyAutomata(t *testing.T) {
	for _, c := range combiners() {
		valid, none := 0, 0
		for _, both := range someCouples(80) {
			a, b := both[0], both[1]
			want := c.plain(a, b)
			got, ok := c.by(a, b)
			if !impl.AutomatonValid(want) {
				none++
				wantNoAutomaton(t, c.name, got, ok)
				continue
			}
			valid++
			if !sameAutomaton(got, want) || !ok {
				t.Fatalf("%s(%q, %q) = %q, %v, want %q", c.name, impl.FormatAutomaton(a), impl.FormatAutomaton(b), impl.FormatAutomaton(got), ok, impl.FormatAutomaton(want))
			}
		}
		if valid < 100 || none < 100 {
			t.Errorf("%s has %d results and %d times none", c.name, valid, none)
		}
	}
}

// leastSplit is the least sum of the costs of a beginning in a and of the rest in b.
func leastSplit(a impl.Automaton, b impl.Automaton, w string) int {
	least := impl.Never
	for at := range len(w) + 1 {
		least = min(least, impl.AddCost(impl.CostOf(a, w[:at]), impl.CostOf(b, w[at:])))
	}
	return least
}

func TestCostsOfCombinedAutomata(t *testing.T) {
	laws := map[string]func(impl.Automaton, impl.Automaton, string) int{
		"MinAutomaton": func(a impl.Automaton, b impl.Automaton, w string) int {
			return impl.MinCost(impl.CostOf(a, w), impl.CostOf(b, w))
		},
		"SumAutomaton": func(a impl.Automaton, b impl.Automaton, w string) int {
			return impl.AddCost(impl.CostOf(a, w), impl.CostOf(b, w))
		},
		// The empty word and beginnings and rests that are empty are among the splits.
		"ChainAutomaton": leastSplit,
	}
	for _, c := range combiners() {
		accepted := 0
		for _, both := range someCouples(40) {
			a, b := both[0], both[1]
			got, ok := c.by(a, b)
			if !ok {
				continue
			}
			for _, w := range plainWords(6) {
				want := laws[c.name](a, b, w)
				if have := impl.CostOf(got, w); have != want {
					t.Fatalf("%q costs %d in %s(%q, %q), want %d", w, have, c.name, impl.FormatAutomaton(a), impl.FormatAutomaton(b), want)
				}
				if want < impl.Never {
					accepted++
				}
			}
		}
		if accepted < 1000 {
			t.Errorf("only %d words are accepted by results of %s", accepted, c.name)
		}
	}
}

func TestCombiningAllEmptyWords(t *testing.T) {
	for states := 1; states <= 2; states++ {
		for bits := range 1 << (4 * states) {
			part := func(at int) []int { return chosen(states, bits>>(at*states)) }
			a := impl.Automaton{States: states, Starts: part(0), Finals: part(1), Steps: []impl.Step{stepOf(0, "a", 0, 1)}}
			b := impl.Automaton{States: states, Starts: part(2), Finals: part(3), Steps: []impl.Step{stepOf(0, "b", 0, 2)}}
			for _, c := range combiners() {
				got, ok := c.by(a, b)
				if want := c.plain(a, b); !sameAutomaton(got, want) || !ok {
					t.Fatalf("%s(%v, %v) = %v, %v, want %v", c.name, a, b, got, ok, want)
				}
				accepts := meets(a) && meets(b)
				if c.name == "MinAutomaton" {
					accepts = meets(a) || meets(b)
				}
				if have := impl.CostOf(got, ""); accepts != (have == 0) || !accepts && have != impl.Never {
					t.Fatalf("the empty word costs %d in %s(%v, %v)", have, c.name, a, b)
				}
			}
		}
	}
}

func TestSwapLetters(t *testing.T) {
	for s, want := range map[string]string{
		"1;;;": "1;;;", "2;0;1;0a1:1": "2;0;1;0b1:1", "2;1;0;0b1:3": "2;1;0;0a1:3", exampleAutomaton: "2;0;1;0b0:0 0b1:1 1a1:0", "1;0;0;0a0:1 0b0:0": "1;0;0;0a0:0 0b0:1",
		"2;0 1;0 1;0a0:1 0b0:0 1a1:0 1b1:1": "2;0 1;0 1;0a0:0 0b0:1 1a1:1 1b1:0", "3;0;2;0a2:1 0b0:2 0b1:3 2a0:1": "3;0;2;0a0:2 0a1:3 0b2:1 2b0:1", "4;3;0 1;": "4;3;0 1;",
	} {
		got, ok := impl.SwapLetters(automatonOf(t, s))
		wantAutomaton(t, "SwapLetters("+s+")", got, ok, want)
	}
	for states := 1; states <= impl.MaxStates; states++ {
		for _, a := range someAutomata(states, 100) {
			want := clonedAutomaton(a)
			for i, s := range want.Steps {
				want.Steps[i].Letter = map[string]string{"a": "b", "b": "a"}[s.Letter]
			}
			want.Steps = inOrder(want.Steps)
			got, ok := impl.SwapLetters(a)
			if !sameAutomaton(got, want) || !ok {
				t.Fatalf("SwapLetters(%v) = %v, %v, want %v", a, got, ok, want)
			}
			if again, ok := impl.SwapLetters(got); !sameAutomaton(again, a) || !ok {
				t.Fatalf("SwapLetters twice of %v = %v, %v", a, again, ok)
			}
			for _, w := range plainWords(4) {
				if impl.CostOf(got, impl.SwapWord(w)) != impl.CostOf(a, w) {
					t.Fatalf("%q costs %d in %v, and exchanged %d", w, impl.CostOf(a, w), a, impl.CostOf(got, impl.SwapWord(w)))
				}
			}
		}
	}
}

func TestSwapWord(t *testing.T) {
	for w, want := range map[string]string{
		"": "", "a": "b", "b": "a", "aa": "bb", "ab": "ba", "ba": "ab", "aab": "bba", "bbbbbbb": "aaaaaaa",
		strings.Repeat("a", 1000): strings.Repeat("b", 1000), strings.Repeat("b", 1000): strings.Repeat("a", 1000), strings.Repeat("aab", 333): strings.Repeat("bba", 333),
	} {
		if got := impl.SwapWord(w); got != want {
			t.Errorf("SwapWord(%.20q) = %.20q, want %.20q", w, got, want)
		}
	}
	for _, w := range plainWords(7) {
		got := impl.SwapWord(w)
		if len(got) != len(w) || impl.SwapWord(got) != w {
			t.Errorf("SwapWord(%q) = %q", w, got)
		}
		for at := range w {
			if got[at] == w[at] {
				t.Errorf("SwapWord(%q) = %q", w, got)
			}
		}
	}
	for _, w := range noWords {
		if got := impl.SwapWord(w); got != "" {
			t.Errorf("SwapWord(%.20q) = %.20q", w, got)
		}
	}
}

func TestScaleAutomaton(t *testing.T) {
	for _, c := range []struct {
		text string
		n    int
		want string
	}{
		{"1;0;0;0a0:1 0b0:0", 0, "1;0;0;0a0:0 0b0:0"}, {"1;0;0;0a0:1 0b0:0", 1, "1;0;0;0a0:1 0b0:0"}, {"1;0;0;0a0:1 0b0:0", 2, "1;0;0;0a0:2 0b0:0"}, {"1;0;0;0a0:1 0b0:0", 3, "1;0;0;0a0:3 0b0:0"},
		{"1;;;0a0:2", 0, "1;;;0a0:0"}, {"1;;;0a0:2", 1, "1;;;0a0:2"}, {"1;;;0a0:2", 2, ""}, {"1;;;0a0:2", 3, ""}, {"1;;;0a0:3", 1, "1;;;0a0:3"}, {"1;;;0a0:3", 0, "1;;;0a0:0"}, {"1;;;0a0:3", 2, ""},
		{"4;0;3;" + fullSteps, 0, "4;0;3;" + strings.NewReplacer(":1", ":0", ":2", ":0", ":3", ":0").Replace(fullSteps)}, {"4;0;3;" + fullSteps, 1, "4;0;3;" + fullSteps}, {"4;0;3;" + fullSteps, 2, ""},
		{"2;1;0;0b1:1 1b0:0 1b1:1", 3, "2;1;0;0b1:3 1b0:0 1b1:3"}, {"2;0;1;0a0:0 0a1:1 1b1:2", 2, ""}, {"2;0;1;0a0:0 0a1:1 1b1:1", 3, "2;0;1;0a0:0 0a1:3 1b1:3"}, {"3;;;", 3, "3;;;"}, {"2;0;;", 0, "2;0;;"}, {"2;;1;0a0:0", 3, "2;;1;0a0:0"},
	} {
		got, ok := impl.ScaleAutomaton(automatonOf(t, c.text), c.n)
		if c.want == "" {
			wantNoAutomaton(t, "ScaleAutomaton("+c.text+")", got, ok)
		} else {
			wantAutomaton(t, "ScaleAutomaton("+c.text+")", got, ok, c.want)
		}
	}
	for _, n := range []int{math.MinInt, -1 << 32, -3, -1, 4, 5, 1 << 32, 1<<32 + 1, 1 << 62, math.MaxInt} {
		// Without steps, and with such as cost nothing, only n is amiss.
		for _, s := range []string{"1;;;", "1;0;0;0a0:0", exampleAutomaton, "1;0;0;0a0:3"} {
			got, ok := impl.ScaleAutomaton(automatonOf(t, s), n)
			wantNoAutomaton(t, "ScaleAutomaton("+s+") by another number", got, ok)
		}
	}
}

func TestScaleManyAutomata(t *testing.T) {
	for states := 1; states <= impl.MaxStates; states++ {
		for at, a := range someAutomata(states, 100) {
			for i := range a.Steps {
				a.Steps[i].Cost %= 1 + at%4
			}
			for n := range impl.MaxStep + 1 {
				want := clonedAutomaton(a)
				for i := range want.Steps {
					want.Steps[i].Cost *= n
				}
				got, ok := impl.ScaleAutomaton(a, n)
				if !impl.AutomatonValid(want) {
					wantNoAutomaton(t, "ScaleAutomaton", got, ok)
					continue
				}
				if !sameAutomaton(got, want) || !ok {
					t.Fatalf("ScaleAutomaton(%v, %d) = %v, %v", a, n, got, ok)
				}
				for _, w := range plainWords(4) {
					// A word that can't be had costs no less if it is had never.
					c := impl.CostOf(a, w)
					if c < impl.Never {
						c *= n
					}
					if have := impl.CostOf(got, w); have != c {
						t.Fatalf("%q costs %d in ScaleAutomaton(%v, %d), want %d", w, have, a, n, c)
					}
				}
			}
		}
	}
}

func TestTrimAutomaton(t *testing.T) {
	for s, want := range map[string]string{
		"4;1;3;0a0:0 1a2:0 1b3:1 3b3:0": "2;0;1;0b1:1 1b1:0", exampleAutomaton: exampleAutomaton, lesserAutomaton: lesserAutomaton, "1;0;0;": "1;0;0;", "1;0;0;0a0:3": "1;0;0;0a0:3",
		// The starts and finals of other states go with them.
		"4;0 1 2;2 3;": "1;0;0;", "3;0 1;1 2;0a1:2": "2;0 1;1;0a1:2", "3;0 2;1 2;0a0:1 1b1:1 2b2:3": "1;0;0;0b0:3", "4;0 3;1 3;3a3:1 3b2:0": "1;0;0;0a0:1",
		// A step is left out if only one of its states is kept.
		"3;1;1;0a1:1 1a1:2 1b2:3": "1;0;0;0a0:2", "4;3;1;0a1:1 1a3:1 3a1:2 3b2:1": "2;1;0;0a1:1 1a0:2", "4;0;2;0a1:0 1a2:0 1b3:0 3a3:0": "3;0;2;0a1:0 1a2:0",
		"4;0;3;0a1:0 1b2:0 2a3:0": "4;0;3;0a1:0 1b2:0 2a3:0", "4;3;0;1a0:3 2b1:3 3a2:3": "4;3;0;1a0:3 2b1:3 3a2:3", "4;3;3;0a3:0 3a0:1": "2;1;1;0a1:0 1a0:1",
		// None where there are no useful states.
		"1;;;": "", "1;0;;": "", "1;;0;": "", "2;0;1;": "", "2;0;1;1a0:0": "", "4;0;3;0a1:0 2a3:0": "", "3;;2;0a1:0 1a2:0": "", "4;0 1 2 3;;" + fullSteps: "",
	} {
		got, ok := impl.TrimAutomaton(automatonOf(t, s))
		if want == "" {
			wantNoAutomaton(t, "TrimAutomaton("+s+")", got, ok)
		} else {
			wantAutomaton(t, "TrimAutomaton("+s+")", got, ok, want)
		}
	}
}

// plainTrim gives each state the number of the useful ones before it.
func plainTrim(a impl.Automaton) impl.Automaton {
	useful := plainUseful(a)
	kept := func(list []int) []int {
		var all []int
		for _, p := range list {
			if at := slices.Index(useful, p); at >= 0 {
				all = append(all, at)
			}
		}
		return all
	}
	trimmed := impl.Automaton{States: len(useful), Starts: kept(a.Starts), Finals: kept(a.Finals)}
	for _, s := range a.Steps {
		if ends := kept([]int{s.From, s.To}); len(ends) == 2 {
			trimmed.Steps = append(trimmed.Steps, stepOf(ends[0], s.Letter, ends[1], s.Cost))
		}
	}
	return trimmed
}

func TestTrimManyAutomata(t *testing.T) {
	all := automataOfTwo()
	for states := 1; states <= impl.MaxStates; states++ {
		all = append(all, someAutomata(states, 300)...)
	}
	fewer := 0
	for _, a := range all {
		want := plainTrim(a)
		got, ok := impl.TrimAutomaton(a)
		if want.States == 0 {
			wantNoAutomaton(t, "TrimAutomaton", got, ok)
			continue
		}
		if !sameAutomaton(got, want) || !ok {
			t.Fatalf("TrimAutomaton(%v) = %v, %v, want %v", a, got, ok, want)
		}
		if got.States < a.States {
			fewer++
		}
		if len(impl.UsefulOf(got)) != got.States {
			t.Errorf("TrimAutomaton(%v) = %v, whose useful states are %v", a, got, impl.UsefulOf(got))
		}
		for _, w := range plainWords(3) {
			if impl.CostOf(got, w) != impl.CostOf(a, w) {
				t.Fatalf("%q costs %d in TrimAutomaton(%v), want %d", w, impl.CostOf(got, w), a, impl.CostOf(a, w))
			}
		}
	}
	if fewer < 300 {
		t.Errorf("only %d automata have states that are not useful", fewer)
	}
}

func TestCombiningInvalidAutomata(t *testing.T) {
	valid := []impl.Automaton{automatonOf(t, "1;0;0;"), automatonOf(t, "1;;;"), automatonOf(t, exampleAutomaton)}
	for _, a := range invalidAutomata(t) {
		for _, c := range combiners() {
			for _, b := range append(valid, a, impl.Automaton{}) {
				got, ok := c.by(a, b)
				wantNoAutomaton(t, c.name+" of an invalid one", got, ok)
				got, ok = c.by(b, a)
				wantNoAutomaton(t, c.name+" of an invalid second one", got, ok)
			}
		}
		for _, c := range changers() {
			got, ok := c.by(a)
			wantNoAutomaton(t, c.name+" of an invalid one", got, ok)
		}
		for _, n := range []int{-1, 4} {
			got, ok := impl.ScaleAutomaton(a, n)
			wantNoAutomaton(t, "ScaleAutomaton of an invalid one", got, ok)
		}
	}
}

// resultsOfCombining are what the functions return of two automata and of the first one, as texts.
func resultsOfCombining(a impl.Automaton, b impl.Automaton) []string {
	var all []string
	for _, c := range combiners() {
		got, _ := c.by(a, b)
		all = append(all, impl.FormatAutomaton(got))
	}
	for _, c := range changers() {
		got, _ := c.by(a)
		all = append(all, impl.FormatAutomaton(got))
	}
	return all
}

func TestAutomataAreCombinedAlike(t *testing.T) {
	for _, c := range [][2]string{
		{"3;0;1 2;0a0:1 0a1:3 0a2:2 0b1:1 0b2:3 1a1:2 1a2:1 2b0:1 2b1:0", "1;0;0;0a0:0 0b0:0"},
		{"2;0;0 1;0a0:1 0a1:0 0b0:1 1a0:1 1b1:0", "2;0 1;0 1;0a0:1 0b0:0 0b1:2 1a1:0"},
	} {
		a, b := automatonOf(t, c[0]), automatonOf(t, c[1])
		if all := resultsOfCombining(a, b); slices.Contains(all[:3], "") {
			t.Fatalf("the combinations are %q", all[:3])
		}
		wantAlike(t, 30, func() []string { return resultsOfCombining(a, b) })
	}
}

func TestCombinedAutomataAreLeftAlone(t *testing.T) {
	couples := someCouples(20)
	for _, a := range invalidAutomata(t) {
		couples = append(couples, [2]impl.Automaton{a, a})
	}
	for _, both := range couples {
		a, b := roomy(both[0]), roomy(both[1])
		resultsOfCombining(a, b)
		wantUntouched(t, a, both[0])
		wantUntouched(t, b, both[1])
	}
}

func TestCombinedAutomataShareNothing(t *testing.T) {
	for _, texts := range [][]string{
		{"2;0 1;0 1;0a0:0 0b1:1 1b1:0", "2;0 1;0 1;0a0:1 1b0:0"}, {"1;0;0;0a0:1 0b0:0", "1;0;0;0a0:1"}, {exampleAutomaton, "1;0;0;0a0:0 0b0:0"}, {"3;0 1 2;0 1 2;0a1:1", "1;0;0;"},
	} {
		for _, c := range combiners() {
			wantOwnMemory(t, c.name, func(from ...impl.Automaton) (impl.Automaton, bool) { return c.by(from[0], from[1]) }, texts...)
		}
		for _, c := range changers() {
			wantOwnMemory(t, c.name, func(from ...impl.Automaton) (impl.Automaton, bool) { return c.by(from[0]) }, texts[0])
		}
	}
}
