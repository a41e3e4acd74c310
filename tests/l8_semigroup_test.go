package tests

import (
	"math/rand"
	"slices"
	"strings"
	"testing"

	"loop.example/distanceautomata/impl"
)

// fullElements have as many elements as there may be, and tooManyElements have one more, or many more.
var (
	fullElements = []string{
		"4;0;3;0a1:0 0a3:0 0b0:1 1b2:0 2a2:0 2a3:0 2b1:0 3a1:1",
		"4;0;3;0a3:1 0b0:0 1a0:0 1a1:1 1a3:0 1b2:1 2a1:1 2a2:1 3a1:0",
		"4;0;3;0a2:1 0b3:1 1b0:0 1b2:1 2b0:1 3a2:1 3b1:1",
	}
	tooManyElements = []string{
		"3;0;2;0a1:0 0b0:0 1a2:0 1b0:1 1b1:0 2a0:0",
		"4;0;3;0b0:1 0b1:1 0b3:0 1a1:0 1b0:0 2a0:1 2a3:1 3a2:0 3b1:1 3b2:1 3b3:1",
		"3;0;2;0a1:0 1a0:1 1a2:1 1b0:0 2a2:1 2b1:1 2b2:1",
		"4;0 1 2;2;0a1:0 0b2:0 1a0:1 1a1:1 1b3:0 2a3:1 3a0:1 3a2:0 3b0:1",
	}
)

// fullWords and tooManyWords are the same for values of words alone.
var (
	fullWords = []string{
		"3;0;2;0a1:0 1a0:0 1a2:0 1b0:0 2a0:0 2b2:0",
		"3;0;2;0a1:0 0b1:0 1b2:0 2a0:0 2b0:0 2b1:0",
		"4;0;3;0a2:1 0a3:1 0b3:1 1b2:1 2a0:0 3a2:0 3b1:0 3b3:0",
	}
	tooManyWords = []string{
		"4;0;3;0b0:0 0b1:0 1a3:0 1b0:0 1b1:1 1b2:0 2a0:0 2b1:0 3a1:0 3a2:0 3a3:0 3b2:0",
		"4;0;3;0a2:0 0b0:0 0b2:1 1a0:1 1b1:0 2a1:0 2a3:1 2b0:1 2b3:1 3a0:0 3b1:1",
		"4;0 1 2;2;0a1:0 0b2:0 1a0:1 1a1:1 1b3:0 2a3:1 3a0:1 3a2:0 3b0:1",
	}
)

// showElements has a line for all elements, in their order.
func showElements(list []impl.Element) string {
	texts := make([]string, len(list))
	for at, e := range list {
		texts[at] = e.Text + "=" + impl.FormatGrades(e.Value)
	}
	return strings.Join(texts, " ")
}

// putElement leaves out what is there, and tells whether there is room for what is not.
func putElement(list *[]impl.Element, most int, value impl.Matrix, text string) bool {
	if slices.ContainsFunc(*list, func(e impl.Element) bool { return slices.Equal(e.Value.Cells, value.Cells) }) {
		return true
	}
	if len(*list) == most || len(text) > 120 {
		return false
	}
	*list = append(*list, impl.Element{Value: value, Text: text})
	return true
}

// plainLetters are the values of both letters, the same one or not.
func plainLetters(a impl.Automaton) []impl.Element {
	var letters []impl.Element
	for _, letter := range []string{"a", "b"} {
		m, _ := impl.StepMatrix(a, letter)
		m, _ = impl.GradesOf(m)
		letters = append(letters, impl.Element{Value: m, Text: letter})
	}
	return letters
}

// plainElements is the chapter's words for ElementsOf, with a limit of its own.
func plainElements(a impl.Automaton, most int) ([]impl.Element, bool) {
	var list []impl.Element
	room := true
	for _, letter := range plainLetters(a) {
		room = putElement(&list, most, letter.Value, letter.Text)
	}
	for at := 0; at < len(list) && room; at++ {
		e := list[at]
		if plainIdempotent(e.Value) {
			room = putElement(&list, most, plainStable(e.Value), nested(1, e.Text))
		}
		for other := 0; other <= at && room; other++ {
			f := list[other]
			room = putElement(&list, most, plainGradeProduct(e.Value, f.Value), e.Text+f.Text) && putElement(&list, most, plainGradeProduct(f.Value, e.Value), f.Text+e.Text)
		}
	}
	return list, room
}

// plainWordElements is the chapter's words for WordElements, likewise.
func plainWordElements(a impl.Automaton, most int) ([]impl.Element, bool) {
	var list []impl.Element
	room := true
	letters := plainLetters(a)
	for _, letter := range letters {
		room = putElement(&list, most, letter.Value, letter.Text)
	}
	for at := 0; at < len(list) && room; at++ {
		for _, letter := range letters {
			room = room && putElement(&list, most, plainGradeProduct(list[at].Value, letter.Value), list[at].Text+letter.Text)
		}
	}
	return list, room
}

func wantElements(t *testing.T, what string, got []impl.Element, ok bool, want string) {
	t.Helper()
	if s := showElements(got); s != want || !ok {
		t.Fatalf("%s = %q, %v, want %q", what, s, ok, want)
	}
}

func wantNoElements(t *testing.T, what string, got []impl.Element, ok bool) {
	t.Helper()
	if len(got) != 0 || ok {
		t.Fatalf("%s has %d elements, %v, want none", what, len(got), ok)
	}
}

// wantNothingOfElements checks all functions that need the elements of an automaton which has too many, or is not valid.
func wantNothingOfElements(t *testing.T, a impl.Automaton, values ...impl.Matrix) {
	t.Helper()
	list, ok := impl.ElementsOf(a)
	wantNoElements(t, "ElementsOf", list, ok)
	if texts, ok := impl.StablesOf(a); len(texts) != 0 || ok {
		t.Errorf("StablesOf(%v) = %q, %v", a, texts, ok)
	}
	if grades, ok := impl.GradesIn(a); len(grades) != 0 || ok {
		t.Errorf("GradesIn(%v) = %v, %v", a, grades, ok)
	}
	for _, m := range values {
		wantNoExpressionFor(t, a, m)
	}
}

func wantNoExpressionFor(t *testing.T, a impl.Automaton, m impl.Matrix) {
	t.Helper()
	if text, ok := impl.ExpressionFor(a, m); text != "" || ok {
		t.Errorf("ExpressionFor(%v, %v) = %q, %v", a, m, text, ok)
	}
}

// differentAutomata have few elements, many or too many, and starts and finals of all kinds.
// Of each number of states there are so many as by someAutomata, and as many whose few steps lead to many elements.
func differentAutomata(count int) []impl.Automaton {
	source := rand.New(rand.NewSource(8))
	var all []impl.Automaton
	for states := 1; states <= impl.MaxStates; states++ {
		all = append(all, someAutomata(states, count)...)
		for range count {
			a := impl.Automaton{States: states, Starts: chosen(states, source.Intn(1<<states)), Finals: chosen(states, source.Intn(1<<states))}
			for _, s := range allSteps(states) {
				if source.Intn(10) < 3 && len(a.Steps) < impl.MaxSteps {
					s.Cost = source.Intn(2)
					a.Steps = append(a.Steps, s)
				}
			}
			all = append(all, a)
		}
	}
	return all
}

// gradedAutomata have two states and, for every so many of all pairs of matrices for the letters, these as steps.
func gradedAutomata(apart int) []impl.Automaton {
	all := matricesOfTwo(0, 1, impl.Never)
	var automata []impl.Automaton
	for at := 0; at < len(all)*len(all); at += apart {
		letters := []impl.Matrix{all[at/len(all)], all[at%len(all)]}
		a := impl.Automaton{States: 2, Starts: chosen(2, at&3), Finals: chosen(2, at>>2&3)}
		for _, s := range allSteps(2) {
			c := letters[strings.Index("ab", s.Letter)].Cells[2*s.From+s.To]
			if c < impl.Never {
				a.Steps = append(a.Steps, stepOf(s.From, s.Letter, s.To, c))
			}
		}
		automata = append(automata, a)
	}
	return automata
}

func TestMaxElements(t *testing.T) {
	if impl.MaxElements != 120 {
		t.Errorf("MaxElements = %d", impl.MaxElements)
	}
}

func TestElementsOf(t *testing.T) {
	for s, want := range map[string]string{
		growingAutomaton: "a=1 b=0 (a)#=w", "1;0;0;0a0:0 0b0:1": "a=0 b=1 (b)#=w", "1;0;0;0a0:2": "a=1 b=- (a)#=w", "1;;;0b0:3": "a=- b=1 (b)#=w", "1;0;0;0a0:0": "a=0 b=-", "1;;;0b0:0": "a=- b=0",
		lesserAutomaton: "a=1-/-0 b=0-/-1 (a)#=w-/-0 (b)#=0-/-w ba=1-/-1 (a)#b=w-/-1 (b)#a=1-/-w (b)#(a)#=w-/-w",
		// Of two products with each other, the one that begins with the later element comes first.
		exampleAutomaton: "a=01/-- b=--/-0 ba=--/-- ab=-1/--",
		// What is not idempotent is not repeated, but its square is.
		flipAutomaton: "a=-1/0- b=--/-- aa=1-/-1 (aa)#=w-/-w aaa=-1/1- (aa)#a=-w/w-",
		// Nothing but the steps matters.
		"2;;;0a1:1 1a0:0": "a=-1/0- b=--/-- aa=1-/-1 (aa)#=w-/-w aaa=-1/1- (aa)#a=-w/w-", "2;0 1;0 1;0a1:2 1a0:0": "a=-1/0- b=--/-- aa=1-/-1 (aa)#=w-/-w aaa=-1/1- (aa)#a=-w/w-",
		"2;0;1;0a1:1":             "a=-1/-- b=--/--",
		"2;0;1;0a1:0 1b0:0":       "a=-0/-- b=--/0- aa=--/-- ba=--/-0 ab=0-/--",
		"3;0;2;0a1:0 1a2:1":       "a=-0-/--1/--- b=---/---/--- aa=--1/---/---",
		"2;0;1;0a0:1 0b1:0 1a1:1": "a=1-/-1 b=-0/-- (a)#=w-/-w ba=-1/-- bb=--/-- (a)#b=-w/--",
	} {
		list, ok := impl.ElementsOf(automatonOf(t, s))
		wantElements(t, "ElementsOf "+s, list, ok, want)
	}
}

func TestWordElements(t *testing.T) {
	for s, want := range map[string]string{
		growingAutomaton: "a=1 b=0", "1;0;0;0a0:0 0b0:1": "a=0 b=1", "1;0;0;0a0:2": "a=1 b=-", "1;;;0b0:0": "a=- b=0",
		lesserAutomaton: "a=1-/-0 b=0-/-1 ab=1-/-1",
		// Here both letters are put behind an element, first a and then b.
		exampleAutomaton:    "a=01/-- b=--/-0 ab=-1/-- ba=--/--",
		flipAutomaton:       "a=-1/0- b=--/-- aa=1-/-1 aaa=-1/1-",
		"2;0;1;0a1:0 1b0:0": "a=-0/-- b=--/0- aa=--/-- ab=0-/-- ba=--/-0",
	} {
		list, ok := impl.WordElements(automatonOf(t, s))
		wantElements(t, "WordElements "+s, list, ok, want)
	}
}

// The value of b is not put behind that of a if it is the same one, though the costs may differ.
func TestLettersWithTheSameValue(t *testing.T) {
	for s, want := range map[string][2]string{
		"1;0;0;":                          {"a=-", "a=-"},
		"4;;;":                            {"a=----/----/----/----", "a=----/----/----/----"},
		"1;0;0;0a0:0 0b0:0":               {"a=0", "a=0"},
		"1;0;0;0a0:1 0b0:1":               {"a=1 (a)#=w", "a=1"},
		"1;0;0;0a0:3 0b0:1":               {"a=1 (a)#=w", "a=1"},
		"2;0;0;0a1:1 0b1:1":               {"a=-1/-- aa=--/--", "a=-1/-- aa=--/--"},
		"2;0 1;1;0a0:0 0b0:0 1a1:2 1b1:3": {"a=0-/-1 (a)#=0-/-w", "a=0-/-1"},
		"2;0;0;0a1:1 0b1:2 1a0:0 1b0:0":   {"a=-1/0- aa=1-/-1 (aa)#=w-/-w aaa=-1/1- (aa)#a=-w/w-", "a=-1/0- aa=1-/-1 aaa=-1/1-"},
		"3;0;0;0a1:0 0b1:0 1a2:0 1b2:0 2a0:0 2b0:0": {"a=-0-/--0/0-- aa=--0/0--/-0- aaa=0--/-0-/--0", "a=-0-/--0/0-- aa=--0/0--/-0- aaa=0--/-0-/--0"},
		"2;0;0;0a0:1 0a1:0 0b0:2 0b1:0 1a1:0 1b1:0": {"a=10/-0 (a)#=w0/-0", "a=10/-0"},
	} {
		a := automatonOf(t, s)
		list, ok := impl.ElementsOf(a)
		wantElements(t, "ElementsOf "+s, list, ok, want[0])
		list, ok = impl.WordElements(a)
		wantElements(t, "WordElements "+s, list, ok, want[1])
	}
}

func TestElementsOfManyAutomata(t *testing.T) {
	known, tooMany := 0, 0
	for _, a := range append(differentAutomata(60), gradedAutomata(5)...) {
		list, ok := impl.ElementsOf(a)
		if want, room := plainElements(a, 120); room {
			wantElements(t, "ElementsOf "+impl.FormatAutomaton(a), list, ok, showElements(want))
			known++
		} else {
			wantNothingOfElements(t, a, want[0].Value, want[119].Value)
			tooMany++
		}
		list, ok = impl.WordElements(a)
		if want, room := plainWordElements(a, 120); room {
			wantElements(t, "WordElements "+impl.FormatAutomaton(a), list, ok, showElements(want))
		} else {
			wantNoElements(t, "WordElements "+impl.FormatAutomaton(a), list, ok)
		}
	}
	if known < 1000 || tooMany < 10 {
		t.Errorf("%d automata have elements, and %d have too many", known, tooMany)
	}
}

func TestAsManyElementsAsThereMayBe(t *testing.T) {
	for _, s := range fullElements {
		a := automatonOf(t, s)
		want, _ := plainElements(a, 120)
		list, ok := impl.ElementsOf(a)
		wantElements(t, "ElementsOf "+s, list, ok, showElements(want))
		if len(list) != 120 {
			t.Errorf("ElementsOf(%q) has %d elements", s, len(list))
		}
		last := list[119]
		if text, ok := impl.ExpressionFor(a, last.Value); text != last.Text || !ok {
			t.Errorf("ExpressionFor(%q, %v) = %q, %v", s, last.Value, text, ok)
		}
	}
	for _, s := range fullWords {
		a := automatonOf(t, s)
		want, _ := plainWordElements(a, 120)
		list, ok := impl.WordElements(a)
		wantElements(t, "WordElements "+s, list, ok, showElements(want))
		if len(list) != 120 {
			t.Errorf("WordElements(%q) has %d elements", s, len(list))
		}
	}
}

func TestTooManyElements(t *testing.T) {
	for at, s := range tooManyElements {
		a := automatonOf(t, s)
		// Even one of the first elements has no expression when there are too many.
		list, room := plainElements(a, 121)
		if at < 2 && (len(list) != 121 || !room) {
			t.Errorf("%q has %d elements, %v", s, len(list), room)
		}
		wantNothingOfElements(t, a, list[0].Value, list[1].Value, list[119].Value, list[120].Value)
	}
	for at, s := range tooManyWords {
		a := automatonOf(t, s)
		words, room := plainWordElements(a, 121)
		if at < 2 && (len(words) != 121 || !room) {
			t.Errorf("%q has %d values of words, %v", s, len(words), room)
		}
		list, ok := impl.WordElements(a)
		wantNoElements(t, "WordElements "+s, list, ok)
	}
	// The values of words may be few enough all the same.
	a := automatonOf(t, "3;0;2;0a1:0 0b0:0 1a2:0 1b0:1 1b1:0 2a0:0")
	if list, ok := impl.WordElements(a); len(list) == 0 || !ok {
		t.Errorf("WordElements has %d elements, %v", len(list), ok)
	}
}

// These are the longest expressions of elements that were found by searching, and products of two of them are longer still, but known already.
func TestElementsWithLongExpressions(t *testing.T) {
	for s, text := range map[string]string{
		"4;0;3;0a0:0 0a3:0 0b3:0 1a1:1 1a2:0 1b1:0 1b2:1 2a1:1 2a2:0 2b2:1 2b3:1 3a2:1 3a3:1 3b0:0":                   "(b(aaa)#b(aaa)#b(aaa)#)#((bbbb)#a(bbbb)#a(bbbb)#a)#",
		"4;0;3;0a2:0 0a3:1 0b0:1 0b2:0 1a1:0 1b1:1 1b3:1 2a0:0 2b2:0 3a1:1 3a3:1 3b0:1 3b1:1 3b3:0":                   "((aaaa)#b(aaaa)#b(aaaa)#b)#((bbb)#a(bbb)#a(bbb)#a)#",
		"4;0;3;0a1:0 0a3:1 0b0:0 0b1:1 1a0:0 1b1:0 2a0:0 2a1:1 2a2:1 2a3:0 2b2:0 2b3:0 3a0:1 3a1:0 3a2:1 3b0:0 3b3:1": "((bbb)#a(bbb)#a(bbb)#a(bbb)#a)#(bbb)#a(bbb)#",
	} {
		a := automatonOf(t, s)
		value, _ := plainValue(a, text)
		if got, ok := impl.ExpressionFor(a, value); got != text || !ok {
			t.Errorf("ExpressionFor(%q, %v) = %q, %v, want %q", s, value, got, ok, text)
		}
		want, _ := plainElements(a, 120)
		list, ok := impl.ElementsOf(a)
		wantElements(t, "ElementsOf "+s, list, ok, showElements(want))
	}
}

// Every value of an expression is there, and each element is one of its own.
func TestElementsAreAllValues(t *testing.T) {
	expressions := slices.Concat(allExpressions(5), someExpressions(60))
	found := 0
	for _, a := range differentAutomata(40) {
		list, ok := impl.ElementsOf(a)
		if !ok {
			continue
		}
		values := map[string]bool{}
		for _, e := range list {
			value, ok := plainValue(a, e.Text)
			if !impl.ExpressionValid(e.Text) || !ok || !impl.SameMatrix(value, e.Value) {
				t.Fatalf("the element %v of %v has another value", e, a)
			}
			values[impl.FormatGrades(e.Value)] = true
		}
		if len(values) != len(list) {
			t.Fatalf("%d elements of %v have %d values", len(list), a, len(values))
		}
		for _, e := range append(valuedExpressions(a, 40), expressions...) {
			if value, ok := impl.ValueOf(a, e); ok {
				found++
				if !values[impl.FormatGrades(value)] {
					t.Fatalf("the value of %q in %v is no element", e, a)
				}
			}
		}
	}
	if found < 5000 {
		t.Errorf("only %d expressions have a value", found)
	}
}

// Values of words are elements too, by words, and those of all words that are not empty.
func TestWordElementsAreAllValuesOfWords(t *testing.T) {
	for _, a := range differentAutomata(40) {
		list, ok := impl.WordElements(a)
		if !ok {
			continue
		}
		elements, known := impl.ElementsOf(a)
		values := map[string]bool{}
		for _, e := range list {
			value, ok := plainValue(a, e.Text)
			if !impl.WordValid(e.Text) || !ok || !impl.SameMatrix(value, e.Value) {
				t.Fatalf("the element %v of %v is not the value of its word", e, a)
			}
			values[impl.FormatGrades(e.Value)] = true
			if known && !slices.ContainsFunc(elements, func(other impl.Element) bool { return impl.SameMatrix(other.Value, e.Value) }) {
				t.Fatalf("the value of the word %q in %v is no element", e.Text, a)
			}
		}
		for _, w := range plainWords(6)[1:] {
			value, _ := impl.ValueOf(a, w)
			if !values[impl.FormatGrades(value)] {
				t.Fatalf("the value of the word %q in %v is not there", w, a)
			}
		}
	}
}

func TestExpressionFor(t *testing.T) {
	for _, c := range []struct{ text, value, want string }{
		{growingAutomaton, "1", "a"}, {growingAutomaton, "0", "b"}, {growingAutomaton, "w", "(a)#"}, {"1;0;0;", "-", "a"}, {"1;0;0;0a0:1 0b0:2", "1", "a"},
		{lesserAutomaton, "w-/-w", "(b)#(a)#"}, {lesserAutomaton, "1-/-1", "ba"}, {lesserAutomaton, "w-/-1", "(a)#b"}, {exampleAutomaton, "-1/--", "ab"}, {flipAutomaton, "-w/w-", "(aa)#a"},
	} {
		if got, ok := impl.ExpressionFor(automatonOf(t, c.text), gradesOf(t, c.value)); got != c.want || !ok {
			t.Errorf("ExpressionFor(%q, %q) = %q, %v, want %q", c.text, c.value, got, ok, c.want)
		}
	}
	for s, values := range map[string][]string{
		growingAutomaton: {"-", "11/11", "1-/--", "11/-0"},
		"1;0;0;0a0:0":    {"1", "w", "00/00", "000/000/000", "0000/0000/0000/0000"},
		// Of two states, one cell is not enough, even if it is the first one of an element.
		lesserAutomaton: {"1", "0", "w", "-", "00/00", "0-/-0", "1-/0-", "1--/-0-/---", "1---/-0--/----/----"},
	} {
		for _, value := range values {
			wantNoExpressionFor(t, automatonOf(t, s), gradesOf(t, value))
		}
	}
	for _, a := range differentAutomata(20) {
		list, _ := impl.ElementsOf(a)
		for at := 0; at < len(list); at += 1 + len(list)/5 {
			e := list[at]
			if got, ok := impl.ExpressionFor(a, e.Value); got != e.Text || !ok {
				t.Errorf("ExpressionFor(%v, %v) = %q, %v", a, e.Value, got, ok)
			}
		}
		for _, m := range someGrades(a.States, 3) {
			if !slices.ContainsFunc(list, func(e impl.Element) bool { return impl.SameMatrix(e.Value, m) }) {
				wantNoExpressionFor(t, a, m)
			}
		}
	}
}

func TestExpressionForInvalidMatrices(t *testing.T) {
	for _, s := range []string{growingAutomaton, "1;0;0;0a0:0", exampleAutomaton, "3;0;2;", "4;0;3;0a0:0"} {
		a := automatonOf(t, s)
		list, _ := impl.ElementsOf(a)
		for _, m := range invalidGrades() {
			wantNoExpressionFor(t, a, m)
		}
		for _, e := range list {
			for _, size := range append(slices.Clone(noSizes), 1, 2, 3, 4) {
				if size != a.States {
					wantNoExpressionFor(t, a, impl.Matrix{Size: size, Cells: e.Value.Cells})
				}
			}
			longer := append(slices.Clone(e.Value.Cells), 0)
			wantNoExpressionFor(t, a, impl.Matrix{Size: a.States, Cells: longer})
			wantNoExpressionFor(t, a, impl.Matrix{Size: a.States, Cells: longer[:len(longer)-2]})
			for at := range e.Value.Cells {
				cells := slices.Clone(e.Value.Cells)
				cells[at] += 256
				wantNoExpressionFor(t, a, impl.Matrix{Size: a.States, Cells: cells})
			}
		}
	}
}

func TestStablesOf(t *testing.T) {
	for s, want := range map[string][]string{
		growingAutomaton: {"b", "(a)#"}, "1;0;0;": {"a"}, "1;0;0;0a0:0 0b0:0": {"a"}, "1;0;0;0a0:1 0b0:3": {"(a)#"}, "1;0;0;0a0:0": {"a", "b"}, "1;;;0a0:1": {"b", "(a)#"},
		lesserAutomaton: {"(a)#", "(b)#", "(b)#(a)#"}, exampleAutomaton: {"a", "b", "ba"},
		// Neither a nor its product with the stable one is idempotent, and aa is, but does not stay.
		flipAutomaton:       {"b", "(aa)#"},
		"2;0;1;0a1:1":       {"b"},
		"2;0;1;0a1:1 0b1:1": {"aa"},
	} {
		if got, ok := impl.StablesOf(automatonOf(t, s)); !slices.Equal(got, want) || !ok {
			t.Errorf("StablesOf(%q) = %q, %v, want %q", s, got, ok, want)
		}
	}
	// Some power of each element is idempotent, and what becomes of this one stays, so that there is always a stable one.
	for _, a := range append(differentAutomata(30), gradedAutomata(23)...) {
		list, room := plainElements(a, 120)
		if !room {
			continue
		}
		var want []string
		for _, e := range list {
			if plainIdempotent(e.Value) && slices.Equal(plainStable(e.Value).Cells, e.Value.Cells) {
				want = append(want, e.Text)
			}
		}
		if got, ok := impl.StablesOf(a); !slices.Equal(got, want) || !ok || len(got) == 0 {
			t.Fatalf("StablesOf(%v) = %q, %v, want %q", a, got, ok, want)
		}
	}
}

func TestGradesIn(t *testing.T) {
	for s, want := range map[string][]int{
		growingAutomaton: {0, 1, 2}, "1;0;0;": {3}, "1;0;0;0a0:0 0b0:0": {0}, "1;0;0;0a0:1 0b0:3": {1, 2}, "1;0;0;0a0:1": {1, 2, 3}, "1;0;0;0a0:0": {0, 3},
		lesserAutomaton: {0, 1, 2}, exampleAutomaton: {1, 3}, flipAutomaton: {1, 2, 3}, "2;0;1;0a1:1 1a0:0": {1, 2, 3}, "2;1;0;0a1:1 1a0:0": {0, 1, 2, 3}, "2;0 1;0;0a1:1 1a0:0": {0, 1, 2, 3}, "2;0 1;0 1;0a1:1 1a0:0": {0, 1, 2, 3},
		// Without a start or a final, nothing is had.
		"1;;0;0a0:1 0b0:0": {3}, "1;0;;0a0:1 0b0:0": {3}, "1;;;0a0:1 0b0:0": {3}, "4;;;": {3},
	} {
		if got, ok := impl.GradesIn(automatonOf(t, s)); !slices.Equal(got, want) || !ok {
			t.Errorf("GradesIn(%q) = %v, %v, want %v", s, got, ok, want)
		}
	}
	for _, a := range append(differentAutomata(30), gradedAutomata(23)...) {
		list, room := plainElements(a, 120)
		if !room {
			continue
		}
		var want []int
		for grade := range impl.GradeNever + 1 {
			if slices.ContainsFunc(list, func(e impl.Element) bool { return min(leastBetween(a, e.Value), impl.GradeNever) == grade }) {
				want = append(want, grade)
			}
		}
		if got, ok := impl.GradesIn(a); !slices.Equal(got, want) || !ok {
			t.Fatalf("GradesIn(%v) = %v, %v, want %v", a, got, ok, want)
		}
	}
}

func TestElementsOfInvalidAutomata(t *testing.T) {
	values := append(slices.Clone(noMatrices), gradesOf(t, "0"), gradesOf(t, "-"), gradesOf(t, "01/--"), gradesOf(t, "--/--"))
	for _, a := range invalidAutomata(t) {
		wantNothingOfElements(t, a, values...)
		list, ok := impl.WordElements(a)
		wantNoElements(t, "WordElements", list, ok)
	}
}

// resultsOfElements are what the functions return for an automaton, as texts.
func resultsOfElements(a impl.Automaton, m impl.Matrix) []string {
	list, _ := impl.ElementsOf(a)
	words, _ := impl.WordElements(a)
	text, _ := impl.ExpressionFor(a, m)
	stables, _ := impl.StablesOf(a)
	grades, _ := impl.GradesIn(a)
	return []string{showElements(list), showElements(words), text, strings.Join(stables, " "), impl.FormatCosts(grades)}
}

// The order in which products are made at once does not show.
func TestElementsAreToldAlike(t *testing.T) {
	for _, s := range []string{lesserAutomaton, flipAutomaton, fullElements[0], tooManyElements[0], fullWords[0]} {
		a := automatonOf(t, s)
		wantAlike(t, 3, func() []string { return resultsOfElements(a, gradesOf(t, "w-/-w")) })
	}
}

func TestArgumentsOfElementsAreLeftAlone(t *testing.T) {
	for _, a := range append(differentAutomata(15), invalidAutomata(t)...) {
		given := roomy(a)
		room := []int{0, 1, 1, 0, 8, 8}
		resultsOfElements(given, impl.Matrix{Size: 2, Cells: room[:4]})
		wantUntouched(t, given, a)
		if !slices.Equal(room, []int{0, 1, 1, 0, 8, 8}) {
			t.Errorf("the matrix has become %v", room)
		}
	}
}

func TestElementsShareNothing(t *testing.T) {
	for _, s := range []string{growingAutomaton, lesserAutomaton, flipAutomaton, exampleAutomaton, "1;0;0;", fullElements[0]} {
		for _, maker := range []func(impl.Automaton) ([]impl.Element, bool){impl.ElementsOf, impl.WordElements} {
			a := automatonOf(t, s)
			first, _ := maker(a)
			second, _ := maker(a)
			want := showElements(second)
			for at := range first {
				cells := first[at].Value.Cells
				cells = cells[:cap(cells)]
				for cell := range cells {
					cells[cell] = 9
				}
				if later := showElements(first[at+1:]); !strings.HasSuffix(want, later) {
					t.Errorf("elements of %q have become %q with the one before them", s, later)
				}
			}
			clear(first[:cap(first)])
			overwrite(a)
			wantElements(t, "another result of "+s, second, true, want)
			list, ok := maker(automatonOf(t, s))
			wantElements(t, "the next result of "+s, list, ok, want)
		}
	}
}

func TestListsOfElementsShareNothing(t *testing.T) {
	a := automatonOf(t, growingAutomaton)
	stables, _ := impl.StablesOf(a)
	others, _ := impl.StablesOf(a)
	grades, _ := impl.GradesIn(a)
	otherGrades, _ := impl.GradesIn(a)
	clear(stables[:cap(stables)])
	clear(grades[:cap(grades)])
	overwrite(a)
	if !slices.Equal(others, []string{"b", "(a)#"}) || !slices.Equal(otherGrades, []int{0, 1, 2}) {
		t.Errorf("a result shares memory: %q, %v", others, otherGrades)
	}
}
