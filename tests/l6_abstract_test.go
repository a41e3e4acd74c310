package tests

import (
	"math"
	"math/rand"
	"slices"
	"strconv"
	"strings"
	"testing"

	"loop.example/distanceautomata/impl"
)

// noGrades has numbers of which some are costs, and some wrap around to a grade in 8, 16 or 32 bits.
var noGrades = []int{math.MinInt, -1 << 32, -256, -4, -3, -2, -1, 4, 5, 48, 256, 257, 65536, 999999, impl.Never, impl.Never + 1, 1 << 32, 1<<32 + 1, math.MaxInt}

// A powerCase has the first idempotent power of a matrix of grades, its exponent, and what becomes of it.
type powerCase struct {
	text     string
	power    string
	exponent int
	stable   string
}

func gradesOf(t *testing.T, s string) impl.Matrix {
	t.Helper()
	m, ok := impl.ParseGrades(s)
	if !ok {
		t.Fatalf("ParseGrades(%q) = false", s)
	}
	return m
}

func wantGrades(t *testing.T, what string, got impl.Matrix, ok bool, want string) {
	t.Helper()
	if s := impl.FormatGrades(got); s != want || !ok {
		t.Errorf("%s = %q, %v, want %q", what, s, ok, want)
	}
}

// someGrades are the same ones in every run, from such that have many ways to such that have few.
func someGrades(size int, count int) []impl.Matrix {
	source := rand.New(rand.NewSource(int64(size)))
	all := make([]impl.Matrix, count)
	for at := range all {
		never := source.Intn(10)
		all[at] = impl.Matrix{Size: size, Cells: make([]int, size*size)}
		for cell := range all[at].Cells {
			all[at].Cells[cell] = impl.GradeNever
			if source.Intn(10) >= never {
				all[at].Cells[cell] = source.Intn(impl.GradeNever)
			}
		}
	}
	return all
}

// gradeGroups has all matrices of one and of two rows, and so many of each greater size, each group being of one size.
func gradeGroups(count int) [][]impl.Matrix {
	var ones []impl.Matrix
	for g := range impl.GradeNever + 1 {
		ones = append(ones, impl.Matrix{Size: 1, Cells: []int{g}})
	}
	return [][]impl.Matrix{ones, matricesOfTwo(0, 1, 2, 3), someGrades(3, count), someGrades(4, count)}
}

// invalidGrades have, beside those of noMatrices, a cell that is no grade, in every place.
func invalidGrades() []impl.Matrix {
	all := slices.Clone(noMatrices)
	for size := 1; size <= impl.MaxStates; size++ {
		for at := range size * size {
			for _, cell := range noGrades {
				m := impl.Matrix{Size: size, Cells: make([]int, size*size)}
				m.Cells[at] = cell
				all = append(all, m)
			}
		}
	}
	return all
}

// plainGradeProduct, plainIdempotent and plainStable are the chapter's words, cell by cell.
func plainGradeProduct(a impl.Matrix, b impl.Matrix) impl.Matrix {
	m := impl.Matrix{Size: a.Size, Cells: slices.Repeat([]int{impl.GradeNever}, a.Size*a.Size)}
	for i := range a.Size {
		for k := range a.Size {
			for l := range a.Size {
				at := i*a.Size + k
				m.Cells[at] = min(m.Cells[at], max(a.Cells[i*a.Size+l], b.Cells[l*a.Size+k]))
			}
		}
	}
	return m
}

func plainIdempotent(m impl.Matrix) bool {
	return slices.Equal(plainGradeProduct(m, m).Cells, m.Cells)
}

func plainStable(m impl.Matrix) impl.Matrix {
	stable := impl.Matrix{Size: m.Size, Cells: slices.Repeat([]int{impl.GradeNever}, m.Size*m.Size)}
	for i := range m.Size {
		for j := range m.Size {
			for k := range m.Size {
				round := m.Cells[k*m.Size+k]
				if round == impl.GradeSome {
					round = impl.GradeMany
				}
				at := i*m.Size + j
				stable.Cells[at] = min(stable.Cells[at], max(m.Cells[i*m.Size+k], round, m.Cells[k*m.Size+j]))
			}
		}
	}
	return stable
}

func TestGradesAreNumbered(t *testing.T) {
	if got := []int{impl.GradeNothing, impl.GradeSome, impl.GradeMany, impl.GradeNever}; !slices.Equal(got, []int{0, 1, 2, 3}) {
		t.Errorf("the grades are %v", got)
	}
}

func TestGradesValid(t *testing.T) {
	for _, group := range gradeGroups(100) {
		for _, m := range group {
			if !impl.GradesValid(m) {
				t.Errorf("GradesValid(%v) = false", m)
			}
		}
	}
	for _, m := range invalidGrades() {
		if impl.GradesValid(m) {
			t.Errorf("GradesValid of %d cells of the size %d = true", len(m.Cells), m.Size)
		}
	}
}

func TestGradesOf(t *testing.T) {
	for s, want := range map[string]string{
		"0": "0", "1": "1", "2": "1", "3": "1", "4": "1", "999999": "1", "-": "-",
		"0 5/- 1": "01/-1", "0 1/- 0": "01/-0", "3 2/2 0": "11/10", "0 - 999999/500000 0 -/- - 0": "0-1/10-/--0",
		"0 0 0 0/1 1 1 1/- - - -/2 3 4 5": "0000/1111/----/1111",
	} {
		got, ok := impl.GradesOf(matrixOf(t, s))
		wantGrades(t, "GradesOf "+s, got, ok, want)
	}
	for _, m := range invalidMatrices() {
		got, ok := impl.GradesOf(m)
		wantNoMatrix(t, "GradesOf an invalid matrix", got, ok)
	}
}

// A matrix of grades is one of costs too, of which its own numbers are not the grades.
func TestGradesOfMatricesOfGrades(t *testing.T) {
	got, ok := impl.GradesOf(gradesOf(t, "01/w-"))
	wantGrades(t, "GradesOf grades", got, ok, "01/11")
}

func TestMulGrades(t *testing.T) {
	for _, c := range []struct{ a, b, want string }{
		{"0", "0", "0"}, {"0", "1", "1"}, {"1", "1", "1"}, {"1", "0", "1"}, {"1", "w", "w"}, {"w", "1", "w"}, {"w", "w", "w"}, {"-", "0", "-"}, {"0", "-", "-"}, {"w", "-", "-"},
		{"01/-0", "1-/0w", "1w/0w"}, {"1-/0w", "01/-0", "11/01"}, {"01/-0", "01/-0", "01/-0"}, {"-0/0-", "-0/0-", "0-/-0"}, {"-0/1-", "-0/1-", "1-/-1"},
		{"--/--", "00/00", "--/--"}, {"0-/-0", "1w/0-", "1w/0-"}, {"w-/--", "1-/--", "w-/--"},
		// Of two ways, the one whose greater grade is the least.
		{"0w/--", "w-/0-", "w-/--"}, {"0w/--", "1-/0-", "1-/--"}, {"1-/--", "--/-0", "--/--"},
		{"-0-/--0/0--", "1--/-w-/---", "-w-/---/1--"}, {"-0--/--1-/---w/0---", "-0--/--1-/---w/0---", "--1-/---w/w---/-0--"},
	} {
		got, ok := impl.MulGrades(gradesOf(t, c.a), gradesOf(t, c.b))
		wantGrades(t, "MulGrades of "+c.a+" and "+c.b, got, ok, c.want)
	}
	for _, group := range gradeGroups(100) {
		for _, a := range group {
			for _, b := range group {
				if got, ok := impl.MulGrades(a, b); !ok || !impl.SameMatrix(got, plainGradeProduct(a, b)) {
					t.Fatalf("MulGrades(%v, %v) = %v, %v", a, b, got, ok)
				}
			}
		}
	}
}

func TestMulGradesOfOtherMatrices(t *testing.T) {
	zeros := func(size int) impl.Matrix { return impl.Matrix{Size: size, Cells: make([]int, size*size)} }
	for a := 1; a <= impl.MaxStates; a++ {
		for b := 1; b <= impl.MaxStates; b++ {
			if a != b {
				got, ok := impl.MulGrades(zeros(a), zeros(b))
				wantNoMatrix(t, "MulGrades of different sizes", got, ok)
			}
		}
		for _, bad := range invalidGrades() {
			got, ok := impl.MulGrades(zeros(a), bad)
			wantNoMatrix(t, "MulGrades of grades and others", got, ok)
			got, ok = impl.MulGrades(bad, zeros(a))
			wantNoMatrix(t, "MulGrades of others and grades", got, ok)
		}
	}
	for _, bad := range invalidGrades() {
		got, ok := impl.MulGrades(bad, bad)
		wantNoMatrix(t, "MulGrades of others", got, ok)
	}
}

// The costs of these automata are far from Never, so a sum is a cost that can be had.
func TestGradesAreMultipliedAsCostsAre(t *testing.T) {
	for states := 1; states <= impl.MaxStates; states++ {
		for _, a := range someAutomata(states, 60) {
			for _, w := range plainWords(5) {
				m, _ := impl.WordMatrix(a, w)
				want, _ := impl.GradesOf(m)
				unit, _ := impl.UnitMatrix(states)
				got, ok := impl.GradesOf(unit)
				for _, letter := range w {
					m, _ = impl.StepMatrix(a, string(letter))
					m, _ = impl.GradesOf(m)
					got, ok = impl.MulGrades(got, m)
				}
				if !ok || !impl.SameMatrix(got, want) {
					t.Fatalf("the grades of %q in %q are %v, %v, want %v", w, impl.FormatAutomaton(a), got, ok, want)
				}
			}
		}
	}
}

func TestIsIdempotent(t *testing.T) {
	for s, want := range map[string]bool{
		"0": true, "1": true, "w": true, "-": true, "01/-0": true, "11/-0": true, "--/--": true, "-0/-0": true, "00/--": true,
		"-0/0-": false, "-0/--": false, "--/0-": false, "-1/1-": false, "1-/-1": true, "11/11": true, "01/10": true, "0w/1-": false, "10/01": false, "w0/-w": false,
		"0-w/-1-/--0": true, "-0-/--0/---": false, "000/000/000": true, "0---/-1--/--w-/----": true, "0---/-1--/---0/--0-": false, "-0--/--0-/---0/0---": false,
	} {
		if got := impl.IsIdempotent(gradesOf(t, s)); got != want {
			t.Errorf("IsIdempotent(%q) = %v", s, got)
		}
	}
	for _, group := range gradeGroups(2000) {
		for _, m := range group {
			if got := impl.IsIdempotent(m); got != plainIdempotent(m) {
				t.Fatalf("IsIdempotent(%v) = %v", m, got)
			}
		}
	}
	for _, m := range invalidGrades() {
		if impl.IsIdempotent(m) {
			t.Errorf("IsIdempotent of %d cells of the size %d = true", len(m.Cells), m.Size)
		}
	}
}

func powerCases() []powerCase {
	return []powerCase{
		{"0", "0", 1, "0"}, {"1", "1", 1, "w"}, {"w", "w", 1, "w"}, {"-", "-", 1, "-"},
		{"-0/0-", "0-/-0", 2, "0-/-0"}, {"-0/1-", "1-/-1", 2, "w-/-w"}, {"-0/--", "--/--", 2, "--/--"}, {"-0/-0", "-0/-0", 1, "-0/-0"}, {"-1/-0", "-1/-0", 1, "-1/-0"},
		{"11/-0", "11/-0", 1, "w1/-0"}, {"01/-1", "01/-1", 1, "01/-w"}, {"01/-0", "01/-0", 1, "01/-0"},
		// Powers that end with no way at all, after as many as there are states.
		{"-1-/--1/---", "---/---/---", 3, "---/---/---"}, {"-0--/--0-/---0/----", "----/----/----/----", 4, "----/----/----/----"},
		// Powers that come round, by themselves and beside others.
		{"-0-/--0/0--", "0--/-0-/--0", 3, "0--/-0-/--0"}, {"-0-/--1/w--", "w--/-w-/--w", 3, "w--/-w-/--w"}, {"-0--/--0-/---0/1---", "1---/-1--/--1-/---1", 4, "w---/-w--/--w-/---w"},
		{"-0--/--0-/0---/---1", "0---/-0--/--0-/---1", 3, "0---/-0--/--0-/---w"}, {"-0--/0---/1--0/--0-", "0---/-0--/-10-/1--0", 2, "0---/-0--/-10-/1--0"},
		// Powers that come round only after some others, so that the exponent is neither the first of them nor one round.
		{"-0-/--0/00-", "000/000/000", 5, "000/000/000"}, {"-0-/--0/01-", "011/101/110", 6, "011/101/110"}, {"01--/--0-/---0/0-1-", "0111/0111/0111/0111", 6, "0111/0111/0111/0111"},
		{"-0--/--0-/---0/00--", "0000/0000/0000/0000", 10, "0000/0000/0000/0000"}, {"-0--/--0-/---0/01--", "0111/1011/1101/1110", 12, "0111/1011/1101/1110"},
		{"-0--/--0-/---0/10--", "1110/1011/1101/1110", 12, "1110/1011/1101/1110"}, {"-1--/--1-/---1/1w--", "1www/w1ww/ww1w/www1", 12, "wwww/wwww/wwww/wwww"},
		{"-0--/--0-/---0/0w--", "0www/w0ww/ww0w/www0", 12, "0www/w0ww/ww0w/www0"},
	}
}

func TestIdempotentOf(t *testing.T) {
	for _, c := range powerCases() {
		got, exponent, ok := impl.IdempotentOf(gradesOf(t, c.text))
		wantGrades(t, "IdempotentOf "+c.text, got, ok, c.power)
		if exponent != c.exponent {
			t.Errorf("IdempotentOf %s has the exponent %d, want %d", c.text, exponent, c.exponent)
		}
	}
	for _, bad := range invalidGrades() {
		got, exponent, ok := impl.IdempotentOf(bad)
		wantNoMatrix(t, "IdempotentOf other matrices", got, ok)
		if exponent != 0 {
			t.Errorf("IdempotentOf %v has the exponent %d", bad, exponent)
		}
	}
}

func TestIdempotentOfIsTheFirstPower(t *testing.T) {
	for _, group := range gradeGroups(4000) {
		for _, m := range group {
			want, count := m, 1
			for ; !plainIdempotent(want); count++ {
				want = plainGradeProduct(want, m)
			}
			if got, exponent, ok := impl.IdempotentOf(m); !ok || exponent != count || !impl.SameMatrix(got, want) {
				t.Fatalf("IdempotentOf(%v) = %v, %d, %v, want %v, %d", m, got, exponent, ok, want, count)
			}
		}
	}
}

func TestStabilise(t *testing.T) {
	for _, c := range powerCases() {
		got, ok := impl.Stabilise(gradesOf(t, c.power))
		wantGrades(t, "Stabilise "+c.power, got, ok, c.stable)
		if c.text != c.power {
			got, ok = impl.Stabilise(gradesOf(t, c.text))
			wantNoMatrix(t, "Stabilise "+c.text, got, ok)
		}
	}
	for s, want := range map[string]string{
		// What leads past a state that leads to itself at no cost stays as it is.
		"0-1/-1-/--1": "0-1/-w-/--w", "11-/-0-/--0": "w1-/-0-/--0", "011/-11/--1": "011/-ww/--w", "-11/-01/---": "-11/-01/---",
		"111/-01/--1": "w11/-01/--w", "1111/-0-1/--w1/---1": "w1w1/-0-1/--ww/---w", "11w1/-0w1/--w-/---1": "w1w1/-0w1/--w-/---w",
		// Where there is no such state on the way, some becomes many, and other grades stay.
		"11/-1": "ww/-w", "11/11": "ww/ww", "-1/-1": "-w/-w", "1w/-w": "ww/-w", "w-/-1": "w-/-w", "0w/w0": "0w/w0", "1-/-0": "w-/-0", "ww/ww": "ww/ww", "--/--": "--/--",
	} {
		got, ok := impl.Stabilise(gradesOf(t, s))
		wantGrades(t, "Stabilise "+s, got, ok, want)
	}
	for _, bad := range invalidGrades() {
		got, ok := impl.Stabilise(bad)
		wantNoMatrix(t, "Stabilise other matrices", got, ok)
	}
}

// What becomes of a matrix is idempotent, and neither repeating it nor putting the matrix before or behind it changes it.
func TestStabiliseManyMatrices(t *testing.T) {
	for _, group := range gradeGroups(3000) {
		for _, m := range group {
			if !plainIdempotent(m) {
				got, ok := impl.Stabilise(m)
				wantNoMatrix(t, "Stabilise a matrix that is not idempotent", got, ok)
				m, _, _ = impl.IdempotentOf(m)
			}
			stable, ok := impl.Stabilise(m)
			if !ok || !impl.SameMatrix(stable, plainStable(m)) {
				t.Fatalf("Stabilise(%v) = %v, %v, want %v", m, stable, ok, plainStable(m))
			}
			again, _ := impl.Stabilise(stable)
			before, _ := impl.MulGrades(stable, m)
			behind, _ := impl.MulGrades(m, stable)
			for _, same := range []impl.Matrix{again, before, behind} {
				if !impl.SameMatrix(same, stable) {
					t.Fatalf("Stabilise(%v) = %v, and then %v", m, stable, same)
				}
			}
		}
	}
}

// repeatedCosts are the costs of a word whose grades are idempotent, which has at most twelve times five letters.
func repeatedCosts(a impl.Automaton, w string) impl.Matrix {
	m, _ := impl.WordMatrix(a, w)
	grades, _ := impl.GradesOf(m)
	_, exponent, _ := impl.IdempotentOf(grades)
	m, _ = impl.PowerMatrix(m, exponent)
	return m
}

// wantGrowth checks whether a cost of so many times a matrix is one that fits its grade.
func wantGrowth(t *testing.T, m impl.Matrix, times int, grade int, c int) {
	t.Helper()
	greatest := 0
	for _, cell := range m.Cells {
		if cell < impl.Never {
			greatest = max(greatest, cell)
		}
	}
	fits := false
	switch grade {
	case impl.GradeNothing:
		fits = c == 0
	case impl.GradeSome:
		fits = c <= 2*greatest && (c > 0 || times < m.Size)
	case impl.GradeMany:
		fits = c < impl.Never && (times <= m.Size || c >= times/(m.Size+1))
	case impl.GradeNever:
		fits = c == impl.Never
	}
	if !fits {
		t.Fatalf("a cell of %v costs %d, %d times, though its grade becomes %d", m, c, times, grade)
	}
}

func TestRepeatedOnesBecomeMany(t *testing.T) {
	many := 0
	for states := 1; states <= impl.MaxStates; states++ {
		for _, a := range someAutomata(states, 30) {
			for _, w := range plainWords(4)[1:] {
				m := repeatedCosts(a, w)
				grades, _ := impl.GradesOf(m)
				stable, ok := impl.Stabilise(grades)
				if !ok {
					t.Fatalf("the grades %v of %q are not idempotent", grades, w)
				}
				for _, times := range []int{1, 2, 3, 5, 6, 20, 50} {
					power, _ := impl.PowerMatrix(m, times)
					for at, grade := range stable.Cells {
						wantGrowth(t, m, times, grade, power.Cells[at])
						if grade == impl.GradeMany {
							many++
						}
					}
				}
			}
		}
	}
	if many < 1000 {
		t.Errorf("only %d grades are many", many)
	}
}

func TestFormatAndParseGrades(t *testing.T) {
	for s, want := range map[string]impl.Matrix{
		"0": {Size: 1, Cells: []int{0}}, "1": {Size: 1, Cells: []int{1}}, "w": {Size: 1, Cells: []int{2}}, "-": {Size: 1, Cells: []int{3}},
		"01/w-": {Size: 2, Cells: []int{0, 1, 2, 3}}, "01w/-01/w-0": {Size: 3, Cells: []int{0, 1, 2, 3, 0, 1, 2, 3, 0}},
		"0001/00w0/0-00/1111": {Size: 4, Cells: []int{0, 0, 0, 1, 0, 0, 2, 0, 0, 3, 0, 0, 1, 1, 1, 1}},
	} {
		if got := impl.FormatGrades(want); got != s {
			t.Errorf("FormatGrades(%v) = %q, want %q", want, got, s)
		}
		if got, ok := impl.ParseGrades(s); !impl.SameMatrix(got, want) || !ok {
			t.Errorf("ParseGrades(%q) = %v, %v, want %v", s, got, ok, want)
		}
	}
	for _, group := range gradeGroups(500) {
		for _, m := range group {
			if got, ok := impl.ParseGrades(impl.FormatGrades(m)); !impl.SameMatrix(got, m) || !ok {
				t.Errorf("%v came back as %v, %v", m, got, ok)
			}
		}
	}
	for _, bad := range invalidGrades() {
		if got := impl.FormatGrades(bad); got != "" {
			t.Errorf("FormatGrades(%v) = %q", bad, got)
		}
	}
}

func TestParseGradesOfOtherTexts(t *testing.T) {
	texts := []string{
		"", " ", "/", "//", "///", "////", "0/", "/0", "0//", "01", "0/1", "01/0", "0/01", "01/00/", "/01/00", "01//00", "01/00/00", "012/000/000", "000/000", "00/00/00", "000/00/0000",
		"0000/0000/0000", "000/000/000/000", "00000/00000/00000/00000", "00000/00000/00000/00000/00000", "0 1/- 0", "01 /-0", " 01/-0", "01/-0 ", "01/-0\n", "01\n-0", "01;-0", "01\\-0", "0,1",
		"2", "3", "4", "9", "a", "b", "W", "o", "l", "I", "O", "_", "+", "\x00", "\x01", "\x02", "\x03", "\xff", "\xc3", "é", "−", "–", "ω", "０", "1000000", "00", "-1", "--", "w1",
		"0é/", "é/00", "00/é", "\xff0/00", "00/0\xff", strings.Repeat("/", 10000), strings.Repeat("0", 10000), strings.Repeat("0/", 10000),
	}
	for at := range 5 {
		for _, letter := range []string{"2", "3", "W", " ", "/", "", "é", "\xff", "00"} {
			texts = append(texts, "01/w-"[:at]+letter+"01/w-"[at+1:])
		}
	}
	for _, s := range texts {
		if s == "01/w-" {
			continue
		}
		m, ok := impl.ParseGrades(s)
		wantNoMatrix(t, "ParseGrades("+strconv.Quote(s)+")", m, ok)
	}
}

// Every text of at most five of these bytes is a text of grades exactly if it is what FormatGrades returns.
func TestParseGradesOfAllShortTexts(t *testing.T) {
	formats := map[string]bool{}
	for _, group := range gradeGroups(0) {
		for _, m := range group {
			formats[impl.FormatGrades(m)] = true
		}
	}
	texts := []string{""}
	for from := 0; len(texts[from]) < 5; from++ {
		for _, b := range "01w-/ 2" {
			texts = append(texts, texts[from]+string(b))
		}
	}
	for _, s := range texts {
		m, ok := impl.ParseGrades(s)
		if !formats[s] {
			wantNoMatrix(t, "ParseGrades("+strconv.Quote(s)+")", m, ok)
		} else {
			wantGrades(t, "ParseGrades("+strconv.Quote(s)+")", m, ok, s)
		}
	}
}

func TestGradeBetween(t *testing.T) {
	for _, c := range []struct {
		automaton, grades string
		want              int
	}{
		{"1;0;0;", "0", 0}, {"1;0;0;", "1", 1}, {"1;0;0;", "w", 2}, {"1;0;0;", "-", 3},
		// Without a start or a final, no grade is asked for.
		{"1;;;", "0", 3}, {"1;0;;", "0", 3}, {"1;;0;", "0", 3}, {"2;;0 1;", "00/00", 3}, {"2;0 1;;", "00/00", 3}, {"4;;;", "0000/0000/0000/0000", 3},
		{"2;0;1;", "0w/10", 2}, {"2;1;0;", "0w/10", 1}, {"2;0;0;", "0w/10", 0}, {"2;1;1;", "0w/11", 1}, {"2;0;1;0a1:1", "1-/0w", 3}, {"2;0;1;0a1:1", "01/-0", 1},
		// The least one of several, neither the first nor the last.
		{"2;0 1;0 1;", "w1/--", 1}, {"2;0 1;0 1;", "--/0w", 0}, {"2;0 1;1;", "0w/0-", 2}, {"2;0;0 1;", "w1/00", 1}, {"2;0 1;0 1;", "--/--", 3}, {"2;0 1;0 1;", "ww/ww", 2},
		{"3;0 2;1;", "0-0/000/0w0", 2}, {"4;1 3;0 2;", "0000/w0w0/0000/10-0", 1}, {"4;3;0;", "0000/0000/0000/w000", 2},
	} {
		if got := impl.GradeBetween(automatonOf(t, c.automaton), gradesOf(t, c.grades)); got != c.want {
			t.Errorf("GradeBetween(%q, %q) = %d, want %d", c.automaton, c.grades, got, c.want)
		}
	}
	for states := 1; states <= impl.MaxStates; states++ {
		for _, a := range someAutomata(states, 100) {
			for _, m := range someGrades(states, 20) {
				want := min(leastBetween(a, m), impl.GradeNever)
				if got := impl.GradeBetween(a, m); got != want {
					t.Fatalf("GradeBetween(%v, %v) = %d, want %d", a, m, got, want)
				}
			}
		}
	}
}

func TestGradeBetweenOfOthers(t *testing.T) {
	for states := 1; states <= impl.MaxStates; states++ {
		// Even where no grade is asked for, the matrix has to be one of grades and of this size.
		for _, a := range []impl.Automaton{{States: states}, {States: states, Starts: []int{0}, Finals: []int{0}}} {
			for size := 1; size <= impl.MaxStates; size++ {
				m := impl.Matrix{Size: size, Cells: make([]int, size*size)}
				if got := impl.GradeBetween(a, m); size != states && got != -1 {
					t.Errorf("GradeBetween(%v, %v) = %d", a, m, got)
				}
			}
			for _, bad := range invalidGrades() {
				if got := impl.GradeBetween(a, bad); got != -1 {
					t.Errorf("GradeBetween(%v, %v) = %d", a, bad, got)
				}
			}
		}
	}
	for _, bad := range invalidAutomata(t) {
		for _, m := range append(slices.Clone(noMatrices), gradesOf(t, "0"), gradesOf(t, "00/00"), gradesOf(t, "000/000/000"), gradesOf(t, "0000/0000/0000/0000")) {
			if got := impl.GradeBetween(bad, m); got != -1 {
				t.Errorf("GradeBetween(%v, %v) = %d", bad, m, got)
			}
		}
	}
}

// resultsOfGrades are what the functions return for a matrix, idempotent or not.
func resultsOfGrades(m impl.Matrix) []impl.Matrix {
	grades, _ := impl.GradesOf(m)
	product, _ := impl.MulGrades(m, m)
	power, _, _ := impl.IdempotentOf(m)
	stable, _ := impl.Stabilise(m)
	stablePower, _ := impl.Stabilise(power)
	parsed, _ := impl.ParseGrades(impl.FormatGrades(m))
	return []impl.Matrix{grades, product, power, stable, stablePower, parsed}
}

func TestGradesAreToldAlike(t *testing.T) {
	matrices := []impl.Matrix{gradesOf(t, "-0--/--0-/---0/01--"), gradesOf(t, "11w1/-0w1/--w-/---1")}
	wantAlike(t, 50, func() []string {
		var all []string
		for _, m := range matrices {
			for _, got := range resultsOfGrades(m) {
				all = append(all, impl.FormatGrades(got))
			}
		}
		return all
	})
}

// The cells and the automaton have room behind them, which has to stay as it is as well.
func TestArgumentsOfGradesAreLeftAlone(t *testing.T) {
	for _, group := range append(gradeGroups(50), invalidGrades()) {
		for _, m := range group {
			room := append(slices.Clone(m.Cells), 8, 8, 8, 8)
			before := slices.Clone(room)
			given := impl.Matrix{Size: m.Size, Cells: room[:len(m.Cells)]}
			a := impl.Automaton{States: m.Size, Starts: []int{0}, Finals: []int{0}}
			between := roomy(a)
			resultsOfGrades(given)
			impl.GradesValid(given)
			impl.IsIdempotent(given)
			impl.GradeBetween(between, given)
			wantUntouched(t, between, a)
			if !slices.Equal(room, before) {
				t.Errorf("%v has become %v", before, room)
			}
		}
	}
}

// Some of these results have the same cells as their argument, and yet may not share them.
func TestGradesShareNothing(t *testing.T) {
	for _, s := range []string{"0", "w", "01/-0", "0w/-0", "-0/0-", "-11/-01/---", "0---/-0--/--0-/---0", "-0--/--0-/---0/01--"} {
		m := gradesOf(t, s)
		first, second, before := resultsOfGrades(m), resultsOfGrades(m), resultsOfGrades(m)
		for at, got := range first {
			cells := got.Cells[:cap(got.Cells)]
			for cell := range cells {
				cells[cell] = 9
			}
			for later := range second {
				if !impl.SameMatrix(second[later], before[later]) || later > at && !impl.SameMatrix(first[later], before[later]) {
					t.Errorf("result %d of %s has changed with result %d", later, s, at)
				}
			}
		}
		wantGrades(t, "the argument of the results", m, true, s)
		for cell := range m.Cells {
			m.Cells[cell] = 9
		}
		for at := range second {
			if !impl.SameMatrix(second[at], before[at]) {
				t.Errorf("result %d of %s has changed with its argument", at, s)
			}
		}
	}
}
