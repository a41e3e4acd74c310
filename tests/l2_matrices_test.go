package tests

import (
	"math"
	"math/rand"
	"slices"
	"strconv"
	"strings"
	"testing"

	"loop.example/distanceautomata/impl"
)

// noSizes has numbers whose squares wrap around, in 64 bits, to 0 and to 1.
var noSizes = []int{math.MinInt, -1 << 32, -4, -2, -1, 0, 5, 6, 100, 1 << 32, 1<<63 - 1}

// noMatrices are of sizes that are none, or have too few or too many cells.
var noMatrices = []impl.Matrix{
	{}, {Size: 0, Cells: []int{0}}, {Size: 1}, {Size: 1, Cells: []int{0, 0}}, {Size: 2, Cells: []int{0}}, {Size: 2, Cells: make([]int, 2)},
	{Size: 2, Cells: make([]int, 3)}, {Size: 2, Cells: make([]int, 5)}, {Size: 3, Cells: make([]int, 8)}, {Size: 3, Cells: make([]int, 10)},
	{Size: 4, Cells: make([]int, 15)}, {Size: 4, Cells: make([]int, 17)}, {Size: 5, Cells: make([]int, 25)}, {Size: -1, Cells: []int{0}},
	{Size: -2, Cells: make([]int, 4)}, {Size: 1 << 32}, {Size: math.MinInt}, {Size: math.MaxInt, Cells: []int{0}},
}

func matrixOf(t *testing.T, s string) impl.Matrix {
	t.Helper()
	m, ok := impl.ParseMatrix(s)
	if !ok {
		t.Fatalf("ParseMatrix(%q) = false", s)
	}
	return m
}

func wantMatrix(t *testing.T, what string, got impl.Matrix, ok bool, want string) {
	t.Helper()
	if s := impl.FormatMatrix(got); s != want || !ok {
		t.Errorf("%s = %q, %v, want %q", what, s, ok, want)
	}
}

func wantNoMatrix(t *testing.T, what string, got impl.Matrix, ok bool) {
	t.Helper()
	if got.Size != 0 || len(got.Cells) != 0 || ok {
		t.Errorf("%s = %v, %v, want none", what, got, ok)
	}
}

// matricesOfTwo are all matrices of two rows with these cells.
func matricesOfTwo(cells ...int) []impl.Matrix {
	var all []impl.Matrix
	for _, a := range cells {
		for _, b := range cells {
			for _, c := range cells {
				for _, d := range cells {
					all = append(all, impl.Matrix{Size: 2, Cells: []int{a, b, c, d}})
				}
			}
		}
	}
	return all
}

// someMatrices are the same ones in every run.
func someMatrices(size int, count int) []impl.Matrix {
	source := rand.New(rand.NewSource(int64(size)))
	cells := []int{0, 1, 2, 3, 7, 400000, 999999, impl.Never, impl.Never, impl.Never}
	all := make([]impl.Matrix, count)
	for at := range all {
		all[at] = impl.Matrix{Size: size, Cells: make([]int, size*size)}
		for cell := range all[at].Cells {
			all[at].Cells[cell] = cells[source.Intn(len(cells))]
		}
	}
	return all
}

// plainUnit, plainProduct and plainLesser are the chapter's words, cell by cell.
func plainUnit(size int) impl.Matrix {
	m := impl.Matrix{Size: size, Cells: slices.Repeat([]int{impl.Never}, size*size)}
	for i := range size {
		m.Cells[i*size+i] = 0
	}
	return m
}

func plainProduct(a impl.Matrix, b impl.Matrix) impl.Matrix {
	m := impl.Matrix{Size: a.Size, Cells: slices.Repeat([]int{impl.Never}, a.Size*a.Size)}
	for i := range a.Size {
		for k := range a.Size {
			for l := range a.Size {
				at := i*a.Size + k
				m.Cells[at] = min(m.Cells[at], capped(a.Cells[i*a.Size+l]+b.Cells[l*a.Size+k]))
			}
		}
	}
	return m
}

func plainLesser(a impl.Matrix, b impl.Matrix) impl.Matrix {
	m := impl.Matrix{Size: a.Size, Cells: slices.Clone(a.Cells)}
	for at, cell := range b.Cells {
		m.Cells[at] = min(m.Cells[at], cell)
	}
	return m
}

func TestMaxStatesIsFour(t *testing.T) {
	if impl.MaxStates != 4 {
		t.Errorf("MaxStates = %d", impl.MaxStates)
	}
}

func TestMatrixValid(t *testing.T) {
	for size := 1; size <= impl.MaxStates; size++ {
		for at := range size * size {
			for _, cell := range append(slices.Clone(costs), noCosts...) {
				m := impl.Matrix{Size: size, Cells: make([]int, size*size)}
				m.Cells[at] = cell
				if got := impl.MatrixValid(m); got != impl.CostValid(cell) {
					t.Errorf("MatrixValid(%v) = %v", m, got)
				}
			}
		}
	}
	for _, m := range noMatrices {
		if impl.MatrixValid(m) {
			t.Errorf("MatrixValid(%d, %d cells) = true", m.Size, len(m.Cells))
		}
	}
	for _, size := range noSizes {
		for _, cells := range []int{0, 1, 4, 25} {
			if impl.MatrixValid(impl.Matrix{Size: size, Cells: make([]int, cells)}) {
				t.Errorf("MatrixValid(%d, %d cells) = true", size, cells)
			}
		}
	}
}

func TestUnitMatrix(t *testing.T) {
	for size, want := range map[int]string{1: "0", 2: "0 -/- 0", 3: "0 - -/- 0 -/- - 0", 4: "0 - - -/- 0 - -/- - 0 -/- - - 0"} {
		m, ok := impl.UnitMatrix(size)
		wantMatrix(t, "UnitMatrix("+strconv.Itoa(size)+")", m, ok, want)
	}
	for _, size := range noSizes {
		m, ok := impl.UnitMatrix(size)
		wantNoMatrix(t, "UnitMatrix("+strconv.Itoa(size)+")", m, ok)
	}
}

func TestMulAndMinOfMatrices(t *testing.T) {
	for _, c := range []struct{ a, b, product, lesser string }{
		{"0", "0", "0", "0"},
		{"2", "3", "5", "2"},
		{"-", "0", "-", "0"},
		{"999999", "1", "-", "1"},
		{"999999", "-", "-", "999999"},
		{"0 1/- 0", "0 1/- 0", "0 1/- 0", "0 1/- 0"},
		{"0 1/- 0", "2 -/0 3", "1 4/0 3", "0 1/0 0"},
		{"2 -/0 3", "0 1/- 0", "2 3/0 1", "0 1/0 0"},
		{"- -/- -", "0 0/0 0", "- -/- -", "0 0/0 0"},
		{"- 3/- -", "- -/- 4", "- 7/- -", "- 3/- 4"},
		{"- 500000/- -", "- -/- 500000", "- -/- -", "- 500000/- 500000"},
		{"- 500000/- -", "- -/- 499999", "- 999999/- -", "- 500000/- 499999"},
		{"- 1 -/- - 1/1 - -", "- 2 -/- - 2/2 - -", "- - 3/3 - -/- 3 -", "- 1 -/- - 1/1 - -"},
		{"- - - 1/- - 2 -/- 3 - -/4 - - -", "0 - - -/- 1 - -/- - 2 -/- - - 3", "- - - 4/- - 4 -/- 4 - -/4 - - -", "0 - - 1/- 1 2 -/- 3 2 -/4 - - 3"},
	} {
		a, b := matrixOf(t, c.a), matrixOf(t, c.b)
		m, ok := impl.MulMatrix(a, b)
		wantMatrix(t, "MulMatrix of "+c.a+" and "+c.b, m, ok, c.product)
		m, ok = impl.MinMatrix(a, b)
		wantMatrix(t, "MinMatrix of "+c.a+" and "+c.b, m, ok, c.lesser)
	}
}

func TestMulAndMinOfManyMatrices(t *testing.T) {
	groups := [][]impl.Matrix{matricesOfTwo(0, 2, 999999, impl.Never)}
	for size := 1; size <= impl.MaxStates; size++ {
		groups = append(groups, someMatrices(size, 60))
	}
	for _, group := range groups {
		for _, a := range group {
			for _, b := range group {
				if got, ok := impl.MulMatrix(a, b); !ok || !impl.SameMatrix(got, plainProduct(a, b)) {
					t.Fatalf("MulMatrix(%v, %v) = %v, %v", a, b, got, ok)
				}
				if got, ok := impl.MinMatrix(a, b); !ok || !impl.SameMatrix(got, plainLesser(a, b)) {
					t.Fatalf("MinMatrix(%v, %v) = %v, %v", a, b, got, ok)
				}
			}
		}
	}
}

func TestMatricesOfDifferentSizes(t *testing.T) {
	for a := 1; a <= impl.MaxStates; a++ {
		for b := 1; b <= impl.MaxStates; b++ {
			if a == b {
				continue
			}
			m, ok := impl.MulMatrix(plainUnit(a), plainUnit(b))
			wantNoMatrix(t, "MulMatrix", m, ok)
			m, ok = impl.MinMatrix(plainUnit(a), plainUnit(b))
			wantNoMatrix(t, "MinMatrix", m, ok)
		}
	}
}

// invalidMatrices have, beside those of noMatrices, a cell that is no cost, in every place.
func invalidMatrices() []impl.Matrix {
	all := slices.Clone(noMatrices)
	for size := 1; size <= impl.MaxStates; size++ {
		for at := range size * size {
			for _, cell := range noCosts {
				m := impl.Matrix{Size: size, Cells: make([]int, size*size)}
				m.Cells[at] = cell
				all = append(all, m)
			}
		}
	}
	return all
}

func TestFunctionsOfInvalidMatrices(t *testing.T) {
	for _, bad := range invalidMatrices() {
		for _, f := range []func(impl.Matrix, impl.Matrix) (impl.Matrix, bool){impl.MulMatrix, impl.MinMatrix} {
			m, ok := f(bad, bad)
			wantNoMatrix(t, "of two invalid matrices", m, ok)
			for size := 1; size <= impl.MaxStates; size++ {
				m, ok = f(bad, plainUnit(size))
				wantNoMatrix(t, "of an invalid matrix and another one", m, ok)
				m, ok = f(plainUnit(size), bad)
				wantNoMatrix(t, "of a matrix and an invalid one", m, ok)
			}
		}
		for _, n := range []int{math.MinInt, -1, 0, 1, 2, math.MaxInt} {
			m, ok := impl.PowerMatrix(bad, n)
			wantNoMatrix(t, "PowerMatrix of an invalid matrix", m, ok)
		}
		m, ok := impl.StarMatrix(bad)
		wantNoMatrix(t, "StarMatrix of an invalid matrix", m, ok)
		m, ok = impl.TurnMatrix(bad)
		wantNoMatrix(t, "TurnMatrix of an invalid matrix", m, ok)
		if got := impl.FormatMatrix(bad); got != "" {
			t.Errorf("FormatMatrix of an invalid matrix = %q", got)
		}
	}
}

func TestPowerMatrixIsARepeatedProduct(t *testing.T) {
	for size := 1; size <= impl.MaxStates; size++ {
		for _, m := range someMatrices(size, 40) {
			want := plainUnit(size)
			for n := range 40 {
				if got, ok := impl.PowerMatrix(m, n); !ok || !impl.SameMatrix(got, want) {
					t.Fatalf("PowerMatrix(%v, %d) = %v, %v, want %v", m, n, got, ok, want)
				}
				want = plainProduct(want, m)
			}
		}
	}
}

func TestPowerMatrixOfGreatExponents(t *testing.T) {
	for _, c := range []struct {
		text string
		n    int
		want string
	}{
		{"0", math.MaxInt, "0"},
		{"-", math.MaxInt, "-"},
		{"1", 999999, "999999"}, {"1", 1000000, "-"}, {"1", math.MaxInt, "-"}, {"1", 1 << 62, "-"}, {"1", 1 << 32, "-"},
		{"3", 333333, "999999"}, {"3", 333334, "-"}, {"999999", 1, "999999"}, {"999999", 2, "-"},
		{"0 1/- 0", math.MaxInt, "0 1/- 0"},
		{"1 0/- 0", math.MaxInt, "- 0/- 0"},
		{"2 -/0 3", math.MaxInt, "- -/- -"}, {"2 -/0 3", 1000, "2000 -/1998 3000"},
		{"2 -/0 3", 333333, "666666 -/666664 999999"}, {"2 -/0 3", 333334, "666668 -/666666 -"},
		// The greatest number is odd, is 1 more than a multiple of 3, and 1 less than one of 4.
		{"- 0/0 -", math.MaxInt, "- 0/0 -"}, {"- 0/0 -", math.MaxInt - 1, "0 -/- 0"}, {"- 0/1 -", math.MaxInt, "- -/- -"},
		{"- 0 -/- - 0/0 - -", math.MaxInt, "- 0 -/- - 0/0 - -"}, {"- 0 -/- - 0/0 - -", math.MaxInt - 1, "0 - -/- 0 -/- - 0"},
		{"- 0 - -/- - 0 -/- - - 0/0 - - -", math.MaxInt, "- - - 0/0 - - -/- 0 - -/- - 0 -"},
		{"- 0 - -/- - 0 -/- - - 0/0 - - -", 1 << 40, "0 - - -/- 0 - -/- - 0 -/- - - 0"},
		{"- 1 - -/- - 1 -/- - - 1/1 - - -", 999998, "- - 999998 -/- - - 999998/999998 - - -/- 999998 - -"},
		{"- 1 - -/- - 1 -/- - - 1/- - - -", math.MaxInt, "- - - -/- - - -/- - - -/- - - -"},
	} {
		got, ok := impl.PowerMatrix(matrixOf(t, c.text), c.n)
		wantMatrix(t, "PowerMatrix of "+c.text+" and "+strconv.Itoa(c.n), got, ok, c.want)
	}
}

func TestPowerMatrixOfNegativeExponents(t *testing.T) {
	for _, n := range []int{-1, -2, -1 << 32, math.MinInt} {
		for _, s := range []string{"0", "1", "0 1/- 0", "- -/- -", "0 - -/- 0 -/- - 0"} {
			m, ok := impl.PowerMatrix(matrixOf(t, s), n)
			wantNoMatrix(t, "PowerMatrix of "+s+" and "+strconv.Itoa(n), m, ok)
		}
	}
}

func TestStarMatrix(t *testing.T) {
	for s, want := range map[string]string{
		"0": "0", "3": "0", "-": "0",
		"- -/- -": "0 -/- 0", "5 1/- 0": "0 1/- 0", "5 1/2 5": "0 1/2 0",
		"- 1 -/- - 1/5 - -":                              "0 1 2/6 0 1/5 6 0",
		"- 1 9/- - 1/- - -":                              "0 1 2/- 0 1/- - 0",
		"- 500000 -/- - 500000/- - -":                    "0 500000 -/- 0 500000/- - 0",
		"- 500000 -/- - 499999/- - -":                    "0 500000 999999/- 0 499999/- - 0",
		"- 1 - -/- - 1 -/- - - 1/- - - -":                "0 1 2 3/- 0 1 2/- - 0 1/- - - 0",
		"- - - -/1 - - -/- 1 - -/- - 1 -":                "0 - - -/1 0 - -/2 1 0 -/3 2 1 0",
		"9 1 5 9/9 9 1 5/9 9 9 1/1 9 9 9":                "0 1 2 3/3 0 1 2/2 3 0 1/1 2 3 0",
		"- 400000 - -/- - 400000 -/- - - 400000/- - - -": "0 400000 800000 -/- 0 400000 800000/- - 0 400000/- - - 0",
	} {
		got, ok := impl.StarMatrix(matrixOf(t, s))
		wantMatrix(t, "StarMatrix of "+s, got, ok, want)
	}
}

// The powers up to the size are enough, but more of them are looked at here.
func TestStarMatrixIsTheLeastOfAllPowers(t *testing.T) {
	groups := [][]impl.Matrix{matricesOfTwo(0, 1, 3, 999999, impl.Never)}
	for size := 1; size <= impl.MaxStates; size++ {
		groups = append(groups, someMatrices(size, 400))
	}
	for _, group := range groups {
		for _, m := range group {
			power := plainUnit(m.Size)
			want := power
			for range 12 {
				power = plainProduct(power, m)
				want = plainLesser(want, power)
			}
			if got, ok := impl.StarMatrix(m); !ok || !impl.SameMatrix(got, want) {
				t.Fatalf("StarMatrix(%v) = %v, %v, want %v", m, got, ok, want)
			}
		}
	}
}

func TestTurnMatrix(t *testing.T) {
	for s, want := range map[string]string{
		"0": "0", "-": "-", "0 1/- 0": "0 -/1 0", "1 2/3 4": "1 3/2 4",
		"1 2 3/4 5 6/7 8 9":                     "1 4 7/2 5 8/3 6 9",
		"1 2 3 4/5 6 7 8/9 10 11 12/13 14 15 -": "1 5 9 13/2 6 10 14/3 7 11 15/4 8 12 -",
	} {
		got, ok := impl.TurnMatrix(matrixOf(t, s))
		wantMatrix(t, "TurnMatrix of "+s, got, ok, want)
		got, ok = impl.TurnMatrix(got)
		wantMatrix(t, "TurnMatrix, twice, of "+s, got, ok, s)
	}
}

// A product that is turned is the one of the turned ones, in the other order.
func TestTurnedProducts(t *testing.T) {
	for _, a := range someMatrices(4, 30) {
		for _, b := range someMatrices(4, 30) {
			product, _ := impl.MulMatrix(a, b)
			got, _ := impl.TurnMatrix(product)
			turnedA, _ := impl.TurnMatrix(a)
			turnedB, _ := impl.TurnMatrix(b)
			if want, ok := impl.MulMatrix(turnedB, turnedA); !ok || !impl.SameMatrix(got, want) {
				t.Fatalf("the product of %v and %v, turned, is %v, want %v", a, b, got, want)
			}
		}
	}
}

func TestFormatAndParseMatrix(t *testing.T) {
	for s, want := range map[string]impl.Matrix{
		"0":                               {Size: 1, Cells: []int{0}},
		"-":                               {Size: 1, Cells: []int{impl.Never}},
		"999999":                          {Size: 1, Cells: []int{999999}},
		"0 1/- 0":                         {Size: 2, Cells: []int{0, 1, impl.Never, 0}},
		"1 2 3/4 5 6/7 8 9":               {Size: 3, Cells: []int{1, 2, 3, 4, 5, 6, 7, 8, 9}},
		"10 - -/- 10 -/- - 0":             {Size: 3, Cells: []int{10, impl.Never, impl.Never, impl.Never, 10, impl.Never, impl.Never, impl.Never, 0}},
		"0 0 0 1/0 0 2 0/0 3 0 0/4 0 0 0": {Size: 4, Cells: []int{0, 0, 0, 1, 0, 0, 2, 0, 0, 3, 0, 0, 4, 0, 0, 0}},
	} {
		if got := impl.FormatMatrix(want); got != s {
			t.Errorf("FormatMatrix(%v) = %q, want %q", want, got, s)
		}
		if got, ok := impl.ParseMatrix(s); got.Size != want.Size || !slices.Equal(got.Cells, want.Cells) || !ok {
			t.Errorf("ParseMatrix(%q) = %v, %v, want %v", s, got, ok, want)
		}
	}
	for size := 1; size <= impl.MaxStates; size++ {
		for _, m := range someMatrices(size, 50) {
			got, ok := impl.ParseMatrix(impl.FormatMatrix(m))
			if !ok || !impl.SameMatrix(got, m) {
				t.Errorf("%v came back as %v, %v", m, got, ok)
			}
		}
	}
}

func TestParseMatrixOfOtherTexts(t *testing.T) {
	five := strings.Repeat("0 0 0 0 0/", 5)
	texts := []string{
		"", " ", "/", "//", "///", "////", "0/", "/0", "0//", "0 1", "0 1 - 0", "0/1", "0 1/0", "0/1 0", "0 1 -/0", "0/1 - 0",
		"0 1/- 0/", "/0 1/- 0", "0 1//- 0", "0 1/- 0/0 0", "0 1/- 0 0", "0 1 0/- 0", "0 1 2/3", "0/1 2 3",
		"0 0 0/0 0 0", "0 0/0 0/0 0", "0 0 0/0 0/0 0 0 0", "0 0 0 0/0 0 0 0/0 0 0 0", five, strings.TrimSuffix(five, "/"),
		" 0 1/- 0", "0 1/- 0 ", "0 1 /- 0", "0 1/ - 0", "0  1/- 0", "0 1\n- 0", "0 1/- 0\n", "0,1/-,0", "0 1;- 0", "0 1\\- 0",
		strings.Repeat("/", 10000), strings.Repeat("0 ", 10000), strings.Repeat("0/", 10000),
	}
	for _, bad := range noCostTexts {
		if bad != "/" {
			texts = append(texts, bad)
		}
		texts = append(texts, bad+" 1/- 0", "0 "+bad+"/- 0", "0 1/"+bad+" 0", "0 1/- "+bad)
	}
	for _, s := range texts {
		m, ok := impl.ParseMatrix(s)
		wantNoMatrix(t, "ParseMatrix("+strconv.Quote(s)+")", m, ok)
	}
}

// Every text of at most seven of these bytes is a matrix's text exactly if it is what FormatMatrix returns.
func TestParseMatrixOfAllShortTexts(t *testing.T) {
	formats := map[string]bool{"0": true, "-": true}
	for _, m := range matricesOfTwo(0, impl.Never) {
		formats[impl.FormatMatrix(m)] = true
	}
	texts := []string{""}
	for from := 0; len(texts[from]) < 7; from++ {
		for _, b := range "0- /" {
			texts = append(texts, texts[from]+string(b))
		}
	}
	for _, s := range texts {
		m, ok := impl.ParseMatrix(s)
		if !formats[s] {
			wantNoMatrix(t, "ParseMatrix("+strconv.Quote(s)+")", m, ok)
		} else {
			wantMatrix(t, "ParseMatrix("+strconv.Quote(s)+")", m, ok, s)
		}
	}
}

func TestSameMatrix(t *testing.T) {
	for _, m := range append(invalidMatrices(), someMatrices(3, 20)...) {
		if !impl.SameMatrix(m, impl.Matrix{Size: m.Size, Cells: slices.Clone(m.Cells)}) {
			t.Errorf("SameMatrix(%v, itself) = false", m)
		}
		if impl.SameMatrix(m, impl.Matrix{Size: m.Size + 1, Cells: m.Cells}) || impl.SameMatrix(m, impl.Matrix{Size: -m.Size - 1, Cells: m.Cells}) {
			t.Errorf("SameMatrix(%v, of another size) = true", m)
		}
		longer := impl.Matrix{Size: m.Size, Cells: append(slices.Clone(m.Cells), 0)}
		if impl.SameMatrix(m, longer) || impl.SameMatrix(longer, m) {
			t.Errorf("SameMatrix(%v, with one cell more) = true", m)
		}
		for at := range m.Cells {
			other := impl.Matrix{Size: m.Size, Cells: slices.Clone(m.Cells)}
			other.Cells[at]++
			if impl.SameMatrix(m, other) || impl.SameMatrix(other, m) {
				t.Errorf("SameMatrix(%v, %v) = true", m, other)
			}
		}
	}
	if !impl.SameMatrix(impl.Matrix{Size: 2}, impl.Matrix{Size: 2, Cells: []int{}}) {
		t.Error("SameMatrix of no cells and an empty slice = false")
	}
}

// The cells of the arguments have room behind them, which has to stay as it is as well.
func TestMatricesAreLeftAlone(t *testing.T) {
	for size := 1; size <= impl.MaxStates; size++ {
		for _, m := range someMatrices(size, 10) {
			room := append(slices.Clone(m.Cells), 8, 8, 8, 8)
			before := slices.Clone(room)
			a := impl.Matrix{Size: size, Cells: room[:size*size]}
			for _, got := range resultsOf(a) {
				for at := range got.Cells {
					got.Cells[at] = 9
				}
				_ = append(got.Cells, 9, 9, 9, 9)
			}
			impl.MatrixValid(a)
			impl.FormatMatrix(a)
			impl.SameMatrix(a, a)
			if !slices.Equal(room, before) {
				t.Errorf("%v became %v", before, room)
			}
		}
	}
}

// resultsOf has those results that are the same as the argument, too.
func resultsOf(a impl.Matrix) []impl.Matrix {
	unit, _ := impl.UnitMatrix(a.Size)
	product, _ := impl.MulMatrix(a, a)
	same, _ := impl.MulMatrix(a, unit)
	lesser, _ := impl.MinMatrix(a, a)
	none, _ := impl.PowerMatrix(a, 0)
	once, _ := impl.PowerMatrix(a, 1)
	twice, _ := impl.PowerMatrix(a, 2)
	star, _ := impl.StarMatrix(a)
	turned, _ := impl.TurnMatrix(a)
	parsed, _ := impl.ParseMatrix(impl.FormatMatrix(a))
	return []impl.Matrix{unit, product, same, lesser, none, once, twice, star, turned, parsed}
}

func TestMatricesShareNothing(t *testing.T) {
	for size := 1; size <= impl.MaxStates; size++ {
		a := plainUnit(size)
		one, other := resultsOf(a), resultsOf(a)
		before := resultsOf(a)
		for at, got := range one {
			for cell := range got.Cells {
				got.Cells[cell] = 9
			}
			_ = append(got.Cells, 9, 9, 9, 9)
			for later := range other {
				if !impl.SameMatrix(other[later], before[later]) || later > at && !impl.SameMatrix(one[later], before[later]) {
					t.Errorf("result %d of size %d changed with result %d", later, size, at)
				}
			}
		}
	}
}

// Many calls at once have the results of one call at a time.
func TestPowersAtOnce(t *testing.T) {
	m := matrixOf(t, "1 0 - 3/- 2 1 -/0 - 3 1/1 1 - 2")
	want, _ := impl.PowerMatrix(m, 1001)
	results := make(chan impl.Matrix)
	for range 64 {
		go func() {
			got, _ := impl.PowerMatrix(m, 1001)
			results <- got
		}()
	}
	for range 64 {
		if got := <-results; !impl.SameMatrix(got, want) {
			t.Errorf("PowerMatrix = %v, want %v", got, want)
		}
	}
}
