package tests

import (
	"math"
	"slices"
	"strconv"
	"strings"
	"testing"

	"loop.example/distanceautomata/impl"
)

var costs = []int{0, 1, 2, 9, 10, 99, 100, 499999, 500000, 500001, 999998, 999999, impl.Never}

var noCosts = []int{math.MinInt, -impl.Never, -2, -1, impl.Never + 1, 2 * impl.Never, math.MaxInt}

// noCostTexts holds texts that no cost has, among them numbers that wrap around to a cost in 32 or 64 bits.
var noCostTexts = []string{
	"", " ", "--", "-1", "-0", "+", "+1", "00", "01", "007", "1000000", "1000001", "9999999",
	"4294967297", "18446744073709551616", "18446744073709551617", strings.Repeat("9", 1000),
	strings.Repeat("0", 1000), "x", "1x", "x1", "1-", "-x", "0x1", "1e3", "1_0", "1.0", "1,2",
	" 1", "1 ", "1\n", "\t1", "1\x00", "\xff", "1\xff", "\u0661", "\u2212", "\u2013", "Never", "0 1", "/", ":",
}

// capped is the sum that the chapter asks for, of numbers that are far from too great for an int.
func capped(n int) int {
	return min(n, impl.Never)
}

func TestNeverIsAMillion(t *testing.T) {
	if impl.Never != 1000000 {
		t.Errorf("Never = %d", impl.Never)
	}
}

func TestCostValid(t *testing.T) {
	for _, a := range costs {
		if !impl.CostValid(a) {
			t.Errorf("CostValid(%d) = false", a)
		}
	}
	for _, a := range noCosts {
		if impl.CostValid(a) {
			t.Errorf("CostValid(%d) = true", a)
		}
	}
}

func TestAddAndMinOfCosts(t *testing.T) {
	for _, a := range costs {
		for _, b := range costs {
			if got, want := impl.AddCost(a, b), capped(a+b); got != want {
				t.Errorf("AddCost(%d, %d) = %d, want %d", a, b, got, want)
			}
			if got, want := impl.MinCost(a, b), min(a, b); got != want {
				t.Errorf("MinCost(%d, %d) = %d, want %d", a, b, got, want)
			}
		}
	}
}

func TestAddAndMinOfOtherNumbers(t *testing.T) {
	for _, a := range noCosts {
		for _, b := range append(slices.Clone(costs), noCosts...) {
			for _, pair := range [][2]int{{a, b}, {b, a}} {
				if got := impl.AddCost(pair[0], pair[1]); got != -1 {
					t.Errorf("AddCost(%d, %d) = %d, want -1", pair[0], pair[1], got)
				}
				if got := impl.MinCost(pair[0], pair[1]); got != -1 {
					t.Errorf("MinCost(%d, %d) = %d, want -1", pair[0], pair[1], got)
				}
			}
		}
	}
}

func TestTimesCost(t *testing.T) {
	for _, c := range []struct{ n, a, want int }{
		{0, 0, 0}, {0, 7, 0}, {0, impl.Never, 0},
		{1, 0, 0}, {1, 7, 7}, {1, 999999, 999999}, {1, impl.Never, impl.Never},
		{3, 4, 12}, {4, 3, 12}, {999999, 1, 999999}, {1000000, 1, impl.Never}, {1000001, 1, impl.Never},
		{499999, 2, 999998}, {500000, 2, impl.Never}, {500001, 2, impl.Never},
		{333333, 3, 999999}, {333334, 3, impl.Never}, {2, 499999, 999998}, {2, 500000, impl.Never}, {2, 999999, impl.Never},
		{2, impl.Never, impl.Never}, {math.MaxInt, impl.Never, impl.Never},
		// These products wrap around to small numbers, or to negative ones.
		{math.MaxInt, 0, 0}, {math.MaxInt, 1, impl.Never}, {math.MaxInt, 2, impl.Never}, {math.MaxInt, 3, impl.Never},
		{math.MaxInt/2 + 1, 2, impl.Never}, {math.MaxInt/2 + 1, 4, impl.Never}, {math.MaxInt/4 + 1, 8, impl.Never},
	} {
		if got := impl.TimesCost(c.n, c.a); got != c.want {
			t.Errorf("TimesCost(%d, %d) = %d, want %d", c.n, c.a, got, c.want)
		}
	}
}

func TestTimesCostIsARepeatedSum(t *testing.T) {
	for _, a := range costs {
		sum := 0
		for n := range 20 {
			if got := impl.TimesCost(n, a); got != sum {
				t.Errorf("TimesCost(%d, %d) = %d, want %d", n, a, got, sum)
			}
			sum = capped(sum + a)
		}
	}
}

func TestTimesCostOfOtherNumbers(t *testing.T) {
	for _, n := range []int{math.MinInt, -2, -1} {
		for _, a := range append(slices.Clone(costs), noCosts...) {
			if got := impl.TimesCost(n, a); got != -1 {
				t.Errorf("TimesCost(%d, %d) = %d, want -1", n, a, got)
			}
		}
	}
	for _, n := range []int{0, 1, 2, math.MaxInt} {
		for _, a := range noCosts {
			if got := impl.TimesCost(n, a); got != -1 {
				t.Errorf("TimesCost(%d, %d) = %d, want -1", n, a, got)
			}
		}
	}
}

func TestSumAndLeastOfLists(t *testing.T) {
	for _, c := range []struct {
		list       []int
		sum, least int
	}{
		{nil, 0, impl.Never},
		{[]int{}, 0, impl.Never},
		{[]int{0}, 0, 0},
		{[]int{7}, 7, 7},
		{[]int{impl.Never}, impl.Never, impl.Never},
		{[]int{1, 2, 3}, 6, 1},
		{[]int{3, 1, 2}, 6, 1},
		{[]int{3, 2, 1}, 6, 1},
		{[]int{999999, 0, 0}, 999999, 0},
		{[]int{999999, 1}, impl.Never, 1},
		{[]int{999999, 3}, impl.Never, 3},
		{[]int{500000, 499999}, 999999, 499999},
		{[]int{impl.Never, 0}, impl.Never, 0},
		{[]int{0, impl.Never}, impl.Never, 0},
		{[]int{impl.Never, impl.Never, impl.Never}, impl.Never, impl.Never},
		{[]int{impl.Never, 5, impl.Never}, impl.Never, 5},
	} {
		if got := impl.SumCosts(c.list); got != c.sum {
			t.Errorf("SumCosts(%v) = %d, want %d", c.list, got, c.sum)
		}
		if got := impl.LeastCost(c.list); got != c.least {
			t.Errorf("LeastCost(%v) = %d, want %d", c.list, got, c.least)
		}
	}
}

func TestSumAndLeastOfLongLists(t *testing.T) {
	many := slices.Repeat([]int{999999}, 5000)
	if got := impl.SumCosts(many); got != impl.Never {
		t.Errorf("SumCosts of 5000 times 999999 = %d", got)
	}
	if got := impl.LeastCost(many); got != 999999 {
		t.Errorf("LeastCost of 5000 times 999999 = %d", got)
	}
	if got := impl.SumCosts(slices.Repeat([]int{1}, 5000)); got != 5000 {
		t.Errorf("SumCosts of 5000 times 1 = %d", got)
	}
}

// A number that is no cost counts wherever it stands: behind a sum that is Never already, and behind a least one of 0.
func TestSumAndLeastOfListsWithOtherNumbers(t *testing.T) {
	for _, a := range noCosts {
		for _, list := range [][]int{
			{a}, {a, 0}, {0, a}, {1, a, 2}, {impl.Never, a}, {a, impl.Never}, {impl.Never, impl.Never, 0, a}, {a, a}, {a, -a},
		} {
			if got := impl.SumCosts(list); got != -1 {
				t.Errorf("SumCosts(%v) = %d, want -1", list, got)
			}
			if got := impl.LeastCost(list); got != -1 {
				t.Errorf("LeastCost(%v) = %d, want -1", list, got)
			}
		}
	}
}

func TestFormatCost(t *testing.T) {
	for a, want := range map[int]string{0: "0", 1: "1", 7: "7", 10: "10", 100: "100", 999999: "999999", 1000000: "-"} {
		if got := impl.FormatCost(a); got != want {
			t.Errorf("FormatCost(%d) = %q, want %q", a, got, want)
		}
	}
	for _, a := range noCosts {
		if got := impl.FormatCost(a); got != "" {
			t.Errorf("FormatCost(%d) = %q, want none", a, got)
		}
	}
	if got := impl.FormatCost(impl.AddCost(999999, 3)); got != "-" {
		t.Errorf("the text of the sum of 999999 and 3 = %q", got)
	}
}

func TestParseCostTurnsFormatCostBack(t *testing.T) {
	for a := range impl.Never {
		s := strconv.Itoa(a)
		if got := impl.FormatCost(a); got != s {
			t.Fatalf("FormatCost(%d) = %q", a, got)
		}
		if got, ok := impl.ParseCost(s); got != a || !ok {
			t.Fatalf("ParseCost(%q) = %d, %v", s, got, ok)
		}
	}
	if got, ok := impl.ParseCost("-"); got != impl.Never || !ok {
		t.Errorf("ParseCost(\"-\") = %d, %v", got, ok)
	}
}

func TestParseCostOfOtherTexts(t *testing.T) {
	for _, s := range noCostTexts {
		if got, ok := impl.ParseCost(s); got != 0 || ok {
			t.Errorf("ParseCost(%q) = %d, %v", s, got, ok)
		}
	}
}

// Every text of at most three of these bytes is a cost's text exactly if it is what FormatCost returns.
func TestParseCostOfAllShortTexts(t *testing.T) {
	bytes := []byte("0129-+ /:x\xff")
	texts := []string{""}
	for from := 0; len(texts[from]) < 3; from++ {
		for _, b := range bytes {
			texts = append(texts, texts[from]+string([]byte{b}))
		}
	}
	for _, s := range texts {
		n, err := strconv.Atoi(s)
		want, fits := n, err == nil && n >= 0 && strconv.Itoa(n) == s
		if s == "-" {
			want, fits = impl.Never, true
		}
		if !fits {
			want = 0
		}
		if got, ok := impl.ParseCost(s); got != want || ok != fits {
			t.Errorf("ParseCost(%q) = %d, %v, want %d, %v", s, got, ok, want, fits)
		}
	}
}

func TestFormatAndParseCosts(t *testing.T) {
	for _, c := range []struct {
		list []int
		text string
	}{
		{nil, ""},
		{[]int{}, ""},
		{[]int{0}, "0"},
		{[]int{impl.Never}, "-"},
		{[]int{0, impl.Never, 3}, "0 - 3"},
		{[]int{10, 2, 2, 999999}, "10 2 2 999999"},
		{[]int{impl.Never, impl.Never}, "- -"},
		{costs, "0 1 2 9 10 99 100 499999 500000 500001 999998 999999 -"},
	} {
		if got := impl.FormatCosts(c.list); got != c.text {
			t.Errorf("FormatCosts(%v) = %q, want %q", c.list, got, c.text)
		}
		if got, ok := impl.ParseCosts(c.text); !slices.Equal(got, c.list) || !ok {
			t.Errorf("ParseCosts(%q) = %v, %v, want %v", c.text, got, ok, c.list)
		}
	}
}

func TestFormatAndParseCostsOfLongLists(t *testing.T) {
	list := slices.Repeat(costs, 1000)
	got, ok := impl.ParseCosts(impl.FormatCosts(list))
	if !slices.Equal(got, list) || !ok {
		t.Errorf("a list of %d costs came back as one of %d, %v", len(list), len(got), ok)
	}
}

func TestFormatCostsWithOtherNumbers(t *testing.T) {
	for _, a := range noCosts {
		for _, list := range [][]int{{a}, {a, 0}, {0, a}, {1, a, 2}, {impl.Never, 0, a}} {
			if got := impl.FormatCosts(list); got != "" {
				t.Errorf("FormatCosts(%v) = %q, want none", list, got)
			}
		}
	}
}

func TestParseCostsOfOtherTexts(t *testing.T) {
	for _, s := range []string{
		" ", "  ", " 0", "0 ", "0  1", " 0 1", "0 1 ", "0 1\n", "0\t1", "0\n1", "0,1", "0/1", "0\u00a01",
	} {
		if got, ok := impl.ParseCosts(s); len(got) != 0 || ok {
			t.Errorf("ParseCosts(%q) = %v, %v", s, got, ok)
		}
	}
	for _, bad := range noCostTexts {
		if bad == "0 1" { // two costs
			continue
		}
		texts := []string{"3 " + bad, bad + " 3", "3 " + bad + " -"}
		if bad != "" {
			texts = append(texts, bad)
		}
		for _, s := range texts {
			if got, ok := impl.ParseCosts(s); len(got) != 0 || ok {
				t.Errorf("ParseCosts(%q) = %v, %v", s, got, ok)
			}
		}
	}
}

func TestListsOfCostsAreLeftAlone(t *testing.T) {
	list := []int{3, impl.Never, 1, 2, 8, 9}
	before := slices.Clone(list)
	impl.SumCosts(list[:4])
	impl.LeastCost(list[:4])
	impl.FormatCosts(list[:4])
	if !slices.Equal(list, before) {
		t.Errorf("the list became %v", list)
	}
}

func TestParsedListsShareNothing(t *testing.T) {
	one, _ := impl.ParseCosts("1 2 3")
	other, _ := impl.ParseCosts("1 2 3")
	for i := range one {
		one[i] = 7
	}
	_ = append(one, 7, 7, 7)
	if !slices.Equal(other, []int{1, 2, 3}) {
		t.Errorf("another result became %v", other)
	}
	if again, _ := impl.ParseCosts("1 2 3"); !slices.Equal(again, []int{1, 2, 3}) {
		t.Errorf("a later result is %v", again)
	}
}
