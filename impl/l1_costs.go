package impl

import (
	"strconv"
	"strings"
)

// Never is the cost of what can't be had.
const Never = 1000000

const (
	noCost    = -1
	neverText = "-"
)

// A cost is a number that should be from 0 to Never; valid tells whether it is.
// The other methods, text apart, are for valid costs only.
type cost int

func (c cost) valid() bool {
	return c >= 0 && c <= Never
}

func (c cost) plus(d cost) cost {
	return min(c+d, Never)
}

// times divides before it multiplies, as the product may be too great for an int.
func (c cost) times(n int) cost {
	if c > 0 && n > Never/int(c) {
		return Never
	}
	return cost(n) * c
}

func (c cost) text() string {
	switch {
	case !c.valid():
		return ""
	case c == Never:
		return neverText
	}
	return strconv.Itoa(int(c))
}

// sumOf goes on when the sum is Never, as a later number may be no cost.
func sumOf(numbers ...int) int {
	sum := cost(0)
	for _, n := range numbers {
		c := cost(n)
		if !c.valid() {
			return noCost
		}
		sum = sum.plus(c)
	}
	return int(sum)
}

// leastOf goes on when the least one is 0, as a later number may be no cost.
func leastOf(numbers ...int) int {
	least := cost(Never)
	for _, n := range numbers {
		c := cost(n)
		if !c.valid() {
			return noCost
		}
		least = min(least, c)
	}
	return int(least)
}

// readCost panics if s is not the text of a cost.
func readCost(s string) cost {
	if s == neverText {
		return Never
	}
	if s == "" || len(s) > 1 && s[0] == '0' {
		panic("no text of a cost")
	}
	c := cost(0)
	for _, r := range s {
		if r < '0' || r > '9' {
			panic("no digit")
		}
		c = c*10 + cost(r-'0')
		// Never itself is refused too, as its only text is the dash.
		if c >= Never {
			panic("too great")
		}
	}
	return c
}

// CostValid reports whether a number is a cost.
func CostValid(a int) bool {
	return cost(a).valid()
}

// AddCost returns the sum of two costs, at most Never; -1 if one is no cost.
func AddCost(a int, b int) int {
	return sumOf(a, b)
}

// MinCost returns the lesser one of two costs; -1 if one is no cost.
func MinCost(a int, b int) int {
	return leastOf(a, b)
}

// TimesCost returns the sum of so many times a cost, at most Never; -1 if n is negative or a no cost.
func TimesCost(n int, a int) int {
	c := cost(a)
	if n < 0 || !c.valid() {
		return noCost
	}
	return int(c.times(n))
}

// SumCosts returns the sum of costs, 0 for none, at most Never; -1 if one is no cost.
func SumCosts(list []int) int {
	return sumOf(list...)
}

// LeastCost returns the least one of costs, Never for none; -1 if one is no cost.
func LeastCost(list []int) int {
	return leastOf(list...)
}

// FormatCost returns the text of a cost; the empty string for other numbers.
func FormatCost(a int) string {
	return cost(a).text()
}

// ParseCost returns the cost whose FormatCost is s, and whether there is one.
func ParseCost(s string) (a int, ok bool) {
	defer func() {
		if recover() != nil {
			a, ok = 0, false
		}
	}()
	return int(readCost(s)), true
}

// FormatCosts returns the texts of costs with single spaces between them; the empty string if one is no cost.
func FormatCosts(list []int) string {
	texts := make([]string, len(list))
	for i, a := range list {
		texts[i] = FormatCost(a)
		if texts[i] == "" {
			return ""
		}
	}
	return strings.Join(texts, " ")
}

// ParseCosts returns the costs whose FormatCosts is s, and whether there are such; none for the empty string.
func ParseCosts(s string) ([]int, bool) {
	if s == "" {
		return nil, true
	}
	fields := strings.Split(s, " ")
	list := make([]int, len(fields))
	for i, field := range fields {
		a, ok := ParseCost(field)
		if !ok {
			return nil, false
		}
		list[i] = a
	}
	return list, true
}
