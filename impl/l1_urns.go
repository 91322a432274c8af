package impl

import "slices"

// MaxColours is the maximum number of colours, and MaxEach that of balls of a colour.
const (
	MaxColours = 3
	MaxEach    = 40
)

// UrnOk reports whether an urn has a number of balls, in 0..MaxEach, for each of 1..MaxColours colours.
func UrnOk(urn []int) bool {
	if len(urn) < 1 || len(urn) > MaxColours {
		return false
	}
	for _, balls := range urn {
		if balls < 0 || balls > MaxEach {
			return false
		}
	}
	return true
}

// TotalOf returns the number of all balls of an urn (UrnOk); -1 for others.
func TotalOf(urn []int) int {
	if !UrnOk(urn) {
		return -1
	}
	return sumOf(urn)
}

// ChanceOf returns the chance of a colour, from 0 on, in one draw from an urn (UrnOk), as a fraction in least terms: its balls over all balls, as two numbers without a common divisor but 1, 0 and 1 for none; and true; 0, 0 and false for an urn without balls, for no such colour, and for others.
func ChanceOf(urn []int, colour int) (int, int, bool) {
	total := TotalOf(urn)
	if total <= 0 || !hasColour(urn, colour) {
		return 0, 0, false
	}
	over, under := leastTerms(urn[colour], total)
	return over, under, true
}

// PutIn returns an urn (UrnOk) with so many balls of a colour more, less than 0 for balls that are taken out, and true; nil and false if that is none (UrnOk), if there is no such colour, and for others.
func PutIn(urn []int, colour int, many int) ([]int, bool) {
	if !UrnOk(urn) || !hasColour(urn, colour) {
		return nil, false
	}
	changed := slices.Clone(urn)
	// A sum that wraps around comes out below 0, so no urn is made of it either.
	changed[colour] += many
	if !UrnOk(changed) {
		return nil, false
	}
	return changed, true
}

// PouredUrn returns the urn with the balls of two urns of as many colours (UrnOk) together, and true; nil and false if that is none (UrnOk), and for others.
func PouredUrn(a []int, b []int) ([]int, bool) {
	if !UrnOk(a) || !UrnOk(b) || len(a) != len(b) {
		return nil, false
	}
	poured := addedRows(a, b)
	if !UrnOk(poured) {
		return nil, false
	}
	return poured, true
}

// sumOf adds all numbers of a row.
func sumOf(row []int) int {
	sum := 0
	for _, number := range row {
		sum += number
	}
	return sum
}

// hasColour reports whether a colour is one of those of an urn.
func hasColour(urn []int, colour int) bool {
	return colour >= 0 && colour < len(urn)
}

// leastTerms returns a fraction, from 0 on and over more than 0, without a common divisor but 1.
func leastTerms(over, under int) (int, int) {
	common := greatestDivisor(over, under)
	return over / common, under / common
}

// greatestDivisor returns the greatest common divisor of two numbers from 0 on, of which one is more than 0.
func greatestDivisor(a, b int) int {
	for b != 0 {
		a, b = b, a%b
	}
	return a
}

// addedRows returns the row of the sums of both numbers of each place; both rows are as long.
func addedRows(a, b []int) []int {
	return joinedRows(a, b, func(x, y int) int { return x + y })
}

// joinedRows returns the row of both elements of each place, joined to one; both rows are as long.
func joinedRows[T any](a, b []T, join func(T, T) T) []T {
	row := make([]T, len(a))
	for i := range row {
		row[i] = join(a[i], b[i])
	}
	return row
}
