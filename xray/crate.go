package xray

import (
	"slices"

	"pencilworks/api"
)

// lines is some rows and some columns of a crate: those that are spoilt in a truth, or those in which a sample has places.
type lines struct{ rows, cols set }

// have tells whether a place is in one of the lines.
func (l lines) have(s api.Spot) bool { return l.rows.has(s.Row) || l.cols.has(s.Col) }

// with returns lines, and those of a place.
func (l lines) with(s api.Spot) lines { return l.and(lines{only(s.Row), only(s.Col)}) }

func (l lines) and(other lines) lines { return lines{l.rows | other.rows, l.cols | other.cols} }

func (l lines) without(other lines) lines {
	return lines{l.rows.without(other.rows), l.cols.without(other.cols)}
}

// crate is a crate that is valid.
type crate api.Crate

// lines returns all rows and columns of a crate.
func (c crate) lines() lines { return lines{below(len(c.Rows)), below(c.Cols)} }

// truths yields each truth of a crate, by what is spoilt.
func (c crate) truths(yield func(lines) bool) {
	all := c.lines()
	for rows := range all.rows.parts(c.Clamps) {
		for cols := range all.cols.parts(c.Dies) {
			if !yield(lines{rows, cols}) {
				return
			}
		}
	}
}

// pencils returns how many pencils of each column lie in some rows.
func (c crate) pencils(rows set) int {
	many := 0
	for row := range rows.members {
		many += c.Rows[row]
	}
	return many
}

// bad returns how many pencils are bad in a truth.
func (c crate) bad(t lines) int {
	others := c.lines().without(t)
	return c.Cols*c.pencils(t.rows) + t.cols.size()*c.pencils(others.rows)
}

// good returns how many pencils are good in a truth.
func (c crate) good(t lines) int {
	return c.Cols*c.pencils(c.lines().rows) - c.bad(t)
}

// worst returns those of some lines, at most so many rows and so many columns, that spoil most pencils. A heavier set of rows never spoils fewer, and neither does a greater set of columns, whatever the other set is, so that each of them is looked for on its own.
func (c crate) worst(of lines, rows, cols int) lines {
	return lines{
		rows: foremost(c.pencils, slices.Collect(of.rows.parts(rows))...),
		cols: foremost(set.size, slices.Collect(of.cols.parts(cols))...),
	}
}
