package tests

import (
	"math"

	"loop.example/g01365/impl"
)

// The references of this file say with loops over cells what the document says
// in words, the columns apart from the rows.

func gainA(g impl.Game, row, column int64) int64 { return g.A[row*g.Columns+column] }
func gainB(g impl.Game, row, column int64) int64 { return g.B[row*g.Columns+column] }

func worseRowsReference(g impl.Game) []int64 {
	var worse []int64
	for row := range g.Rows {
		isWorse := false
		for rival := range g.Rows {
			greater := int64(0)
			for column := range g.Columns {
				if gainA(g, rival, column) > gainA(g, row, column) {
					greater++
				}
			}
			isWorse = isWorse || greater == g.Columns
		}
		if isWorse {
			worse = append(worse, row)
		}
	}
	return worse
}

func worseColumnsReference(g impl.Game) []int64 {
	var worse []int64
	for column := range g.Columns {
		isWorse := false
		for rival := range g.Columns {
			greater := int64(0)
			for row := range g.Rows {
				if gainB(g, row, rival) > gainB(g, row, column) {
					greater++
				}
			}
			isWorse = isWorse || greater == g.Rows
		}
		if isWorse {
			worse = append(worse, column)
		}
	}
	return worse
}

// survivorsReference leaves out one choice at a time, the last one first: for
// what is worse in each column or row, the order does not matter.
func survivorsReference(g impl.Game) ([]int64, []int64) {
	rows, columns := numbersTo(g.Rows), numbersTo(g.Columns)
	for {
		worseRows, worseColumns := worseRowsReference(g), worseColumnsReference(g)
		switch {
		case len(worseColumns) > 0:
			last := worseColumns[len(worseColumns)-1]
			g, columns = cutColumn(g, last), cut(columns, last)
		case len(worseRows) > 0:
			last := worseRows[len(worseRows)-1]
			g, rows = cutRow(g, last), cut(rows, last)
		default:
			return rows, columns
		}
	}
}

func numbersTo(n int64) []int64 {
	var list []int64
	for i := range n {
		list = append(list, i)
	}
	return list
}

func cut(list []int64, at int64) []int64 {
	return append(append([]int64{}, list[:at]...), list[at+1:]...)
}

func cutRow(g impl.Game, at int64) impl.Game {
	part := impl.Game{Rows: g.Rows - 1, Columns: g.Columns}
	for cell := range g.A {
		if int64(cell)/g.Columns != at {
			part.A, part.B = append(part.A, g.A[cell]), append(part.B, g.B[cell])
		}
	}
	return part
}

func cutColumn(g impl.Game, at int64) impl.Game {
	part := impl.Game{Rows: g.Rows, Columns: g.Columns - 1}
	for cell := range g.A {
		if int64(cell)%g.Columns != at {
			part.A, part.B = append(part.A, g.A[cell]), append(part.B, g.B[cell])
		}
	}
	return part
}

func bestRowsReference(g impl.Game, column int64) []int64 {
	most := int64(math.MinInt64)
	for row := range g.Rows {
		most = max(most, gainA(g, row, column))
	}
	var best []int64
	for row := range g.Rows {
		if gainA(g, row, column) == most {
			best = append(best, row)
		}
	}
	return best
}

func bestColumnsReference(g impl.Game, row int64) []int64 {
	most := int64(math.MinInt64)
	for column := range g.Columns {
		most = max(most, gainB(g, row, column))
	}
	var best []int64
	for column := range g.Columns {
		if gainB(g, row, column) == most {
			best = append(best, column)
		}
	}
	return best
}

// pureReference has all cells that neither player would rather leave.
func pureReference(g impl.Game) []int64 {
	var cells []int64
	for row := range g.Rows {
		for column := range g.Columns {
			stays := true
			for rival := range g.Rows {
				stays = stays && gainA(g, rival, column) <= gainA(g, row, column)
			}
			for rival := range g.Columns {
				stays = stays && gainB(g, row, rival) <= gainB(g, row, column)
			}
			if stays {
				cells = append(cells, row*g.Columns+column)
			}
		}
	}
	return cells
}

func paretoReference(g impl.Game) []int64 {
	var cells []int64
	for cell := range g.A {
		isBeaten := false
		for other := range g.A {
			atLeast := g.A[other] >= g.A[cell] && g.B[other] >= g.B[cell]
			isBeaten = isBeaten || atLeast && (g.A[other] > g.A[cell] || g.B[other] > g.B[cell])
		}
		if !isBeaten {
			cells = append(cells, int64(cell))
		}
	}
	return cells
}

func safeRowReference(g impl.Game) (int64, int64) {
	safest, gain := int64(-1), int64(math.MinInt64)
	for row := range g.Rows {
		least := int64(math.MaxInt64)
		for column := range g.Columns {
			least = min(least, gainA(g, row, column))
		}
		if least > gain {
			safest, gain = row, least
		}
	}
	return safest, gain
}

func safeColumnReference(g impl.Game) (int64, int64) {
	safest, loss := int64(-1), int64(math.MaxInt64)
	for column := range g.Columns {
		greatest := int64(math.MinInt64)
		for row := range g.Rows {
			greatest = max(greatest, gainA(g, row, column))
		}
		if greatest < loss {
			safest, loss = column, greatest
		}
	}
	return safest, loss
}

// finite32 reports whether all numbers are finite.
func finite32(list ...float32) bool {
	for _, x := range list {
		if x != x || math.IsInf(float64(x), 0) {
			return false
		}
	}
	return true
}

func gainsReference(g impl.Game, rows, columns []float32) (float32, float32, bool) {
	a, b := float32(0), float32(0)
	for row := range g.Rows {
		for column := range g.Columns {
			chance := times(rows[row], columns[column])
			a = plus(a, times(chance, float32(gainA(g, row, column))))
			b = plus(b, times(chance, float32(gainB(g, row, column))))
		}
	}
	if !finite32(a, b) {
		return 0, 0, false
	}
	return a, b, true
}

func wouldGainReference(g impl.Game, rows, columns []float32) (float32, bool) {
	a, b, ok := gainsReference(g, rows, columns)
	if !ok {
		return 0, false
	}
	all := []float32{0}
	for row := range g.Rows {
		sum := float32(0)
		for column := range g.Columns {
			sum = plus(sum, times(columns[column], float32(gainA(g, row, column))))
		}
		all = append(all, plus(sum, -a))
	}
	for column := range g.Columns {
		sum := float32(0)
		for row := range g.Rows {
			sum = plus(sum, times(rows[row], float32(gainB(g, row, column))))
		}
		all = append(all, plus(sum, -b))
	}
	if !finite32(all...) {
		return 0, false
	}
	most := float32(0)
	for _, more := range all {
		if more > most {
			most = more
		}
	}
	return most, true
}

func stepsReference(g impl.Game, row, column int64) []int64 {
	cells := []int64{row*g.Columns + column}
	came := map[int64]bool{cells[0]: true}
	for {
		bestRow, bestColumn := bestRowsReference(g, column)[0], bestColumnsReference(g, row)[0]
		switch {
		case gainA(g, bestRow, column) > gainA(g, row, column):
			row = bestRow
		case gainB(g, row, bestColumn) > gainB(g, row, column):
			column = bestColumn
		default:
			return cells
		}
		cell := row*g.Columns + column
		cells = append(cells, cell)
		if came[cell] {
			return cells
		}
		came[cell] = true
	}
}

// playReference returns the cells of rounds, and the states of both before
// each of them, as 8 times that of the first one plus that of the second one.
func playReference(g impl.Game, a, b impl.Player, rounds int) (cells, states []int64) {
	atA, atB := int64(0), int64(0)
	for range rounds {
		states = append(states, 8*atA+atB)
		row, column := a.Moves[atA], b.Moves[atB]
		cells = append(cells, row*g.Columns+column)
		atA, atB = a.Next[atA*g.Columns+column], b.Next[atB*g.Rows+row]
	}
	return cells, states
}

// roundReference looks for the first pair of states that came before, in as
// many rounds as there are pairs, and one more.
func roundReference(g impl.Game, a, b impl.Player) (first, long, gainsA, gainsB int64) {
	cells, states := playReference(g, a, b, 65)
	for end := range states {
		for start := range end {
			if states[start] != states[end] {
				continue
			}
			for _, cell := range cells[start:end] {
				gainsA, gainsB = gainsA+g.A[cell], gainsB+g.B[cell]
			}
			return int64(start), int64(end - start), gainsA, gainsB
		}
	}
	panic("more pairs of states than there are")
}

func learnReference(g impl.Game, rounds int64) (rows, columns []int64) {
	rows, columns = make([]int64, g.Rows), make([]int64, g.Columns)
	rows[0], columns[0] = 1, 1
	for range rounds - 1 {
		row, column := int64(0), int64(0)
		most := int64(math.MinInt64)
		for i := range g.Rows {
			sum := int64(0)
			for k := range g.Columns {
				sum += gainA(g, i, k) * columns[k]
			}
			if sum > most {
				row, most = i, sum
			}
		}
		most = math.MinInt64
		for k := range g.Columns {
			sum := int64(0)
			for i := range g.Rows {
				sum += gainB(g, i, k) * rows[i]
			}
			if sum > most {
				column, most = k, sum
			}
		}
		rows[row]++
		columns[column]++
	}
	return rows, columns
}
