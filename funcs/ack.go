package funcs

import "tapeworks/api"

// Ack returns the value of the Ackermann function.
func Ack(m, n int) (int, api.Errno) {
	if m < 0 || n < 0 || m > api.MaxSigns {
		return 0, api.ErrRange
	}
	row := firstRow()
	for range m {
		row = nextRow(row)
	}
	if n >= len(row) {
		return 0, api.ErrLong
	}
	return row[n], api.OK
}

// firstRow lists the values Ack(0, 0), Ack(0, 1) and so on that are not too great.
func firstRow() []int {
	row := make([]int, api.MaxSmall)
	for n := range row {
		row[n] = n + 1
	}
	return row
}

// nextRow lists such values for m from those for m-1. Each row increases, so the values that are not too great are at its start, and those computed from a value beyond the end of a row are too great as well.
func nextRow(row []int) []int {
	var next []int
	for at := 1; at < len(row); {
		at = row[at]
		next = append(next, at)
	}
	return next
}
