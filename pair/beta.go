package pair

import "tapeworks/api"

// maxStep is the greatest second argument of Beta.
const maxStep = 1 << 40

// Beta returns the value of the Goedel beta function.
func Beta(a, b int64, i int) (int64, api.Errno) {
	if a < 0 || b < 0 || b > maxStep || i < 0 || i > api.MaxSmall {
		return 0, api.ErrRange
	}
	return a % divisor(b, i), api.OK
}

// Find returns numbers a and b for which Beta(a, b, i) is l[i] for every index i.
func Find(l []int) (int64, int64, api.Errno) {
	if len(l) > api.MaxList {
		return 0, 0, api.ErrLarge
	}
	greatest := 0
	for _, value := range l {
		if value < 0 || value > api.MaxCount {
			return 0, 0, api.ErrRange
		}
		greatest = max(greatest, value)
	}
	b := step(greatest)
	a, product := int64(0), int64(1)
	for i, value := range l {
		d := divisor(b, i)
		// Adding the product of the earlier divisors keeps their remainders and, as they have no prime in common with d, reaches every remainder of d.
		for a%d != int64(value) {
			a += product
		}
		product *= d
	}
	return a, b, api.OK
}

// divisor returns the number by which Beta divides for an index.
func divisor(b int64, i int) int64 {
	return 1 + (int64(i)+1)*b
}

// step returns a second argument of Beta whose divisors exceed the greatest value. It is a multiple of 6, so that no two of the divisors have a prime in common: such a prime would not divide the step, but the difference of two indexes, which is at most 4, and so it would be 2 or 3.
func step(greatest int) int64 {
	return int64((greatest + 5) / 6 * 6)
}
