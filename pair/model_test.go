package pair_test

import "tapeworks/api"

// numbers makes a fixed sequence of numbers that looks arbitrary.
type numbers uint64

// next returns the next number; its upper bits look more arbitrary than its lower ones.
func (s *numbers) next() uint64 {
	*s = *s*6364136223846793005 + 1442695040888963407
	return uint64(*s)
}

// below returns the next number that is at least 0 and less than n.
func (s *numbers) below(n int) int {
	return int(s.next()>>33) % n
}

// magnitude returns a number of up to so many bits; short ones are as frequent as long ones.
func (s *numbers) magnitude(bits int) int64 {
	return int64(s.next() >> (64 - bits) >> s.below(bits+1))
}

// part returns a number that can be part of a pair.
func (s *numbers) part() int {
	const most = api.MaxPair
	switch n := min(int(s.magnitude(20)), most); s.below(3) {
	case 0:
		return n
	case 1:
		return most - n
	}
	return s.below(most + 1)
}

// sumUp adds the numbers up to n, by adding the first and the last, the second and the last but one, and so on.
func sumUp(n int) int64 {
	m := int64(n)
	if m%2 == 0 {
		return m / 2 * (m + 1)
	}
	return (m + 1) / 2 * m
}

// nextList counts through the lists of the same length; it returns false behind the last one.
func nextList(l []int) bool {
	for i := range l {
		if l[i] < api.MaxCount {
			l[i]++
			return true
		}
		l[i] = 0
	}
	return false
}
