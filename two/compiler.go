package two

import "tapeworks/api"

// The counters of a compiled machine.
const (
	packed = iota // the encoding of all counters of the original machine
	spare         // 0 whenever the code of an original instruction starts
)

// compiler collects the code of a compiled machine.
type compiler struct {
	code []api.Order
	// points has, by the number of each compiled instruction that leaves its code when its counter is 0, the original instruction to continue at: where the code of that one starts may not be known yet.
	points map[int]int
}

// compile adds the code of an original instruction. The code may pass its own start again, but then spare is not 0.
func (c *compiler) compile(order api.Order) {
	p := primes[order.Counter]
	if order.Kind == api.CMore {
		c.move(packed, spare, p)
		c.leave(1, order.Next)
	} else {
		c.less(p, order.Next, order.Zero)
	}
}

// less adds code that divides the encoding by p and continues at next, or, if there is a remainder, restores the encoding and continues at zero.
func (c *compiler) less(p, next, zero int) {
	start := len(c.code)
	divided := start + p + 1
	// The loop that brings back the quotient has two instructions; those that bring back the greatest remainder follow.
	restored := divided + 2 + p - 1
	c.add(api.Order{Kind: api.CLess, Counter: packed, Next: start + 1, Zero: divided})
	for rest := 1; rest < p; rest++ {
		c.add(api.Order{Kind: api.CLess, Counter: packed, Next: start + rest + 1, Zero: restored - rest})
	}
	c.add(api.Order{Kind: api.CMore, Counter: spare, Next: start})
	c.leave(1, next)
	c.more(packed, p-1)
	c.leave(p, zero)
}

// leave adds code that brings the contents of spare back, that many times, and continues at an original instruction.
func (c *compiler) leave(times, original int) {
	head := c.move(spare, packed, times)
	c.points[head] = original
}

// move adds a loop that empties one counter and increases another by that many times its value; the machine continues behind the loop. It returns where the loop starts.
func (c *compiler) move(from, to, times int) int {
	head := len(c.code)
	c.add(api.Order{Kind: api.CLess, Counter: from, Next: head + 1, Zero: head + times + 1})
	c.more(to, times-1)
	c.add(api.Order{Kind: api.CMore, Counter: to, Next: head})
	return head
}

// more adds that many increments of a counter, one after the other.
func (c *compiler) more(counter, times int) {
	for range times {
		c.add(api.Order{Kind: api.CMore, Counter: counter, Next: len(c.code) + 1})
	}
}

func (c *compiler) add(order api.Order) {
	c.code = append(c.code, order)
}

// connect lets all code that leaves for an original instruction continue where its code starts.
func (c *compiler) connect(starts []int) {
	for at := range c.code {
		if original, ok := c.points[at]; ok {
			c.code[at].Zero = starts[original]
		}
	}
}
