package cmd_test

import (
	"math"

	"wardmote/api"
)

// cursor goes through bytes by the document's words: neither cmd nor what it stands on is asked.
type cursor struct {
	b   []byte
	bad bool
}

// whole tells whether take finds nothing wrong in b, and takes all of it.
func whole(b []byte, take func(c *cursor)) bool {
	c := &cursor{b: b}
	take(c)
	return !c.bad && len(c.b) == 0
}

func isCommand(b []byte) bool { return whole(b, (*cursor).command) }

func isAnswer(b []byte) bool { return whole(b, (*cursor).answer) }

func isWrapped(b []byte) bool {
	return whole(b, func(c *cursor) {
		c.number(5)
		c.text(1 << 20)
	})
}

func (c *cursor) must(ok bool) {
	c.bad = c.bad || !ok
}

func (c *cursor) number(size int) int {
	if len(c.b) < size {
		c.bad = true
	}
	n := 0
	for i := 0; i < size && !c.bad; i++ {
		n = n*256 + int(c.b[i])
	}
	if !c.bad {
		c.b = c.b[size:]
	}
	return n
}

func (c *cursor) within(size, low, high int) int {
	n := c.number(size)
	c.must(n >= low && n <= high)
	return n
}

func (c *cursor) text(most int) string {
	n := c.within(4, 0, most)
	if len(c.b) < n {
		c.bad = true
	}
	if c.bad {
		return ""
	}
	s := string(c.b[:n])
	c.b = c.b[n:]
	return s
}

func (c *cursor) name() string {
	s := c.text(16)
	c.must(s != "")
	return s
}

func (c *cursor) span() api.Span {
	s := api.Span{Lo: c.text(16), Hi: c.text(16)}
	c.must(s.Hi == "" || s.Hi > s.Lo)
	return s
}

// value tells the Kind as well, since not each change has each.
func (c *cursor) value() int {
	kind := c.within(1, 1, 2)
	if kind == 1 {
		c.text(16)
		return kind
	}
	bits := uint64(c.number(4))<<32 | uint64(c.number(4))
	c.must(!math.IsNaN(math.Float64frombits(bits)) || bits == 0x7ff8000000000001)
	return kind
}

func (c *cursor) time() int {
	n := c.number(8)
	c.must(n >= 0 && n <= 1<<40)
	return n
}

func (c *cursor) change() {
	kind := c.within(1, 1, 5)
	if kind != 4 {
		c.name()
	}
	if kind != 4 && kind != 3 {
		c.time()
	}
	if kind == 1 || kind == 5 {
		v := c.value()
		c.must(kind == 1 || v == 2)
	}
}

func (c *cursor) cond() {
	is := c.within(1, 0, 2)
	if is > 0 {
		c.name()
	}
	if is > 1 {
		c.value()
	}
}

func (c *cursor) op() {
	switch c.number(1) {
	case 1:
		c.name()
	case 2:
		c.name()
		c.cond()
		for n := c.within(1, 1, 8); n > 0 && !c.bad; n-- {
			c.change()
		}
	case 3:
		c.span()
		c.within(1, 1, 16)
	default:
		c.bad = true
	}
}

func (c *cursor) command() {
	kind := c.within(1, 1, 10)
	switch kind {
	case 1:
		c.op()
	case 2, 3, 4, 5, 6:
		s := c.span()
		c.within(4, 1, 1<<30)
		if kind == 3 {
			c.text(1 << 20)
		}
		if kind > 4 {
			at := c.text(16)
			c.must(at > s.Lo && (s.Hi == "" || at < s.Hi))
		}
	case 7:
		c.text(16)
	case 8:
		if c.within(1, 0, 3) > 0 {
			c.text(16)
			c.number(1)
		}
	case 9:
		c.within(4, 1, 1<<30)
		c.within(1, 0, 1)
	}
}

func (c *cursor) row() {
	last := ""
	for n := c.within(1, 0, 4); n > 0 && !c.bad; n-- {
		s := c.name()
		c.must(s > last)
		last = s
		c.versions()
	}
}

func (c *cursor) versions() {
	newer := 1<<40 + 1
	for n := c.within(1, 1, 2); n > 0 && !c.bad; n-- {
		at := c.time()
		c.must(at < newer)
		newer = at
		c.value()
	}
}

func (c *cursor) answer() {
	c.number(1)
	for n := c.within(1, 0, 16); n > 0 && !c.bad; n-- {
		c.name()
		c.row()
	}
	c.span()
	c.number(3)
	c.within(4, 0, 1<<30)
	c.within(4, 0, 1<<30)
	c.text(16)
	c.text(1 << 20)
}
