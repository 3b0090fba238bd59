package master

import (
	"slices"

	"wardmote/api"
)

// crowd is what is to be done if there were MaxTablets at a time between from
// and till, in which it is told of nothing that comes or goes: how many splits
// ahead of it, and how many merges behind it.
type crowd struct {
	*record
	from, till     int
	splits, merges int
	room           int    // at how many names tablets may be cut then
	begins, ends   []int  // of names that may be among them: since when, till when
	begin, end     int    // of gaps, where more than one may be: the lowest one, the highest one
	early, late    []duty // what else must be done with these names at some time: it may be one of the splits, of the merges
}

// mayBeFull tells whether there may have been MaxTablets at a time, and yet plans enough for these duties.
func (r *record) mayBeFull(duties []duty) bool {
	times := []int{r.past.full, r.gen + 1}
	for _, s := range r.stays {
		times = append(times, s.first, s.last+1)
	}
	slices.Sort(times)
	times = slices.Compact(times)
	for i := len(times) - 1; i > 0 && times[i-1] >= r.past.full; i-- {
		if r.crowdOf(times[i-1], times[i]-1).mayBe(duties) {
			return true
		}
	}
	return false
}

func (r *record) crowdOf(from, till int) *crowd {
	c := &crowd{record: r, from: from, till: till, splits: r.most - 1, merges: r.most - 1, begin: never}
	for i := range r.names {
		if i > 0 {
			c.seeName(nameEdge(i))
		}
		c.seeGap(i)
	}
	slices.Sort(c.begins)
	slices.Sort(c.ends)
	return c
}

// seeName counts a name at which tablets may be cut.
func (c *crowd) seeName(e edge) {
	before, at, behind := c.around(e)
	if at.first > 0 && !at.is {
		return
	}
	c.room++
	if at.first > 0 || before.is && behind.is {
		c.splits--
		c.merges--
		return
	}
	c.seeSplit(before, behind, duty{before.last, c.till, api.DoSplit, e})
	c.seeMerge(before, behind, duty{c.from, behind.first, api.DoMerge, e})
}

// seeSplit counts the split by which tablets were cut at a name: d, if it is not ahead of what is told before.
func (c *crowd) seeSplit(before, behind fact, d duty) {
	if before.is || c.isKnownToDo(d) {
		c.splits--
		return
	}
	c.begins = append(c.begins, d.after)
	d.until = behind.first
	if behind.is && !c.isKnownToDo(d) {
		c.early = append(c.early, d)
	}
}

// seeMerge counts the merge by which they were not cut there any more: d, if it is not behind what is told next.
func (c *crowd) seeMerge(before, behind fact, d duty) {
	if behind.is || c.isKnownToDo(d) {
		c.merges--
		return
	}
	c.ends = append(c.ends, d.until)
	d.after = before.last
	if before.is && !c.isKnownToDo(d) {
		c.late = append(c.late, d)
	}
}

// seeGap counts what may be cut in the gap behind name i.
func (c *crowd) seeGap(i int) {
	before, at, behind := c.around(gapEdge(i))
	if at.first > 0 {
		return
	}
	c.room += c.names[i].room
	if c.names[i].room > 0 {
		c.begin = min(c.begin, before.last)
		c.end = max(c.end, behind.first)
	}
	for _, x := range c.l {
		// What is cut there in the end may be cut there then.
		if x.lo == gapEdge(i) && behind.last == 0 {
			c.merges--
			c.begins = append(c.begins, before.last)
			c.early = append(c.early, duty{before.last, c.gen, api.DoSplit, x.lo})
		}
	}
}

// around answers what is told of e ahead of the time, then, and behind it. What is not told has a zero fact, but that all ends with the last Gen.
func (c *crowd) around(e edge) (before, at, behind fact) {
	behind.first = c.gen
	for _, f := range c.factsOf(e) {
		switch {
		case f.last < c.from:
			before = f
		case f.first <= c.till:
			at = f
		default:
			return before, at, f
		}
	}
	return before, at, behind
}

// mayBe tells whether there may have been plans enough for that, and for these duties.
func (c *crowd) mayBe(duties []duty) bool {
	if c.room < c.most-1 {
		return false
	}
	splits, merges := c.splitDuties(), c.mergeDuties()
	isOne := func(d duty) bool {
		return len(splits) > 0 && slices.Contains(c.early, d) || len(merges) > 0 && slices.Contains(c.late, d)
	}
	rest := slices.DeleteFunc(slices.Clone(duties), isOne)
	// No split that may be anywhere made a tablet of which it is told.
	return c.mayDo(splits) && c.mayDo(slices.Concat(rest, splits, merges))
}

// splitDuties answers all splits; none, if those that must be done at some time may be enough.
func (c *crowd) splitDuties() []duty {
	var l []duty
	if c.splits < len(c.early) {
		return nil
	}
	for i := range c.splits {
		after := c.begin
		if i < len(c.begins) {
			after = min(after, c.begins[i])
		}
		l = append(l, duty{after, c.till, api.DoSplit, anywhere})
	}
	return l
}

// mergeDuties answers all merges; none, if those that must be done at some time may be enough.
func (c *crowd) mergeDuties() []duty {
	var l []duty
	if c.merges < len(c.late) {
		return nil
	}
	for i := range c.merges {
		until := c.end
		if i < len(c.ends) {
			until = max(until, c.ends[len(c.ends)-1-i])
		}
		l = append(l, duty{c.from, until, api.DoMerge, anywhere})
	}
	return l
}
