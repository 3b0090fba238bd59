package change_test

import (
	"fmt"
	"slices"
	"testing"

	"wardmote/api"
	"wardmote/change"
	"wardmote/octet"
)

func fill[T any](l []T, x T) {
	for i := range l {
		l[i] = x
	}
}

// withRoom is l in memory of its own with room behind it, and x in that room.
func withRoom[T any](l []T, x T) []T {
	own := make([]T, len(l), len(l)+2)
	copy(own, l)
	fill(own[len(own):cap(own)], x)
	return own
}

func roomyValue(v api.Value) api.Value {
	v.B = withRoom(v.B, 'r')
	return v
}

// roomy is r with room behind each of its lists, and something in that room.
func roomy(r api.Row) api.Row {
	out := api.Row{L: withRoom(r.L, col("room", at(77, text("room"))))}
	for i, c := range r.L {
		l := withRoom(c.L, at(77, text("room")))
		for k := range c.L {
			l[k].V = roomyValue(l[k].V)
		}
		out.L[i].L = l
	}
	return out
}

func roomyChanges(l []api.Change) []api.Change {
	out := withRoom(l, put("room", 77, text("room")))
	for i := range l {
		out[i].V = roomyValue(out[i].V)
	}
	return out
}

// memory is one list: all of it with its room as a text, and how to overwrite that.
type memory struct {
	show      func() string
	overwrite func()
}

// memoryOf keeps l's own header, so that it is found again whatever is done around it.
func memoryOf[T any](l []T, x T, show func(T) string) memory {
	all := l[:cap(l)]
	tell := func() string {
		s := ""
		for _, x := range all {
			s += show(x) + ";"
		}
		return s
	}
	return memory{tell, func() { fill(all, x) }}
}

// flat tells of a value what stands in its own place: its bytes are a list by themselves.
func flat(v api.Value) string {
	return fmt.Sprint(v.Kind, " ", len(v.B), " ", v.N)
}

func memoryOfValue(v api.Value) memory {
	return memoryOf(v.B, 'z', func(b byte) string { return string(rune(b)) })
}

// memoriesOf are all lists of a row: its columns, their versions, and these versions' bytes.
func memoriesOf(r api.Row) []memory {
	l := []memory{memoryOf(r.L, col("zzz", at(99, text("zzz"))), func(c api.Column) string { return c.Name })}
	for _, c := range r.L {
		l = append(l, memoryOf(c.L, at(99, text("zzz")), func(v api.Version) string { return fmt.Sprint(v.Time, "=", flat(v.V)) }))
		for _, v := range c.L {
			l = append(l, memoryOfValue(v.V))
		}
	}
	return l
}

func memoriesOfChanges(l []api.Change) []memory {
	out := []memory{memoryOf(l, put("zzz", 99, text("zzz")), func(c api.Change) string {
		return fmt.Sprint(c.Kind, c.Col, c.Time, flat(c.V))
	})}
	for _, c := range l {
		out = append(out, memoryOfValue(c.V))
	}
	return out
}

func showAll(l []memory) []string {
	var out []string
	for _, x := range l {
		out = append(out, x.show())
	}
	return out
}

func overwriteAll(l []memory) {
	// The bytes first: the lists that lead to them are found by their own headers.
	for _, x := range slices.Backward(l) {
		x.overwrite()
	}
}

// bears has Texts and Numbers that bear bytes, each with room.
func bears() api.Row {
	return roomy(of(
		col("a", at(5, text("xy")), at(3, api.Value{Kind: api.Number, B: []byte("nn"), N: 1})),
		col("c", at(4, text("")), at(2, text(longest))),
		col("n", at(1, number(7))),
	))
}

// steps are lists of changes: those that are applied, and those that are refused.
func steps() [][]api.Change {
	some, bare := text("new"), api.Value{Kind: api.Number, N: 1, B: []byte("bare")}
	return [][]api.Change{
		nil,
		list(put("b", 1, some)), list(put("f", 1, text(""))), list(put("a", 5, some)), list(put("c", 3, some)), list(put("a", 0, some)),
		list(put("a", 9, bare)),
		list(drop("a", 5)), list(drop("a", 4)), list(drop("n", 1)), list(dropCol("c")), list(dropCol("d")), list(dropRow()),
		list(add("n", 1, 2)), list(add("n", 5, 2)), list(add("e", 5, 2)),
		list(api.Change{Kind: api.Add, Col: "n", Time: 2, V: bare}),
		list(put("b", 1, some), put("b", 2, some), drop("a", 5), add("n", 5, 2), dropCol("c"), put("a", 9, text(""))),
		list(dropRow(), put("b", 1, some), put("c", 1, some)),
		list(put("b", 1, some), put("d", 1, some)), list(put("b", 1, some), add("a", 9, 1)), list(put("b", 1, some), put("", 1, some)),
		slices.Repeat(list(put("b", 1, some)), api.MaxChanges+1),
	}
}

// TestAnswersAreNewMemory: each list of an answer is overwritten, with its
// room: neither what was handed in nor another list of the answer is touched.
func TestAnswersAreNewMemory(t *testing.T) {
	for _, s := range steps() {
		r, l := bears(), roomyChanges(s)
		given := append(memoriesOf(r), memoriesOfChanges(l)...)
		was := showAll(given)
		answer := func() []memory {
			got, _ := change.Apply(r, l...)
			return memoriesOf(got)
		}
		for i := range answer() {
			all := answer()
			others := slices.Delete(slices.Clone(all), i, i+1)
			is := showAll(others)
			all[i].overwrite()
			if got := showAll(others); !slices.Equal(got, is) {
				t.Errorf("R2: Apply of %s: two lists of the answer share memory: %q, was %q", showChanges(s), got, is)
			}
			if got := showAll(given); !slices.Equal(got, was) {
				t.Fatalf("R2: Apply of %s: what was handed in is changed, or shares memory with the answer: %q, was %q", showChanges(s), got, was)
			}
		}
	}
}

// TestNothingIsKept: what was handed in is overwritten, and an answer is as it was.
func TestNothingIsKept(t *testing.T) {
	for _, s := range steps() {
		r, l := bears(), roomyChanges(s)
		got, _ := change.Apply(r, l...)
		answer := memoriesOf(got)
		was := showAll(answer)
		overwriteAll(append(memoriesOf(r), memoriesOfChanges(l)...))
		if is := showAll(answer); !slices.Equal(is, was) {
			t.Errorf("R2: Apply of %s: the answer hangs on what was handed in: %q, was %q", showChanges(s), is, was)
		}
		again, _ := change.Apply(bears(), s...)
		if is := showAll(memoriesOf(again)); !slices.Equal(is, was) {
			t.Errorf("R4: Apply of %s: another answer the second time: %q, was %q", showChanges(s), is, was)
		}
	}
}

func TestNothingIsChanged(t *testing.T) {
	r := bears()
	l := roomyChanges(list(put("a", 9, text("x")), add("n", 2, 1), drop("a", 5), dropCol("c"), dropRow(), api.Change{Kind: 7, V: text("x")}))
	v := roomyValue(text("xy"))
	given := append(append(memoriesOf(r), memoriesOfChanges(l)...), memoryOfValue(v))
	was := showAll(given)
	for _, c := range l {
		change.Right(c)
		changes().bytesOf(c)
	}
	for _, c := range []api.Cond{is("a", v), is("b", v), none("a"), {V: v}} {
		change.Holds(r, c)
		conds().bytesOf(c)
	}
	if got := showAll(given); !slices.Equal(got, was) {
		t.Errorf("R2: what is handed in is changed: %q, was %q", got, was)
	}
}

// valueOfChange and valueOfCond answer what has the only list of what is taken.
func valueOfChange(c api.Change) api.Value { return c.V }

func valueOfCond(c api.Cond) api.Value { return c.V }

func (s side[T]) testTakenMemory(t *testing.T, x T, valueOf func(T) api.Value) {
	b := append(s.bytesOf(x, x), "room"...)
	was := string(b)
	var l []memory
	octet.Read(b[:len(b)-4], func(r *octet.Reader) {
		l = append(l, memoryOfValue(valueOf(s.take(r))), memoryOfValue(valueOf(s.take(r))))
	})
	first := l[0].show()
	l[1].overwrite()
	if l[0].show() != first || string(b) != was {
		t.Errorf("R2: %s: what was taken shares memory with another one or with the bytes", s.name)
	}
	fill(b, 'y')
	if l[0].show() != first {
		t.Errorf("R2: %s: the bytes that are read are kept", s.name)
	}
}

func TestTakenMemory(t *testing.T) {
	for _, s := range []string{"", "x", longest} {
		changes().testTakenMemory(t, put("a", 5, text(s)), valueOfChange)
		conds().testTakenMemory(t, is("a", text(s)), valueOfCond)
	}
}

// TestWriteKeepsNothing: what was written stays, whatever is done to the value behind it.
func TestWriteKeepsNothing(t *testing.T) {
	v := roomyValue(text("xy"))
	w := octet.New()
	change.Write(w, put("a", 5, v))
	change.WriteCond(w, is("a", v))
	was := string(w.Done())
	memoryOfValue(v).overwrite()
	if got := string(w.Done()); got != was {
		t.Errorf("R2: what was written hangs on what was handed in: % x, was % x", got, was)
	}
}
