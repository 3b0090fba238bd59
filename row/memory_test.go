package row_test

import (
	"fmt"
	"slices"
	"testing"

	"wardmote/api"
	"wardmote/octet"
	"wardmote/row"
)

// roomy is r with room behind each of its lists, and something in that room.
func roomy(r api.Row) api.Row {
	out := api.Row{L: make([]api.Column, len(r.L), len(r.L)+2)}
	for i, c := range r.L {
		l := make([]api.Version, len(c.L), len(c.L)+2)
		for k, v := range c.L {
			l[k] = at(v.Time, roomyValue(v.V))
		}
		fill(l[len(l):cap(l)], at(77, text("room")))
		out.L[i] = api.Column{Name: c.Name, L: l}
	}
	fill(out.L[len(out.L):cap(out.L)], col("room", at(77, text("room"))))
	return out
}

func roomyValue(v api.Value) api.Value {
	b := make([]byte, len(v.B), len(v.B)+3)
	copy(b, v.B)
	fill(b[len(b):cap(b)], 'r')
	v.B = b
	return v
}

func fill[T any](l []T, x T) {
	for i := range l {
		l[i] = x
	}
}

// list is one list of a row: all of it with its room as a text, and how to overwrite that.
type list struct {
	show      func() string
	overwrite func()
}

// listOf keeps l's own header, so that it is found again whatever is done to the row.
func listOf[T any](l []T, x T, show func([]T) string) list {
	all := l[:cap(l)]
	return list{func() string { return show(all) }, func() { fill(all, x) }}
}

func showNames(l []api.Column) string {
	s := ""
	for _, c := range l {
		s += c.Name + ";"
	}
	return s
}

// showTimes tells of versions what stands in their own list: their bytes are lists by themselves.
func showTimes(l []api.Version) string {
	s := ""
	for _, v := range l {
		s += fmt.Sprint(v.Time, "=", v.V.Kind, " ", len(v.V.B), " ", v.V.N, ";")
	}
	return s
}

func bytesOf(v api.Value) list {
	return listOf(v.B, 'z', func(b []byte) string { return string(b) })
}

// listsOf are all lists of a row: its columns, their versions, and these versions' bytes.
func listsOf(r api.Row) []list {
	l := []list{listOf(r.L, col("zzz", at(99, text("zzz"))), showNames)}
	for _, c := range r.L {
		l = append(l, listOf(c.L, at(99, text("zzz")), showTimes))
		for _, v := range c.L {
			l = append(l, bytesOf(v.V))
		}
	}
	return l
}

func showAll(l []list) []string {
	var out []string
	for _, x := range l {
		out = append(out, x.show())
	}
	return out
}

// bears has Texts and Numbers that bear bytes, each with room.
func bears() api.Row {
	return roomy(of(
		col("a", at(5, text("xy")), at(3, api.Value{Kind: api.Number, B: []byte("nn"), N: 1})),
		col("c", at(4, text("")), at(2, text(longest))),
		col("e", at(1, text("e"))),
	))
}

// ask is a call that answers a row, of a row and a value.
type ask struct {
	what string
	do   func(r api.Row, v api.Value) api.Row
}

func put(r api.Row, name string, time int64, v api.Value) api.Row {
	x, _ := row.Put(r, name, time, v)
	return x
}

func asks() []ask {
	return []ask{
		{"Put of a new column", func(r api.Row, v api.Value) api.Row { return put(r, "b", 1, v) }},
		{"Put of a new column behind all", func(r api.Row, v api.Value) api.Row { return put(r, "f", 1, v) }},
		{"Put of a new column ahead of all", func(r api.Row, v api.Value) api.Row { return put(r, "0", 1, v) }},
		{"Put of a new version", func(r api.Row, v api.Value) api.Row { return put(r, "e", 9, v) }},
		{"Put in the place of one", func(r api.Row, v api.Value) api.Row { return put(r, "a", 5, v) }},
		{"Put that lets one fall off", func(r api.Row, v api.Value) api.Row { return put(r, "c", 3, v) }},
		{"Put that falls off itself", func(r api.Row, v api.Value) api.Row { return put(r, "a", 0, v) }},
		{"Put that is refused", func(r api.Row, v api.Value) api.Row { return put(r, "a", -1, v) }},
		{"Drop", func(r api.Row, _ api.Value) api.Row { return row.Drop(r, "a", 5) }},
		{"Drop of none", func(r api.Row, _ api.Value) api.Row { return row.Drop(r, "a", 4) }},
		{"Drop of the last one", func(r api.Row, _ api.Value) api.Row { return row.Drop(r, "e", 1) }},
		{"DropCol", func(r api.Row, _ api.Value) api.Row { return row.DropCol(r, "c") }},
		{"DropCol of none", func(r api.Row, _ api.Value) api.Row { return row.DropCol(r, "d") }},
		{"Copy", func(r api.Row, _ api.Value) api.Row { return row.Copy(r) }},
		{"Newest", func(r api.Row, _ api.Value) api.Row { v, _ := row.Newest(r, "a"); return of(col("", at(0, v))) }},
		{"At", func(r api.Row, _ api.Value) api.Row { v, _ := row.At(r, "c", 3); return of(col("", at(0, v))) }},
		{"Write and Take", func(r api.Row, _ api.Value) api.Row { x, _, _ := take(write(r)); return x }},
	}
}

// TestAnswersAreNewMemory: each list of an answer is overwritten, with its
// room: neither what was handed in nor another list of the answer is touched.
func TestAnswersAreNewMemory(t *testing.T) {
	for _, a := range asks() {
		r, v := bears(), roomyValue(text("new"))
		given := append(listsOf(r), bytesOf(v))
		was := showAll(given)
		for i := range listsOf(a.do(r, v)) {
			answer := listsOf(a.do(r, v))
			left := slices.Delete(slices.Clone(answer), i, i+1)
			is := showAll(left)
			answer[i].overwrite()
			if got := showAll(left); !slices.Equal(got, is) {
				t.Errorf("R2: %s: two lists of the answer share memory: %q, was %q", a.what, got, is)
			}
			if got := showAll(given); !slices.Equal(got, was) {
				t.Fatalf("R2: %s: the answer shares memory with what was handed in: %q, was %q", a.what, got, was)
			}
		}
	}
}

// TestNothingIsKept: what was handed in is overwritten, and an answer is as it was.
func TestNothingIsKept(t *testing.T) {
	for _, a := range asks() {
		r, v := bears(), roomyValue(text("new"))
		got := a.do(r, v)
		was := showAll(listsOf(got))
		for _, x := range slices.Backward(append(listsOf(r), bytesOf(v))) {
			x.overwrite()
		}
		if is := showAll(listsOf(got)); !slices.Equal(is, was) {
			t.Errorf("R2: %s: the answer hangs on what was handed in: %q, was %q", a.what, is, was)
		}
	}
}

func TestNothingIsChanged(t *testing.T) {
	r, other := bears(), bears()
	was := showAll(listsOf(r))
	for _, a := range asks() {
		a.do(r, roomyValue(text("new")))
	}
	row.Right(r)
	row.Same(r, other)
	row.Same(other, r)
	if got := showAll(listsOf(r)); !slices.Equal(got, was) {
		t.Errorf("R2: a row that is handed in is changed: %q, was %q", got, was)
	}
}

func TestTakeAnswersNewMemory(t *testing.T) {
	b := append(write(full(), full()), "room"...)
	was := slices.Clone(b)
	read := func() (l []list) {
		octet.Read(b[:len(b)-4], func(p *octet.Reader) {
			l = append(listsOf(row.Take(p)), listsOf(row.Take(p))...)
		})
		return l
	}
	is := showAll(read())
	for i := range read() {
		l := read()
		l[i].overwrite()
		for k, x := range l {
			if k != i && x.show() != is[k] {
				t.Errorf("R2: Take: lists %d and %d share memory", i, k)
			}
		}
		wantBytes(t, "R2: the bytes that are read, and their room", b, was)
	}
	l := read()
	fill(b, 'z')
	if got := showAll(l); !slices.Equal(got, is) {
		t.Errorf("R2: Take keeps the bytes that are read: %q, was %q", got, is)
	}
}

// TestWriteKeepsNothing: what was written stays, whatever is done to the row behind it.
func TestWriteKeepsNothing(t *testing.T) {
	r := bears()
	is := write(r)
	w := octet.New()
	row.Write(w, r)
	for _, x := range slices.Backward(listsOf(r)) {
		x.overwrite()
	}
	wantBytes(t, "R2: what Write wrote", w.Done(), is)
}
