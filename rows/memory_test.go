package rows_test

import (
	"fmt"
	"slices"
	"testing"

	"wardmote/api"
	"wardmote/octet"
	"wardmote/rows"
)

func fill[T any](l []T, x T) {
	for i := range l {
		l[i] = x
	}
}

// withRoom is l in memory of its own with room behind it, and x in that room.
func withRoom[T any](l []T, x T) []T {
	own := make([]T, len(l), len(l)+2)
	copy(own, l)
	fill(own[len(own):cap(own)], x)
	return own
}

// roomy is r with room behind each of its lists, and something in that room.
func roomy(r api.Row) api.Row {
	out := api.Row{L: withRoom(r.L, col("room", at(77, text("room"))))}
	for i, c := range r.L {
		l := withRoom(c.L, at(77, text("room")))
		for k, v := range c.L {
			l[k].V.B = withRoom(v.V.B, 'r')
		}
		out.L[i].L = l
	}
	return out
}

// memory is one list: all of it with its room as a text, and how to overwrite that.
type memory struct {
	show      func() string
	overwrite func()
}

// memoryOf keeps l's own header, so that it is found again whatever is done around it.
func memoryOf[T any](l []T, x T, show func(T) string) memory {
	all := l[:cap(l)]
	tell := func() string {
		s := ""
		for _, x := range all {
			s += show(x) + ";"
		}
		return s
	}
	return memory{tell, func() { fill(all, x) }}
}

// memoriesOf are all lists of a row: its columns, their versions, and these versions' bytes.
func memoriesOf(r api.Row) []memory {
	l := []memory{memoryOf(r.L, col("zzz", at(99, text("zzz"))), func(c api.Column) string { return c.Name })}
	for _, c := range r.L {
		l = append(l, memoryOf(c.L, at(99, text("zzz")), func(v api.Version) string {
			return fmt.Sprint(v.Time, v.V.Kind, len(v.V.B), v.V.N)
		}))
		for _, v := range c.L {
			l = append(l, memoryOf(v.V.B, 'z', func(b byte) string { return fmt.Sprint(b) }))
		}
	}
	return l
}

func memoriesOfNamed(l []api.Named) []memory {
	out := []memory{memoryOf(l, api.Named{Name: "zzz", R: plain("zzz")}, func(x api.Named) string { return x.Name })}
	for _, x := range l {
		out = append(out, memoriesOf(x.R)...)
	}
	return out
}

func showAll(l []memory) []string {
	var out []string
	for _, x := range l {
		out = append(out, x.show())
	}
	return out
}

func overwriteAll(l []memory) {
	// The bytes first: the lists that lead to them are found by their own headers.
	for _, x := range slices.Backward(l) {
		x.overwrite()
	}
}

// bears has Texts and Numbers that bear bytes, each with room.
func bears() api.Row {
	return roomy(of(
		col("a", at(5, text("xy")), at(3, api.Value{Kind: api.Number, B: []byte("nn"), N: 1})),
		col("c", at(4, text("")), at(2, text(longest))),
	))
}

// ask is a call that answers rows.
type ask struct {
	what string
	do   func(x *rows.Table) []memory
}

func asks() []ask {
	find := func(name string) func(x *rows.Table) []memory {
		return func(x *rows.Table) []memory {
			r, _ := x.Find(name)
			return memoriesOf(r)
		}
	}
	ranged := func(lo, hi string, most int) func(x *rows.Table) []memory {
		return func(x *rows.Table) []memory {
			l, _ := x.Range(lo, hi, most)
			return memoriesOfNamed(l)
		}
	}
	return []ask{
		{"Find", find("b")}, {"Find of the first", find("a")}, {"Find of none", find("bb")},
		{"Range of all", ranged("", "", 9)}, {"Range of some", ranged("", "", 2)}, {"Range between", ranged("b", "c", 9)},
		{"Range of none", ranged("", "", 0)}, {"Range turned round", ranged("c", "b", 9)}, {"Range behind all", ranged("z", "", 9)},
	}
}

func bearing(t *testing.T) *rows.Table {
	t.Helper()
	return made(t, api.Named{Name: "a", R: bears()}, api.Named{Name: "b", R: full()}, api.Named{Name: "c", R: plain("c")})
}

// TestAnswersAreNewMemory: each list of an answer is overwritten, with its
// room: neither the table nor another list of the answer is touched.
func TestAnswersAreNewMemory(t *testing.T) {
	for _, a := range asks() {
		x := bearing(t)
		was := pages(bearing(t))
		for i := range a.do(x) {
			answer := a.do(x)
			others := slices.Delete(slices.Clone(answer), i, i+1)
			is := showAll(others)
			answer[i].overwrite()
			if got := showAll(others); !slices.Equal(got, is) {
				t.Errorf("R2: %s: two lists of the answer share memory: %q, was %q", a.what, got, is)
			}
			wantTable(t, "R2: "+a.what+": the answer was overwritten", x, was)
		}
	}
}

// TestAnswersAreKept: the table is changed, and what it had told is as it was.
func TestAnswersAreKept(t *testing.T) {
	for _, a := range asks() {
		x := bearing(t)
		answer := a.do(x)
		was := showAll(answer)
		x.Set("b", plain("other"))
		x.Set("a", api.Row{})
		x.Set("0", plain("0"))
		x.Set("bb", bears())
		if is := showAll(answer); !slices.Equal(is, was) {
			t.Errorf("R2: %s: the answer hangs on the table: %q, was %q", a.what, is, was)
		}
	}
}

// TestSetLeavesRows: a row that is handed in is not changed, and nothing of it is kept.
func TestSetLeavesRows(t *testing.T) {
	wrong := roomy(wrongRows()[5])
	for _, name := range []string{"b", "bb", "", tooLong} {
		for _, r := range []api.Row{bears(), roomy(full()), roomy(api.Row{}), wrong} {
			x := bearing(t)
			given := memoriesOf(r)
			was := showAll(given)
			x.Set(name, r)
			if is := showAll(given); !slices.Equal(is, was) {
				t.Errorf("R2: Set changes a row that is handed in: %q, was %q", is, was)
			}
			told := pages(x)
			overwriteAll(given)
			wantTable(t, "R2: Set: the row that was handed in is overwritten", x, told)
		}
	}
}

// TestTablesAreByThemselves: what one table told is overwritten; a table that was made of it does not change, nor the other way round.
func TestTablesAreByThemselves(t *testing.T) {
	for what, derive := range map[string]func(x *rows.Table) *rows.Table{
		"Copy":        func(x *rows.Table) *rows.Table { return x.Copy() },
		"Split, low":  func(x *rows.Table) *rows.Table { low, _ := x.Split("z"); return low },
		"Split, high": func(x *rows.Table) *rows.Table { _, high := x.Split(""); return high },
		"Join, low":   func(x *rows.Table) *rows.Table { both, _ := rows.Join(x, rows.New()); return both },
		"Join, high":  func(x *rows.Table) *rows.Table { both, _ := rows.Join(rows.New(), x); return both },
	} {
		x := bearing(t)
		other := derive(x)
		was := pages(bearing(t))
		for _, y := range []*rows.Table{x, other} {
			l, _ := y.Range("", "", 9)
			overwriteAll(memoriesOfNamed(l))
			r, _ := y.Find("a")
			overwriteAll(memoriesOf(r))
			wantTable(t, "R2: "+what+": the table", x, was)
			wantTable(t, "R2: "+what+": what was made of it", other, was)
		}
		wantApart(t, what, x, other)
	}
}

// TestTakeKeepsNothing: the bytes, and a table that was taken of them, are by themselves.
func TestTakeKeepsNothing(t *testing.T) {
	b := withRoom(slices.Concat(write(bearing(t)), write(bearing(t))), 'r')
	was := slices.Clone(b[:cap(b)])
	var l []*rows.Table
	octet.Read(b, func(r *octet.Reader) { l = append(l, rows.Take(r), rows.Take(r)) })
	told := pages(bearing(t))
	wantApart(t, "Take", l[0], l[1])
	wantBytes(t, "R2: the bytes that are read, and their room", b[:cap(b)], was)
	octet.Read(b, func(r *octet.Reader) { l[0], l[1] = rows.Take(r), rows.Take(r) })
	fill(b, 'z')
	wantTable(t, "R2: Take: the bytes are overwritten", l[0], told)
	wantTable(t, "R2: Take: the bytes are overwritten", l[1], told)
}

// TestWriteKeepsNothing: what was written stays, whatever is done to the table behind it.
func TestWriteKeepsNothing(t *testing.T) {
	x := bearing(t)
	w := octet.New()
	x.Write(w)
	wantTable(t, "R2: the table behind Write", x, pages(bearing(t)))
	was := w.Done()
	x.Set("a", plain("other"))
	x.Set("b", api.Row{})
	wantBytes(t, "R2: what Write wrote", w.Done(), was)
}

// TestRoomIsNotRead: what stands behind a row's lists is not taken for a part of it.
func TestRoomIsNotRead(t *testing.T) {
	x := made(t, api.Named{Name: "a", R: roomy(full())})
	wantTable(t, "R5: Set of a row with room", x, []api.Named{{Name: "a", R: full()}})
	wantCode(t, "R5: Set of no columns with room", x.Set("a", roomy(api.Row{})), api.OK)
	wantTable(t, "R5: Set of no columns with room", x, nil)
}
