package rows_test

import (
	"cmp"
	"fmt"
	"math"
	"slices"
	"strings"
	"testing"

	"wardmote/api"
	"wardmote/rows"
)

const (
	oneNaN  = 0x7ff8000000000001
	longest = "sixteen.bytes.ok"
	tooLong = "seventeen.bytes.l"
)

var negZero = math.Copysign(0, -1)

func text(s string) api.Value { return api.Value{Kind: api.Text, B: []byte(s)} }

func number(x float64) api.Value { return api.Value{Kind: api.Number, N: x} }

func ofBits(b uint64) api.Value { return number(math.Float64frombits(b)) }

func at(t int64, v api.Value) api.Version { return api.Version{Time: t, V: v} }

func col(name string, l ...api.Version) api.Column { return api.Column{Name: name, L: l} }

func of(l ...api.Column) api.Row { return api.Row{L: l} }

// plain is a row with one text.
func plain(s string) api.Row { return of(col("c", at(1, text(s)))) }

// full has as many columns and versions as may be, texts and numbers.
func full() api.Row {
	return of(
		col("\x00", at(api.MaxTime, text(longest)), at(0, text(""))),
		col("b", at(9, number(negZero)), at(8, ofBits(oneNaN))),
		col("d", at(7, text("\xff\x00")), at(5, number(math.Inf(-1)))),
		col(longest, at(2, number(1)), at(1, text("x"))),
	)
}

// wrongRows are rows that are not Right.
func wrongRows() []api.Row {
	return []api.Row{
		of(api.Column{}),
		of(col("a")),
		of(col("", at(1, text("x")))),
		of(col(tooLong, at(1, text("x")))),
		of(col("a", at(1, text("x"))), col("a", at(1, text("x")))),
		of(col("b", at(1, text("x"))), col("a", at(1, text("x")))),
		of(append(full().L, col("\xff", at(1, text("x"))))...),
		of(col("a", at(3, text("x")), at(2, text("x")), at(1, text("x")))),
		of(col("a", at(1, text("x")), at(2, text("x")))),
		of(col("a", at(-1, text("x")))),
		of(col("a", at(api.MaxTime+1, text("x")))),
		of(col("a", at(1, text(tooLong)))),
		of(col("a", at(1, api.Value{}))),
	}
}

func wrongNames() []string {
	return []string{"", tooLong, strings.Repeat("\x00", api.MaxName+1), strings.Repeat("a", 256+1)}
}

// showRow tells all of a row, also what a value's Kind gives no meaning to.
func showRow(r api.Row) string {
	var s strings.Builder
	for _, c := range r.L {
		fmt.Fprintf(&s, "%q:", c.Name)
		for _, v := range c.L {
			fmt.Fprintf(&s, " %d={%d %q %x}", v.Time, v.V.Kind, v.V.B, math.Float64bits(v.V.N))
		}
		s.WriteString("; ")
	}
	return s.String()
}

func show(l []api.Named) string {
	var s strings.Builder
	for _, x := range l {
		fmt.Fprintf(&s, "[%q %s] ", x.Name, showRow(x.R))
	}
	return s.String()
}

// listed are rows of these names, in that order, each with its name as its text.
func listed(names ...string) []api.Named {
	var l []api.Named
	for _, s := range names {
		l = append(l, api.Named{Name: s, R: plain(s)})
	}
	return l
}

// counted are n names that rise, behind head.
func counted(head string, n int) []string {
	var l []string
	for i := range n {
		l = append(l, fmt.Sprintf("%s%02d", head, i))
	}
	return l
}

func made(t *testing.T, l ...api.Named) *rows.Table {
	t.Helper()
	x := rows.New()
	for _, n := range l {
		wantCode(t, fmt.Sprintf("P6.1: Set(%q)", n.Name), x.Set(n.Name, n.R), api.OK)
	}
	return x
}

func tableOf(t *testing.T, names ...string) *rows.Table {
	t.Helper()
	return made(t, listed(names...)...)
}

func wantCode(t *testing.T, what string, got, want api.Errno) {
	t.Helper()
	if got != want {
		t.Errorf("%s: %d, want %d", what, got, want)
	}
}

func wantRows(t *testing.T, what string, got, want []api.Named) {
	t.Helper()
	if show(got) != show(want) {
		t.Errorf("%s: %s, want %s", what, show(got), show(want))
	}
}

// pages are all rows of x, as Range tells them; it ends also if Range turns round.
func pages(x *rows.Table) []api.Named {
	var all []api.Named
	lo := ""
	for range api.MaxRows + 1 {
		l, next := x.Range(lo, "", api.MaxScan)
		all = append(all, l...)
		if lo = next; lo == "" {
			break
		}
	}
	return all
}

// wantTable asks that x has just these rows (which rise), by each call that tells them.
func wantTable(t *testing.T, what string, x *rows.Table, want []api.Named) {
	t.Helper()
	if x == nil {
		t.Errorf("%s: nil, want %s", what, show(want))
		return
	}
	if x.Len() != len(want) {
		t.Errorf("%s: Len: %d, want %d", what, x.Len(), len(want))
	}
	wantRows(t, what+": Range", pages(x), want)
	for _, n := range want {
		wantFound(t, what, x, n.Name, n.R)
		for _, s := range []string{n.Name + "\x00", n.Name[:len(n.Name)-1], strings.ToUpper(n.Name) + "!"} {
			if !hasName(want, s) {
				wantNone(t, what, x, s)
			}
		}
	}
	for _, s := range append(wrongNames(), "nobody") {
		wantNone(t, what, x, s)
	}
	wantBytes(t, what+": Write", write(x), raw(want))
}

func hasName(l []api.Named, name string) bool {
	return slices.ContainsFunc(l, func(x api.Named) bool { return x.Name == name })
}

func wantFound(t *testing.T, what string, x *rows.Table, name string, want api.Row) {
	t.Helper()
	if r, ok := x.Find(name); !ok || showRow(r) != showRow(want) {
		t.Errorf("%s: Find(%q): %s, %v, want %s", what, name, showRow(r), ok, showRow(want))
	}
}

func wantNone(t *testing.T, what string, x *rows.Table, name string) {
	t.Helper()
	if r, ok := x.Find(name); ok || len(r.L) > 0 {
		t.Errorf("%s: Find(%q): %s, %v, want none", what, name, showRow(r), ok)
	}
}

func sorted(l []api.Named) []api.Named {
	return slices.SortedFunc(slices.Values(l), func(a, b api.Named) int { return cmp.Compare(a.Name, b.Name) })
}

func TestNew(t *testing.T) {
	wantTable(t, "P6.1: New", rows.New(), nil)
	a, b := rows.New(), rows.New()
	a.Set("a", plain("x"))
	wantTable(t, "P6.1: another New", b, nil)
}

func TestSetByBytes(t *testing.T) {
	names := []string{"b", "\xff", "a", longest, "\x00", "a\x00", "B", "\x80", "aa", "\x7f", "ab", "\xff\xff"}
	x := rows.New()
	for i, s := range names {
		wantNone(t, "P6.1: ahead of Set", x, s)
		wantCode(t, "P6.1: Set of a new name", x.Set(s, plain(s)), api.OK)
		wantTable(t, "P6.1: Set of a new name", x, sorted(listed(names[:i+1]...)))
	}
	want := sorted(listed(names...))
	for i, n := range want {
		want[i].R = plain("new")
		wantCode(t, "P6.1: Set of a name that is there", x.Set(n.Name, plain("new")), api.OK)
		wantTable(t, "P6.1: Set of a name that is there", x, want)
	}
}

// TestSetCopies: what is there is row.Copy of what was handed in: with nothing that a Kind gives no meaning to.
func TestSetCopies(t *testing.T) {
	bears := of(
		col("a", at(2, api.Value{Kind: api.Text, B: []byte("x"), N: 5}), at(1, api.Value{Kind: api.Text, N: math.NaN()})),
		col("b", at(2, api.Value{Kind: api.Number, B: []byte(tooLong), N: 5}), at(1, ofBits(0xfff0000000000009))),
	)
	canon := of(
		col("a", at(2, text("x")), at(1, text(""))),
		col("b", at(2, number(5)), at(1, ofBits(oneNaN))),
	)
	wantTable(t, "P6.1: Set of values that bear more", made(t, api.Named{Name: "new", R: bears}), []api.Named{{Name: "new", R: canon}})
	x := tableOf(t, "there")
	x.Set("there", bears)
	wantTable(t, "P6.1: Set of values that bear more, of a name that is there", x, []api.Named{{Name: "there", R: canon}})
	x.Set("there", full())
	wantTable(t, "P6.1: Set of a row with all that may be", x, []api.Named{{Name: "there", R: full()}})
}

func TestSetRefuses(t *testing.T) {
	for _, l := range [][]api.Named{nil, listed("a", "b"), listed(counted("k", api.MaxRows)...)} {
		x := made(t, l...)
		refuse := func(what, name string, r api.Row) {
			t.Helper()
			wantCode(t, fmt.Sprintf("P6.1: Set(%q) of %s", name, what), x.Set(name, r), api.ErrArg)
			wantTable(t, "P6.1: behind a Set that was refused", x, l)
		}
		for _, s := range wrongNames() {
			refuse("a row that is Right", s, plain("x"))
			refuse("an empty row", s, api.Row{})
			refuse("a row that is not Right", s, wrongRows()[0])
		}
		for _, r := range wrongRows() {
			for _, s := range []string{"a", "k00", "new"} {
				refuse("a row that is not Right: "+showRow(r), s, r)
			}
		}
	}
	wantCode(t, "P6.1: the chapter's example", rows.New().Set("", plain("x")), api.ErrArg)
}

func TestSetOfNoColumns(t *testing.T) {
	for _, empty := range []api.Row{{}, {L: []api.Column{}}, {L: plain("room").L[:0]}} {
		x := tableOf(t, "a", "c", "e")
		for _, s := range []string{"0", "b", "d", "f", "a\x00", longest} {
			wantCode(t, "P6.1: Set of no columns, not there", x.Set(s, empty), api.OK)
			wantTable(t, "P6.1: Set of no columns, not there", x, listed("a", "c", "e"))
		}
		left := [][]string{{"a", "e"}, {"e"}, {}, {}}
		for i, s := range []string{"c", "a", "e", "e"} {
			wantCode(t, "P6.1: Set of no columns, there", x.Set(s, empty), api.OK)
			wantTable(t, "P6.1: Set of no columns, there", x, listed(left[i]...))
		}
		wantCode(t, "P6.1: Set of what was there", x.Set("c", full()), api.OK)
		wantTable(t, "P6.1: Set of what was there", x, []api.Named{{Name: "c", R: full()}})
	}
}

func TestSetOfManyRows(t *testing.T) {
	all := listed(counted("k", api.MaxRows)...)
	x := made(t, all[:api.MaxRows-1]...)
	last := all[api.MaxRows-1]
	wantCode(t, "P6.1: Set of a new name, MaxRows - 1 rows", x.Set(last.Name, last.R), api.OK)
	wantTable(t, "P6.1: MaxRows rows", x, all)
	for _, s := range []string{"0", "k00\x00", "k155", "new", longest} {
		wantCode(t, "P6.1: Set of a new name, MaxRows rows", x.Set(s, plain("x")), api.ErrFull)
		wantTable(t, "P6.1: Set of one row too many", x, all)
		wantCode(t, "P6.1: Set of no columns, a new name, MaxRows rows", x.Set(s, api.Row{}), api.OK)
		wantTable(t, "P6.1: Set of no columns, a new name, MaxRows rows", x, all)
	}
	for _, i := range []int{0, 15, api.MaxRows - 1} {
		all[i].R = full()
		wantCode(t, "P6.1: Set of a name that is there, MaxRows rows", x.Set(all[i].Name, full()), api.OK)
		wantTable(t, "P6.1: Set of a name that is there, MaxRows rows", x, all)
	}
	wantCode(t, "P6.1: Set of no columns, there, MaxRows rows", x.Set("k15", api.Row{}), api.OK)
	wantTable(t, "P6.1: Set of no columns, there, MaxRows rows", x, slices.Delete(slices.Clone(all), 15, 16))
	wantCode(t, "P6.1: Set of a new name, where one is not there any more", x.Set("k155", plain("k155")), api.OK)
	all[15] = listed("k155")[0]
	wantTable(t, "P6.1: Set of a new name, where one is not there any more", x, all)
	wantCode(t, "P6.1: Set of one row too many again", x.Set("k15", plain("k15")), api.ErrFull)
}
