package row_test

import (
	"fmt"
	"math"
	"slices"
	"strings"
	"testing"

	"wardmote/api"
	"wardmote/row"
)

const (
	oneNaN  = 0x7ff8000000000001
	longest = "sixteen.bytes.ok"
	tooLong = "seventeen.bytes.l"
)

var negZero = math.Copysign(0, -1)

func text(s string) api.Value { return api.Value{Kind: api.Text, B: []byte(s)} }

func number(x float64) api.Value { return api.Value{Kind: api.Number, N: x} }

func ofBits(b uint64) api.Value { return number(math.Float64frombits(b)) }

func at(t int64, v api.Value) api.Version { return api.Version{Time: t, V: v} }

func col(name string, l ...api.Version) api.Column { return api.Column{Name: name, L: l} }

func of(l ...api.Column) api.Row { return api.Row{L: l} }

// plain are versions at these times, all of them with the Number 1.
func plain(times ...int64) []api.Version {
	var l []api.Version
	for _, t := range times {
		l = append(l, at(t, number(1)))
	}
	return l
}

// named is a row with columns of these names, each with a version at time 1.
func named(names ...string) api.Row {
	var r api.Row
	for _, n := range names {
		r.L = append(r.L, col(n, plain(1)...))
	}
	return r
}

// showValue tells all of a value, also what its Kind gives no meaning to.
func showValue(v api.Value) string {
	return fmt.Sprintf("{%d %q %x}", v.Kind, v.B, math.Float64bits(v.N))
}

// show tells all of a row: nothing is asked of row itself.
func show(r api.Row) string {
	var s strings.Builder
	for _, c := range r.L {
		fmt.Fprintf(&s, "%q:", c.Name)
		for _, v := range c.L {
			fmt.Fprintf(&s, " %d=%s", v.Time, showValue(v.V))
		}
		s.WriteString("; ")
	}
	return s.String()
}

func want(t *testing.T, what string, got, want api.Row) {
	t.Helper()
	if show(got) != show(want) {
		t.Errorf("%s: %s, want %s", what, show(got), show(want))
	}
}

// told is a value, and whether there is one, as one text.
func told(v api.Value, ok bool) string {
	return fmt.Sprint(showValue(v), ok)
}

func wantTold(t *testing.T, what, got, want string) {
	t.Helper()
	if got != want {
		t.Errorf("%s: %s, want %s", what, got, want)
	}
}

func none() string { return told(api.Value{}, false) }

// full has as many columns and versions as may be, texts and numbers.
func full() api.Row {
	return of(
		col("\x00", at(api.MaxTime, text(longest)), at(0, text(""))),
		col("b", at(9, number(negZero)), at(8, ofBits(oneNaN))),
		col("d", at(7, text("\xff\x00")), at(5, number(math.Inf(-1)))),
		col(longest, at(2, number(1)), at(1, text("x"))),
	)
}

// rightRows are rows of each kind.
func rightRows() []api.Row {
	return []api.Row{
		{},
		{L: []api.Column{}},
		named("a"),
		named("a", "b"),
		named("a", "a\x00", "b"),
		named("A", "\x7f", "\x80", "\xff"),
		named(longest),
		of(col("a", at(0, text("")))),
		of(col("a", at(0, api.Value{Kind: api.Text}))),
		of(col("a", at(api.MaxTime, text(longest)))),
		of(col("a", at(api.MaxTime, text("x")), at(0, number(5)))),
		of(col("a", at(1, number(negZero)), at(0, number(0)))),
		of(col("a", at(1, number(math.Inf(1))), at(0, number(math.Inf(-1))))),
		of(col("a", at(1, ofBits(oneNaN))), col("b", plain(3, 2)...)),
		full(),
	}
}

// wrongRow is a row that is not Right, and why.
type wrongRow struct {
	why string
	r   api.Row
}

// wrongRows each have a column a that would be Right by itself, if there is room for it.
func wrongRows() []wrongRow {
	l := []wrongRow{
		{"one column too many", named("a", "b", "c", "d", "e")},
		{"many columns too many", of(slices.Repeat(named("a").L, 256)...)},
		{"the same Name twice", named("a", "a")},
		{"the same Name twice behind others", named("0", "a", "b", "b")},
		{"Names the other way round", named("b", "a")},
		{"Names the other way round behind others", named("a", "c", "b")},
		{"a Name behind one that it begins", named("ab", "a")},
		{"a Name below by its bytes", named("a", "\x80", "\x7f")},
		{"an empty Name", named("", "a")},
		{"an empty Name behind others", named("a", "")},
		{"a Name that is too long", named("a", tooLong)},
		{"no versions (nil)", of(col("a", plain(1)...), col("b"))},
		{"no versions (empty)", of(col("a", plain(1)...), api.Column{Name: "b", L: []api.Version{}})},
		{"no versions ahead of others", of(col("0"), col("a", plain(1)...))},
		{"one version too many", of(col("a", plain(3, 2, 1)...))},
		{"one version too many behind others", of(col("a", plain(1)...), col("b", plain(3, 2, 1)...))},
		{"the same Time twice", of(col("a", plain(1, 1)...))},
		{"Times that rise", of(col("a", plain(1, 2)...))},
		{"a Time below 0", of(col("a", plain(-1)...))},
		{"a second Time below 0", of(col("a", plain(1, -1)...))},
		{"the lowest Time", of(col("a", plain(math.MinInt64)...))},
		{"a Time above MaxTime", of(col("a", plain(api.MaxTime+1)...))},
		{"two Times above MaxTime", of(col("a", plain(api.MaxTime+2, api.MaxTime+1)...))},
		{"the highest Time", of(col("a", plain(math.MaxInt64, 1)...))},
	}
	for _, v := range wrongValues() {
		l = append(l,
			wrongRow{"a value that is not Right", of(col("a", at(1, v)))},
			wrongRow{"a second value that is not Right", of(col("a", at(2, number(1)), at(1, v)))},
			wrongRow{"a value that is not Right behind others", of(col("a", plain(1)...), col("b", at(1, v)))},
		)
	}
	return l
}

func wrongValues() []api.Value {
	return []api.Value{{}, text(tooLong), {Kind: 3, N: 1}, {Kind: -1, B: []byte("a")}, {Kind: 256 + api.Text}, {Kind: math.MaxInt}}
}

func TestName(t *testing.T) {
	for _, c := range []struct {
		s    string
		want bool
	}{
		{"", false},
		{"a", true},
		{longest[1:], true},
		{longest, true},
		{tooLong, false},
		{strings.Repeat("a", 256+api.MaxName), false},
		{"\x00", true},
		{"\xff\xfe\n \x80", true},
		{strings.Repeat("\x00", api.MaxName), true},
		{strings.Repeat("\x00", api.MaxName+1), false},
		{strings.Repeat("\u00e4", 8), true},  // sixteen bytes
		{strings.Repeat("\u00e4", 9), false}, // nine runes, but eighteen bytes
	} {
		if got := row.Name(c.s); got != c.want {
			t.Errorf("P4.1: Name(%q): %v", c.s, got)
		}
	}
}

func TestRight(t *testing.T) {
	for _, r := range rightRows() {
		if !row.Right(r) {
			t.Errorf("P4.1: Right of %s: false", show(r))
		}
	}
	for _, c := range wrongRows() {
		if row.Right(c.r) {
			t.Errorf("P4.1: Right, %s: true", c.why)
		}
	}
}

func TestRightOfBounds(t *testing.T) {
	for n := range api.MaxColumns + 2 {
		if got := row.Right(named(strings.Split("abcdefgh", "")[:n]...)); got != (n <= api.MaxColumns) {
			t.Errorf("P4.1: Right of %d columns: %v", n, got)
		}
	}
	for n := range api.Versions + 2 {
		if got := row.Right(of(col("a", plain([]int64{9, 8, 7, 6, 5}[:n]...)...))); got != (n >= 1 && n <= api.Versions) {
			t.Errorf("P4.1: Right of %d versions: %v", n, got)
		}
	}
	for n := range api.MaxText + 2 {
		if got := row.Right(of(col("a", at(1, text(tooLong[:n]))))); got != (n <= api.MaxText) {
			t.Errorf("P4.1: Right of a Text of %d bytes: %v", n, got)
		}
	}
}

func TestRoomIsNotRead(t *testing.T) {
	cols := named("a", "b", "c", "d", "e").L
	times := plain(3, 2, 2)
	r := api.Row{L: cols[:4]}
	r.L[0].L = times[:2]
	if !row.Right(r) {
		t.Error("R5: Right reads the room behind a row's lists")
	}
	want(t, "R5: Copy", row.Copy(r), of(col("a", plain(3, 2)...), cols[1], cols[2], cols[3]))
	other := api.Row{L: slices.Clone(r.L)}
	other.L[0].L = plain(3, 2)
	if !row.Same(r, other) {
		t.Error("R5: Same reads the room behind a row's lists")
	}
}

func TestCopy(t *testing.T) {
	bears := of(
		col("a", at(2, api.Value{Kind: api.Text, B: []byte("x"), N: 5}), at(1, api.Value{Kind: api.Text, N: math.NaN()})),
		col("b", at(2, api.Value{Kind: api.Number, B: []byte(tooLong), N: 5}), at(1, api.Value{Kind: api.Number, B: []byte{}, N: negZero})),
		col("c", at(2, ofBits(0xfff0000000000009)), at(1, ofBits(0x7ff8000000000000))),
	)
	want(t, "P4.1: Copy of values that bear more", row.Copy(bears), of(
		col("a", at(2, text("x")), at(1, text(""))),
		col("b", at(2, number(5)), at(1, number(negZero))),
		col("c", at(2, ofBits(oneNaN)), at(1, ofBits(oneNaN))),
	))
	for _, r := range rightRows() {
		want(t, "P4.1: Copy", row.Copy(r), r)
	}
}

// TestAnswersAreCanon: also the cells that a call leaves alone have nothing that their Kind gives no meaning to.
func TestAnswersAreCanon(t *testing.T) {
	r := of(
		col("a", at(2, api.Value{Kind: api.Text, B: []byte("x"), N: 5}), at(1, api.Value{Kind: api.Number, B: []byte("y"), N: 6})),
		col("b", at(1, ofBits(0xffffffffffffffff))),
	)
	c := of(col("a", at(2, text("x")), at(1, number(6))), col("b", at(1, ofBits(oneNaN))))
	got, why := row.Put(r, "c", 1, api.Value{Kind: api.Number, B: []byte("z"), N: math.Float64frombits(0xfff8000000000000)})
	if want(t, "P4.1: Put", got, of(c.L[0], c.L[1], col("c", at(1, ofBits(oneNaN))))); why != api.OK {
		t.Errorf("P4.1: Put: %v", why)
	}
	want(t, "P4.1: Drop of none", row.Drop(r, "a", 9), c)
	want(t, "P4.1: Drop", row.Drop(r, "a", 2), of(col("a", at(1, number(6))), c.L[1]))
	want(t, "P4.1: DropCol", row.DropCol(r, "b"), of(c.L[0]))
	wantTold(t, "P4.2: Newest", told(row.Newest(r, "a")), told(text("x"), true))
	wantTold(t, "P4.2: At", told(row.At(r, "a", 1)), told(number(6), true))
	wantTold(t, "P4.2: Newest of another NaN", told(row.Newest(r, "b")), told(ofBits(oneNaN), true))
}

func wantPut(t *testing.T, what string, r api.Row, name string, time int64, v api.Value, is api.Row) {
	t.Helper()
	got, why := row.Put(r, name, time, v)
	if want(t, what, got, is); why != api.OK {
		t.Errorf("%s: %v", what, why)
	}
	if !row.Right(got) {
		t.Errorf("%s: not Right: %s", what, show(got))
	}
}

func wantRefused(t *testing.T, what string, r api.Row, name string, time int64, v api.Value, is api.Errno) {
	t.Helper()
	got, why := row.Put(r, name, time, v)
	if why != is || len(got.L) != 0 {
		t.Errorf("%s: %v and %s, want %v", what, why, show(got), is)
	}
}

func TestPutRefuses(t *testing.T) {
	some := named("a", "b")
	four := named("a", "b", "c", "d")
	names := []string{"new", "", tooLong, "", tooLong}
	times := []int64{1, -1, api.MaxTime + 1, math.MinInt64, math.MaxInt64}
	values := append([]api.Value{text("x")}, wrongValues()...)
	// Each reason alone and all together: the first of each list is none. Rows
	// that are full are refused by ErrArg just so.
	for i, n := range names {
		for j, time := range times {
			for k, v := range values {
				for _, r := range []api.Row{{}, some, four, wrongRows()[0].r} {
					if i+j+k > 0 {
						wantRefused(t, "P4.1: Put of what may not be there", r, n, time, v, api.ErrArg)
					}
				}
			}
		}
	}
	wantRefused(t, "P4.1: Put, the chapter's example", api.Row{}, "a", -1, text("x"), api.ErrArg)
	for _, n := range []string{"0", "aa", "bb", "cc", "e", longest, "\x00", "\xff"} {
		wantRefused(t, "P4.1: Put of one column too many", four, n, 1, text("x"), api.ErrFull)
	}
	wantRefused(t, "P4.1: Put of one column too many", full(), "new", api.MaxTime, number(1), api.ErrFull)
	want(t, "R3: a row that refused", four, named("a", "b", "c", "d"))
}

func TestPutEdges(t *testing.T) {
	for _, n := range []string{"a", "\x00", "\xff\xff", longest} {
		for _, time := range []int64{0, 1, api.MaxTime - 1, api.MaxTime} {
			for _, v := range []api.Value{text(""), text(longest), number(negZero), ofBits(oneNaN), number(math.Inf(1))} {
				wantPut(t, "P4.1: Put", api.Row{}, n, time, v, of(col(n, at(time, v))))
			}
		}
	}
	wantPut(t, "P4.1: Put of a Text of nil", api.Row{}, "a", 1, api.Value{Kind: api.Text}, of(col("a", at(1, text("")))))
	wantPut(t, "P4.1: Put of a Text that bears an N", api.Row{}, "a", 1, api.Value{Kind: api.Text, B: []byte("x"), N: 5}, of(col("a", at(1, text("x")))))
	wantPut(t, "P4.1: Put of a Number that bears a B", api.Row{}, "a", 1, api.Value{Kind: api.Number, B: []byte(tooLong), N: 5}, of(col("a", at(1, number(5)))))
}

func TestPutTimes(t *testing.T) {
	x, y, z := text("x"), number(2), text("new")
	one := of(col("a", at(5, x)))
	two := of(col("a", at(5, x), at(3, y)))
	for _, c := range []struct {
		what string
		r    api.Row
		time int64
		is   []api.Version
	}{
		{"ahead of the only one", one, 6, []api.Version{at(6, z), at(5, x)}},
		{"at the only one", one, 5, []api.Version{at(5, z)}},
		{"behind the only one", one, 4, []api.Version{at(5, x), at(4, z)}},
		{"ahead of all", two, 6, []api.Version{at(6, z), at(5, x)}},
		{"at MaxTime", two, api.MaxTime, []api.Version{at(api.MaxTime, z), at(5, x)}},
		{"at the newest", two, 5, []api.Version{at(5, z), at(3, y)}},
		{"between", two, 4, []api.Version{at(5, x), at(4, z)}},
		{"at the oldest", two, 3, []api.Version{at(5, x), at(3, z)}},
		{"behind all", two, 2, []api.Version{at(5, x), at(3, y)}},
		{"at 0", two, 0, []api.Version{at(5, x), at(3, y)}},
	} {
		wantPut(t, "P4.1: Put "+c.what, c.r, "a", c.time, z, of(col("a", c.is...)))
		among := of(col("0", plain(9, 1)...), c.r.L[0], col("b", plain(8)...), col("c", plain(7)...))
		wantPut(t, "P4.1: Put among others, "+c.what, among, "a", c.time, z, of(among.L[0], col("a", c.is...), among.L[2], among.L[3]))
	}
	wantPut(t, "P4.1: Put of another Kind in the place of what was there", two, "a", 5, number(negZero), of(col("a", at(5, number(negZero)), at(3, y))))
}

func TestPutColumns(t *testing.T) {
	r := named("b", "d", "f")
	n := func(name string) api.Column { return col(name, at(4, text("x"))) }
	for _, c := range []struct {
		name string
		is   api.Row
	}{
		{"a", of(n("a"), r.L[0], r.L[1], r.L[2])},
		{"\x00", of(n("\x00"), r.L[0], r.L[1], r.L[2])},
		{"B", of(n("B"), r.L[0], r.L[1], r.L[2])},
		{"bb", of(r.L[0], n("bb"), r.L[1], r.L[2])},
		{"b\x00", of(r.L[0], n("b\x00"), r.L[1], r.L[2])},
		{"e", of(r.L[0], r.L[1], n("e"), r.L[2])},
		{"ff", of(r.L[0], r.L[1], r.L[2], n("ff"))},
		{"\xff", of(r.L[0], r.L[1], r.L[2], n("\xff"))},
	} {
		wantPut(t, "P4.1: Put of a new column", r, c.name, 4, text("x"), c.is)
	}
	for i, c := range full().L {
		is := full()
		is.L[i].L[0].V = text("new")
		wantPut(t, "P4.1: Put in a full row", full(), c.Name, c.L[0].Time, text("new"), is)
	}
}

func TestDrop(t *testing.T) {
	x, y := at(5, text("x")), at(3, number(2))
	r := of(col("a", x, y), col("b", plain(5)...), col("c", plain(5, 3)...))
	b, c := r.L[1], r.L[2]
	want(t, "P4.1: Drop of the newest", row.Drop(r, "a", 5), of(col("a", y), b, c))
	want(t, "P4.1: Drop of the oldest", row.Drop(r, "a", 3), of(col("a", x), b, c))
	want(t, "P4.1: Drop of the last version of a column", row.Drop(r, "b", 5), of(r.L[0], c))
	want(t, "P4.1: Drop of one behind the other", row.Drop(row.Drop(r, "c", 3), "c", 5), of(r.L[0], b))
	want(t, "P4.1: Drop of the last of all", row.Drop(named("a"), "a", 1), api.Row{})
	want(t, "P4.1: Drop of nothing", row.Drop(api.Row{}, "a", 1), api.Row{})
	for _, time := range []int64{6, 4, 2, 0, -1, math.MinInt64, math.MaxInt64, 5 + 1<<32} {
		want(t, "P4.1: Drop of a time that is not there", row.Drop(r, "a", time), r)
	}
	for _, name := range []string{"", "0", "aa", "a\x00", "A", "d", tooLong} {
		want(t, "P4.1: Drop of a column that is not there", row.Drop(r, name, 5), r)
		want(t, "P4.1: DropCol of a column that is not there", row.DropCol(r, name), r)
	}
	want(t, "P4.1: Drop of a time of another column", row.Drop(r, "b", 3), r)
	want(t, "P4.1: DropCol of the first", row.DropCol(r, "a"), of(b, c))
	want(t, "P4.1: DropCol between", row.DropCol(r, "b"), of(r.L[0], c))
	want(t, "P4.1: DropCol of the last", row.DropCol(r, "c"), of(r.L[0], b))
	want(t, "P4.1: DropCol of all", row.DropCol(named("a"), "a"), api.Row{})
	want(t, "P4.1: DropCol of nothing", row.DropCol(api.Row{}, "a"), api.Row{})
	for i, c := range full().L {
		is := full()
		is.L = slices.Delete(is.L, i, i+1)
		want(t, "P4.1: DropCol of a full row", row.DropCol(full(), c.Name), is)
	}
}

func TestDropMakesRoom(t *testing.T) {
	r := row.DropCol(full(), "b")
	wantPut(t, "P4.1: Put behind DropCol", r, "c", 1, text("x"), of(full().L[0], col("c", at(1, text("x"))), full().L[2], full().L[3]))
	r = row.Drop(row.Drop(full(), "b", 9), "b", 8)
	wantPut(t, "P4.1: Put behind Drop", r, "c", 1, text("x"), of(full().L[0], col("c", at(1, text("x"))), full().L[2], full().L[3]))
}

// TestWrongRows: of a row that is not Right each call answers as of an empty row.
func TestWrongRows(t *testing.T) {
	for _, c := range wrongRows() {
		was := show(c.r)
		for _, name := range []string{"a", "b", "z"} {
			wantPut(t, "P4.1: Put, "+c.why, c.r, name, 1, text("x"), of(col(name, at(1, text("x")))))
			want(t, "P4.1: Drop, "+c.why, row.Drop(c.r, name, 1), api.Row{})
			want(t, "P4.1: Drop of none, "+c.why, row.Drop(c.r, name, 99), api.Row{})
			want(t, "P4.1: DropCol, "+c.why, row.DropCol(c.r, name), api.Row{})
			wantTold(t, "P4.2: Newest, "+c.why, told(row.Newest(c.r, name)), none())
			for _, time := range []int64{-1, 0, 1, api.MaxTime, math.MaxInt64} {
				wantTold(t, "P4.2: At, "+c.why, told(row.At(c.r, name, time)), none())
			}
		}
		want(t, "P4.1: Copy, "+c.why, row.Copy(c.r), api.Row{})
		wantBytes(t, "P4.3: Write, "+c.why, write(c.r), []byte{0})
		if show(c.r) != was {
			t.Errorf("R2: a row that is not Right is changed: %s", c.why)
		}
	}
}

func TestNewestAndAt(t *testing.T) {
	x, y := text("x"), number(2)
	r := of(col("a", at(9, number(negZero))), col("b", at(5, x), at(3, y)), col("c", at(api.MaxTime, text("top")), at(0, text("low"))))
	wantTold(t, "P4.2: Newest", told(row.Newest(r, "b")), told(x, true))
	wantTold(t, "P4.2: Newest of one", told(row.Newest(r, "a")), told(number(negZero), true))
	wantTold(t, "P4.2: Newest at MaxTime", told(row.Newest(r, "c")), told(text("top"), true))
	for _, c := range []struct {
		col  string
		time int64
		want string
	}{
		{"b", math.MinInt64, none()}, {"b", -1, none()}, {"b", 0, none()}, {"b", 2, none()},
		{"b", 3, told(y, true)}, {"b", 4, told(y, true)},
		{"b", 5, told(x, true)}, {"b", 6, told(x, true)}, {"b", api.MaxTime, told(x, true)}, {"b", math.MaxInt64, told(x, true)},
		{"a", 8, none()}, {"a", 9, told(number(negZero), true)}, {"a", 10, told(number(negZero), true)},
		{"c", -1, none()}, {"c", 0, told(text("low"), true)}, {"c", api.MaxTime - 1, told(text("low"), true)},
		{"c", api.MaxTime, told(text("top"), true)}, {"c", api.MaxTime + 1, told(text("top"), true)},
	} {
		wantTold(t, fmt.Sprintf("P4.2: At(%s, %d)", c.col, c.time), told(row.At(r, c.col, c.time)), c.want)
	}
	for _, name := range []string{"", "0", "A", "bb", "b\x00", "d", tooLong} {
		wantTold(t, "P4.2: Newest of a column that is not there", told(row.Newest(r, name)), none())
		wantTold(t, "P4.2: At of a column that is not there", told(row.At(r, name, api.MaxTime)), none())
	}
	wantTold(t, "P4.2: Newest of an empty row", told(row.Newest(api.Row{}, "a")), none())
	wantTold(t, "P4.2: At of an empty row", told(row.At(api.Row{}, "", 1)), none())
}

func TestRunOfTheChapter(t *testing.T) {
	r, _ := row.Put(api.Row{}, "a", 5, text("x"))
	r, _ = row.Put(r, "a", 3, text("y"))
	wantTold(t, "P4.2: the chapter's run", told(row.Newest(r, "a")), told(text("x"), true))
}

func TestSame(t *testing.T) {
	// No two of these are the same; some of them are not Right.
	differ := []api.Row{
		{}, named("a"), named("b"), named("a\x00"), named("a", "b"), named("b", "a"), named("a", "c"), named("a", "b", "c"),
		of(col("a", plain(2)...)), of(col("a", plain(2, 1)...)), of(col("a", plain(1, 2)...)), of(col("a", plain(1, 1)...)), of(col("a")), named(""),
		of(col("a", plain(1+1<<32)...)), of(col("a", plain(-1)...)),
		of(col("a", at(1, number(negZero)))), of(col("a", at(1, number(0)))), of(col("a", at(1, ofBits(oneNaN)))),
		of(col("a", at(1, text("1")))), of(col("a", at(1, text("")))), of(col("a", at(1, text(tooLong)))), of(col("a", at(1, api.Value{}))),
		of(col("a", at(2, number(1)), at(1, number(2)))), of(col("a", plain(1)...), col("b", at(1, text("x")))),
		named("a", "b", "c", "d", "e"), named("a", "b", "c", "d", "f"), full(),
	}
	for i, a := range differ {
		for j, b := range differ {
			if got := row.Same(a, b); got != (i == j) {
				t.Errorf("P4.2: Same of %s and %s: %v", show(a), show(b), got)
			}
		}
	}
	for _, c := range [][2]api.Row{
		{{}, {L: []api.Column{}}},
		{of(col("a")), of(api.Column{Name: "a", L: []api.Version{}})},
		{of(col("a", at(1, ofBits(oneNaN)))), of(col("a", at(1, ofBits(0xfff0000000000009))))},
		{of(col("a", at(1, text("x")))), of(col("a", at(1, api.Value{Kind: api.Text, B: []byte("x"), N: 5})))},
		{of(col("a", at(1, text("")))), of(col("a", at(1, api.Value{Kind: api.Text})))},
		{of(col("a", at(1, number(2)))), of(col("a", at(1, api.Value{Kind: api.Number, B: []byte("x"), N: 2})))},
		{of(col("a", at(1, api.Value{Kind: 9}))), of(col("a", at(1, api.Value{Kind: -1, N: 2})))},
	} {
		if !row.Same(c[0], c[1]) || !row.Same(c[1], c[0]) {
			t.Errorf("P4.2: Same of %s and %s: false", show(c[0]), show(c[1]))
		}
	}
	for _, c := range wrongRows() {
		if !row.Same(c.r, c.r) || row.Same(c.r, api.Row{}) || row.Same(api.Row{}, c.r) {
			t.Errorf("P4.2: Same of a row that is not Right: %s", c.why)
		}
	}
}
