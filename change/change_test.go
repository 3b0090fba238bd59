package change_test

import (
	"fmt"
	"math"
	"slices"
	"strings"
	"testing"

	"wardmote/api"
	"wardmote/change"
	"wardmote/row"
)

const (
	oneNaN  = 0x7ff8000000000001
	longest = "sixteen.bytes.ok"
	tooLong = "seventeen.bytes.l"
)

var (
	negZero = math.Copysign(0, -1)
	inf     = math.Inf(1)
	kinds   = []int{api.Put, api.Drop, api.DropCol, api.DropRow, api.Add}
)

func text(s string) api.Value { return api.Value{Kind: api.Text, B: []byte(s)} }

func number(x float64) api.Value { return api.Value{Kind: api.Number, N: x} }

func ofBits(b uint64) api.Value { return number(math.Float64frombits(b)) }

func at(t int64, v api.Value) api.Version { return api.Version{Time: t, V: v} }

func col(name string, l ...api.Version) api.Column { return api.Column{Name: name, L: l} }

func of(l ...api.Column) api.Row { return api.Row{L: l} }

func put(name string, time int64, v api.Value) api.Change {
	return api.Change{Kind: api.Put, Col: name, Time: time, V: v}
}

func add(name string, time int64, x float64) api.Change {
	return api.Change{Kind: api.Add, Col: name, Time: time, V: number(x)}
}

func drop(name string, time int64) api.Change {
	return api.Change{Kind: api.Drop, Col: name, Time: time}
}

func dropCol(name string) api.Change { return api.Change{Kind: api.DropCol, Col: name} }

func dropRow() api.Change { return api.Change{Kind: api.DropRow} }

// plain is a Change of that Kind that has everything right.
func plain(kind int) api.Change {
	return api.Change{Kind: kind, Col: "a", Time: 5, V: number(1)}
}

// list is some changes as one argument.
func list(l ...api.Change) []api.Change { return l }

// showValue tells all of a value, also what its Kind gives no meaning to.
func showValue(v api.Value) string {
	return fmt.Sprintf("{%d %q %x}", v.Kind, v.B, math.Float64bits(v.N))
}

// show tells all of a row: nothing is asked of row itself.
func show(r api.Row) string {
	var s strings.Builder
	for _, c := range r.L {
		fmt.Fprintf(&s, "%q:", c.Name)
		for _, v := range c.L {
			fmt.Fprintf(&s, " %d=%s", v.Time, showValue(v.V))
		}
		s.WriteString("; ")
	}
	return s.String()
}

func showChange(c api.Change) string {
	return fmt.Sprintf("%d %q %d %s", c.Kind, c.Col, c.Time, showValue(c.V))
}

func showCond(c api.Cond) string {
	return fmt.Sprintf("%v %v %q %s", c.Has, c.Want, c.Col, showValue(c.V))
}

func showChanges(l []api.Change) string {
	var s []string
	for _, c := range l {
		s = append(s, showChange(c))
	}
	return strings.Join(s, "; ")
}

func want(t *testing.T, what string, got, want api.Row) {
	t.Helper()
	if show(got) != show(want) {
		t.Errorf("%s: %s, want %s", what, show(got), show(want))
	}
}

func wantRight(t *testing.T, what string, c api.Change, want api.Errno) {
	t.Helper()
	if got := change.Right(c); got != want {
		t.Errorf("P5.1: Right, %s: %s: %v, want %v", what, showChange(c), got, want)
	}
}

// wantDone asks that l is applied to r.
func wantDone(t *testing.T, what string, r api.Row, l []api.Change, is api.Row) {
	t.Helper()
	got, why := change.Apply(r, l...)
	if want(t, "P5.1: Apply, "+what, got, is); why != api.OK {
		t.Errorf("P5.1: Apply, %s: %v", what, why)
	}
}

// wantRefused asks that nothing of l is applied to r.
func wantRefused(t *testing.T, what string, r api.Row, l []api.Change, is api.Errno) {
	t.Helper()
	was := show(r)
	got, why := change.Apply(r, l...)
	if want(t, "R3: Apply, beside a refusal, "+what, got, api.Row{}); why != is {
		t.Errorf("P5.1: Apply, %s: %v, want %v", what, why, is)
	}
	if show(r) != was {
		t.Errorf("R3: Apply, %s: a refused call has changed the row: %s, was %s", what, show(r), was)
	}
}

// wrongNames are no Names.
func wrongNames() []string {
	return []string{"", tooLong, strings.Repeat("x", 300)}
}

func rightNames() []string {
	return []string{"a", "\x00", "\xff\xfe", longest}
}

func wrongTimes() []int64 {
	return []int64{-1, math.MinInt64, api.MaxTime + 1, math.MaxInt64}
}

func rightTimes() []int64 {
	return []int64{0, 1, api.MaxTime - 1, api.MaxTime}
}

func wrongValues() []api.Value {
	return []api.Value{{}, {Kind: -1}, {Kind: 3, N: 1}, {Kind: 257, B: []byte("x")}, {Kind: 258, N: 1}, text(tooLong)}
}

func rightTexts() []api.Value {
	return []api.Value{text(""), text("x"), text("\x00\xff"), text(longest), {Kind: api.Text, B: []byte("x"), N: 7}}
}

func rightNumbers() []api.Value {
	l := []api.Value{number(0), number(negZero), number(1), number(-2.5), number(inf), number(-inf)}
	l = append(l, number(math.MaxFloat64), number(math.SmallestNonzeroFloat64))
	return append(l, ofBits(oneNaN), ofBits(0xfff0000000000009), api.Value{Kind: api.Number, N: 1, B: []byte(tooLong)})
}

func TestRightOfKinds(t *testing.T) {
	for _, kind := range kinds {
		wantRight(t, "each Kind", plain(kind), api.OK)
	}
	for _, kind := range []int{0, -1, api.Put - 1, api.Add + 1, 256, 257, 261, -255, math.MinInt, math.MaxInt} {
		wantRight(t, "a Kind that is none", plain(kind), api.ErrKind)
		wantRight(t, "a Kind that is none, ahead of all else", api.Change{Kind: kind, Time: -1}, api.ErrKind)
	}
}

// wantRightOf asks for OK where a Kind does not ask for what c has, and for is where it does.
func wantRightOf(t *testing.T, what string, c api.Change, asking []int, is api.Errno) {
	t.Helper()
	for _, kind := range kinds {
		c.Kind = kind
		if slices.Contains(asking, kind) {
			wantRight(t, what, c, is)
		} else {
			wantRight(t, what+" that is not asked", c, api.OK)
		}
	}
}

func TestRightOfCols(t *testing.T) {
	asking := []int{api.Put, api.Drop, api.DropCol, api.Add}
	for _, name := range wrongNames() {
		wantRightOf(t, "no Name", api.Change{Col: name, Time: 5, V: number(1)}, asking, api.ErrArg)
	}
	for _, name := range rightNames() {
		wantRightOf(t, "a Name", api.Change{Col: name, Time: 5, V: number(1)}, asking, api.OK)
	}
}

func TestRightOfTimes(t *testing.T) {
	asking := []int{api.Put, api.Drop, api.Add}
	for _, time := range wrongTimes() {
		wantRightOf(t, "no Time", api.Change{Col: "a", Time: time, V: number(1)}, asking, api.ErrArg)
	}
	for _, time := range rightTimes() {
		wantRightOf(t, "a Time", api.Change{Col: "a", Time: time, V: number(1)}, asking, api.OK)
	}
}

func TestRightOfValues(t *testing.T) {
	for _, v := range wrongValues() {
		wantRightOf(t, "no value", api.Change{Col: "a", Time: 5, V: v}, []int{api.Put, api.Add}, api.ErrArg)
	}
	for _, v := range rightTexts() {
		wantRightOf(t, "a Text", api.Change{Col: "a", Time: 5, V: v}, []int{api.Add}, api.ErrKind)
	}
	for _, v := range rightNumbers() {
		wantRightOf(t, "a Number", api.Change{Col: "a", Time: 5, V: v}, nil, api.OK)
	}
}

// TestRightOfSeveral: where several refusals hold the first one comes.
func TestRightOfSeveral(t *testing.T) {
	wantRight(t, "nothing at all", api.Change{}, api.ErrKind)
	for _, c := range []api.Change{
		{Kind: api.Add, Col: "", Time: 5, V: text("x")},
		{Kind: api.Add, Col: "a", Time: -1, V: text("x")},
		{Kind: api.Add, Col: "a", Time: api.MaxTime + 1, V: text("x")},
		{Kind: api.Add, Col: "a", Time: 5, V: text(tooLong)},
		{Kind: api.Add, Col: "a", Time: 5},
		{Kind: api.Add, Col: tooLong, Time: -1, V: text(tooLong)},
	} {
		wantRight(t, "Add of no Number, and more that is wrong", c, api.ErrArg)
	}
}

// filled is a row with a Text in a, Numbers in n, and room for one column more.
func filled() api.Row {
	return of(
		col("a", at(5, text("x")), at(3, text("y"))),
		col("m", at(5, text("last")), at(4, number(1))),
		col("n", at(5, number(1)), at(3, number(10))),
	)
}

// whole is filled, with no room left.
func whole() api.Row {
	return of(append(filled().L, col("z", at(1, number(2))))...)
}

// without is filled without that column.
func without(name string) api.Row {
	return of(slices.DeleteFunc(filled().L, func(c api.Column) bool { return c.Name == name })...)
}

// but is filled with that column as it is given.
func but(c api.Column) api.Row {
	r := filled()
	for i := range r.L {
		if r.L[i].Name == c.Name {
			r.L[i] = c
		}
	}
	return r
}

func TestApplyOfNone(t *testing.T) {
	wantDone(t, "none", filled(), nil, filled())
	wantDone(t, "none", filled(), list(), filled())
	wantDone(t, "none, of an empty row", api.Row{}, nil, api.Row{})
	more := of(col("a", at(5, api.Value{Kind: api.Text, B: []byte("x"), N: 7}), at(3, ofBits(0xfff0000000000009))))
	wantDone(t, "none, of values that bear more", more, nil, of(col("a", at(5, text("x")), at(3, ofBits(oneNaN)))))
}

func TestApplyOfMany(t *testing.T) {
	var many []api.Change
	for i := range int64(api.MaxChanges) {
		many = append(many, add("n", 6+i, 1))
	}
	wantDone(t, "MaxChanges", filled(), many, but(col("n", at(13, number(9)), at(12, number(8)))))
	over := append(many, add("n", 99, 1))
	wantRefused(t, "one more", filled(), over, api.ErrLong)
	wantRefused(t, "many more", filled(), slices.Repeat(over, 50), api.ErrLong)
	for _, c := range []api.Change{{}, drop("", 1), put("a", -1, text("x")), add("a", 1, 1)} {
		wantRefused(t, "one more, ahead of other refusals", filled(), append(list(c), many...), api.ErrLong)
		wantRefused(t, "one more, which is refused", filled(), append(slices.Clone(many), c), api.ErrLong)
	}
}

func TestApplyOfWrongChanges(t *testing.T) {
	badKind, badArg := api.Change{Kind: 9}, drop("", 1)
	badSum := api.Change{Kind: api.Add, Col: "b", V: text("x")}
	good := put("b", 1, text("x"))
	for _, c := range []struct {
		l  []api.Change
		is api.Errno
	}{
		{list(badKind), api.ErrKind}, {list(badArg), api.ErrArg}, {list(badSum), api.ErrKind},
		{list(good, badKind), api.ErrKind}, {list(good, badArg), api.ErrArg}, {list(badArg, good), api.ErrArg},
		{list(badKind, badArg), api.ErrKind}, {list(badArg, badKind), api.ErrArg},
		{list(good, badArg, badSum), api.ErrArg}, {list(good, badSum, badArg), api.ErrKind},
		{list(add("a", 9, 1), badArg), api.ErrArg}, {list(dropRow(), badArg), api.ErrArg},
		{list(put("", 1, text("x"))), api.ErrArg}, {list(put("b", -1, text("x"))), api.ErrArg},
		{list(put("b", 1, text(tooLong))), api.ErrArg}, {list(put("b", 1, api.Value{})), api.ErrArg},
		{list(dropCol("")), api.ErrArg}, {list(dropCol(tooLong)), api.ErrArg},
		{list(drop("a", -1)), api.ErrArg}, {list(drop("a", api.MaxTime+1)), api.ErrArg},
	} {
		wantRefused(t, showChanges(c.l), filled(), c.l, c.is)
		wantRefused(t, showChanges(c.l)+", of an empty row", api.Row{}, c.l, c.is)
	}
	full := list(put("b", 1, text("")), badArg)
	wantRefused(t, "Right comes ahead of ErrFull", whole(), full, api.ErrArg)
}

func TestApplyOfEachKind(t *testing.T) {
	one := of(col("a", at(5, text("v"))))
	wantDone(t, "Put on an empty row", api.Row{}, list(put("a", 5, text("v"))), one)
	wantDone(t, "Add on an empty row", api.Row{}, list(add("a", 5, 2)), of(col("a", at(5, number(2)))))
	for _, c := range []api.Change{drop("a", 5), dropCol("a"), dropRow()} {
		wantDone(t, showChange(c)+" on an empty row", api.Row{}, list(c), api.Row{})
	}
	wantDone(t, "Put of a newer one", filled(), list(put("a", 9, text("v"))), but(col("a", at(9, text("v")), at(5, text("x")))))
	wantDone(t, "Put in its place", filled(), list(put("a", 5, number(3))), but(col("a", at(5, number(3)), at(3, text("y")))))
	wantDone(t, "Put of the oldest", filled(), list(put("a", 2, text("v"))), filled())
	wantDone(t, "Put of a new column", filled(), list(put("z", 1, number(2))), whole())
	wantDone(t, "Put at Time 0", api.Row{}, list(put("a", 0, text("v"))), of(col("a", at(0, text("v")))))
	wantDone(t, "Put at MaxTime", api.Row{}, list(put("a", api.MaxTime, text("v"))), of(col("a", at(api.MaxTime, text("v")))))
	wantDone(t, "Drop", filled(), list(drop("a", 5)), but(col("a", at(3, text("y")))))
	wantDone(t, "Drop of the older one", filled(), list(drop("a", 3)), but(col("a", at(5, text("x")))))
	wantDone(t, "Drop of none", filled(), list(drop("a", 4)), filled())
	wantDone(t, "Drop in no column", filled(), list(drop("b", 5)), filled())
	wantDone(t, "Drop of all versions", filled(), list(drop("a", 3), drop("a", 5)), without("a"))
	wantDone(t, "DropCol", filled(), list(dropCol("a")), without("a"))
	wantDone(t, "DropCol of none", filled(), list(dropCol("b")), filled())
	wantDone(t, "DropRow", filled(), list(dropRow()), api.Row{})
}

// TestApplyOfWhatIsNotAsked: it may be anything, and nothing hangs on it.
func TestApplyOfWhatIsNotAsked(t *testing.T) {
	odd := api.Change{Col: tooLong, Time: -7, V: text(tooLong)}
	odd.Kind = api.DropRow
	wantDone(t, "DropRow with more", filled(), list(odd), api.Row{})
	odd.Kind, odd.Col = api.DropCol, "a"
	wantDone(t, "DropCol with more", filled(), list(odd), without("a"))
	odd.Kind, odd.Time = api.Drop, 5
	wantDone(t, "Drop with more", filled(), list(odd), but(col("a", at(3, text("y")))))
	more := api.Value{Kind: api.Number, N: 1, B: []byte("bb")}
	for _, kind := range []int{api.Put, api.Add} {
		c := api.Change{Kind: kind, Col: "b", Time: 5, V: more}
		wantDone(t, "a Number with more", api.Row{}, list(c), of(col("b", at(5, number(1)))))
	}
	c := put("b", 5, api.Value{Kind: api.Text, B: []byte("b"), N: 1})
	wantDone(t, "a Text with more", api.Row{}, list(c), of(col("b", at(5, text("b")))))
}

func TestApplyInOrder(t *testing.T) {
	wantDone(t, "DropRow between others", filled(), list(put("b", 1, text("x")), dropRow(), add("n", 9, 7)), of(col("n", at(9, number(7)))))
	wantDone(t, "DropRow behind others", filled(), list(put("b", 1, text("x")), dropRow()), api.Row{})
	wantDone(t, "Put, then Drop", filled(), list(put("z", 1, text("x")), drop("z", 1)), filled())
	wantDone(t, "Drop, then Put", filled(), list(drop("z", 1), put("z", 1, number(2))), whole())
	wantDone(t, "Put, then DropCol", filled(), list(put("z", 1, text("x")), dropCol("z")), filled())
	wantDone(t, "DropCol, then Put", filled(), list(dropCol("a"), put("a", 1, text("x"))), but(col("a", at(1, text("x")))))
	wantDone(t, "Put, then Put in its place", filled(), list(put("z", 1, text("x")), put("z", 1, number(2))), whole())
	wantDone(t, "Put, then Add", filled(), list(put("a", 6, number(3)), add("a", 7, 4)), but(col("a", at(7, number(7)), at(6, number(3)))))
	wantDone(t, "DropCol makes room", whole(), list(dropCol("z"), put("zz", 1, number(2))), of(append(filled().L, col("zz", at(1, number(2))))...))
	wantDone(t, "Drop makes room", whole(), list(drop("z", 1), add("zz", 1, 2)), of(append(filled().L, col("zz", at(1, number(2))))...))
	wantDone(t, "DropCol of a Text, then Add", filled(), list(dropCol("a"), add("a", 1, 2)), but(col("a", at(1, number(2)))))
}

// sums are what is there, what is added, and what is then there.
func sums() [][3]api.Value {
	nan := ofBits(oneNaN)
	l := [][3]api.Value{
		{number(1), number(2), number(3)}, {number(0.1), number(0.2), number(math.Nextafter(0.3, 1))},
		{number(0), number(negZero), number(0)}, {number(negZero), number(0), number(0)},
		{number(0), number(0), number(0)}, {number(negZero), number(negZero), number(negZero)},
		{number(5), number(-5), number(0)}, {number(-5), number(5), number(0)},
		{number(inf), number(1), number(inf)}, {number(1), number(-inf), number(-inf)},
		{number(inf), number(inf), number(inf)}, {number(inf), number(-inf), nan}, {number(-inf), number(inf), nan},
		{nan, number(1), nan}, {number(1), ofBits(0x7ff0000000000005), nan}, {ofBits(0xfff8000000000000), nan, nan},
		{number(math.MaxFloat64), number(math.MaxFloat64), number(inf)},
		{number(1e16), number(1), number(1e16)},
		{number(math.SmallestNonzeroFloat64), number(math.SmallestNonzeroFloat64), number(2 * math.SmallestNonzeroFloat64)},
	}
	return l
}

func TestAdd(t *testing.T) {
	for _, s := range sums() {
		r := of(col("a", at(5, s[0]), at(3, number(99))))
		c := api.Change{Kind: api.Add, Col: "a", V: s[1]}
		what := "Add of " + showValue(s[1]) + " on " + showValue(s[0])
		c.Time = 9
		was := row.Copy(r).L[0].L[0]
		wantDone(t, what, r, list(c), of(col("a", at(9, s[2]), was)))
		c.Time = 5
		wantDone(t, what+" in its place", r, list(c), of(col("a", at(5, s[2]), at(3, number(99)))))
		c.Time = 4
		wantDone(t, what+" below it", r, list(c), of(col("a", was, at(4, s[2]))))
		c.Time = 2
		wantDone(t, what+" below both", r, list(c), row.Copy(r))
	}
}

func TestAddOnNoColumn(t *testing.T) {
	for _, v := range append(rightNumbers(), number(negZero)) {
		is := number(v.N)
		if math.IsNaN(v.N) {
			is = ofBits(oneNaN)
		}
		c := api.Change{Kind: api.Add, Col: "z", Time: 1, V: v}
		what := "Add on no column, the sum is " + showValue(is)
		wantDone(t, what, api.Row{}, list(c), of(col("z", at(1, is))))
		wantDone(t, what, filled(), list(c), of(append(filled().L, col("z", at(1, is)))...))
		wantDone(t, what+", behind DropRow", filled(), list(dropRow(), c), of(col("z", at(1, is))))
	}
}

func TestAddOnText(t *testing.T) {
	for _, c := range []api.Change{add("a", 9, 1), add("a", 5, 1), add("a", 1, 1), add("m", 9, 1), add("m", 4, 1)} {
		wantRefused(t, "Add on a Text", filled(), list(c), api.ErrKind)
		wantRefused(t, "Add on a Text, behind others", filled(), list(put("b", 1, text("x")), dropCol("n"), c), api.ErrKind)
		wantRefused(t, "Add on a Text, ahead of others", filled(), list(c, dropRow(), put("b", 1, text("x"))), api.ErrKind)
	}
	wantRefused(t, "Add on an empty Text", of(col("a", at(1, text("")))), list(add("a", 9, 1)), api.ErrKind)
	wantRefused(t, "Add on a Text that was just put", api.Row{}, list(put("a", 1, text("1")), add("a", 2, 1)), api.ErrKind)
	wantDone(t, "Add where an older one is a Text", of(col("a", at(5, number(1)), at(3, text("y")))), list(add("a", 3, 2)), of(col("a", at(5, number(1)), at(3, number(3)))))
}

func TestApplyOfOneColumnTooMany(t *testing.T) {
	for _, c := range []api.Change{put("b", 1, text("x")), add("b", 1, 1)} {
		wantRefused(t, "one column too many", whole(), list(c), api.ErrFull)
		wantRefused(t, "one column too many, behind others", filled(), list(put("y", 1, text("x")), c), api.ErrFull)
		wantRefused(t, "one column too many, ahead of room", whole(), list(c, dropRow()), api.ErrFull)
	}
	wantRefused(t, "ErrFull ahead of ErrKind", whole(), list(put("b", 1, text("x")), add("a", 9, 1)), api.ErrFull)
	wantRefused(t, "ErrKind ahead of ErrFull", whole(), list(add("a", 9, 1), put("b", 1, text("x"))), api.ErrKind)
	wantDone(t, "a column that is there", whole(), list(add("z", 1, 3)), of(append(filled().L, col("z", at(1, number(5))))...))
}

// wrongRows are not row.Right: they are taken for empty ones.
func wrongRows() []api.Row {
	version := at(5, text("x"))
	return []api.Row{
		of(col("")), of(col("", version)), of(col("a")), of(col("a", version), col("a", version)),
		of(col("b", version), col("a", version)), of(col("a", version, version)), of(col("a", at(-1, text("x")))),
		of(col("a", at(3, text("x")), version)), of(col("a", at(5, api.Value{}))), of(col(tooLong, version)),
		of(col("a", at(api.MaxTime+1, text("x")))), of(col("a", at(5, text(tooLong)))),
		of(col("a", at(5, text("")), at(4, text("")), at(3, text("")))),
		of(col("a", version), col("b", version), col("c", version), col("d", version), col("e", version)),
	}
}

func TestApplyOfWrongRows(t *testing.T) {
	for _, r := range wrongRows() {
		wantDone(t, "none, of a row that is not Right", r, nil, api.Row{})
		wantDone(t, "Put, of a row that is not Right", r, list(put("z", 1, text("v"))), of(col("z", at(1, text("v")))))
		wantDone(t, "Add, of a row that is not Right", r, list(add("a", 1, 2)), of(col("a", at(1, number(2)))))
		wantDone(t, "Drop, of a row that is not Right", r, list(drop("a", 5)), api.Row{})
		wantDone(t, "DropCol, of a row that is not Right", r, list(dropCol("z")), api.Row{})
	}
}

func TestRunsAndExamples(t *testing.T) {
	r, why := change.Apply(api.Row{}, add("a", 5, 1), add("a", 6, 2))
	v, ok := row.Newest(r, "a")
	if why != api.OK || !ok || showValue(v) != showValue(number(3)) {
		t.Errorf("P5.1: the run: %v, %s, %v", why, showValue(v), ok)
	}
	if _, why := change.Apply(api.Row{}, put("", 1, text("x"))); why != api.ErrArg {
		t.Errorf("P5.1: example 1: %v", why)
	}
	if !change.Holds(api.Row{}, api.Cond{Has: true, Col: "a"}) {
		t.Errorf("P5.2: example 2")
	}
}

func is(name string, v api.Value) api.Cond {
	return api.Cond{Has: true, Want: true, Col: name, V: v}
}

func none(name string) api.Cond {
	return api.Cond{Has: true, Col: name}
}

func wantHolds(t *testing.T, what string, r api.Row, c api.Cond, want bool) {
	t.Helper()
	if change.Holds(r, c) != want {
		t.Errorf("P5.2: Holds, %s: %s of %s: want %v", what, showCond(c), show(r), want)
	}
}

func TestHoldsOfNoCond(t *testing.T) {
	for _, r := range append(wrongRows(), api.Row{}, filled(), whole()) {
		for _, c := range []api.Cond{{}, is("a", text("no")), is("none", text("x")), none("a"), is("", api.Value{}), none(tooLong)} {
			c.Has = false
			wantHolds(t, "not Has", r, c, true)
		}
	}
}

func TestHoldsOfWant(t *testing.T) {
	wantHolds(t, "the newest", filled(), is("a", text("x")), true)
	wantHolds(t, "the one below it", filled(), is("a", text("y")), false)
	wantHolds(t, "another column's", filled(), is("a", number(1)), false)
	wantHolds(t, "a part of it", filled(), is("m", text("las")), false)
	wantHolds(t, "the newest of one that has another Kind below", filled(), is("m", text("last")), true)
	wantHolds(t, "what is below it, of another Kind", filled(), is("m", number(1)), false)
	for _, name := range []string{"b", "A", "", "aa", tooLong} {
		for _, v := range []api.Value{text("x"), text(""), number(0), number(negZero), {}} {
			wantHolds(t, "what is not there", filled(), is(name, v), false)
			wantHolds(t, "what is not there, of an empty row", api.Row{}, is(name, v), false)
		}
	}
	for _, v := range wrongValues() {
		wantHolds(t, "no value", filled(), is("a", v), false)
		wantHolds(t, "no value, where none is there", filled(), is("b", v), false)
	}
}

// TestHoldsOfEachTwo: of all values one is there, and one is wanted.
func TestHoldsOfEachTwo(t *testing.T) {
	l := []api.Value{text(""), text("0"), text("1"), text("x"), number(0), number(negZero), number(1), number(inf), number(-inf), ofBits(oneNaN)}
	for i, there := range l {
		for k, wanted := range l {
			wantHolds(t, "each two", of(col("a", at(5, there))), is("a", wanted), i == k)
		}
	}
	for _, there := range []uint64{oneNaN, 0x7ff0000000000001, 0xfff8000000000000, 0x7fffffffffffffff} {
		for _, wanted := range []uint64{oneNaN, 0x7ff8000000000000, 0xfff0000000000009, 0xffffffffffffffff} {
			wantHolds(t, "one NaN and another", of(col("a", at(5, ofBits(there)))), is("a", ofBits(wanted)), true)
		}
	}
	wantHolds(t, "a Text with more", filled(), is("a", api.Value{Kind: api.Text, B: []byte("x"), N: 7}), true)
	wantHolds(t, "a Number with more", filled(), is("n", api.Value{Kind: api.Number, N: 1, B: []byte("x")}), true)
}

func TestHoldsOfNone(t *testing.T) {
	for _, c := range whole().L {
		wantHolds(t, "not Want, of one that is there", whole(), none(c.Name), false)
		wantHolds(t, "not Want, of an empty row", api.Row{}, none(c.Name), true)
	}
	for _, name := range []string{"b", "A", "", "aa", tooLong, "\x00"} {
		wantHolds(t, "not Want, of one that is not there", whole(), none(name), true)
	}
	bears := api.Cond{Has: true, Col: "a", V: text("x")}
	wantHolds(t, "not Want, whatever V says", filled(), bears, false)
	bears.V = text("other")
	wantHolds(t, "not Want, whatever V says", filled(), bears, false)
	bears.Col = "b"
	wantHolds(t, "not Want, whatever V says", filled(), bears, true)
	for _, r := range wrongRows() {
		wantHolds(t, "not Want, of a row that is not Right", r, none("a"), true)
		wantHolds(t, "Want, of a row that is not Right", r, is("a", text("x")), false)
	}
}
