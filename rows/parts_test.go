package rows_test

import (
	"fmt"
	"math"
	"testing"

	"wardmote/api"
	"wardmote/rows"
)

// rangeOf is what Range of l is to answer, by the document's words.
func rangeOf(l []api.Named, lo, hi string, most int) ([]api.Named, string) {
	var out []api.Named
	for _, x := range l {
		if x.Name < lo || hi != "" && x.Name >= hi {
			continue
		}
		if len(out) >= most || len(out) >= 16 {
			return out, x.Name
		}
		out = append(out, x)
	}
	return out, ""
}

func wantRange(t *testing.T, x *rows.Table, lo, hi string, most int, want []api.Named, left string) {
	t.Helper()
	what := fmt.Sprintf("P6.2: Range(%q, %q, %d)", lo, hi, most)
	l, next := x.Range(lo, hi, most)
	wantRows(t, what, l, want)
	if next != left {
		t.Errorf("%s: %q is left out first, want %q", what, next, left)
	}
}

func TestRange(t *testing.T) {
	x := tableOf(t, "b", "d", "f")
	for _, c := range []struct {
		lo, hi string
		most   int
		want   []string
		left   string
	}{
		{"", "", 9, []string{"b", "d", "f"}, ""},
		{"a", "", 9, []string{"b", "d", "f"}, ""},
		{"b", "", 9, []string{"b", "d", "f"}, ""},
		{"b\x00", "", 9, []string{"d", "f"}, ""},
		{"f", "", 9, []string{"f"}, ""},
		{"f\x00", "", 9, nil, ""},
		{"", "a", 9, nil, ""},
		{"", "b", 9, nil, ""},
		{"", "b\x00", 9, []string{"b"}, ""},
		{"b", "f", 9, []string{"b", "d"}, ""},
		{"b", "g", 9, []string{"b", "d", "f"}, ""},
		{"d", "d", 9, nil, ""},
		{"f", "b", 9, nil, ""},
		{"e", "c", 0, nil, ""},
		{"z", "a", -1, nil, ""},
		{"", "", -1, nil, "b"},
		{"", "", 0, nil, "b"},
		{"", "", 1, []string{"b"}, "d"},
		{"", "", 2, []string{"b", "d"}, "f"},
		{"", "", 3, []string{"b", "d", "f"}, ""},
		{"", "f", 2, []string{"b", "d"}, ""},
		{"", "f", 1, []string{"b"}, "d"},
		{"c", "", 0, nil, "d"},
		{"c", "e", 0, nil, "d"},
		{"c", "e", 1, []string{"d"}, ""},
		{tooLong, "", 1, nil, ""},
		{"", tooLong, 1, []string{"b"}, "d"},
		{"", "", math.MinInt, nil, "b"},
		{"", "", math.MaxInt, []string{"b", "d", "f"}, ""},
	} {
		wantRange(t, x, c.lo, c.hi, c.most, listed(c.want...), c.left)
	}
}

func TestRangeOfTheChapter(t *testing.T) {
	wantRange(t, tableOf(t, "b", "a"), "", "", 1, listed("a"), "b")
}

// TestRangeOfEachTwo: from and to each place of the names, by itself and with each most.
func TestRangeOfEachTwo(t *testing.T) {
	l := listed("\x00", "b", "b\x00", "d", "\xff")
	x := made(t, l...)
	ends := []string{"", "\x00", "\x00\x00", "B", "a", "b", "b\x00", "b\x00\x00", "b\x01", "c", "d", "d\x00", "\xfe", "\xff", "\xff\xff", tooLong}
	for _, lo := range ends {
		for _, hi := range ends {
			for most := -2; most < 8; most++ {
				want, left := rangeOf(l, lo, hi, most)
				wantRange(t, x, lo, hi, most, want, left)
			}
		}
	}
	wantTable(t, "P6.2: behind Range", x, l)
}

func TestRangeOfManyRows(t *testing.T) {
	all := listed(counted("k", api.MaxRows)...)
	x := made(t, all...)
	for _, most := range []int{api.MaxScan, api.MaxScan + 1, api.MaxRows, math.MaxInt, 1 << 32} {
		wantRange(t, x, "", "", most, all[:16], "k16")
		wantRange(t, x, "k05", "", most, all[5:21], "k21")
		wantRange(t, x, "k16", "", most, all[16:], "")
		wantRange(t, x, "k15", "", most, all[15:31], "k31")
		wantRange(t, x, "k02", "k18", most, all[2:18], "")
		wantRange(t, x, "k02", "k19", most, all[2:18], "k18")
	}
	wantRange(t, x, "", "", api.MaxScan-1, all[:15], "k15")
	for most := -1; most <= api.MaxRows+1; most++ {
		for from := range all {
			want, left := rangeOf(all, all[from].Name, "k30", most)
			wantRange(t, x, all[from].Name, "k30", most, want, left)
		}
	}
}

func TestRangeOfNothing(t *testing.T) {
	for _, most := range []int{-1, 0, 1, api.MaxScan, api.MaxScan + 1} {
		wantRange(t, rows.New(), "", "", most, nil, "")
		wantRange(t, rows.New(), "a", "b", most, nil, "")
	}
}

func TestSplit(t *testing.T) {
	for _, c := range []struct {
		what, at  string
		low, high []string
	}{
		{"the empty name", "", nil, []string{"a", "c", "e"}},
		{"ahead of all", "\x00", nil, []string{"a", "c", "e"}},
		{"the first", "a", nil, []string{"a", "c", "e"}},
		{"behind the first", "a\x00", []string{"a"}, []string{"c", "e"}},
		{"one that is there", "c", []string{"a"}, []string{"c", "e"}},
		{"between two", "d", []string{"a", "c"}, []string{"e"}},
		{"the last", "e", []string{"a", "c"}, []string{"e"}},
		{"behind all", "e\x00", []string{"a", "c", "e"}, nil},
		{"one that is no name", tooLong, []string{"a", "c", "e"}, nil},
	} {
		x := tableOf(t, "a", "c", "e")
		low, high := x.Split(c.at)
		wantTable(t, "P6.2: Split, below "+c.what, low, listed(c.low...))
		wantTable(t, "P6.2: Split, from on "+c.what, high, listed(c.high...))
		wantTable(t, "P6.2: the table behind Split", x, listed("a", "c", "e"))
		wantApart(t, "Split", x, low)
		wantApart(t, "Split", x, high)
		wantApart(t, "Split", low, high)
	}
	low, high := made(t, api.Named{Name: "b", R: full()}).Split("a")
	wantTable(t, "P6.2: Split, the chapter's example", low, nil)
	wantTable(t, "P6.2: Split, the chapter's example", high, []api.Named{{Name: "b", R: full()}})
	for _, s := range []string{"", "a", tooLong} {
		x := rows.New()
		low, high := x.Split(s)
		wantTable(t, "P6.2: Split of nothing", low, nil)
		wantTable(t, "P6.2: Split of nothing", high, nil)
		wantApart(t, "Split of nothing", x, low)
		wantApart(t, "Split of nothing", low, high)
	}
}

// wantApart asks that what is done to one of them is not seen in the other, and leaves both changed.
func wantApart(t *testing.T, what string, a, b *rows.Table) {
	t.Helper()
	for _, two := range [][2]*rows.Table{{a, b}, {b, a}} {
		was := pages(two[1])
		for _, x := range pages(two[0]) {
			two[0].Set(x.Name, plain("other"))
			wantTable(t, "R2: "+what+": a row is changed", two[1], was)
		}
		two[0].Set("0", plain("0"))
		two[0].Set("zz", plain("zz"))
		wantTable(t, "R2: "+what+": rows are new", two[1], was)
		for _, x := range pages(two[0]) {
			two[0].Set(x.Name, api.Row{})
			wantTable(t, "R2: "+what+": a row is not there any more", two[1], was)
		}
	}
}

func TestSplitOfManyRows(t *testing.T) {
	all := listed(counted("k", api.MaxRows)...)
	x := made(t, all...)
	for i, n := range all {
		low, high := x.Split(n.Name)
		wantTable(t, "P6.2: Split of MaxRows, below", low, all[:i])
		wantTable(t, "P6.2: Split of MaxRows, from on", high, all[i:])
		whole, why := rows.Join(low, high)
		wantCode(t, "P6.2: Join of what was split", why, api.OK)
		wantTable(t, "P6.2: Join of what was split", whole, all)
	}
}

func TestJoin(t *testing.T) {
	for _, c := range []struct {
		what string
		a, b []string
	}{
		{"two empty ones", nil, nil},
		{"an empty one ahead", nil, []string{"a", "b"}},
		{"an empty one behind", []string{"a", "b"}, nil},
		{"one and one", []string{"a"}, []string{"b"}},
		{"names that nearly touch", []string{"a", "c"}, []string{"c\x00", "d"}},
		{"names by their bytes", []string{"B", "\x7f"}, []string{"\x80", "\xff"}},
		{"MaxRows together", counted("a", 2), counted("b", api.MaxRows-2)},
		{"MaxRows and none", counted("a", api.MaxRows), nil},
		{"none and MaxRows", nil, counted("a", api.MaxRows)},
		{"MaxRows - 1 and one", counted("a", api.MaxRows-1), []string{"b"}},
	} {
		a, b := tableOf(t, c.a...), tableOf(t, c.b...)
		both, why := rows.Join(a, b)
		wantCode(t, "P6.2: Join, "+c.what, why, api.OK)
		wantTable(t, "P6.2: Join, "+c.what, both, append(listed(c.a...), listed(c.b...)...))
		wantTable(t, "P6.2: the first behind Join, "+c.what, a, listed(c.a...))
		wantTable(t, "P6.2: the second behind Join, "+c.what, b, listed(c.b...))
		wantApart(t, "Join", a, both)
		both, _ = rows.Join(a, b)
		wantApart(t, "Join", b, both)
	}
}

func TestJoinRefuses(t *testing.T) {
	for _, c := range []struct {
		what string
		a, b []string
		want api.Errno
	}{
		{"the same", []string{"a"}, []string{"a"}, api.ErrArg},
		{"names that touch", []string{"a", "b"}, []string{"b", "c"}, api.ErrArg},
		{"names that overlap", []string{"a", "c"}, []string{"b", "d"}, api.ErrArg},
		{"one within the other", []string{"a", "d"}, []string{"b", "c"}, api.ErrArg},
		{"the other round", []string{"b", "c"}, []string{"a", "d"}, api.ErrArg},
		{"turned round", []string{"c", "d"}, []string{"a", "b"}, api.ErrArg},
		{"turned round, by their bytes", []string{"\x80"}, []string{"\x7f"}, api.ErrArg},
		{"turned round, one begins the other", []string{"ab"}, []string{"a"}, api.ErrArg},
		{"one above MaxRows", []string{"a"}, counted("b", api.MaxRows), api.ErrFull},
		{"one above MaxRows", counted("a", api.MaxRows), []string{"b"}, api.ErrFull},
		{"one above MaxRows", counted("a", 16), counted("b", 17), api.ErrFull},
		{"MaxRows twice", counted("a", api.MaxRows), counted("b", api.MaxRows), api.ErrFull},
		{"turned round and above MaxRows", counted("b", api.MaxRows), counted("a", api.MaxRows), api.ErrArg},
		{"touching and above MaxRows", counted("a", api.MaxRows), append(counted("b", 1), "a31"), api.ErrArg},
	} {
		a, b := tableOf(t, c.a...), tableOf(t, c.b...)
		both, why := rows.Join(a, b)
		wantCode(t, "P6.2: Join, "+c.what, why, c.want)
		if both != nil {
			t.Errorf("R3: Join, %s: a table beside a refusal", c.what)
		}
		wantTable(t, "P6.2: the first behind a Join that was refused", a, sorted(listed(c.a...)))
		wantTable(t, "P6.2: the second behind a Join that was refused", b, sorted(listed(c.b...)))
	}
	some := tableOf(t, "a")
	for _, c := range [][2]*rows.Table{{nil, nil}, {nil, some}, {some, nil}, {nil, rows.New()}, {rows.New(), nil}, {some, some}} {
		both, why := rows.Join(c[0], c[1])
		if why != api.ErrArg || both != nil {
			t.Errorf("P6.2: Join of a nil one, or of one with itself: %v", why)
		}
	}
	empty := rows.New()
	both, why := rows.Join(empty, empty)
	wantCode(t, "P6.2: Join of an empty one with itself", why, api.OK)
	wantTable(t, "P6.2: Join of an empty one with itself", both, nil)
	wantApart(t, "Join of an empty one with itself", empty, both)
}

func TestSame(t *testing.T) {
	// No two of these are the same.
	differ := [][]api.Named{
		nil, listed("a"), listed("b"), listed("a\x00"), listed("a", "b"), listed("a", "c"), listed("b", "c"), listed("a", "b", "c"),
		{{Name: "a", R: plain("x")}},
		{{Name: "b", R: plain("x")}},
		{{Name: "a", R: plain("a")}, {Name: "c", R: plain("b")}},
		{{Name: "a", R: full()}},
		{{Name: "a", R: of(col("c", at(2, text("a"))))}},
		{{Name: "a", R: of(col("d", at(1, text("a"))))}},
		{{Name: "a", R: of(col("c", at(2, text("a")), at(1, text("a"))))}},
		{{Name: "a", R: of(col("c", at(1, number(0))))}},
		{{Name: "a", R: of(col("c", at(1, number(negZero))))}},
		{{Name: "a", R: of(col("c", at(1, ofBits(oneNaN))))}},
		{{Name: "a", R: plain("a")}, {Name: "b", R: plain("x")}},
		listed(counted("k", api.MaxRows)...), listed(counted("k", api.MaxRows-1)...), listed(counted("j", api.MaxRows)...),
	}
	for i, a := range differ {
		for k, b := range differ {
			if got := rows.Same(made(t, a...), made(t, b...)); got != (i == k) {
				t.Errorf("P6.2: Same of %s and %s: %v", show(a), show(b), got)
			}
		}
		x := made(t, a...)
		if !rows.Same(x, x) || rows.Same(x, nil) || rows.Same(nil, x) {
			t.Errorf("P6.2: Same of %s with itself, or with a nil one", show(a))
		}
	}
	if rows.Same(nil, nil) {
		t.Error("R1: Same of two nil ones: true")
	}
	a, b := tableOf(t, "a", "b", "c"), tableOf(t, "c", "a", "b")
	b.Set("d", plain("d"))
	b.Set("d", api.Row{})
	if !rows.Same(a, b) || !rows.Same(b, a) {
		t.Error("P6.2: Same hangs on how the tables came to be")
	}
	a, b = rows.New(), rows.New()
	a.Set("a", of(col("c", at(1, ofBits(0xfff0000000000009)))))
	b.Set("a", of(col("c", at(1, ofBits(oneNaN)))))
	if !rows.Same(a, b) {
		t.Error("P6.2: Same of one NaN and another: false")
	}
}

func TestCopy(t *testing.T) {
	for _, l := range [][]api.Named{nil, listed("a", "b"), {{Name: longest, R: full()}}, listed(counted("k", api.MaxRows)...)} {
		x := made(t, l...)
		c := x.Copy()
		wantTable(t, "P6.2: Copy", c, l)
		if !rows.Same(x, c) {
			t.Errorf("P6.2: Copy of %s is not the Same", show(l))
		}
		wantApart(t, "Copy", x, c)
	}
}
