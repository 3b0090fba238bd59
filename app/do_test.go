package app_test

import (
	"bytes"
	"fmt"
	"math/rand"
	"slices"
	"testing"

	"wardmote/api"
	"wardmote/app"
	"wardmote/cmd"
)

// kinds are commands of each Kind, those that masters and tablets do, and some that they refuse.
func kinds(t *testing.T) []api.Command {
	t.Helper()
	other := made(t, 1, 3)
	asked(t, other, 9, 1, put("n", "c", 7))
	asked(t, other, 9, 2, split(of("", ""), 2, "m"))
	state := asked(t, other, 9, 3, freeze(of("m", ""), 2)).State
	return []api.Command{
		nothing(),
		put("a", "c", 1), put("n", "c", 2), get("a"), get("n"), get("none"), scan("", "", 16), scan("b", "m", 1),
		{Kind: api.Operate, Op: api.Op{Kind: api.Mutate, Row: "a", Cond: api.Cond{Has: true, Col: "c"}, L: []api.Change{{Kind: api.DropRow}}}},
		{Kind: api.Operate, Op: api.Op{Kind: api.Mutate, Row: "a", L: []api.Change{{Kind: api.Add, Col: "c", Time: 3, V: api.Value{Kind: api.Number, N: 1}}}}},
		split(of("", ""), 2, "m"), split(of("", ""), 2, "m"), merge(of("", ""), 3, "m"), merge(of("", ""), 2, "m"), split(of("", ""), 4, "m"),
		freeze(of("m", ""), 4), get("n"), freeze(of("m", ""), 9), retire(of("", "m"), 4), retire(of("m", ""), 4), get("n"),
		install(of("m", ""), 5, state), install(of("m", ""), 6, nil), install(of("m", ""), 3, state), get("n"), scan("", "", 16),
		locate(""), locate("n"), plan(0, "", 0), publish(9, 0), publish(1, 0),
		plan(api.DoSplit, "m", 0), plan(0, "", 0), plan(api.DoMove, "n", 2), publish(2, 0), locate("n"),
		plan(api.DoMove, "n", 2), publish(3, -1), plan(api.DoMove, "n", 1), plan(api.DoMerge, "m", 0), publish(4, 0), locate("n"),
	}
}

// wantTold asks that v is told what there is behind the app tells, in a, and that a is then as that is.
func wantTold(t *testing.T, what string, a *app.App, x *twin, v []byte) api.Answer {
	t.Helper()
	want := x.told(v)
	got := answer(t, a.Do(v))
	wantAnswer(t, what, got, want)
	wantPicture(t, what, a, x.picture(a.Group()))
	return got
}

// TestEachKind: what the master, or the tablets, tell of that client and number; asked again; and by a number that is old.
func TestEachKind(t *testing.T) {
	codes := map[string]int{}
	for group := range 4 {
		a, x := made(t, group, 3), newTwin(group, 3)
		for i, c := range kinds(t) {
			for _, who := range [][2]int{{1, i + 1}, {1, i + 1}, {1, i}, {2, 1}, {0, 0}, {255, greatest}, {3, greatest + 1}, {3, 1<<32 - 1}} {
				what := fmt.Sprintf("P13.1: group %d, command %d, client %d, number %d", group, i, who[0], who[1])
				got := wantTold(t, what, a, x, request(t, who[0], who[1], c))
				codes[fmt.Sprint(min(group, 1), " ", c.Kind, " ", int(got.Code))]++
			}
		}
	}
	for _, want := range []string{
		"0 1 24", "0 2 24", "0 3 24", "0 4 24", "0 5 24", "0 6 24", "0 7 0", "0 8 0", "0 8 1", "0 8 4", "0 8 22", "0 8 27", "0 9 0", "0 9 22", "0 10 0",
		"1 1 0", "1 1 4", "1 1 26", "1 1 27", "1 2 0", "1 2 22", "1 3 0", "1 3 12", "1 3 27", "1 4 0", "1 4 4", "1 5 0", "1 5 22", "1 6 0", "1 6 27", "1 7 24", "1 8 24", "1 9 24", "1 10 0",
	} {
		if codes[want] == 0 {
			t.Errorf("none of these requests is told %q: %v", want, codes)
		}
	}
}

// TestClientAndNumber: they are those of the request, not others.
func TestClientAndNumber(t *testing.T) {
	a := made(t, 1, 1)
	wantAnswer(t, "P13.1: first", asked(t, a, 4, 300, put("a", "c", 1)), code(api.OK))
	wantAnswer(t, "P13.1: an old number", asked(t, a, 4, 299, put("a", "d", 1)), code(api.ErrOld))
	wantAnswer(t, "P13.1: another client", asked(t, a, 5, 299, put("b", "c", 1)), code(api.OK))
	wantAnswer(t, "P13.1: another client again", asked(t, a, 5, 299, get("b")), code(api.OK))
	if got := asked(t, a, 5, 300, scan("", "", 9)); len(got.Rows) != 2 || len(got.Rows[0].R.L) != 1 {
		t.Errorf("P13.1: two rows of a column each: %s", show(got))
	}
}

// TestDoOfNothing: nothing is told, and nothing is changed.
func TestDoOfNothing(t *testing.T) {
	for what, a := range apps(t) {
		was, shown := a.Save(), picture(a)
		for _, v := range [][]byte{nil, {}, request(t, 1, 99, put("a", "c", 9))[:0]} {
			if got := a.Do(v); len(got) > 0 {
				t.Errorf("P13.1: %s: Do of nothing: % x", what, got)
			}
			wantSaved(t, "P13.1: "+what+": Do of nothing", a, was)
			wantPicture(t, "P13.1: "+what+": Do of nothing", a, shown)
		}
	}
}

// wantForm asks that v is told {ErrForm}, and that it changes nothing.
func wantForm(t *testing.T, what string, a *app.App, v []byte) {
	t.Helper()
	was, shown := a.Save(), picture(a)
	wantAnswer(t, what, answer(t, a.Do(v)), code(api.ErrForm))
	wantSaved(t, what, a, was)
	wantPicture(t, what, a, shown)
}

// TestDoOfWrongBytes: requests that are cut off, with more behind them, and whose inside is no command.
func TestDoOfWrongBytes(t *testing.T) {
	for group := range 3 {
		a := made(t, group, 2)
		for i, c := range kinds(t) {
			v := request(t, 1, i+1, c)
			what := fmt.Sprintf("P13.1: group %d, command %d", group, i)
			for n := 1; n < len(v); n++ {
				// The bytes behind the cut stand in the spare room: they must not be read.
				wantForm(t, fmt.Sprint(what, ", the first ", n, " bytes"), a, v[:n])
			}
			for _, more := range []string{"\x00", "\x01", "\xff", string(v)} {
				wantForm(t, what+", with more behind it", a, slices.Concat(v, []byte(more)))
			}
			in, _ := cmd.Encode(c)
			for n := range in {
				wantForm(t, fmt.Sprint(what, ", inside the first ", n, " bytes"), a, cmd.Wrap(1, i+1, in[:n]))
			}
			wantForm(t, what+", inside with more behind it", a, cmd.Wrap(1, i+1, append(in, 0)))
			wantForm(t, what+", wrapped twice", a, cmd.Wrap(1, i+1, v))
			asked(t, a, 1, i+1, c)
		}
		for _, v := range []string{"x", "rubbish", "\x00", "\x00\x00\x00\x00\x00\x00\x00\x00\x00", "\xff\xff\xff\xff\xff\xff\xff\xff\xff", "any bytes at all, and more of them"} {
			wantForm(t, fmt.Sprintf("P13.1: group %d, %q", group, v), a, []byte(v))
		}
		for kind := range 256 {
			if kind != api.Nothing {
				wantForm(t, fmt.Sprintf("P13.1: group %d, inside Kind %d alone", group, kind), a, cmd.Wrap(1, 1, []byte{byte(kind)}))
			}
		}
	}
}

// TestDoOfTurnedBytes: what is no request any more is told {ErrForm}; else it is done.
func TestDoOfTurnedBytes(t *testing.T) {
	forms, others := 0, 0
	for group := range 3 {
		a, x := made(t, group, 2), newTwin(group, 2)
		for i, c := range kinds(t) {
			v := request(t, 1, 2*i+1, c)
			for n := range v {
				for _, by := range []byte{1, 2, 3, 16, 128, 255} {
					turned := slices.Clone(v)
					turned[n] ^= by
					got := wantTold(t, fmt.Sprintf("P13.1: group %d, command %d, byte %d turned by %d", group, i, n, by), a, x, turned)
					if got.Code == api.ErrForm {
						forms++
					} else {
						others++
					}
					if t.Failed() {
						return
					}
				}
			}
			wantTold(t, "P13.1: not turned", a, x, v)
		}
	}
	if forms < 1000 || others < 1000 {
		t.Errorf("of turned bytes %d are no requests, %d are", forms, others)
	}
}

// TestDoOfAnyBytes: each row of bytes is refused or done. (W5)
func TestDoOfAnyBytes(t *testing.T) {
	rnd := rand.New(rand.NewSource(13))
	for group := range 3 {
		a, x := made(t, group, 2), newTwin(group, 2)
		for range 5000 {
			in := make([]byte, rnd.Intn(30))
			for i := range in {
				in[i] = byte(rnd.Intn(256) >> rnd.Intn(9))
			}
			wantTold(t, "W5: any bytes", a, x, append([]byte{byte(rnd.Intn(3))}, in...))
			wantTold(t, "W5: any bytes inside", a, x, cmd.Wrap(rnd.Intn(3), rnd.Intn(99), in))
		}
	}
}

// long is a group 1 whose tablet is longer than an answer may be: 256 clients were told as much as there is.
func long(t *testing.T) *app.App {
	t.Helper()
	a := made(t, 1, 2)
	wide := func(s string) string { return fmt.Sprintf("%-16s", s) }
	text := api.Value{Kind: api.Text, B: []byte(wide("text"))}
	for i := range 16 {
		c := put(wide(fmt.Sprint("row ", i)), "c", 1)
		c.Op.L = nil
		for j := range 8 {
			c.Op.L = append(c.Op.L, api.Change{Kind: api.Put, Col: wide(fmt.Sprint("col ", j/2)), Time: int64(j), V: text})
		}
		wantAnswer(t, "P10.1: Mutate", asked(t, a, 1, i+1, c), code(api.OK))
	}
	for client := range 256 {
		if got := asked(t, a, client, 99, scan("", "", 16)); len(got.Rows) != 16 {
			t.Fatalf("P10.1: Scan: %s", show(got))
		}
	}
	return a
}

// TestLong: a State that is too long is not told; the tablet is frozen all the same, as its Do says.
func TestLong(t *testing.T) {
	a := long(t)
	if n := len(a.Save()); n <= maxBytes {
		t.Fatalf("the tablet is not long enough: %d", n)
	}
	wantAnswer(t, "P13.1: too long", asked(t, a, 7, 1, freeze(of("", ""), 1)), code(api.ErrLong))
	if len(a.Live()) != 0 || len(a.Frozen()) != 1 {
		t.Errorf("P13.1: it is frozen: %s", picture(a))
	}
	wantAnswer(t, "P13.1: too long, again", asked(t, a, 7, 1, freeze(of("", ""), 1)), code(api.ErrLong))
	wantAnswer(t, "P13.1: others are told", asked(t, a, 7, 100, get("a")), code(api.ErrBusy))
	wantAnswer(t, "P13.1: others are told", asked(t, a, 7, 1, freeze(of("", ""), 9)), code(api.ErrNone))
	b := a.Save()
	other, ok := app.Load(1, 2, b)
	if !ok || !bytes.Equal(other.Save(), b) {
		t.Error("P13.1: Load of one that is long")
	}
}

// TestNotLong: with some clients less it is told.
func TestNotLong(t *testing.T) {
	a := made(t, 1, 2)
	asked(t, a, 1, 1, put("a", "c", 1))
	got := asked(t, a, 7, 1, freeze(of("", ""), 1))
	if got.Code != api.OK || len(got.State) == 0 {
		t.Errorf("P13.1: Freeze: %s", show(got))
	}
	wantAnswer(t, "P13.1: Freeze again", asked(t, a, 7, 1, freeze(of("", ""), 1)), got)
}
