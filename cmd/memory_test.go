package cmd_test

import (
	"fmt"
	"slices"
	"testing"

	"wardmote/api"
	"wardmote/cmd"
)

func fill[T any](l []T, x T) {
	for i := range l {
		l[i] = x
	}
}

// withRoom is l in memory of its own with room behind it, and x in that room.
func withRoom[T any](l []T, x T) []T {
	own := make([]T, len(l), len(l)+2)
	copy(own, l)
	fill(own[len(own):cap(own)], x)
	return own
}

func roomyValue(v api.Value) api.Value {
	v.B = withRoom(v.B, 'r')
	return v
}

// roomy is c with room behind each of its lists, and something in that room.
func roomy(c api.Command) api.Command {
	c.State = withRoom(c.State, 'r')
	c.Op.Cond.V = roomyValue(c.Op.Cond.V)
	c.Op.L = withRoom(c.Op.L, put("room", 77, text("room")))
	for i, x := range c.Op.L {
		c.Op.L[i].V = roomyValue(x.V)
	}
	return c
}

func roomyAnswer(a api.Answer) api.Answer {
	a.State = withRoom(a.State, 'r')
	a.Rows = withRoom(a.Rows, plain("room"))
	for i, x := range a.Rows {
		a.Rows[i].R.L = withRoom(x.R.L, plain("room").R.L[0])
		for k, c := range a.Rows[i].R.L {
			l := withRoom(c.L, at(77, text("room")))
			for n, v := range c.L {
				l[n].V = roomyValue(v.V)
			}
			a.Rows[i].R.L[k].L = l
		}
	}
	return a
}

// memory is one list: all of it with its room as a text, and how to overwrite that.
type memory struct {
	show      func() string
	overwrite func()
}

// memoryOf keeps l's own header, so that it is found again whatever is done around it.
func memoryOf[T any](l []T, x T, show func(T) string) memory {
	all := l[:cap(l)]
	tell := func() string {
		s := ""
		for _, x := range all {
			s += show(x) + ";"
		}
		return s
	}
	return memory{tell, func() { fill(all, x) }}
}

func memoryOfBytes(b []byte) memory {
	return memoryOf(b, 'z', func(b byte) string { return fmt.Sprint(b) })
}

// memoriesOf are all lists of a command: its State, its changes, and the bytes of their values and of its Cond's.
func memoriesOf(c api.Command) []memory {
	l := []memory{memoryOfBytes(c.State), memoryOfBytes(c.Op.Cond.V.B)}
	l = append(l, memoryOf(c.Op.L, put("zzz", 99, text("zzz")), func(x api.Change) string {
		return fmt.Sprint(x.Kind, x.Col, x.Time, x.V.Kind, len(x.V.B), x.V.N)
	}))
	for _, x := range c.Op.L {
		l = append(l, memoryOfBytes(x.V.B))
	}
	return l
}

// memoriesOfAnswer are its State, its rows, their columns, versions, and these versions' bytes.
func memoriesOfAnswer(a api.Answer) []memory {
	l := []memory{memoryOfBytes(a.State), memoryOf(a.Rows, plain("zzz"), func(x api.Named) string { return x.Name })}
	for _, x := range a.Rows {
		l = append(l, memoryOf(x.R.L, plain("zzz").R.L[0], func(c api.Column) string { return c.Name }))
		for _, c := range x.R.L {
			l = append(l, memoryOf(c.L, at(99, text("zzz")), func(v api.Version) string {
				return fmt.Sprint(v.Time, v.V.Kind, len(v.V.B), v.V.N)
			}))
			for _, v := range c.L {
				l = append(l, memoryOfBytes(v.V.B))
			}
		}
	}
	return l
}

func showAll(l []memory) []string {
	var out []string
	for _, x := range l {
		out = append(out, x.show())
	}
	return out
}

func overwriteAll(l []memory) {
	// The bytes first: the lists that lead to them are found by their own headers.
	for _, x := range slices.Backward(l) {
		x.overwrite()
	}
}

// bearing are commands, right and wrong, whose lists bear something that is not asked as well.
func bearing() []api.Command {
	var l []api.Command
	more := mutate("a", api.Cond{Has: true, Want: true, Col: "c", V: text("xy")}, put("c", 1, text("xy")), put("d", 1, oddlyValue(number(1))), put("e", 0, text("")))
	for _, x := range all() {
		l = append(l, roomy(x.c))
		c := x.c
		if c.Kind != api.Operate {
			c.Op = more
		}
		if c.Kind != api.Install {
			c.State = []byte("st")
		}
		l = append(l, roomy(c))
	}
	wrong := operate(mutate("a", api.Cond{}, append(changes(3), wrongChanges()...)...))
	return append(l, roomy(operate(more)), roomy(wrong), roomy(api.Command{State: []byte("st")}))
}

// wantKept runs do, which answers bytes of what is handed in: that is not changed, and the bytes don't hang on it.
func wantKept(t *testing.T, what string, given []memory, do func() []byte) {
	t.Helper()
	was := showAll(given)
	b := do()
	if is := showAll(given); !slices.Equal(is, was) {
		t.Errorf("R2: %s changes what is handed in: %q, was %q", what, is, was)
	}
	told := string(b)
	overwriteAll(given)
	if string(b) != told {
		t.Errorf("R2: %s keeps what is handed in: % x, was % x", what, b, told)
	}
}

func TestCommandsAreLeft(t *testing.T) {
	for i, c := range bearing() {
		wantKept(t, fmt.Sprint("Encode, case ", i), memoriesOf(c), func() []byte {
			want, _ := cmd.Encode(c)
			cmd.Right(c)
			cmd.RightOp(c.Op)
			b, _ := cmd.Encode(c)
			if string(b) != string(want) {
				t.Errorf("R4: Encode, case %d, tells other bytes the second time: % x", i, b)
			}
			// What one call told is overwritten, with its room: it is not what the next one tells.
			fill(b[:cap(b)], 'z')
			b, _ = cmd.Encode(c)
			if string(b) != string(want) {
				t.Errorf("R2: Encode, case %d: the bytes are not by themselves: % x", i, b)
			}
			return b
		})
	}
}

func TestAnswersAreLeft(t *testing.T) {
	l := []api.Answer{roomyAnswer(api.Answer{Code: 256, State: []byte("st")}), roomyAnswer(api.Answer{Rows: slices.Repeat([]api.Named{plain("a")}, 17)})}
	for _, x := range answers() {
		l = append(l, roomyAnswer(x.a))
	}
	for i, a := range l {
		other := roomyAnswer(a)
		given := append(memoriesOfAnswer(a), memoriesOfAnswer(other)...)
		wantKept(t, fmt.Sprint("EncodeAnswer, case ", i), given, func() []byte {
			want, _ := cmd.EncodeAnswer(a)
			if !cmd.SameAnswer(a, other) {
				t.Errorf("R5: SameAnswer, case %d, with room", i)
			}
			b, _ := cmd.EncodeAnswer(a)
			fill(b[:cap(b)], 'z')
			b, _ = cmd.EncodeAnswer(a)
			if string(b) != string(want) {
				t.Errorf("R2: EncodeAnswer, case %d: the bytes are not by themselves: % x", i, b)
			}
			return b
		})
	}
}

// wantByThemselves overwrites each list of what do tells of b, with its room, and b:
// no other list of it is touched, nor what it tells the next time.
func wantByThemselves(t *testing.T, what, b string, do func(b []byte) ([]memory, string)) {
	t.Helper()
	given := withRoom([]byte(b), 'r')
	lists, told := do(given)
	if string(given[:cap(given)]) != b+"rr" {
		t.Errorf("R2: %s changes its bytes or their room: % x", what, given[:cap(given)])
	}
	for i := range lists {
		answer, again := do(given)
		others := slices.Delete(slices.Clone(answer), i, i+1)
		is := showAll(others)
		answer[i].overwrite()
		if got := showAll(others); !slices.Equal(got, is) || again != told {
			t.Errorf("R2: %s: two lists of the answer share memory: %q, was %q", what, got, is)
		}
		if string(given[:cap(given)]) != b+"rr" {
			t.Errorf("R2: %s: the answer shares memory with the bytes: % x", what, given[:cap(given)])
		}
	}
	answer, _ := do(given)
	is := showAll(answer)
	fill(given[:cap(given)], 'z')
	if got := showAll(answer); !slices.Equal(got, is) {
		t.Errorf("R2: %s keeps its bytes: %q, was %q", what, got, is)
	}
}

func TestDecodedIsByItself(t *testing.T) {
	for _, x := range all() {
		wantByThemselves(t, "Decode of "+show(x.c), x.want, func(b []byte) ([]memory, string) {
			c, _ := cmd.Decode(b)
			return memoriesOf(c), show(c)
		})
		wantByThemselves(t, "Decode of "+show(x.c)+", cut off", x.want[:len(x.want)-1], func(b []byte) ([]memory, string) {
			c, _ := cmd.Decode(b)
			return memoriesOf(c), show(c)
		})
	}
	for _, x := range answers() {
		wantByThemselves(t, "DecodeAnswer of "+showAnswer(x.a), x.want, func(b []byte) ([]memory, string) {
			a, _ := cmd.DecodeAnswer(b)
			return memoriesOfAnswer(a), showAnswer(a)
		})
	}
}

func TestWrappedIsByItself(t *testing.T) {
	for _, s := range []string{"", "a", longest} {
		wantByThemselves(t, "Wrap", s, func(b []byte) ([]memory, string) {
			v := cmd.Wrap(1, 2, b)
			return []memory{memoryOfBytes(v)}, string(v)
		})
		wantByThemselves(t, "Unwrap", "\x01\x00\x00\x00\x02\x00\x00\x00"+string([]byte{byte(len(s))})+s, func(v []byte) ([]memory, string) {
			_, _, b, _ := cmd.Unwrap(v)
			return []memory{memoryOfBytes(b)}, string(b)
		})
	}
}

// TestNilAndEmpty: they mean the same.
func TestNilAndEmpty(t *testing.T) {
	for _, x := range all() {
		for _, state := range [][]byte{nil, {}} {
			for _, l := range [][]api.Change{nil, {}} {
				c := x.c
				if len(c.State) == 0 {
					c.State = state
				}
				if len(c.Op.L) == 0 {
					c.Op.L = l
				}
				if b, why := cmd.Encode(c); string(b) != x.want || why != api.OK {
					t.Errorf("R4: Encode of nil and empty lists: % x, %v", b, why)
				}
			}
		}
	}
	for _, a := range []api.Answer{{}, {Rows: []api.Named{}}, {State: []byte{}}} {
		if b, why := cmd.EncodeAnswer(a); string(b) != zeroBytes || why != api.OK || !cmd.SameAnswer(a, api.Answer{}) {
			t.Errorf("R4: EncodeAnswer of nil and empty lists: % x, %v", b, why)
		}
	}
	wantOp(t, "Mutate of an empty list", api.Op{Kind: api.Mutate, Row: "a", L: []api.Change{}}, false)
}

// TestZeroValues: nothing panics, and each is told as the chapter says.
func TestZeroValues(t *testing.T) {
	if cmd.RightOp(api.Op{}) || cmd.Right(api.Command{}) || !cmd.SameAnswer(api.Answer{}, api.Answer{}) {
		t.Error("R1: zero values")
	}
	if b, why := cmd.Encode(api.Command{}); len(b) > 0 || why != api.ErrArg {
		t.Errorf("R1: Encode of Kind 0: % x, %v", b, why)
	}
	if b, why := cmd.Encode(api.Command{Kind: api.Nothing}); string(b) != "\x0a" || why != api.OK {
		t.Errorf("R1: Encode of Nothing: % x, %v", b, why)
	}
	wantForm(t, "nothing", nil)
	wantNoAnswer(t, "nothing", nil)
	wantUnwrappedNot(t, "nothing", nil)
}
