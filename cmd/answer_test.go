package cmd_test

import (
	"bytes"
	"fmt"
	"math"
	"math/rand"
	"slices"
	"strings"
	"testing"

	"wardmote/api"
	"wardmote/cmd"
)

func at(t int64, v api.Value) api.Version { return api.Version{Time: t, V: v} }

func col(name string, l ...api.Version) api.Column { return api.Column{Name: name, L: l} }

func named(name string, l ...api.Column) api.Named {
	return api.Named{Name: name, R: api.Row{L: l}}
}

func plain(name string) api.Named { return named(name, col("c", at(0, number(1)))) }

// full has a field of its own of everything.
func full() api.Answer {
	return api.Answer{
		Code: api.ErrCond, Rows: []api.Named{named("a", col("b", at(258, text("c"))), col("c", at(1, number(1)), at(0, text("")))), named("b")},
		Span: of("a", "b"), Group: 1, To: 2, Do: 3, Gen: 4, Old: 0x01020304, At: "c", State: []byte("s\x00"),
	}
}

const fullBytes = "\x19\x02" +
	aText + "\x02" + bText + "\x01\x00\x00\x00\x00\x00\x00\x01\x02\x01" + cText + cText + "\x02\x00\x00\x00\x00\x00\x00\x00\x01" + one + noTime + "\x01" + empty +
	bText + "\x00" +
	aText + bText + "\x01\x02\x03\x00\x00\x00\x04\x01\x02\x03\x04" + cText + "\x00\x00\x00\x02s\x00"

// zeroBytes is of an answer with nothing in it.
const zeroBytes = "\x00\x00" + empty + empty + "\x00\x00\x00" + empty + empty + empty + empty

// answered is an answer that may be, and its bytes by the document's words.
type answered struct {
	a    api.Answer
	want string
}

func answers() []answered {
	page := slices.Repeat([]api.Named{plain("b")}, api.MaxScan)
	wide := named(longest, col("a", at(api.MaxTime, text(longest)), at(0, number(negZero()))), col("b", at(0, number(1))), col("c", at(0, number(1))), col(longest, at(0, number(math.NaN()))))
	most := api.Answer{Code: 255, Span: of("", longest), Group: 255, To: 255, Do: 255, Gen: maxGen, Old: maxGen, At: longest}
	return []answered{
		{api.Answer{}, zeroBytes},
		{full(), fullBytes},
		{most, "\xff\x00" + empty + long16 + "\xff\xff\xff\x40\x00\x00\x00\x40\x00\x00\x00" + long16 + empty},
		{api.Answer{Rows: page}, "\x00\x10" + strings.Repeat(bText+"\x01"+cText+"\x01"+noTime+one, 16) + zeroBytes[2:]},
		{api.Answer{Rows: []api.Named{wide}}, "\x00\x01" + long16 +
			"\x04" + aText + "\x02\x00\x00\x01\x00\x00\x00\x00\x00\x01" + long16 + noTime + "\x02\x80\x00\x00\x00\x00\x00\x00\x00" +
			bText + "\x01" + noTime + one + cText + "\x01" + noTime + one + long16 + "\x01" + noTime + "\x02\x7f\xf8\x00\x00\x00\x00\x00\x01" + zeroBytes[2:]},
		{api.Answer{Rows: []api.Named{named("c"), named("a"), named("a")}}, "\x00\x03" + cText + "\x00" + aText + "\x00" + aText + "\x00" + zeroBytes[2:]},
	}
}

func TestEncodeAnswer(t *testing.T) {
	for _, x := range answers() {
		if b, why := cmd.EncodeAnswer(x.a); string(b) != x.want || why != api.OK {
			t.Errorf("P8.3: EncodeAnswer of %s: % x, %v, want % x", showAnswer(x.a), b, why, x.want)
		}
		a, why := cmd.DecodeAnswer([]byte(x.want))
		if showAnswer(a) != showAnswer(x.a) || why != api.OK || !cmd.SameAnswer(a, x.a) {
			t.Errorf("P8.3: DecodeAnswer of % x: %s, %v, want %s", x.want, showAnswer(a), why, showAnswer(x.a))
		}
		if !isAnswer([]byte(x.want)) {
			t.Errorf("the test's own bytes: % x", x.want)
		}
	}
}

// TestEncodeAnswerOfMore: what a value's Kind gives no meaning to is not written.
func TestEncodeAnswerOfMore(t *testing.T) {
	a := api.Answer{Rows: []api.Named{named("a", col("c", at(0, oddlyValue(number(1)))))}}
	want := "\x00\x01" + aText + "\x01" + cText + "\x01" + noTime + one + zeroBytes[2:]
	if b, why := cmd.EncodeAnswer(a); string(b) != want || why != api.OK {
		t.Errorf("P8.3: EncodeAnswer of a Number that has bytes: % x, %v", b, why)
	}
}

// showAnswer tells all of a, nil and empty lists alike.
func showAnswer(a api.Answer) string {
	s := fmt.Sprintf("Code %d", int(a.Code))
	for _, x := range a.Rows {
		s += fmt.Sprintf(", Row %q", x.Name)
		for _, c := range x.R.L {
			s += fmt.Sprintf(" %q", c.Name)
			for _, v := range c.L {
				s += fmt.Sprintf(" %d %s", v.Time, showValue(v.V))
			}
		}
	}
	return s + fmt.Sprintf(", Span %q, Group %d, Gen %d, Old %d, To %d, Do %d, At %q, State %x", a.Span, a.Group, a.Gen, a.Old, a.To, a.Do, a.At, a.State)
}

// turn is a way to set one field of an answer.
type turn struct {
	what string
	do   func(a *api.Answer, n int)
}

func numbers() (upTo255, upToGen []turn) {
	upTo255 = []turn{
		{"Code", func(a *api.Answer, n int) { a.Code = api.Errno(n) }},
		{"Group", func(a *api.Answer, n int) { a.Group = n }},
		{"To", func(a *api.Answer, n int) { a.To = n }},
		{"Do", func(a *api.Answer, n int) { a.Do = n }},
	}
	upToGen = []turn{
		{"Gen", func(a *api.Answer, n int) { a.Gen = n }},
		{"Old", func(a *api.Answer, n int) { a.Old = n }},
	}
	return upTo255, upToGen
}

// wantAnswer asks EncodeAnswer, and whether what it writes comes back.
func wantAnswer(t *testing.T, what string, a api.Answer, want bool) {
	t.Helper()
	b, why := cmd.EncodeAnswer(a)
	if !want {
		if why != api.ErrArg || len(b) > 0 {
			t.Errorf("P8.3: EncodeAnswer, %s: % .60x, %v", what, b, why)
		}
		return
	}
	got, no := cmd.DecodeAnswer(b)
	if why != api.OK || no != api.OK || !cmd.SameAnswer(a, got) || showAnswer(a) != showAnswer(got) {
		t.Errorf("P8.3: %s: %v, %v; back: %s, want %s", what, why, no, showAnswer(got), showAnswer(a))
	}
}

func TestNumbersOfAnswers(t *testing.T) {
	upTo255, upToGen := numbers()
	for _, n := range []int{math.MinInt, -maxGen, -256, -1, 0, 1, 254, 255, 256, 511, 512, maxGen - 1, maxGen, maxGen + 1, 1 << 31, 1 << 32, 1<<32 + 1, math.MaxInt} {
		for _, x := range upTo255 {
			a := full()
			x.do(&a, n)
			wantAnswer(t, fmt.Sprint(x.what, " ", n), a, n >= 0 && n <= 255)
		}
		for _, x := range upToGen {
			a := full()
			x.do(&a, n)
			wantAnswer(t, fmt.Sprint(x.what, " ", n), a, n >= 0 && n <= maxGen)
		}
	}
}

func TestTextsOfAnswers(t *testing.T) {
	for s, want := range places() {
		a := full()
		a.At = s
		wantAnswer(t, fmt.Sprintf("At %q", s), a, want)
		a = full()
		a.Span = of("", s)
		wantAnswer(t, fmt.Sprintf("a Span to %q", s), a, want)
		a.Span = of(s, "")
		wantAnswer(t, fmt.Sprintf("a Span from %q", s), a, want)
		a.Span = of(s, s)
		wantAnswer(t, fmt.Sprintf("a Span from %q to it", s), a, s == "")
		a = full()
		a.Rows[1].Name = s
		wantAnswer(t, fmt.Sprintf("a row %q", s), a, want && s != "")
	}
	for size, want := range map[int]bool{0: true, 1: true, api.MaxBytes: true, api.MaxBytes + 1: false} {
		a := full()
		a.State = bytes.Repeat([]byte("s"), size)
		wantAnswer(t, fmt.Sprint("a State of ", size), a, want)
	}
}

func TestRowsOfAnswers(t *testing.T) {
	for n := range 600 {
		a := full()
		a.Rows = slices.Repeat([]api.Named{plain("a")}, n)
		wantAnswer(t, fmt.Sprint(n, " rows"), a, n <= 16)
	}
	for i, x := range []api.Named{
		{}, named("", col("c", at(0, number(1)))), named("a", col("c")), named("a", col("", at(0, number(1)))), named("a", col(tooLong, at(0, number(1)))),
		named("a", col("c", at(-1, number(1)))), named("a", col("c", at(api.MaxTime+1, number(1)))), named("a", col("c", at(0, text(tooLong)))), named("a", col("c", at(0, api.Value{}))),
		named("a", col("c", at(1, number(1)), at(1, number(1)))), named("a", col("c", at(0, number(1)), at(1, number(1)))), named("a", col("c", at(3, number(1)), at(2, number(1)), at(1, number(1)))),
		named("a", plain("").R.L[0], plain("").R.L[0]), named("a", col("d", at(0, number(1))), col("c", at(0, number(1)))),
		named("a", col("a", at(0, number(1))), col("b", at(0, number(1))), col("c", at(0, number(1))), col("d", at(0, number(1))), col("e", at(0, number(1)))),
	} {
		for k := range api.MaxScan {
			a := full()
			a.Rows = slices.Repeat([]api.Named{plain("a")}, api.MaxScan)
			a.Rows[k] = x
			wantAnswer(t, fmt.Sprint("the wrong row ", i, " at ", k), a, false)
		}
	}
}

// wantNoAnswer: b is of no answer.
func wantNoAnswer(t *testing.T, what string, b []byte) {
	t.Helper()
	if a, why := cmd.DecodeAnswer(b); why != api.ErrForm || showAnswer(a) != showAnswer(api.Answer{}) {
		t.Errorf("P8.3: DecodeAnswer of % .60x, %s: %s, %v", b, what, showAnswer(a), why)
	}
}

// wantAnswerTaken holds what DecodeAnswer tells of b against isAnswer.
func wantAnswerTaken(t *testing.T, what string, b []byte) {
	t.Helper()
	if !isAnswer(b) {
		wantNoAnswer(t, what, b)
		return
	}
	a, why := cmd.DecodeAnswer(b)
	again, no := cmd.EncodeAnswer(a)
	if why != api.OK || no != api.OK || !bytes.Equal(again, b) {
		t.Errorf("P8.3: DecodeAnswer of % .60x, %s: %s, %v; again: % .60x, %v", b, what, showAnswer(a), why, again, no)
	}
}

func TestAnswersCutOff(t *testing.T) {
	for _, x := range answers() {
		b := []byte(x.want)
		for n := range b {
			wantNoAnswer(t, "cut off", b[:n])
		}
		for _, more := range []string{"\x00", "\x01", empty, x.want} {
			wantNoAnswer(t, "and more", []byte(x.want+more))
		}
	}
	wantNoAnswer(t, "nothing", nil)
}

func TestAnswersTurned(t *testing.T) {
	for _, x := range answers() {
		b := []byte(x.want)
		for i := range b {
			for range 256 {
				b[i]++
				wantAnswerTaken(t, "one byte turned", b)
			}
		}
	}
	for n := range 256 {
		b := string([]byte{0, byte(n)}) + strings.Repeat(aText+"\x00", n) + zeroBytes[2:]
		wantAnswerTaken(t, "so many rows", []byte(b))
	}
}

func TestAnyBytesOfAnswers(t *testing.T) {
	rnd := rand.New(rand.NewSource(83))
	list := answers()
	told := [2]int{}
	for range 30000 {
		b := spoil(rnd, []byte(list[rnd.Intn(len(list))].want))
		wantAnswerTaken(t, "any bytes", b)
		if isAnswer(b) {
			told[1]++
		} else {
			told[0]++
		}
	}
	if told[0] < 1000 || told[1] < 1000 {
		t.Errorf("the test's own bytes, by whether they are an answer: %v", told)
	}
}

// TestStateOfAnAnswerTooLong: all its bytes are there, and it is refused.
func TestStateOfAnAnswerTooLong(t *testing.T) {
	b := []byte(zeroBytes)
	n := len(b)
	b[n-3] = 0x10
	b = append(b, make([]byte, api.MaxBytes)...)
	if a, why := cmd.DecodeAnswer(b); why != api.OK || len(a.State) != api.MaxBytes {
		t.Errorf("P8.3: DecodeAnswer of the longest State: %d, %v", len(a.State), why)
	}
	b[n-1] = 1
	wantNoAnswer(t, "a State that is too long", append(b, 0))
}

func wantSame(t *testing.T, what string, a, b api.Answer, want bool) {
	t.Helper()
	if x, y := cmd.SameAnswer(a, b), cmd.SameAnswer(b, a); x != want || y != want {
		t.Errorf("P8.3: SameAnswer, %s: %v, %v, want %v", what, x, y, want)
	}
	if !cmd.SameAnswer(a, a) || !cmd.SameAnswer(b, b) {
		t.Errorf("P8.3: SameAnswer, %s: one is not the same as itself", what)
	}
}

func TestSameAnswer(t *testing.T) {
	wantSame(t, "both alike", full(), full(), true)
	wantSame(t, "both zero", api.Answer{}, api.Answer{Rows: []api.Named{}, State: []byte{}}, true)
	upTo255, upToGen := numbers()
	for _, x := range append(upTo255, upToGen...) {
		for _, n := range []int{-1, 0, 99, 256 + 3, 1<<32 + 4} {
			a := full()
			x.do(&a, n)
			wantSame(t, x.what, a, full(), false)
		}
	}
	for i, turned := range []func(a *api.Answer){
		func(a *api.Answer) { a.Span.Lo = "" }, func(a *api.Answer) { a.Span.Hi = "" }, func(a *api.Answer) { a.Span = of("b", "a") },
		func(a *api.Answer) { a.At = "" }, func(a *api.Answer) { a.At = "d" }, func(a *api.Answer) { a.At = "c\x00" },
		func(a *api.Answer) { a.State = nil }, func(a *api.Answer) { a.State = []byte("s") }, func(a *api.Answer) { a.State = []byte("s\x01") },
		func(a *api.Answer) { a.State = []byte("s\x00\x00") },
		func(a *api.Answer) { a.Rows = nil }, func(a *api.Answer) { a.Rows = a.Rows[:1] }, func(a *api.Answer) { a.Rows = append(a.Rows, named("b")) },
		func(a *api.Answer) { a.Rows[0], a.Rows[1] = a.Rows[1], a.Rows[0] },
		func(a *api.Answer) { a.Rows[1].Name = "c" }, func(a *api.Answer) { a.Rows[0].Name = "" }, func(a *api.Answer) { a.Rows[0].R = api.Row{} },
		func(a *api.Answer) { a.Rows[0].R.L[0].Name = "a" }, func(a *api.Answer) { a.Rows[0].R.L[1].L = a.Rows[0].R.L[1].L[:1] },
		func(a *api.Answer) { a.Rows[0].R.L[0].L[0].Time++ }, func(a *api.Answer) { a.Rows[0].R.L[0].L[0].V = text("d") },
		func(a *api.Answer) { a.Rows[1].R = plain("").R },
	} {
		a := full()
		turned(&a)
		wantSame(t, fmt.Sprint("case ", i), a, full(), false)
	}
}

// TestSameAnswerOfFloats: -0 and +0 are two, all NaNs are one, what a Kind gives no meaning to is not asked.
func TestSameAnswerOfFloats(t *testing.T) {
	of := func(v api.Value) api.Answer {
		return api.Answer{Rows: []api.Named{named("a", col("c", at(0, v)))}}
	}
	nan := math.Float64frombits(0xfff0000000000001)
	wantSame(t, "0 and -0", of(number(0)), of(number(negZero())), false)
	wantSame(t, "-0 and -0", of(number(negZero())), of(number(negZero())), true)
	wantSame(t, "NaN and NaN", of(number(math.NaN())), of(number(nan)), true)
	wantSame(t, "NaN and 1", of(number(math.NaN())), of(number(1)), false)
	wantSame(t, "the infinities", of(number(math.Inf(1))), of(number(math.Inf(-1))), false)
	wantSame(t, "0 and an empty text", of(number(0)), of(text("")), false)
	wantSame(t, "a Number that has bytes", of(number(1)), of(oddlyValue(number(1))), true)
	wantSame(t, "a Text that has a number", of(text("a")), of(oddlyValue(text("a"))), true)
}
