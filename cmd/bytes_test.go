package cmd_test

import (
	"bytes"
	"fmt"
	"math"
	"math/rand"
	"slices"
	"strings"
	"testing"

	"wardmote/api"
	"wardmote/cmd"
)

// written is a command that may be, with nothing that is not asked, and its bytes by the document's words.
type written struct {
	c    api.Command
	want string
}

// Bytes of numbers, texts and values that stand in many commands.
const (
	num1   = "\x00\x00\x00\x01"
	empty  = "\x00\x00\x00\x00"
	aText  = num1 + "a"
	bText  = num1 + "b"
	cText  = num1 + "c"
	long16 = "\x00\x00\x00\x10" + longest
	one    = "\x02\x3f\xf0\x00\x00\x00\x00\x00\x00"
	noTime = "\x00\x00\x00\x00\x00\x00\x00\x00"
)

func ops() []written {
	want := func(v api.Value) api.Cond { return api.Cond{Has: true, Want: true, Col: "b", V: v} }
	none := api.Cond{Has: true, Col: longest}
	row := api.Change{Kind: api.DropRow}
	return []written{
		{operate(get("a")), "\x01\x01" + aText},
		{operate(get("\x00\xff")), "\x01\x01\x00\x00\x00\x02\x00\xff"},
		{operate(get(longest)), "\x01\x01" + long16},
		{operate(scan("", "", 1)), "\x01\x03" + empty + empty + "\x01"},
		{operate(scan("a", "b", 16)), "\x01\x03" + aText + bText + "\x10"},
		{operate(scan(longest, "", 15)), "\x01\x03" + long16 + empty + "\x0f"},
		{operate(mutate("a", api.Cond{}, row)), "\x01\x02" + aText + "\x00\x01\x04"},
		{operate(mutate("a", api.Cond{}, slices.Repeat([]api.Change{row}, 8)...)), "\x01\x02" + aText + "\x00\x08\x04\x04\x04\x04\x04\x04\x04\x04"},
		{operate(mutate(longest, none, row)), "\x01\x02" + long16 + "\x01" + long16 + "\x01\x04"},
		{operate(mutate("a", want(number(1)), row)), "\x01\x02" + aText + "\x02" + bText + one + "\x01\x04"},
		{operate(mutate("a", want(text("")), row)), "\x01\x02" + aText + "\x02" + bText + "\x01" + empty + "\x01\x04"},
		{operate(mutate("a", want(text(longest)), row)), "\x01\x02" + aText + "\x02" + bText + "\x01" + long16 + "\x01\x04"},
		{operate(mutate("a", want(number(negZero())), row)), "\x01\x02" + aText + "\x02" + bText + "\x02\x80\x00\x00\x00\x00\x00\x00\x00\x01\x04"},
		{operate(mutate("a", api.Cond{},
			put("c", 258, text("b")), api.Change{Kind: api.Drop, Col: "c", Time: api.MaxTime}, api.Change{Kind: api.DropCol, Col: "c"}, row,
			api.Change{Kind: api.Add, Col: "c", V: number(1)},
		)), "\x01\x02" + aText + "\x00\x05" +
			"\x01" + cText + "\x00\x00\x00\x00\x00\x00\x01\x02\x01" + bText +
			"\x02" + cText + "\x00\x00\x01\x00\x00\x00\x00\x00" + "\x03" + cText + "\x04" + "\x05" + cText + noTime + one},
		{operate(mutate("a", api.Cond{}, put("c", 0, number(math.NaN())))), "\x01\x02" + aText + "\x00\x01\x01" + cText + noTime + "\x02\x7f\xf8\x00\x00\x00\x00\x00\x01"},
		{operate(mutate("a", api.Cond{}, put("c", 0, number(math.Inf(-1))))), "\x01\x02" + aText + "\x00\x01\x01" + cText + noTime + "\x02\xff\xf0\x00\x00\x00\x00\x00\x00"},
	}
}

func others() []written {
	state := api.Command{Kind: api.Install, Span: of("a", ""), Gen: 258, State: []byte("s\x00")}
	return []written{
		{api.Command{Kind: api.Nothing}, "\x0a"},
		{onTablet(api.Freeze, of("", ""), 1), "\x02" + empty + empty + num1},
		{onTablet(api.Freeze, of("a", longest), maxGen), "\x02" + aText + long16 + "\x40\x00\x00\x00"},
		{onTablet(api.Retire, of("a", "b"), 0x01020304), "\x04" + aText + bText + "\x01\x02\x03\x04"},
		{install(of("", "b"), 1, 0), "\x03" + empty + bText + num1 + empty},
		{state, "\x03" + aText + empty + "\x00\x00\x01\x02\x00\x00\x00\x02s\x00"},
		{parted(api.Split, of("", ""), 1, "a"), "\x05" + empty + empty + num1 + aText},
		{parted(api.Split, of("a", "c"), maxGen, "b"), "\x05" + aText + cText + "\x40\x00\x00\x00" + bText},
		{parted(api.Merge, of("a", ""), 2, longest), "\x06" + aText + empty + "\x00\x00\x00\x02" + long16},
		{parted(api.Merge, of("", "b"), 1, "a"), "\x06" + empty + bText + num1 + aText},
		{locate(""), "\x07" + empty},
		{locate("a"), "\x07" + aText},
		{locate(longest), "\x07" + long16},
		{plan(0, "", 0), "\x08\x00"},
		{plan(api.DoMove, "", 255), "\x08\x01" + empty + "\xff"},
		{plan(api.DoSplit, "a", 0), "\x08\x02" + aText + "\x00"},
		{plan(api.DoMerge, longest, 7), "\x08\x03" + long16 + "\x07"},
		{publish(1, 0), "\x09" + num1 + "\x00"},
		{publish(maxGen, -1), "\x09\x40\x00\x00\x00\x01"},
	}
}

func all() []written { return append(ops(), others()...) }

func TestEncode(t *testing.T) {
	for _, x := range all() {
		for _, c := range []api.Command{x.c, oddly(x.c)} {
			if b, why := cmd.Encode(c); string(b) != x.want || why != api.OK {
				t.Errorf("P8.2: Encode of %s: % x, %v, want % x", show(c), b, why, x.want)
			}
		}
	}
}

// TestEncodeOfEachNaN: they are one.
func TestEncodeOfEachNaN(t *testing.T) {
	for _, bits := range []uint64{0x7ff8000000000000, 0x7ff0000000000001, 0xffffffffffffffff} {
		x := math.Float64frombits(bits)
		b, _ := cmd.Encode(operate(mutate("a", api.Cond{}, put("c", 0, number(x)))))
		if !strings.HasSuffix(string(b), "\x7f\xf8\x00\x00\x00\x00\x00\x01") {
			t.Errorf("P8.2: Encode of a NaN of the bits %x: % x", bits, b)
		}
		c, why := cmd.Decode(b)
		if why != api.OK || math.Float64bits(c.Op.L[0].V.N) != 0x7ff8000000000001 {
			t.Errorf("P8.5: of a NaN of the bits %x: %s, %v", bits, show(c), why)
		}
	}
}

func TestEncodeOfWrongOnes(t *testing.T) {
	for i, c := range []api.Command{
		{}, odd(), {Kind: 11}, {Kind: -1}, {Kind: 256 + api.Nothing}, operate(api.Op{}), operate(get("")), operate(scan("b", "a", 1)),
		operate(mutate("a", api.Cond{})), operate(mutate("a", api.Cond{}, changes(9)...)),
		onTablet(api.Freeze, of("", ""), 0), onTablet(api.Retire, of("b", "a"), 1), install(of("", ""), 1, api.MaxBytes+1),
		parted(api.Split, of("", ""), 1, ""), parted(api.Merge, of("", ""), maxGen+1, "a"),
		locate(tooLong), plan(4, "", 0), plan(1, "", 256), publish(0, 0), publish(1, 1),
	} {
		if b, why := cmd.Encode(c); why != api.ErrArg || len(b) > 0 {
			t.Errorf("P8.2: Encode, wrong case %d: % .60x, %v", i, b, why)
		}
	}
}

func TestDecode(t *testing.T) {
	for _, x := range all() {
		if c, why := cmd.Decode([]byte(x.want)); show(c) != show(x.c) || why != api.OK {
			t.Errorf("P8.2: Decode of % x: %s, %v, want %s", x.want, show(c), why, show(x.c))
		}
		b, _ := cmd.Encode(oddly(x.c))
		if c, why := cmd.Decode(b); show(c) != show(x.c) || why != api.OK {
			t.Errorf("P8.5: Decode of Encode, with more than is asked: %s, %v, want %s", show(c), why, show(x.c))
		}
		if !isCommand([]byte(x.want)) {
			t.Errorf("the test's own bytes: % x", x.want)
		}
	}
}

// TestTheLongestState: all of it comes back, and one byte more is refused, though it is there.
func TestTheLongestState(t *testing.T) {
	c := install(of("", ""), 1, api.MaxBytes)
	for i := range c.State {
		c.State[i] = byte(i % 251)
	}
	b, why := cmd.Encode(c)
	if len(b) != 1+8+4+4+api.MaxBytes || why != api.OK {
		t.Fatalf("P8.2: Encode of the longest State: %d bytes, %v", len(b), why)
	}
	got, why := cmd.Decode(b)
	if why != api.OK || !bytes.Equal(got.State, c.State) || got.Gen != 1 {
		t.Errorf("P8.5: the longest State: %d bytes, %v", len(got.State), why)
	}
	longer := append(slices.Clone(b), 0)
	wantForm(t, "the longest State and more", longer)
	longer[16]++
	wantForm(t, "a State that is too long", longer)
	wantForm(t, "the longest State, cut off", b[:len(b)-1])
}

// wantForm: b is of no command.
func wantForm(t *testing.T, what string, b []byte) {
	t.Helper()
	if c, why := cmd.Decode(b); why != api.ErrForm || show(c) != show(api.Command{}) {
		t.Errorf("P8.2: Decode of % .60x, %s: %s, %v", b, what, show(c), why)
	}
}

func TestCutOff(t *testing.T) {
	for _, x := range all() {
		b := []byte(x.want)
		for n := range b {
			// The bytes behind the cut stand in the spare room: they must not be read.
			wantForm(t, "cut off", b[:n])
		}
		for _, more := range []string{"\x00", "\x01", "\x0a", empty, x.want} {
			wantForm(t, "and more", []byte(x.want+more))
		}
	}
	wantForm(t, "nothing", nil)
	wantForm(t, "nothing", []byte{})
}

func TestKindsThatAreNone(t *testing.T) {
	for kind := range 256 {
		if kind < 1 || kind > 10 {
			wantForm(t, "a Kind that is none", []byte{byte(kind)})
			wantForm(t, "a Kind that is none", append([]byte{byte(kind)}, aText...))
		}
		if kind < 1 || kind > 3 {
			wantForm(t, "a Kind of operation that is none", []byte("\x01"+string([]byte{byte(kind)})+aText))
			wantForm(t, "a Kind of operation that is none", []byte("\x01"+string([]byte{byte(kind)})+aText+bText+"\x01"))
		}
	}
}

func TestNumbersThatMayNotBe(t *testing.T) {
	for n := range 256 {
		one := string([]byte{byte(n)})
		wantTaken(t, "so many changes", []byte("\x01\x02"+aText+"\x00"+one+strings.Repeat("\x04", n)))
		wantTaken(t, "that Most", []byte("\x01\x03"+aText+bText+one))
		wantTaken(t, "that Cond", []byte("\x01\x02"+aText+one+bText+"\x01\x04"))
		wantTaken(t, "that Do", []byte("\x08"+one+aText+"\x01"))
		wantTaken(t, "that Do alone", []byte("\x08"+one))
		wantTaken(t, "that To", []byte("\x08\x01"+aText+one))
		wantTaken(t, "that end of a plan", []byte("\x09"+num1+one))
	}
	for _, gen := range []string{empty, num1, "\x3f\xff\xff\xff", "\x40\x00\x00\x00", "\x40\x00\x00\x01", "\x7f\xff\xff\xff", "\x80\x00\x00\x00", "\x80\x00\x00\x01", "\xff\xff\xff\xff"} {
		wantTaken(t, "that Gen", []byte("\x02"+aText+bText+gen))
		wantTaken(t, "that Gen", []byte("\x03"+aText+bText+gen+bText))
		wantTaken(t, "that Gen", []byte("\x04"+aText+bText+gen))
		wantTaken(t, "that Gen", []byte("\x05"+aText+cText+gen+bText))
		wantTaken(t, "that Gen", []byte("\x06"+aText+cText+gen+bText))
		wantTaken(t, "that Gen", []byte("\x09"+gen+"\x00"))
	}
}

func TestTextsThatMayNotBe(t *testing.T) {
	for n := range 20 {
		x := fmt.Sprintf("\x00\x00\x00%c%s", n, strings.Repeat("m", n))
		for _, b := range []string{
			"\x01\x01" + x, "\x01\x02" + x + "\x00\x01\x04", "\x01\x03" + x + empty + "\x01", "\x01\x03" + empty + x + "\x01", "\x01\x03" + x + x + "\x01",
			"\x01\x02" + aText + "\x01" + x + "\x01\x04", "\x01\x02" + aText + "\x00\x01\x03" + x,
			"\x02" + x + empty + num1, "\x04" + aText + x + num1, "\x03" + x + x + num1 + x,
			"\x05" + empty + empty + num1 + x, "\x06" + aText + bText + num1 + x, "\x05" + x + empty + num1 + "\x00\x00\x00\x01m", "\x06" + empty + x + num1 + "\x00\x00\x00\x02mm",
			"\x07" + x, "\x08\x01" + x + "\x00",
		} {
			wantTaken(t, "a text of some bytes", []byte(b))
		}
	}
}

// wantTaken holds what Decode tells of b against isCommand.
func wantTaken(t *testing.T, what string, b []byte) {
	t.Helper()
	if !isCommand(b) {
		wantForm(t, what, b)
		return
	}
	c, why := cmd.Decode(b)
	again, no := cmd.Encode(c)
	if why != api.OK || no != api.OK || !bytes.Equal(again, b) || !cmd.Right(c) {
		t.Errorf("P8.2: Decode of % .60x, %s: %s, %v; again: % .60x, %v", b, what, show(c), why, again, no)
	}
}

func TestTurned(t *testing.T) {
	for _, x := range all() {
		b := []byte(x.want)
		for i := range b {
			for range 256 {
				b[i]++
				wantTaken(t, "one byte turned", b)
			}
		}
	}
}

// spoil turns some bytes, puts some in, takes some out.
func spoil(rnd *rand.Rand, b []byte) []byte {
	b = slices.Clone(b)
	for range 1 + rnd.Intn(3) {
		i := rnd.Intn(len(b))
		switch rnd.Intn(4) {
		case 0:
			b[i] = byte(rnd.Intn(18))
		case 1:
			b[i] = byte(rnd.Intn(256))
		case 2:
			b = slices.Insert(b, i, byte(rnd.Intn(12)))
		case 3:
			b = append(slices.Delete(b, i, i+1), byte(rnd.Intn(3)))
		}
	}
	return b
}

func TestAnyBytes(t *testing.T) {
	rnd := rand.New(rand.NewSource(8))
	list := all()
	told := [2]int{}
	for range 40000 {
		b := spoil(rnd, []byte(list[rnd.Intn(len(list))].want))
		wantTaken(t, "any bytes", b)
		if isCommand(b) {
			told[1]++
		} else {
			told[0]++
		}
	}
	if told[0] < 1000 || told[1] < 1000 {
		t.Errorf("the test's own bytes, by whether they are a command: %v", told)
	}
}

// TestWhatIsAsked: two commands have the same bytes where they ask the same, and there alone.
func TestWhatIsAsked(t *testing.T) {
	list := all()
	for i, x := range list {
		for k, y := range list {
			if i != k && x.want == y.want {
				t.Errorf("P8.5: %s and %s have the same bytes", show(x.c), show(y.c))
			}
		}
	}
}
