package cmd_test

import (
	"fmt"
	"math"
	"slices"
	"strings"
	"testing"

	"wardmote/api"
	"wardmote/cmd"
)

const (
	longest = "sixteen.bytes.ok"
	tooLong = "seventeen.bytes.l"
	maxGen  = 1 << 30
)

func of(lo, hi string) api.Span { return api.Span{Lo: lo, Hi: hi} }

func text(s string) api.Value { return api.Value{Kind: api.Text, B: []byte(s)} }

func number(x float64) api.Value { return api.Value{Kind: api.Number, N: x} }

func negZero() float64 { return math.Copysign(0, -1) }

func put(col string, t int64, v api.Value) api.Change {
	return api.Change{Kind: api.Put, Col: col, Time: t, V: v}
}

func get(name string) api.Op { return api.Op{Kind: api.Get, Row: name} }

func mutate(name string, c api.Cond, l ...api.Change) api.Op {
	return api.Op{Kind: api.Mutate, Row: name, Cond: c, L: l}
}

func scan(lo, hi string, most int) api.Op {
	return api.Op{Kind: api.Scan, Row: lo, Hi: hi, Most: most}
}

func operate(o api.Op) api.Command { return api.Command{Kind: api.Operate, Op: o} }

// onTablet is a command that asks for a Span and a Gen, and maybe more.
func onTablet(kind int, s api.Span, gen int) api.Command {
	return api.Command{Kind: kind, Span: s, Gen: gen}
}

func install(s api.Span, gen, size int) api.Command {
	return api.Command{Kind: api.Install, Span: s, Gen: gen, State: make([]byte, size)}
}

func parted(kind int, s api.Span, gen int, at string) api.Command {
	return api.Command{Kind: kind, Span: s, Gen: gen, At: at}
}

func locate(at string) api.Command { return api.Command{Kind: api.Locate, At: at} }

func plan(do int, at string, to int) api.Command {
	return api.Command{Kind: api.Plan, Do: do, At: at, To: to}
}

func publish(gen, to int) api.Command {
	return api.Command{Kind: api.Publish, Gen: gen, To: to}
}

// changes are n that may be.
func changes(n int) []api.Change {
	return slices.Repeat([]api.Change{put("c", 1, number(1))}, n)
}

// wrongChanges may not be, each for another reason.
func wrongChanges() []api.Change {
	return []api.Change{
		{}, {Kind: -1}, {Kind: 6, Col: "c", V: number(1)}, {Kind: 257, Col: "c", V: number(1)},
		put("", 1, number(1)), put(tooLong, 1, number(1)),
		put("c", -1, number(1)), put("c", api.MaxTime+1, number(1)),
		put("c", 1, api.Value{}), put("c", 1, text(tooLong)),
		{Kind: api.Drop, Time: 1}, {Kind: api.Drop, Col: "c", Time: -1}, {Kind: api.DropCol},
		{Kind: api.Add, Col: "c", V: text("a")}, {Kind: api.Add, Col: "", V: number(1)},
	}
}

// wrongValues are no values.
func wrongValues() []api.Value {
	return []api.Value{{}, {Kind: 3, B: []byte("a"), N: 1}, {Kind: -1}, text(tooLong)}
}

// tooMuch is made once: no call changes what it is handed.
var tooMuch = make([]byte, api.MaxBytes+1)

// odd has in each field what no Kind could ask for.
func odd() api.Command {
	return api.Command{
		Op: api.Op{
			Row: tooLong, Hi: tooLong, Most: -7, L: make([]api.Change, 300),
			Cond: api.Cond{Has: true, Want: true, Col: tooLong, V: text(tooLong)},
		},
		Span: of("b", tooLong), Gen: -3, At: tooLong, To: -9, Do: 400, State: tooMuch,
	}
}

// oddly is c with odd in all that its Kind does not ask for, told by the document's words.
func oddly(c api.Command) api.Command {
	o := odd()
	o.Kind = c.Kind
	switch c.Kind {
	case api.Operate:
		o.Op = oddlyOp(c.Op)
	case api.Freeze, api.Retire:
		o.Span, o.Gen = c.Span, c.Gen
	case api.Install:
		o.Span, o.Gen, o.State = c.Span, c.Gen, c.State
	case api.Split, api.Merge:
		o.Span, o.Gen, o.At = c.Span, c.Gen, c.At
	case api.Locate:
		o.At = c.At
	case api.Plan:
		if o.Do = c.Do; c.Do != 0 {
			o.At, o.To = c.At, c.To
		}
	case api.Publish:
		o.Gen, o.To = c.Gen, c.To
	}
	return o
}

func oddlyOp(o api.Op) api.Op {
	x := odd().Op
	x.Kind, x.Row = o.Kind, o.Row
	switch o.Kind {
	case api.Mutate:
		x.Cond, x.L = oddlyCond(o.Cond), nil
		for _, c := range o.L {
			x.L = append(x.L, oddlyChange(c))
		}
	case api.Scan:
		x.Hi, x.Most = o.Hi, o.Most
	}
	return x
}

func oddlyCond(c api.Cond) api.Cond {
	x := odd().Op.Cond
	x.Has = c.Has
	if c.Has {
		x.Want, x.Col = c.Want, c.Col
	}
	if c.Has && c.Want {
		x.V = oddlyValue(c.V)
	}
	return x
}

func oddlyChange(c api.Change) api.Change {
	x := api.Change{Kind: c.Kind, Col: tooLong, Time: -5, V: text(tooLong)}
	switch c.Kind {
	case api.Put, api.Add:
		x.Col, x.Time, x.V = c.Col, c.Time, oddlyValue(c.V)
	case api.Drop:
		x.Col, x.Time = c.Col, c.Time
	case api.DropCol:
		x.Col = c.Col
	}
	return x
}

func oddlyValue(v api.Value) api.Value {
	if v.Kind == api.Number {
		v.B = []byte(tooLong)
	} else {
		v.N = math.NaN()
	}
	return v
}

// show tells all of c, nil and empty lists alike.
func show(c api.Command) string {
	o := c.Op
	s := fmt.Sprintf("Kind %d, Op %d %q %q %d", c.Kind, o.Kind, o.Row, o.Hi, o.Most)
	s += fmt.Sprintf(", Cond %v %v %q %s", o.Cond.Has, o.Cond.Want, o.Cond.Col, showValue(o.Cond.V))
	for _, x := range o.L {
		s += fmt.Sprintf(", Change %d %q %d %s", x.Kind, x.Col, x.Time, showValue(x.V))
	}
	return s + fmt.Sprintf(", Span %q, Gen %d, At %q, To %d, Do %d, State %x", c.Span, c.Gen, c.At, c.To, c.Do, c.State)
}

func showValue(v api.Value) string {
	return fmt.Sprintf("(%d %q %x)", v.Kind, v.B, math.Float64bits(v.N))
}

func wantOp(t *testing.T, what string, o api.Op, want bool) {
	t.Helper()
	if got := cmd.RightOp(o); got != want {
		t.Errorf("P8.1: RightOp, %s: %v, want %v", what, got, want)
	}
	if got := cmd.RightOp(oddlyOp(o)); want && !got {
		t.Errorf("P8.1: RightOp, %s, with more than is asked: false", what)
	}
	wantRight(t, "an operation: "+what, operate(o), want)
}

// wantRight asks Right and Encode, of c and of c with more than is asked.
func wantRight(t *testing.T, what string, c api.Command, want bool) {
	t.Helper()
	if got := cmd.Right(c); got != want {
		t.Errorf("P8.1: Right, %s: %v, want %v", what, got, want)
	}
	b, why := cmd.Encode(c)
	if !want && (why != api.ErrArg || len(b) > 0) {
		t.Errorf("P8.2: Encode, %s: % .60x, %v", what, b, why)
	}
	if want && (why != api.OK || len(b) == 0) {
		t.Errorf("P8.2: Encode, %s: % .60x, %v", what, b, why)
	}
	if want && !cmd.Right(oddly(c)) {
		t.Errorf("P8.1: Right, %s, with more than is asked: false", what)
	}
}

func TestKindsOfOps(t *testing.T) {
	whole := api.Op{Row: "a", Hi: "b", L: changes(1), Most: 1}
	for kind := -3; kind < 600; kind++ {
		whole.Kind = kind
		wantOp(t, fmt.Sprint("Kind ", kind), whole, kind == api.Get || kind == api.Mutate || kind == api.Scan)
	}
	for _, kind := range []int{math.MinInt, math.MaxInt, 1<<32 + 1, -255} {
		whole.Kind = kind
		wantOp(t, fmt.Sprint("Kind ", kind), whole, false)
	}
}

func TestRowsOfOps(t *testing.T) {
	for _, c := range []struct {
		name       string
		named, may bool
	}{
		{"", false, true}, {"a", true, true}, {"\x00", true, true}, {"\xff\xfe", true, true},
		{longest, true, true}, {tooLong, false, false}, {strings.Repeat("x", 300), false, false},
	} {
		wantOp(t, fmt.Sprintf("Get of %q", c.name), get(c.name), c.named)
		wantOp(t, fmt.Sprintf("Mutate of %q", c.name), mutate(c.name, api.Cond{}, changes(1)...), c.named)
		wantOp(t, fmt.Sprintf("Scan from %q", c.name), scan(c.name, "", 1), c.may)
	}
}

func TestConds(t *testing.T) {
	is := func(want bool, c api.Cond) {
		t.Helper()
		wantOp(t, fmt.Sprintf("Mutate with %+v", c), mutate("a", c, changes(1)...), want)
	}
	is(true, api.Cond{})
	for _, v := range append(wrongValues(), text(longest), number(math.NaN())) {
		for _, col := range []string{"", "c", longest, tooLong} {
			named := col == "c" || col == longest
			is(true, api.Cond{Col: col, V: v})
			is(true, api.Cond{Want: true, Col: col, V: v})
			is(named, api.Cond{Has: true, Col: col, V: v})
			may := v.Kind == api.Number || v.Kind == api.Text && len(v.B) <= 16
			is(named && may, api.Cond{Has: true, Want: true, Col: col, V: v})
		}
	}
	is(true, api.Cond{Has: true, Want: true, Col: "c", V: text("")})
	is(true, api.Cond{Has: true, Want: true, Col: "c", V: number(negZero())})
}

func TestNumbersOfChanges(t *testing.T) {
	for n := range 600 {
		wantOp(t, fmt.Sprint(n, " changes"), mutate("a", api.Cond{}, changes(n)...), n >= 1 && n <= 8)
	}
	for i, c := range wrongChanges() {
		for at := range api.MaxChanges {
			l := changes(api.MaxChanges)
			l[at] = c
			wantOp(t, fmt.Sprint("the wrong change ", i, " at ", at), mutate("a", api.Cond{}, l...), false)
		}
		wantOp(t, fmt.Sprint("the wrong change ", i, " alone"), mutate("a", api.Cond{}, c), false)
	}
	for _, c := range []api.Change{
		{Kind: api.DropRow}, {Kind: api.DropCol, Col: longest}, {Kind: api.Drop, Col: "c"}, {Kind: api.Drop, Col: "c", Time: api.MaxTime},
		put("c", 0, text("")), put("c", api.MaxTime, text(longest)), {Kind: api.Add, Col: "c", V: number(math.Inf(-1))},
	} {
		wantOp(t, fmt.Sprintf("one change: %+v", c), mutate("a", api.Cond{}, c), true)
	}
}

func TestScans(t *testing.T) {
	for _, c := range []struct {
		lo, hi string
		want   bool
	}{
		{"", "", true}, {"", "a", true}, {"", longest, true}, {"", tooLong, false}, {"a", "", true}, {"a", "b", true},
		{"a", "a", false}, {"b", "a", false}, {"a", "a\x00", true}, {longest, "t", true}, {tooLong, "t", false}, {longest, longest, false},
	} {
		wantOp(t, fmt.Sprintf("Scan from %q to %q", c.lo, c.hi), scan(c.lo, c.hi, 1), c.want)
	}
	for most := -3; most < 600; most++ {
		wantOp(t, fmt.Sprint("Scan with Most ", most), scan("a", "b", most), most >= 1 && most <= 16)
	}
	wantOp(t, "Scan with Most 2^32 and one", scan("a", "b", 1<<32+1), false)
}

func TestKindsOfCommands(t *testing.T) {
	whole := api.Command{Op: get("a"), Span: of("a", "c"), Gen: 1, At: "b", Do: api.DoMove}
	for kind := -3; kind < 600; kind++ {
		whole.Kind = kind
		wantRight(t, fmt.Sprint("Kind ", kind), whole, kind >= 1 && kind <= 10)
	}
	for _, kind := range []int{math.MinInt, math.MaxInt, 1<<32 + 1, -246} {
		whole.Kind = kind
		wantRight(t, fmt.Sprint("Kind ", kind), whole, false)
	}
	wantRight(t, "the zero command", api.Command{}, false)
	wantRight(t, "Nothing", api.Command{Kind: api.Nothing}, true)
	wantRight(t, "Operate with nothing", operate(api.Op{}), false)
}

// gens are numbers at the bounds, and whether a Gen may be that.
func gens() map[int]bool {
	return map[int]bool{math.MinInt: false, -1: false, 0: false, 1: true, 2: true, maxGen - 1: true, maxGen: true, maxGen + 1: false, 1<<32 + 1: false, math.MaxInt: false}
}

func TestTablets(t *testing.T) {
	spans := map[api.Span]bool{
		of("", ""): true, of("", longest): true, of("a", "z"): true, of("a", ""): true,
		of("z", "a"): false, of("a", "a"): false, of("a", tooLong): false, of(tooLong, "z"): false,
	}
	for s, ok := range spans {
		for gen, may := range gens() {
			what := fmt.Sprintf("Kinds with %q and %d", s, gen)
			wantRight(t, what, onTablet(api.Freeze, s, gen), ok && may)
			wantRight(t, what, onTablet(api.Retire, s, gen), ok && may)
			wantRight(t, what, install(s, gen, 3), ok && may)
			wantRight(t, what, parted(api.Split, s, gen, "m"), ok && may)
			wantRight(t, what, parted(api.Merge, s, gen, "m"), ok && may)
		}
	}
}

func TestStates(t *testing.T) {
	for size, want := range map[int]bool{0: true, 1: true, api.MaxBytes - 1: true, api.MaxBytes: true, api.MaxBytes + 1: false, 2 * api.MaxBytes: false} {
		wantRight(t, fmt.Sprint("a State of ", size), install(of("", ""), 1, size), want)
	}
	wantRight(t, "no State", onTablet(api.Install, of("", ""), 1), true)
}

func TestParts(t *testing.T) {
	for _, c := range []struct {
		s    api.Span
		at   string
		want bool
	}{
		{of("", ""), "", false}, {of("", ""), "\x00", true}, {of("", ""), longest, true}, {of("", ""), tooLong, false},
		{of("b", "d"), "", false}, {of("b", "d"), "a", false}, {of("b", "d"), "b", false}, {of("b", "d"), "b\x00", true}, {of("b", "d"), "c", true},
		{of("b", "d"), "d", false}, {of("b", "d"), "e", false}, {of("b", ""), "b", false}, {of("b", ""), "\xff", true},
		{of("b", "d"), "c0123456789abcdef", false}, {of("b", "d"), "c0123456789abcde", true},
	} {
		what := fmt.Sprintf("%q at %q", c.s, c.at)
		wantRight(t, "Split of "+what, parted(api.Split, c.s, 1, c.at), c.want)
		wantRight(t, "Merge of "+what, parted(api.Merge, c.s, 1, c.at), c.want)
	}
}

// places are texts at the bounds, and whether they may be looked for.
func places() map[string]bool {
	return map[string]bool{"": true, "a": true, "\x00": true, longest: true, tooLong: false, strings.Repeat("x", 300): false}
}

func TestLocates(t *testing.T) {
	for at, want := range places() {
		wantRight(t, fmt.Sprintf("Locate of %q", at), locate(at), want)
	}
}

func TestPlans(t *testing.T) {
	for at, may := range places() {
		for _, to := range []int{math.MinInt, -256, -1, 0, 1, 254, 255, 256, 512, 1 << 32, math.MaxInt} {
			wantRight(t, fmt.Sprintf("Plan 0 of %q to %d", at, to), plan(0, at, to), true)
			for do := api.DoMove; do <= api.DoMerge; do++ {
				wantRight(t, fmt.Sprintf("Plan %d of %q to %d", do, at, to), plan(do, at, to), may && to >= 0 && to <= 255)
			}
		}
	}
	for _, do := range []int{math.MinInt, -256, -1, 4, 5, 255, 256, 257, 1 << 32, math.MaxInt} {
		wantRight(t, fmt.Sprint("Plan ", do), plan(do, "a", 1), false)
	}
}

func TestPublishes(t *testing.T) {
	for gen, may := range gens() {
		for _, to := range []int{math.MinInt, -257, -256, -2, -1, 0, 1, 2, 255, 256, math.MaxInt} {
			wantRight(t, fmt.Sprintf("Publish %d to %d", gen, to), publish(gen, to), may && (to == 0 || to == -1))
		}
	}
}
