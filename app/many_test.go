package app_test

import (
	"bytes"
	"fmt"
	"math/rand"
	"testing"

	"wardmote/api"
	"wardmote/app"
	"wardmote/cmd"
)

// someCommand is one that a group may be asked, with names and Gens that are often there; states are some that Freeze told.
func someCommand(rnd *rand.Rand, a *app.App, states []api.Answer) api.Command {
	at := []string{"", "b", "d", "f", "h", "m", "n", "p", "q", "s", "u", "y"}[rnd.Intn(12)]
	s := []api.Span{of("", ""), of("", "m"), of("m", ""), of("b", "p")}[rnd.Intn(4)]
	gen := 1 + rnd.Intn(30)
	if l := append(a.Live(), a.Frozen()...); len(l) > 0 && rnd.Intn(4) > 0 {
		x := l[rnd.Intn(len(l))]
		s, gen = x.Span, x.Gen
	}
	if p, ok := a.Pending(); ok {
		gen = p.Gen
	}
	switch rnd.Intn(14) {
	case 0:
		return get("n" + at)
	case 1:
		return scan(at, "", 1+rnd.Intn(16))
	case 2:
		return freeze(s, gen)
	case 3:
		return retire(s, gen)
	case 4:
		x := states[rnd.Intn(len(states))]
		return install(x.Span, gen+rnd.Intn(9), x.State)
	case 5, 6:
		if s.Lo < "m" && (s.Hi == "" || s.Hi > "m") {
			return split(s, gen+rnd.Intn(3), "m")
		}
		return nothing()
	case 7:
		return merge(of("", ""), gen+1, "m")
	case 8:
		return plan(1+rnd.Intn(3), at, rnd.Intn(4))
	case 9:
		return plan(api.DoSplit, at, 0)
	case 10:
		return publish(gen, -rnd.Intn(2))
	case 11:
		return locate(at)
	}
	return put("n"+at, "c", float64(rnd.Intn(5)))
}

// statesFor are States of a few tablets, each with its span.
func statesFor(t *testing.T) []api.Answer {
	t.Helper()
	a := made(t, 1, 1)
	asked(t, a, 8, 1, put("b", "c", 1))
	asked(t, a, 8, 2, put("n", "c", 2))
	asked(t, a, 8, 3, split(of("", ""), 2, "m"))
	low, high := asked(t, a, 8, 4, freeze(of("", "m"), 2)), asked(t, a, 8, 5, freeze(of("m", ""), 2))
	low.Span, high.Span = of("", "m"), of("m", "")
	all := asked(t, made(t, 1, 1), 8, 1, freeze(of("", ""), 1))
	return []api.Answer{low, high, all}
}

// TestOneValue: two that do the same requests are told the same, and save the same, also where one is loaded on the way. (W2)
func TestOneValue(t *testing.T) {
	states := statesFor(t)
	oks := map[int]int{}
	for seed := range int64(40) {
		rnd := rand.New(rand.NewSource(seed))
		groups := 1 + rnd.Intn(maxGroups)
		group := rnd.Intn(groups + 1)
		a, b, x := made(t, group, groups), made(t, group, groups), newTwin(group, groups)
		for i := range 150 {
			c := someCommand(rnd, a, states)
			v, why := cmd.Encode(c)
			if why != api.OK {
				t.Fatalf("Encode(%+v): %v", c, why)
			}
			v = cmd.Wrap(rnd.Intn(4), i/2+rnd.Intn(3), v)
			if rnd.Intn(20) == 0 {
				v[rnd.Intn(len(v))]++
			}
			what := fmt.Sprintf("W2: seed %d, group %d of %d, request %d, %+v", seed, group, groups, i, c)
			got := a.Do(v)
			if !bytes.Equal(got, b.Do(v)) {
				t.Errorf("%s: two tell two answers", what)
			}
			wantAnswer(t, what, answer(t, got), x.told(v))
			wantPicture(t, what, a, x.picture(group))
			wantSaved(t, what, b, a.Save())
			if answer(t, got).Code == api.OK {
				oks[min(group, 1)*100+c.Kind]++
			}
			if rnd.Intn(4) == 0 {
				b = loaded(t, what, group, groups, b.Save())
			}
			if t.Failed() {
				return
			}
		}
	}
	for _, kind := range []int{7, 8, 9, 10, 101, 102, 103, 104, 105, 106, 110} {
		if oks[kind] < 5 {
			t.Errorf("hardly any of these commands are done: %v", oks)
		}
	}
}

// TestEachOnce: a request that is asked again is told the same, and is done once, whoever was loaded between. (W1)
func TestEachOnce(t *testing.T) {
	a := made(t, 1, 1)
	add := api.Command{Kind: api.Operate, Op: api.Op{Kind: api.Mutate, Row: "a", L: []api.Change{{Kind: api.Add, Col: "n", Time: 1, V: api.Value{Kind: api.Number, N: 1}}}}}
	for seq := 1; seq <= 20; seq++ {
		first := a.Do(request(t, 1, seq, add))
		for range 3 {
			if again := a.Do(request(t, 1, seq, add)); !bytes.Equal(first, again) {
				t.Errorf("W1: number %d: told % x, then % x", seq, first, again)
			}
			a = loaded(t, "each once", 1, 1, a.Save())
		}
		if got := a.Rows()[0].R.L[0].L[0].V.N; got != float64(seq) {
			t.Fatalf("W1: number %d: the sum is %v", seq, got)
		}
	}
	m := made(t, 0, 2)
	first := m.Do(request(t, 1, 1, plan(api.DoSplit, "m", 0)))
	m = loaded(t, "each once", 0, 2, m.Save())
	asked(t, m, 2, 1, publish(2, 0))
	if again := m.Do(request(t, 1, 1, plan(api.DoSplit, "z", 0))); !bytes.Equal(first, again) || len(m.All()) != 2 {
		t.Errorf("W1: a plan: told % x, then % x", first, again)
	}
}
