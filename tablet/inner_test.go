package tablet

import (
	"testing"

	"wardmote/api"
	"wardmote/once"
	"wardmote/rows"
)

// These ask for what the chapter's words say of stores that no commands make: tablets that Meet, and Gens above Last.

func inner(lo, hi string, gen int, frozen bool) *tablet {
	return &tablet{api.Span{Lo: lo, Hi: hi}, gen, frozen, rows.New(), once.New()}
}

func get(name string) api.Command {
	return api.Command{Kind: api.Operate, Op: api.Op{Kind: api.Get, Row: name}}
}

// TestLiveAheadOfFrozen: whichever stands first.
func TestLiveAheadOfFrozen(t *testing.T) {
	for i, l := range [][]*tablet{
		{inner("", "", 2, true), inner("c", "f", 1, false)},
		{inner("", "f", 1, false), inner("c", "", 2, true)},
		{inner("", "", 1, true), inner("c", "f", 2, true), inner("d", "e", 3, false)},
	} {
		s := &Store{l: l, last: 3}
		if got := s.Do(1, 1, get("d")).Code; got != api.OK {
			t.Errorf("P10.1: a row of a live and of a frozen tablet, case %d: %v", i, got)
		}
		if got := s.Do(1, 2, get("z")).Code; got == api.OK {
			t.Errorf("P10.1: a row of no live tablet, case %d: %v", i, got)
		}
	}
}

// TestInstallOfAFrozenOnesGen: a frozen tablet that Meets it must have a Gen below Gen.
func TestInstallOfAFrozenOnesGen(t *testing.T) {
	for gen, want := range map[int]api.Errno{8: api.OK, 9: api.ErrBusy, 10: api.ErrBusy, maxGen: api.ErrBusy} {
		s := &Store{l: []*tablet{inner("c", "f", gen, true), inner("x", "", maxGen, true)}, last: 1}
		c := api.Command{Kind: api.Install, Span: api.Span{Lo: "d", Hi: "g"}, Gen: 9, State: inner("d", "g", 1, true).state()}
		if got := s.Do(1, 1, c).Code; got != want {
			t.Errorf("P10.1: Install, with Gen 9, of what Meets a frozen one of Gen %d: %v", gen, got)
		}
		if n := len(s.Frozen()); (n == 1) != (want == api.OK) {
			t.Errorf("P10.1: Install, with Gen 9, of what Meets a frozen one of Gen %d: %d are frozen", gen, n)
		}
	}
}
