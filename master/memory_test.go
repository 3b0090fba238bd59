package master_test

import (
	"bytes"
	"fmt"
	"slices"
	"testing"

	"wardmote/api"
	"wardmote/cmd"
	"wardmote/master"
)

func fill[T any](l []T, x T) {
	for i := range l {
		l[i] = x
	}
}

// withRoom is l in memory of its own with room behind it, and x in that room.
func withRoom[T any](l []T, x T) []T {
	own := make([]T, len(l), len(l)+3)
	copy(own, l)
	fill(own[len(own):cap(own)], x)
	return own
}

// TestAllIsNewMemory: the list is overwritten, with its room: neither the master nor what it tells next is touched.
func TestAllIsNewMemory(t *testing.T) {
	for what, m := range masters(t) {
		was, shown := m.Save(), picture(m)
		one, two := m.All(), m.All()
		fill(one[:cap(one)], tab("x", "y", 9, 9))
		wantSaved(t, "R2: "+what+": All is overwritten", m, was)
		wantPicture(t, "R2: "+what+": All is overwritten", m, shown)
		if !slices.Equal(two, m.All()) {
			t.Errorf("R2: %s: two lists share memory: %s", what, showAll(two))
		}
	}
}

// TestAllStays: the master goes on, and what it had told is as it was.
func TestAllStays(t *testing.T) {
	m := arranged(t, 2, split("m"))
	l := m.All()
	was := slices.Clone(l[:cap(l)])
	saved := m.Save()
	wasSaved := slices.Clone(saved[:cap(saved)])
	carried(t, m, move("z", 2), split("a"), split("b"), merge("b"), move("", 2))
	if !slices.Equal(l[:cap(l)], was) {
		t.Errorf("R2: All hangs on the master: %s", showAll(l[:cap(l)]))
	}
	if !bytes.Equal(saved[:cap(saved)], wasSaved) {
		t.Error("R2: Save hangs on the master")
	}
}

// TestAnswersBearNoLists: neither rows nor a state; what room they have is written to, and nothing is touched.
func TestAnswersBearNoLists(t *testing.T) {
	for what, m := range masters(t) {
		was := m.Save()
		ask := func() []api.Answer {
			pending, _ := m.Pending()
			return []api.Answer{m.Do(maker, 1, split("q")), m.Do(1, 7, split("q")), m.Do(1, 1, which()), m.Do(1, 1, locate("z")), pending}
		}
		if ask(); !bytes.Equal(m.Save(), was) {
			// Fresh numbers are kept once.
			was = m.Save()
		}
		before := ask()
		for i, a := range ask() {
			if len(a.Rows)+len(a.State) > 0 {
				t.Errorf("R3: %s: answer %d bears lists: %s", what, i, show(a))
			}
			fill(a.State[:cap(a.State)], 'z')
			fill(a.Rows[:cap(a.Rows)], api.Named{Name: "z"})
		}
		for i, a := range ask() {
			wantAnswer(t, fmt.Sprint("R2: ", what, ": answer ", i, " behind it"), a, before[i])
		}
		wantSaved(t, "R2: "+what, m, was)
	}
}

// TestSaveIsNewMemory: the bytes are overwritten, with their room.
func TestSaveIsNewMemory(t *testing.T) {
	for what, m := range masters(t) {
		b, other := m.Save(), m.Save()
		was := slices.Clone(b)
		fill(b[:cap(b)], 'z')
		if !bytes.Equal(other, was) {
			t.Errorf("R2: %s: two Saves share memory", what)
		}
		wantSaved(t, "R2: "+what+": Save is overwritten", m, was)
	}
}

// TestWhatIsHandedInStays: neither lists of a command nor their room are changed, and nothing of them is kept.
func TestWhatIsHandedInStays(t *testing.T) {
	for what, m := range masters(t) {
		for i, c := range []api.Command{split("q"), move("q", 2), merge("m"), which(), publish(lastGen(m)), leave(lastGen(m)), locate("q"), {Kind: api.Nothing}, {Kind: 77}, locate(tooLong)} {
			c.State = withRoom([]byte("state"), 'r')
			c.Op.L = withRoom([]api.Change{{Kind: api.Put, Col: "c"}}, api.Change{Col: "room"})
			state := slices.Clone(c.State[:cap(c.State)])
			cols := fmt.Sprint(c.Op.L[:cap(c.Op.L)])
			a := m.Do(90, i+1, c)
			if !bytes.Equal(c.State[:cap(c.State)], state) || fmt.Sprint(c.Op.L[:cap(c.Op.L)]) != cols {
				t.Errorf("R2: %s, command %d: what is handed in is changed", what, i)
			}
			was, shown := m.Save(), show(a)
			fill(c.State[:cap(c.State)], 'z')
			fill(c.Op.L[:cap(c.Op.L)], api.Change{Col: "z"})
			wantSaved(t, "R2: "+what+": what was handed in is overwritten", m, was)
			if show(a) != shown {
				t.Errorf("R2: %s, command %d: the answer hangs on what was handed in: %s", what, i, show(a))
			}
		}
	}
}

// TestLoadKeepsNothing: the bytes that Load was given are not changed, their room neither read nor written, and they may be overwritten.
func TestLoadKeepsNothing(t *testing.T) {
	for what, m := range masters(t) {
		b := withRoom(m.Save(), 'r')
		was := slices.Clone(b[:cap(b)])
		other := loaded(t, what, b)
		if !bytes.Equal(b[:cap(b)], was) {
			t.Errorf("R2: %s: Load changes its bytes", what)
		}
		fill(b[:cap(b)], 'z')
		wantSaved(t, "R2: "+what+": the bytes are overwritten", other, m.Save())
		wantPicture(t, "R2: "+what+": the bytes are overwritten", other, picture(m))
		wantAnswer(t, "R2: "+what+": a reply", other.Do(maker, 1, split("q")), m.Do(maker, 1, split("q")))
	}
}

// TestNoMasters: R1 says that methods are not called on nil or zero values; these do not panic all the same.
func TestNoMasters(t *testing.T) {
	for what, m := range map[string]*master.Master{"nil": nil, "zero": {}} {
		a, ok := m.Pending()
		if len(m.All()) != 0 || ok || !cmd.SameAnswer(a, api.Answer{}) || len(m.Save()) != 0 {
			t.Errorf("R1: a %s master tells something", what)
		}
		for _, c := range []api.Command{{}, {Kind: api.Nothing}, locate("m"), which(), split("m"), move("m", 1), merge("m"), publish(1), leave(1)} {
			wantAnswer(t, "R1: a "+what+" master", m.Do(1, 1, c), code(api.ErrArg))
		}
	}
}
