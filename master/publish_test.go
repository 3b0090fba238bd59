package master_test

import (
	"fmt"
	"testing"

	"wardmote/api"
	"wardmote/master"
)

// TestPublishOfNone: Gens above the last one, with and without a plan under way.
func TestPublishOfNone(t *testing.T) {
	for what, m := range masters(t) {
		last := lastGen(m)
		for _, gen := range []int{last + 1, last + 2, 255, 256, 1 << 20, greatest} {
			wantNothing(t, fmt.Sprint("P12.1: ", what, ": Publish of ", gen), m, 1, 1, publish(gen), code(api.ErrNone))
			wantNothing(t, fmt.Sprint("P12.1: ", what, ": Publish of ", gen, ", To -1"), m, 1, 1, leave(gen), code(api.ErrNone))
		}
	}
}

// TestPublishOfAnother: OK, and nothing, of each Gen but that of the plan under way.
func TestPublishOfAnother(t *testing.T) {
	for what, m := range masters(t) {
		a, _ := m.Pending()
		for gen := 1; gen <= lastGen(m); gen++ {
			if gen != a.Gen {
				wantNothing(t, fmt.Sprint("P12.1: ", what, ": Publish of ", gen), m, 1, 1, publish(gen), code(api.OK))
				wantNothing(t, fmt.Sprint("P12.1: ", what, ": Publish of ", gen, ", To -1"), m, 1, 1, leave(gen), code(api.OK))
			}
		}
	}
}

// wantEnded asks that end is told OK, and that the tablets are these then and no plan is under way; and that it is told again, and nothing is done.
func wantEnded(t *testing.T, what string, m *master.Master, end api.Command, tablets string) {
	t.Helper()
	gen := lastGen(m)
	wantAnswer(t, what, m.Do(1, 1, end), code(api.OK))
	wantPicture(t, what, m, tablets)
	if lastGen(m) != gen {
		t.Errorf("%s: the last Gen is %d, was %d", what, lastGen(m), gen)
	}
	wantNothing(t, what+": no plan is under way", m, 1, 1, which(), code(api.ErrNone))
	wantNothing(t, what+": again", m, 1, 1, publish(end.Gen), code(api.OK))
	wantNothing(t, what+": again, To -1", m, 1, 1, leave(end.Gen), code(api.OK))
}

// TestPublish: where the tablets are then, of each Do, with which Gens; those beside them are left alone.
func TestPublish(t *testing.T) {
	ahead := []api.Command{split("g"), split("c"), split("p"), move("g", 2), move("p", 2)}
	was := "-c@1#3 c-g@1#3 g-p@2#5 p-@2#6"
	for _, x := range []struct {
		c    api.Command
		want string
	}{
		{move("", 2), "-c@2#7 c-g@1#3 g-p@2#5 p-@2#6"},
		{move("b", 3), "-c@3#7 c-g@1#3 g-p@2#5 p-@2#6"},
		{move("c", 2), "-c@1#3 c-g@2#7 g-p@2#5 p-@2#6"},
		{move("g", 1), "-c@1#3 c-g@1#3 g-p@1#7 p-@2#6"},
		{move("zz", 3), "-c@1#3 c-g@1#3 g-p@2#5 p-@3#7"},
		{split("a"), "-a@1#7 a-c@1#7 c-g@1#3 g-p@2#5 p-@2#6"},
		{split("h"), "-c@1#3 c-g@1#3 g-h@2#7 h-p@2#7 p-@2#6"},
		{split("z"), "-c@1#3 c-g@1#3 g-p@2#5 p-z@2#7 z-@2#7"},
		{merge("c"), "-g@1#7 g-p@2#5 p-@2#6"},
		{merge("p"), "-c@1#3 c-g@1#3 g-@2#7"},
	} {
		what := fmt.Sprintf("P12.1: do %d at %q", x.c.Do, x.c.At)
		m := arranged(t, 3, ahead...)
		wantPicture(t, "P12.1: ahead of it", m, was)
		a := begun(t, m, x.c)
		wantEnded(t, what, m, publish(a.Gen), x.want)

		m = arranged(t, 3, ahead...)
		begun(t, m, x.c)
		wantEnded(t, what+", given up", m, leave(a.Gen), was)
		wantBegun(t, what+", given up, and then once more", m, 7, 1, x.c, withGen(a, a.Gen+1))
		wantNothing(t, what+": the Gen that was given up", m, 1, 1, publish(a.Gen), code(api.OK))
	}
}

func withGen(a api.Answer, gen int) api.Answer {
	a.Gen = gen
	return a
}

// TestPublishBehindLoad: a plan under way of each Do is carried out by the one that was loaded.
func TestPublishBehindLoad(t *testing.T) {
	for _, x := range []struct {
		c    api.Command
		want string
	}{
		{move("z", 2), "-m@1#2 m-@2#3"}, {split("z"), "-m@1#2 m-z@1#3 z-@1#3"}, {merge("m"), "-@1#3"},
	} {
		m := arranged(t, 2, split("m"))
		a := begun(t, m, x.c)
		other := loaded(t, "a plan under way", m.Save())
		wantEnded(t, "P12.2: Publish behind Load", other, publish(a.Gen), x.want)
		wantPicture(t, "P12.2: the first", m, "-m@1#2 m-@1#2; "+show(a))
	}
}

// TestPublishWithMore: what Publish does not ask for may be anything.
func TestPublishWithMore(t *testing.T) {
	m := made(t, 2)
	begun(t, m, split("m"))
	c := publish(2)
	c.At, c.Do, c.Span, c.State = tooLong, -1, of("b", "a"), []byte("state")
	wantEnded(t, "P12.1: Publish, with what it does not ask for", m, c, "-m@1#2 m-@1#2")
}
