package app_test

import (
	"bytes"
	"fmt"
	"math/rand"
	"slices"
	"testing"

	"wardmote/api"
	"wardmote/app"
	"wardmote/master"
)

// apps are of each group: new ones, and such of which something was asked.
func apps(t *testing.T) map[string]*app.App {
	t.Helper()
	all := map[string]*app.App{}
	for groups := 1; groups <= maxGroups; groups++ {
		for group := 0; group <= groups; group++ {
			all[fmt.Sprintf("new, %d of %d", group, groups)] = made(t, group, groups)
		}
	}
	after := func(what string, group, groups int, l ...api.Command) {
		a := made(t, group, groups)
		for i, c := range l {
			asked(t, a, 1, i+1, c)
		}
		all[what] = a
	}
	state := func(l ...api.Command) []byte {
		a := made(t, 1, 1)
		for i, c := range l {
			asked(t, a, 5, i+1, c)
		}
		return asked(t, a, 5, 99, freeze(a.Live()[0].Span, a.Live()[0].Gen)).State
	}
	after("a plan is under way", 0, 3, plan(api.DoSplit, "m", 0), publish(2, 0), plan(api.DoMove, "z", 3))
	after("moved there", 0, 2, plan(api.DoMove, "z", 2), publish(2, 0))
	after("cut by a plan", 0, 1, plan(api.DoSplit, "m", 0), publish(2, 0), plan(api.DoMerge, "a", 0))
	after("rows", 1, 3, put("a", "c", 1), put("n", "c", 2), get("a"), scan("", "", 9))
	after("rows of two", 1, 2, put("a", "c", 1), put("n", "c", 2), split(of("", ""), 2, "m"))
	after("frozen", 1, 2, put("a", "c", 1), split(of("", ""), 2, "m"), freeze(of("m", ""), 2))
	after("retired", 1, 1, freeze(of("", ""), 1), retire(of("", ""), 1))
	after("refused", 1, 1, install(of("", ""), 5, nil))
	after("installed", 2, 3, install(of("", ""), 7, state(put("b", "c", 5), get("b"))), put("d", "c", 1))
	after("installed with Gen 1", 2, 2, install(of("", "m"), 1, state(split(of("", ""), 2, "m"))))
	after("refused with Gen 1", 3, 3, split(of("", ""), 1, "m"))
	return all
}

// groupsOf tells which group of how many a is: apps tell it in no other way.
func groupsOf(t *testing.T, a *app.App) (group, groups int) {
	t.Helper()
	for groups := max(1, a.Group()); groups <= maxGroups; groups++ {
		if b, ok := app.Load(a.Group(), groups, a.Save()); ok && bytes.Equal(b.Save(), a.Save()) {
			return a.Group(), groups
		}
	}
	t.Fatalf("P13.1: Load of group %d, of any number of groups", a.Group())
	return 0, 0
}

func loaded(t *testing.T, what string, group, groups int, b []byte) *app.App {
	t.Helper()
	a, ok := app.Load(group, groups, b)
	if !ok || a == nil {
		t.Fatalf("P13.1: %s: Load(%d, %d): %v, %v", what, group, groups, a != nil, ok)
	}
	return a
}

func wantNoLoad(t *testing.T, what string, group, groups int, b []byte) {
	t.Helper()
	if a, ok := app.Load(group, groups, b); a != nil || ok {
		t.Errorf("P13.1: %s: Load(%d, %d): %v, %v", what, group, groups, a != nil, ok)
	}
}

// wantOwn asks that b is not that group's, or that what is loaded saves b, and is that group.
func wantOwn(t *testing.T, what string, group, groups int, b []byte) bool {
	t.Helper()
	a, ok := app.Load(group, groups, b)
	if !ok || a == nil {
		if ok || a != nil {
			t.Errorf("P13.1: %s: Load(%d, %d): %v, %v", what, group, groups, a != nil, ok)
		}
		return false
	}
	wantSaved(t, "P13.1: "+what+": what was loaded", a, b)
	if a.Group() != group {
		t.Errorf("P13.1: %s: Load(%d, %d): Group %d", what, group, groups, a.Group())
	}
	return true
}

// TestSaveAndLoad: what was saved is loaded, saves the same, and goes on the same.
func TestSaveAndLoad(t *testing.T) {
	for what, a := range apps(t) {
		group, groups := groupsOf(t, a)
		b := a.Save()
		wantSaved(t, "P13.1: "+what+": Save twice", a, b)
		other := loaded(t, what, group, groups, b)
		wantPicture(t, "P13.1: "+what+": Load of Save", other, picture(a))
		wantSaved(t, "P13.1: "+what+": Save of Load", other, b)
		for i, c := range kinds(t) {
			for _, who := range [][2]int{{1, 1}, {1, i + 1}, {1, 7 + i}, {5, i}, {9, 1}} {
				at := fmt.Sprintf("P13.1: %s, loaded, command %d, client %d, number %d", what, i, who[0], who[1])
				v := request(t, who[0], who[1], c)
				wantAnswer(t, at, answer(t, other.Do(v)), answer(t, a.Do(v)))
				wantPicture(t, at, other, picture(a))
				wantSaved(t, at, other, a.Save())
			}
		}
	}
}

// TestLoadedIsByItself: what is done to the loaded one is not seen in the first, nor the other way round.
func TestLoadedIsByItself(t *testing.T) {
	for what, a := range apps(t) {
		group, groups := groupsOf(t, a)
		was, shown := a.Save(), picture(a)
		other := loaded(t, what, group, groups, was)
		for i, c := range kinds(t) {
			asked(t, other, 7, i+1, c)
		}
		wantSaved(t, "P13.1: "+what+", where the loaded one has changed", a, was)
		wantPicture(t, "P13.1: "+what+", where the loaded one has changed", a, shown)
		now := other.Save()
		for i, c := range kinds(t) {
			asked(t, a, 8, i+1, c)
		}
		wantSaved(t, "P13.1: "+what+", loaded, where the first has changed", other, now)
	}
}

// TestLoadOfGroups: of groups that may not be, and of others.
func TestLoadOfGroups(t *testing.T) {
	for what, a := range apps(t) {
		b := a.Save()
		for _, groups := range numbers() {
			for _, group := range numbers() {
				switch {
				case !mayBe(group, groups), (group == 0) != (a.Group() == 0):
					wantNoLoad(t, what, group, groups, b)
				default:
					wantOwn(t, what, group, groups, b)
				}
			}
		}
	}
}

// TestLoadOfOtherGroups: a master of another number of groups is another one.
func TestLoadOfOtherGroups(t *testing.T) {
	for groups := 1; groups <= maxGroups; groups++ {
		for _, l := range [][]api.Command{
			nil,
			{plan(api.DoSplit, "m", 0)},
			{plan(api.DoSplit, "m", 0), publish(2, 0), plan(api.DoMerge, "a", 0)},
			{plan(api.DoMove, "m", 2), publish(2, 0)},
			{plan(api.DoMove, "m", 2), publish(2, 0), plan(api.DoMove, "m", 1)},
			{plan(api.DoMove, "m", 3), publish(2, 0)},
		} {
			a := made(t, 0, groups)
			for i, c := range l {
				asked(t, a, i%2, i+1, c)
			}
			asked(t, a, 0, greatest, plan(api.DoMerge, "", 0))
			asked(t, a, 3, greatest-1, plan(api.DoMerge, "", 0))
			for other := 1; other <= maxGroups; other++ {
				if other == groups {
					wantSaved(t, "P13.1: a master", loaded(t, "a master", 0, groups, a.Save()), a.Save())
					continue
				}
				wantNoLoad(t, fmt.Sprintf("a master of %d groups: %s", groups, picture(a)), 0, other, a.Save())
			}
		}
	}
}

// TestLoadWithNoNumberLeft: a master of which all clients have used up all numbers is loaded too.
func TestLoadWithNoNumberLeft(t *testing.T) {
	for left := range 4 {
		a := made(t, 0, 2)
		asked(t, a, 9, 1, plan(api.DoSplit, "m", 0))
		for client := range 256 - left {
			asked(t, a, client, greatest, plan(api.DoMerge, "", 0))
		}
		b := a.Save()
		other := loaded(t, "no number is left", 0, 2, b)
		wantSaved(t, "P13.1: no number is left", other, b)
		wantPicture(t, "P13.1: no number is left", other, picture(a))
		if left > 1 {
			wantNoLoad(t, "hardly any number is left", 0, 1, b)
			wantNoLoad(t, "hardly any number is left", 0, 3, b)
		}
	}
}

// TestLoadWithNoGenLeft: a master behind the last of all Gens tells its groups too.
func TestLoadWithNoGenLeft(t *testing.T) {
	m := master.New(2)
	m.Do(1, greatest, plan(api.DoMerge, "", 0))
	// The last Gen is the second thing that Save tells.
	b := m.Save()
	copy(b[1:], []byte{0x40, 0, 0, 0})
	a := loaded(t, "the last of all Gens", 0, 2, b)
	wantAnswer(t, "the last of all Gens", asked(t, a, 2, 1, plan(api.DoMove, "m", 2)), code(api.ErrFull))
	wantNoLoad(t, "the last of all Gens", 0, 1, b)
	wantNoLoad(t, "the last of all Gens", 0, 3, b)
}

// TestLoadOfTheFirstGroup: it begins with one tablet of all names, Gen 1; what that can't lead to is not its own.
func TestLoadOfTheFirstGroup(t *testing.T) {
	cut := made(t, 1, 1)
	asked(t, cut, 1, 1, split(of("", ""), 2, "m"))
	half := asked(t, cut, 1, 2, freeze(of("", "m"), 2)).State
	all := asked(t, made(t, 1, 1), 1, 1, freeze(of("", ""), 1)).State
	for _, x := range []struct {
		what string
		l    []api.Command
		want bool
	}{
		{"no tablet, no Gen", nil, false},
		{"half of all names, Gen 1", []api.Command{install(of("", "m"), 1, half)}, false},
		{"half of all names, Gen 1, frozen", []api.Command{install(of("", "m"), 1, half), freeze(of("", "m"), 1)}, false},
		{"half of all names, Gen 1, and a greater Gen", []api.Command{install(of("", "m"), 1, half), install(of("", ""), 9, nil)}, false},
		{"Gen 1 was refused", []api.Command{install(of("", ""), 1, nil)}, false},
		{"Gen 1 was refused otherwise", []api.Command{split(of("", ""), 1, "m")}, false},
		{"Gen 1 was refused, Gen 2 was too", []api.Command{split(of("", ""), 1, "m"), split(of("", ""), 2, "m")}, true},
		{"half of all names, Gen 2", []api.Command{install(of("", "m"), 2, half)}, true},
		{"all names, Gen 1", []api.Command{install(of("", ""), 1, all)}, true},
		{"all names, Gen 1, retired", []api.Command{install(of("", ""), 1, all), freeze(of("", ""), 1), retire(of("", ""), 1)}, true},
	} {
		a := made(t, 2, 2)
		for i, c := range x.l {
			asked(t, a, 1, i+1, c)
		}
		b := a.Save()
		wantSaved(t, "P13.1: "+x.what, loaded(t, x.what, 2, 2, b), b)
		if !x.want {
			wantNoLoad(t, x.what, 1, 2, b)
			continue
		}
		first := loaded(t, x.what, 1, 2, b)
		wantSaved(t, "P13.1: "+x.what, first, b)
		if first.Group() != 1 {
			t.Errorf("P13.1: %s: Group: %d", x.what, first.Group())
		}
	}
}

// TestLoadOfLess: cut off at each place, and with more behind.
func TestLoadOfLess(t *testing.T) {
	for what, a := range apps(t) {
		group, groups := groupsOf(t, a)
		b := a.Save()
		for n := range b {
			// The bytes behind the cut stand in the spare room: they must not be read.
			wantNoLoad(t, fmt.Sprint(what, ", the first ", n, " bytes"), group, groups, b[:n])
			wantOwn(t, fmt.Sprint(what, ", all but the first ", n+1, " bytes"), group, groups, b[n+1:])
		}
		for _, more := range []string{"\x00", "\x01", "\xff", "\x00\x00\x00\x00", string(b)} {
			wantNoLoad(t, what+", with more behind it", group, groups, slices.Concat(b, []byte(more)))
		}
		wantNoLoad(t, what+", nil", group, groups, nil)
		wantNoLoad(t, what+", no bytes", group, groups, []byte{})
	}
}

// TestLoadOfTurned: each byte turned.
func TestLoadOfTurned(t *testing.T) {
	taken, refused := 0, 0
	for what, a := range apps(t) {
		group, groups := groupsOf(t, a)
		b := a.Save()
		for n := range b {
			for by := 1; by < 256; by++ {
				turned := slices.Clone(b)
				turned[n] ^= byte(by)
				if wantOwn(t, fmt.Sprint(what, ", byte ", n, " turned by ", by), group, groups, turned) {
					taken++
				} else {
					refused++
				}
			}
		}
	}
	if taken < 100 || refused < taken {
		t.Errorf("P13.1: of turned bytes %d are taken, %d refused", taken, refused)
	}
}

// TestLoadOfAnyBytes: bytes that were never saved.
func TestLoadOfAnyBytes(t *testing.T) {
	rnd := rand.New(rand.NewSource(13))
	for range 20000 {
		b := make([]byte, rnd.Intn(40))
		for i := range b {
			b[i] = byte(rnd.Intn(256) >> rnd.Intn(9))
		}
		wantOwn(t, "any bytes", rnd.Intn(4), 3, b)
	}
}

// TestSaveTellsAll: no two of these are the same, unless they go on the same.
func TestSaveTellsAll(t *testing.T) {
	seen := map[string]string{}
	for _, what := range []string{"new, 0 of 1", "new, 0 of 2", "new, 0 of 3", "new, 1 of 1", "new, 2 of 2", "a plan is under way", "moved there", "cut by a plan", "rows", "rows of two", "frozen", "retired", "refused", "installed", "installed with Gen 1", "refused with Gen 1"} {
		b := string(apps(t)[what].Save())
		if other, there := seen[b]; there {
			t.Errorf("P13.1: the same bytes of two: %s, %s", what, other)
		}
		seen[b] = what
	}
}
