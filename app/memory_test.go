package app_test

import (
	"bytes"
	"fmt"
	"testing"

	"wardmote/api"
	"wardmote/app"
)

// withRoom is b in memory of its own with room behind it, and x in that room.
func withRoom(b []byte, x byte) []byte {
	own := make([]byte, len(b), len(b)+5)
	copy(own, b)
	fill(own[len(own):cap(own)], x)
	return own
}

func fill[T any](l []T, x T) {
	for i := range l {
		l[i] = x
	}
}

// TestWhatIsHandedInStays: requests and bytes to load are not changed, their spare room included, and not kept.
func TestWhatIsHandedInStays(t *testing.T) {
	for group := range 3 {
		a, b := made(t, group, 2), made(t, group, 2)
		for i, c := range kinds(t) {
			v := request(t, 1, i+1, c)
			mine := withRoom(v, 'x')
			got := a.Do(mine)
			if !bytes.Equal(mine[:cap(mine)], withRoom(v, 'x')[:cap(mine)]) {
				t.Errorf("R2: group %d, command %d: what was handed in is changed", group, i)
			}
			fill(mine[:cap(mine)], 'z')
			if !bytes.Equal(got, b.Do(v)) {
				t.Errorf("R2: group %d, command %d: the answer hangs on the room behind the request", group, i)
			}
			wantSaved(t, fmt.Sprintf("R2: group %d, command %d: the request was overwritten", group, i), a, b.Save())
		}
	}
	for what, a := range apps(t) {
		group, groups := groupsOf(t, a)
		b := a.Save()
		mine := withRoom(b, 'x')
		other := loaded(t, what, group, groups, mine)
		if !bytes.Equal(mine[:cap(mine)], withRoom(b, 'x')[:cap(mine)]) {
			t.Errorf("R2: %s: Load: what was handed in is changed", what)
		}
		fill(mine[:cap(mine)], 'z')
		wantSaved(t, "R2: "+what+": the bytes to load were overwritten", other, b)
		wantPicture(t, "R2: "+what+": the bytes to load were overwritten", other, picture(a))
	}
}

// overwriteRows overwrites all that l leads to, with its spare room.
func overwriteRows(l []api.Named) {
	for _, x := range l {
		for _, c := range x.R.L {
			for _, v := range c.L {
				fill(v.V.B[:cap(v.V.B)], 'z')
			}
			fill(c.L[:cap(c.L)], api.Version{Time: 99})
		}
		fill(x.R.L[:cap(x.R.L)], api.Column{Name: "zzz"})
	}
	fill(l[:cap(l)], api.Named{Name: "zzz"})
}

func overwriteTablets(l []api.Tablet) {
	fill(l[:cap(l)], api.Tablet{Span: of("x", "y"), Group: 77, Gen: 77})
}

func overwriteBytes(b []byte) {
	fill(b[:cap(b)], 'z')
}

// TestAnswersAreNewMemory: each is overwritten, with its room: neither the app nor what it tells next is touched.
func TestAnswersAreNewMemory(t *testing.T) {
	for what, a := range apps(t) {
		was, shown := a.Save(), picture(a)
		for call, ask := range map[string]func(a *app.App){
			"Live":   func(a *app.App) { overwriteTablets(a.Live()) },
			"Frozen": func(a *app.App) { overwriteTablets(a.Frozen()) },
			"All":    func(a *app.App) { overwriteTablets(a.All()) },
			"Rows":   func(a *app.App) { overwriteRows(a.Rows()) },
			"Save":   func(a *app.App) { overwriteBytes(a.Save()) },
			"Pending": func(a *app.App) {
				p, _ := a.Pending()
				overwriteRows(p.Rows)
				overwriteBytes(p.State)
			},
			"Do of rubbish": func(a *app.App) { overwriteBytes(a.Do([]byte("x"))) },
		} {
			ask(a)
			wantSaved(t, "R2: "+what+": "+call+" was overwritten", a, was)
			wantPicture(t, "R2: "+what+": "+call+" was overwritten", a, shown)
		}
		group, groups := groupsOf(t, a)
		other := loaded(t, what, group, groups, was)
		for i, c := range kinds(t) {
			v := request(t, 6, i+1, c)
			for range 2 {
				at := fmt.Sprintf("R2: %s: the answer of command %d was overwritten", what, i)
				got, want := a.Do(v), other.Do(v)
				if !bytes.Equal(got, want) {
					t.Errorf("%s: told then: % x, want % x", at, got, want)
				}
				overwriteBytes(got)
				wantSaved(t, at, a, other.Save())
			}
		}
	}
}
