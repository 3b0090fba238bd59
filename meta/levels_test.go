package meta_test

import (
	"fmt"
	"slices"
	"testing"

	"wardmote/api"
	"wardmote/meta"
)

// wantLevels holds both levels against the list of all.
func wantLevels(t *testing.T, what string, m *meta.Table, all []api.Tablet) {
	t.Helper()
	metas, root := m.Metas(), m.Root()
	if len(root) != len(metas) {
		t.Errorf("%s: Root has %d, Metas %d", what, len(root), len(metas))
		return
	}
	for i, x := range metas {
		if len(x) < 1 || len(x) > perMeta {
			t.Errorf("%s: meta tablet %d has %d", what, i, len(x))
			return
		}
		if root[i] != x[0].Span.Lo {
			t.Errorf("%s: Root %d: %q, want %q", what, i, root[i], x[0].Span.Lo)
		}
	}
	if got := slices.Concat(metas...); !slices.Equal(got, all) {
		t.Errorf("%s: Metas: %s, want %s", what, show(got), show(all))
		return
	}
	for _, name := range namesAround(all) {
		wantMeta(t, what, m, name, all[whose(t, all, name)])
	}
}

// wantMeta holds Meta of name, whose tablet is own, against Root and Metas.
func wantMeta(t *testing.T, what string, m *meta.Table, name string, own api.Tablet) {
	t.Helper()
	want := -1
	for i, lo := range m.Root() {
		if lo <= name {
			want = i
		}
	}
	got := m.Meta(name)
	if got != want {
		t.Errorf("%s: Meta(%.20q): %d, want %d of %q", what, name, got, want, m.Root())
		return
	}
	if !slices.Contains(m.Metas()[got], own) {
		t.Errorf("%s: Meta(%.20q): %d has not %s", what, name, got, show([]api.Tablet{own}))
	}
}

func TestLevelsOfEachNumber(t *testing.T) {
	for n := 1; n <= maxTablets; n++ {
		m := made(t, into(n)...)
		wantLevels(t, fmt.Sprint("P11.2: of ", n), m, into(n))
		if m.Root()[0] != "" {
			t.Errorf("P11.2: of %d: the first Root is %q", n, m.Root()[0])
		}
		if least := (n + perMeta - 1) / perMeta; len(m.Metas()) < least {
			t.Errorf("P11.2: of %d: %d meta tablets", n, len(m.Metas()))
		}
	}
}

// TestLevelsBehindPuts: cut one by one up to MaxTablets, and joined one by one again.
func TestLevelsBehindPuts(t *testing.T) {
	for what, order := range map[string]func(i, n int) int{
		"from the left":  func(i, n int) int { return i },
		"from the right": func(i, n int) int { return n - 1 - i },
		"across":         func(i, n int) int { return i * 7 % n },
	} {
		m := made(t, tab("", "", 1, 1))
		at := someCuts()[:maxTablets-1]
		for i := range at {
			name := at[order(i, len(at))]
			x := m.Find(name)
			wantPut(t, what, m, api.OK, tab(x.Span.Lo, name, i, i+2), tab(name, x.Span.Hi, i, i+2))
			wantLevels(t, "P11.2: cut, "+what, m, m.All())
		}
		for i := range at {
			name := at[order(i, len(at))]
			x := m.Find(name)
			ahead, ok := m.Before(name)
			if !ok || x.Span.Lo != name {
				t.Fatalf("P11.1: Before(%q): %v", name, ok)
			}
			wantPut(t, what, m, api.OK, tab(ahead.Span.Lo, x.Span.Hi, i, i+40))
			wantLevels(t, "P11.2: joined, "+what, m, m.All())
		}
		if m.Len() != 1 || len(m.Metas()) != 1 {
			t.Errorf("P11.2: all joined, %s: %s", what, show(m.All()))
		}
	}
}

// TestLevelsOfTheSame: answers hang on what is given alone (R4): tables that are Same have the same meta tablets.
func TestLevelsOfTheSame(t *testing.T) {
	for n := 1; n <= maxTablets; n++ {
		want := made(t, into(n)...)
		byPuts := made(t, many(maxTablets)...)
		wantPut(t, "all", byPuts, api.OK, into(n)...)
		back, _, _ := take(write(want))
		for what, m := range map[string]*meta.Table{"Put": byPuts, "Copy": want.Copy(), "Take": back} {
			if !meta.Same(m, want) || !slices.Equal(m.Root(), want.Root()) || !slices.EqualFunc(m.Metas(), want.Metas(), slices.Equal) {
				t.Errorf("R4: %s, of %d: %q, want %q", what, n, m.Root(), want.Root())
			}
		}
	}
}
