package disk_test

import (
	"fmt"
	"slices"
	"strings"
	"testing"

	"wardmote/disk"
)

// records are texts as records.
func records(l ...string) [][]byte {
	var out [][]byte
	for _, x := range l {
		out = append(out, []byte(x))
	}
	return out
}

// texts are records as texts.
func texts(l [][]byte) []string {
	var out []string
	for _, x := range l {
		out = append(out, string(x))
	}
	return out
}

// made is a disk to which these were appended.
func made(l ...string) *disk.Disk {
	d := disk.New()
	for _, x := range l {
		d.Append([]byte(x))
	}
	return d
}

// wantDisk asks for these records alone, by all that a disk tells.
func wantDisk(t *testing.T, what string, d *disk.Disk, want ...string) {
	t.Helper()
	if got := texts(d.All()); !slices.Equal(got, want) {
		t.Errorf("%s: All: %.200q, want %.200q", what, got, want)
	}
	if d.Len() != len(want) {
		t.Errorf("%s: Len: %d, want %d", what, d.Len(), len(want))
	}
	if n := len(strings.Join(want, "")); d.Bytes() != n {
		t.Errorf("%s: Bytes: %d, want %d", what, d.Bytes(), n)
	}
}

// lists are records of many lengths, none and empty ones among them.
func lists() [][]string {
	return [][]string{
		nil,
		{""},
		{"a"},
		{"", "", ""},
		{"abc", "", "de"},
		{"same", "same", "same"},
		{"z", "y", "x", "a"},
		{"\x00", "\xff\xfe", "\x00\x00", "a\x00b"},
		{"", "x", strings.Repeat("long ", 5000), "y", ""},
		strings.Split(strings.Repeat("r", 300), ""),
	}
}

func TestNew(t *testing.T) {
	wantDisk(t, "P14.1: New", disk.New())
	d := disk.New()
	d.Append([]byte("x"))
	wantDisk(t, "P14.1: New, behind an Append to another one", disk.New())
}

func TestRuns(t *testing.T) {
	d := disk.New()
	d.Append([]byte("a"))
	d.Replace(records("b", "c")...)
	wantDisk(t, "run: Append(a), Replace(b, c)", d, "b", "c")
	d.Replace()
	wantDisk(t, "example 1: Replace of none", d)
	d.Append(nil)
	wantDisk(t, "example 2: Append of nothing", d, "")
}

// TestAppend: each record is behind the others, and all is there at once.
func TestAppend(t *testing.T) {
	for _, l := range lists() {
		d := disk.New()
		for i, x := range l {
			d.Append([]byte(x))
			wantDisk(t, "P14.1: Append", d, l[:i+1]...)
		}
	}
}

// TestAppendOfNothing: nil and an empty list are the same record, and it is one.
func TestAppendOfNothing(t *testing.T) {
	d := disk.New()
	for n, rec := range [][]byte{nil, {}, make([]byte, 0, 9), []byte("abc")[3:]} {
		d.Append(rec)
		wantDisk(t, "P14.1: Append of nothing", d, make([]string, n+1)...)
	}
	d.Append([]byte("x"))
	d.Append(nil)
	wantDisk(t, "P14.1: Append of nothing, behind a record", d, "", "", "", "", "x", "")
}

// TestReplace: whatever there was, these records alone are there then, in order.
func TestReplace(t *testing.T) {
	for _, was := range lists() {
		for _, l := range lists() {
			d := made(was...)
			d.Replace(records(l...)...)
			wantDisk(t, "P14.1: Replace", d, l...)
			d.Append([]byte("behind"))
			wantDisk(t, "P14.1: Append behind a Replace", d, append(slices.Clone(l), "behind")...)
			d.Replace(records(was...)...)
			wantDisk(t, "P14.1: Replace once more", d, was...)
		}
	}
}

func TestReplaceOfNothing(t *testing.T) {
	for _, was := range lists() {
		d := made(was...)
		d.Replace([][]byte{}...)
		wantDisk(t, "P14.1: Replace of an empty list", d)
		d = made(was...)
		d.Replace(nil, []byte{}, nil)
		wantDisk(t, "P14.1: Replace of empty records", d, "", "", "")
		d = made(was...)
		d.Replace(nil)
		wantDisk(t, "P14.1: Replace of one empty record", d, "")
		d.Append([]byte("x"))
		wantDisk(t, "P14.1: Append behind an empty record", d, "", "x")
	}
}

// TestReplaceOfAll: of what All told, whole, in part, in another order, and twice over.
func TestReplaceOfAll(t *testing.T) {
	for _, l := range lists() {
		d := made(l...)
		d.Replace(d.All()...)
		wantDisk(t, "P14.1: Replace of All", d, l...)
		half := len(l) / 2
		d.Replace(d.All()[half:]...)
		wantDisk(t, "P14.1: Replace of the last of All", d, l[half:]...)
		d = made(l...)
		all := d.All()
		slices.Reverse(all)
		d.Replace(append(all, d.All()...)...)
		back := slices.Clone(l)
		slices.Reverse(back)
		wantDisk(t, "P14.1: Replace of All backwards, and All", d, append(back, l...)...)
	}
}

// TestAll: what was told last is told again, and hangs on the records alone.
func TestAll(t *testing.T) {
	for _, l := range lists() {
		appended, replaced := made(l...), made("other", "records")
		replaced.Replace(records(l...)...)
		for range 3 {
			wantDisk(t, "P14.1: All again", appended, l...)
			wantDisk(t, "P14.1: All behind a Replace", replaced, l...)
		}
	}
	if n := len(disk.New().All()); n != 0 {
		t.Errorf("P14.1: All of nothing: %d records", n)
	}
}

func TestLenAndBytes(t *testing.T) {
	d := disk.New()
	for _, x := range []struct {
		rec        string
		len, bytes int
	}{{"", 1, 0}, {"", 2, 0}, {"abc", 3, 3}, {"", 4, 3}, {strings.Repeat("x", 1<<20), 5, 1<<20 + 3}, {"\x00", 6, 1<<20 + 4}} {
		d.Append([]byte(x.rec))
		if d.Len() != x.len || d.Bytes() != x.bytes {
			t.Errorf("P14.1: Append of %d bytes: Len %d, Bytes %d, want %d, %d", len(x.rec), d.Len(), d.Bytes(), x.len, x.bytes)
		}
	}
	d.Replace(records("ab", "", "c")...)
	if d.Len() != 3 || d.Bytes() != 3 {
		t.Errorf("P14.1: Replace: Len %d, Bytes %d, want 3, 3", d.Len(), d.Bytes())
	}
}

// TestCopy: what is done to the one is not seen in the other, either way; nor in a copy of a copy.
func TestCopy(t *testing.T) {
	changes := map[string]func(d *disk.Disk){
		"Append":             func(d *disk.Disk) { d.Append([]byte("more")) },
		"Append of nothing":  func(d *disk.Disk) { d.Append(nil) },
		"Replace of none":    func(d *disk.Disk) { d.Replace() },
		"Replace of one":     func(d *disk.Disk) { d.Replace([]byte("new")) },
		"Replace of several": func(d *disk.Disk) { d.Replace(records("n", "e", "", "w")...) },
	}
	for _, l := range lists() {
		for what, change := range changes {
			for i := range 3 {
				first := made(l...)
				second := first.Copy()
				third := second.Copy()
				all := []*disk.Disk{first, second, third}
				change(all[i])
				for j, d := range all {
					if j != i {
						wantDisk(t, fmt.Sprint("P14.1: ", what, " of disk ", i, ", seen in disk ", j), d, l...)
					}
				}
			}
		}
	}
}

// TestAppendToCopies: a disk and its copies are appended to by turns: no room behind the records is shared.
func TestAppendToCopies(t *testing.T) {
	for n := range 20 {
		d := disk.New()
		var want []string
		for i := range n {
			d.Append([]byte{byte(i)})
			want = append(want, string([]byte{byte(i)}))
		}
		a, b := d.Copy(), d.Copy()
		a.Append([]byte("a"))
		b.Append([]byte("b"))
		d.Append([]byte("d"))
		wantDisk(t, "P14.1: Append to a copy", a, append(slices.Clone(want), "a")...)
		wantDisk(t, "P14.1: Append to another copy", b, append(slices.Clone(want), "b")...)
		wantDisk(t, "P14.1: Append behind both", d, append(slices.Clone(want), "d")...)
	}
}
