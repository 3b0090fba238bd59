package disk_test

import (
	"bytes"
	"slices"
	"testing"

	"wardmote/disk"
)

func fill[T any](l []T, x T) {
	for i := range l {
		l[i] = x
	}
}

// withRoom is l in memory of its own with room behind it, and x in that room.
func withRoom[T any](l []T, x T) []T {
	own := make([]T, len(l), len(l)+3)
	copy(own, l)
	fill(own[len(own):cap(own)], x)
	return own
}

// TestAppendLeavesRecords: a record that is handed in is not changed, its room neither read nor written, and nothing of it is kept.
func TestAppendLeavesRecords(t *testing.T) {
	for _, text := range []string{"", "x", "a record", string(make([]byte, 300))} {
		d := made("first")
		b := withRoom([]byte(text), 'r')
		was := slices.Clone(b[:cap(b)])
		d.Append(b)
		if !bytes.Equal(b[:cap(b)], was) {
			t.Errorf("R2: Append: the record that was handed in, or its room: %q, want %q", b[:cap(b)], was)
		}
		fill(b[:cap(b)], 'z')
		wantDisk(t, "R2: Append: the record is overwritten", d, "first", text)
	}
}

// TestAppendOfOneListTwice: changed between.
func TestAppendOfOneListTwice(t *testing.T) {
	d := disk.New()
	b := []byte("same")
	d.Append(b)
	b[0] = 'g'
	d.Append(b)
	wantDisk(t, "R2: Append of one list twice", d, "same", "game")
}

// TestReplaceLeavesRecords: so it is with a list of records: its own room, and that of each of them.
func TestReplaceLeavesRecords(t *testing.T) {
	for _, texts := range lists() {
		d := made("first")
		var l, was [][]byte
		for _, x := range texts {
			l = append(l, withRoom([]byte(x), 'r'))
		}
		l = withRoom(l, []byte("room"))
		for _, x := range l[:cap(l)] {
			was = append(was, slices.Clone(x[:cap(x)]))
		}
		d.Replace(l...)
		for i, x := range l[:cap(l)] {
			if !bytes.Equal(x[:cap(x)], was[i]) {
				t.Errorf("R2: Replace: record %d that was handed in, or its room: %.40q, want %.40q", i, x[:cap(x)], was[i])
			}
		}
		for _, x := range l {
			fill(x[:cap(x)], 'z')
		}
		wantDisk(t, "R2: Replace: the records are overwritten", d, texts...)
		fill(l[:cap(l)], []byte("other"))
		wantDisk(t, "R2: Replace: the list is overwritten", d, texts...)
	}
}

// TestReplaceOfOneRecordTwice: one list stands in two places.
func TestReplaceOfOneRecordTwice(t *testing.T) {
	d := disk.New()
	b := []byte("same")
	d.Replace(b, b, b[:2])
	fill(b, 'z')
	wantDisk(t, "R2: Replace of one record in three places", d, "same", "same", "sa")
	for _, x := range d.All() {
		fill(x[:cap(x)], 'y')
	}
	wantDisk(t, "R2: what it told is overwritten", d, "same", "same", "sa")
}

// TestAllTellsNewMemory: what was told is overwritten, with its room, list by list: no other list is touched, nor the disk, nor a copy.
func TestAllTellsNewMemory(t *testing.T) {
	for _, l := range lists() {
		d := made(l...)
		copied := d.Copy()
		first, second := d.All(), d.All()
		for i, x := range first {
			fill(x[:cap(x)], 'z')
			if rest := texts(first[i+1:]); !slices.Equal(rest, l[i+1:]) {
				t.Errorf("R2: All: record %d is overwritten, and those behind it are %.40q", i, rest)
			}
		}
		fill(first[:cap(first)], []byte("other"))
		if !slices.Equal(texts(second), l) {
			t.Errorf("R2: All: what was told before is overwritten, and this is %.40q", texts(second))
		}
		for _, x := range [][][]byte{second, copied.All(), d.All()} {
			for _, rec := range x {
				fill(rec[:cap(rec)], 'y')
			}
			fill(x[:cap(x)], nil)
		}
		wantDisk(t, "R2: what was told is overwritten", d, l...)
		wantDisk(t, "R2: what was told is overwritten, and of the copy", copied, l...)
	}
}

// TestToldStays: the disk is changed, and what it had told is as it was.
func TestToldStays(t *testing.T) {
	for _, l := range lists() {
		d := made(l...)
		all := d.All()
		d.Append([]byte("more"))
		d.Replace(records("n", "e", "w")...)
		d.Append([]byte("more"))
		if !slices.Equal(texts(all), l) {
			t.Errorf("R2: what All told has changed: %.40q, want %.40q", texts(all), l)
		}
	}
}

// TestZeroDisk: R1 says that methods are not called on zero values; a zero disk is as an empty one all the same.
func TestZeroDisk(t *testing.T) {
	wantDisk(t, "R1: a zero disk", &disk.Disk{})
	wantDisk(t, "R1: a copy of a zero disk", (&disk.Disk{}).Copy())
	var d, other disk.Disk
	d.Append([]byte("x"))
	wantDisk(t, "R1: Append to a zero disk", &d, "x")
	other.Replace(records("y", "")...)
	wantDisk(t, "R1: Replace of a zero disk", &other, "y", "")
}

// TestNilDisk: nor on nil ones; these do not panic all the same.
func TestNilDisk(t *testing.T) {
	var d *disk.Disk
	d.Append([]byte("x"))
	d.Replace(records("x")...)
	d.Replace()
	wantDisk(t, "R1: a nil disk", d)
	if d.Copy() != nil {
		t.Error("R1: a copy of a nil disk is not nil")
	}
}
