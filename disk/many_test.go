package disk_test

import (
	"fmt"
	"math/rand"
	"slices"
	"strings"
	"testing"

	"wardmote/disk"
)

// pair is a disk, and the records that are to be there.
type pair struct {
	d *disk.Disk
	l []string
}

func someRecord(rnd *rand.Rand) string {
	return strings.Repeat(fmt.Sprint(rnd.Intn(10)), rnd.Intn(4)*rnd.Intn(4))
}

// change does one call to p's disk, and the same to its list.
func (p *pair) change(rnd *rand.Rand) {
	if rnd.Intn(4) > 0 {
		x := someRecord(rnd)
		p.d.Append([]byte(x))
		p.l = append(slices.Clone(p.l), x)
		return
	}
	var l []string
	for range rnd.Intn(5) {
		l = append(l, someRecord(rnd))
	}
	p.d.Replace(records(l...)...)
	p.l = l
}

// TestManyCalls: any calls, on disks and copies of them; each disk is what a plain list is.
func TestManyCalls(t *testing.T) {
	for seed := range int64(50) {
		rnd := rand.New(rand.NewSource(seed))
		all := []pair{{disk.New(), nil}}
		for i := range 200 {
			p := &all[rnd.Intn(len(all))]
			if rnd.Intn(10) > 0 {
				p.change(rnd)
			} else if len(all) < 6 {
				all = append(all, pair{p.d.Copy(), p.l})
			} else {
				all[rnd.Intn(len(all))] = pair{p.d.Copy(), p.l}
			}
			for j, p := range all {
				wantDisk(t, fmt.Sprintf("P14.1: seed %d, call %d, disk %d", seed, i, j), p.d, p.l...)
			}
			if t.Failed() {
				return
			}
		}
	}
}
