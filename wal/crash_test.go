package wal_test

import (
	"math/rand/v2"
	"slices"
	"testing"

	"latchkey/api"
	"latchkey/disk"
	"latchkey/wal"
)

// wholeOf tells how many of the records' frames are whole within the first keep bytes.
func wholeOf(l []api.Rec, keep int) int {
	n := 0
	for n < len(l) && len(framesOf(l[:n+1]...)) <= keep {
		n++
	}
	return n
}

// mustGoOn tells whether a log may be used behind a crash: what is put there is read, with what was there.
func mustGoOn(t *testing.T, d *disk.Disk, want []api.Rec) {
	t.Helper()
	l, got, err := wal.Open(d)
	mustBe(t, "Open", err, api.OK)
	mustRecs(t, got, want)
	mustOpen(t, d, l.Segment(), want...)
	mustBe(t, "Append", l.Append(recs(lock(77, "behind"))), api.OK)
	d.Crash(0)
	l = mustOpen(t, d, l.Segment(), append(slices.Clone(want), lock(77, "behind"))...)
	mustHave(t, d, segment(l.Segment()), framesOf(append(slices.Clone(want), lock(77, "behind"))...))
}

// Promise 11.4.

// A crash that keeps each number of bytes of what was written: within a frame, at its end, none, all, and more.
func TestCrashBehindAWrite(t *testing.T) {
	sure := recs(promise(9), lock(1, "a"))
	loose := recs(lock(2, "bb"), promise(17), accept(3, 17, api.Cmd{}), lock(4, "c"))
	for _, ahead := range [][]api.Rec{nil, sure[:1], sure} {
		size := len(framesOf(loose...))
		for keep := -1; keep <= size+1; keep++ {
			d := disk.New()
			l := mustOpen(t, d, 0)
			mustBe(t, "Append", l.Append(ahead), api.OK)
			mustBe(t, "Write", l.Write(loose[:1]), api.OK)
			mustBe(t, "Write", l.Write(loose[1:]), api.OK)
			d.Crash(keep)
			number, whole := 1, loose[:wholeOf(loose, keep)]
			if left := min(max(keep, 0), size); left != len(framesOf(whole...)) {
				number = 2 // a part of a frame is left, which is written anew
			}
			want := append(slices.Clone(ahead), whole...)
			mustOpen(t, d, number, want...)
			mustHave(t, d, segment(number), framesOf(want...))
			mustBeSure(t, d, segment(number), 0)
			mustGoOn(t, d, want)
		}
	}
}

// An Append is the bytes behind the segment, and their sync: between the two it is as a Write.
func TestCrashWithinAnAppend(t *testing.T) {
	row := recs(lock(2, "bb"), promise(17))
	for keep := range len(framesOf(row...)) + 1 {
		d := disk.New()
		mustOpen(t, d, 0).Append(recs(promise(9)))
		d.Append("log.1", framesOf(row...))
		d.Crash(keep)
		mustGoOn(t, d, append(recs(promise(9)), row[:wholeOf(row, keep)]...))
	}
	d := disk.New()
	mustBe(t, "Append", mustOpen(t, d, 0).Append(row), api.OK)
	d.Crash(0)
	mustGoOn(t, d, row)
}

// atEachCrash does deeds to a new disk, then the first of the steps, more at each turn, and crashes it in each way that there is.
func atEachCrash(t *testing.T, deeds func(d *disk.Disk) (*plain, []func()), look func(d *disk.Disk, done, keep int)) {
	t.Helper()
	_, all := deeds(disk.New())
	for done := range len(all) + 1 {
		for keep, unsure := 0, 1; keep <= unsure; keep++ {
			d := disk.New()
			_, steps := deeds(d)
			for _, step := range steps[:done] {
				step()
			}
			unsure = 0
			for _, file := range d.Files() {
				unsure += d.Unsynced(file)
			}
			d.Crash(keep)
			look(d, done, keep)
		}
	}
}

const renamed = 4 // steps of a Reset, from which on the new segment counts

func TestCrashWithinAReset(t *testing.T) {
	sure, loose, anew := recs(promise(9), lock(1, "a")), recs(lock(2, "b"), promise(17)), recs(promise(25), lock(3, "c"))
	for _, older := range []string{"", framesOf(promise(41)) + "older"} {
		atEachCrash(t, func(d *disk.Disk) (*plain, []func()) {
			l := mustOpen(t, d, 0)
			l.Append(sure)
			l.Write(loose)
			if older != "" {
				d.Append("log.tmp", older)
				d.Sync("log.tmp")
			}
			p := &plain{d, 1}
			return p, p.resetSteps(anew)
		}, func(d *disk.Disk, done, keep int) {
			if done >= renamed {
				mustGoOn(t, d, anew)
			} else {
				mustGoOn(t, d, append(slices.Clone(sure), loose[:wholeOf(loose, keep)]...))
			}
		})
	}
}

func TestCrashWithinTheFirstReset(t *testing.T) {
	anew := recs(promise(25), lock(3, "c"))
	atEachCrash(t, func(d *disk.Disk) (*plain, []func()) {
		p := &plain{d, 0}
		return p, p.resetSteps(anew)
	}, func(d *disk.Disk, done, keep int) {
		if done >= renamed {
			mustGoOn(t, d, anew)
		} else {
			mustGoOn(t, d, nil)
		}
	})
}

// An Open that mends is a Reset, and the removal of all else: behind a crash within it the same records are there.
func TestCrashWithinAnOpenThatMends(t *testing.T) {
	sure := recs(promise(9), lock(1, "a"))
	for _, foreign := range []string{"x", framed("foreign"), framesOf(promise(17))[:16]} {
		atEachCrash(t, func(d *disk.Disk) (*plain, []func()) {
			put(t, d, "log.1", framesOf(promise(33)))
			put(t, d, "log.3", framesOf(promise(41))+"x")
			put(t, d, "log.7", framesOf(sure...)+foreign)
			put(t, d, "log.tmp", "older")
			p := &plain{d, 7}
			return p, append(p.resetSteps(sure), func() { d.Remove("log.1") }, func() { d.Remove("log.3") })
		}, func(d *disk.Disk, done, keep int) { mustGoOn(t, d, sure) })
	}
}

func TestCrashBehindEachCall(t *testing.T) {
	d := disk.New()
	l := mustOpen(t, d, 0)
	l.Append(recs(promise(9)))
	d.Crash(0)
	mustOpen(t, d, 1, promise(9))
	l.Reset(recs(promise(17), lock(1, "a")))
	d.Crash(0)
	l = mustOpen(t, d, 2, promise(17), lock(1, "a"))
	put(t, d, "log.2", "x")
	l = mustOpen(t, d, 3, promise(17), lock(1, "a"))
	d.Crash(0)
	l = mustOpen(t, d, 3, promise(17), lock(1, "a"))
	l.Write(recs(promise(25)))
	l.Append(nil)
	l.Write(recs(promise(33)))
	d.Crash(0)
	mustOpen(t, d, 3, promise(17), lock(1, "a"), promise(25))
}

// Files beside the log take their share of what a crash keeps.
func TestCrashWithOtherFiles(t *testing.T) {
	for keep := range 60 {
		d := disk.New()
		l := mustOpen(t, d, 0)
		l.Write(recs(promise(9)))
		d.Append("snap.tmp", "0123456789")
		l.Write(recs(promise(17)))
		d.Crash(keep)
		whole := 0
		if keep >= 17 {
			whole = 1
		}
		if keep >= 17+10+17 {
			whole = 2
		}
		mustGoOnBeside(t, d, recs(promise(9), promise(17))[:whole])
	}
}

func mustGoOnBeside(t *testing.T, d *disk.Disk, want []api.Rec) {
	t.Helper()
	l, got, err := wal.Open(d)
	mustBe(t, "Open", err, api.OK)
	mustRecs(t, got, want)
	l.Append(recs(promise(33)))
	d.Crash(0)
	mustOpen(t, d, l.Segment(), append(slices.Clone(want), promise(33))...)
}

// played is a log in the midst of a script, with what must be there behind a crash: those that are sure, and those that may be.
type played struct {
	t           *testing.T
	d           *disk.Disk
	l           *wal.Log
	sure, loose []api.Rec
}

// deed does one step of the script: what says which, n with how much.
func (p *played) deed(what, n byte) {
	p.t.Helper()
	all := someRecs()
	var row []api.Rec
	for i := range int(n % 4) {
		row = append(row, all[(int(n)/4+i*7)%len(all)])
	}
	switch what % 6 {
	case 0:
		mustBe(p.t, "Append", p.l.Append(row), api.OK)
		p.sure, p.loose = append(append(p.sure, p.loose...), row...), nil
	case 1, 2:
		mustBe(p.t, "Write", p.l.Write(row), api.OK)
		p.loose = append(p.loose, row...)
	case 3:
		mustBe(p.t, "Reset", p.l.Reset(row), api.OK)
		p.sure, p.loose = row, nil
	case 4:
		p.d.Crash(int(n) - 1)
		p.sure, p.loose = append(p.sure, p.loose[:wholeOf(p.loose, int(n)-1)]...), nil
		p.open()
	case 5:
		p.d.Append("log.tmp", "older") // of a Reset that did not come far
		p.d.Sync("log.tmp")
		p.open()
	}
}

func (p *played) open() {
	p.t.Helper()
	l, got, err := wal.Open(p.d)
	mustBe(p.t, "Open", err, api.OK)
	mustRecs(p.t, got, append(slices.Clone(p.sure), p.loose...))
	if files := p.d.Files(); len(files) > 1 || len(files) == 1 && files[0] != segment(l.Segment()) {
		p.t.Fatalf("%q, segment %d", files, l.Segment())
	}
	p.l = l
}

func play(t *testing.T, deeds []byte) {
	t.Helper()
	p := played{t: t, d: disk.New()}
	p.open()
	for i := 0; i+1 < len(deeds); i += 2 {
		p.deed(deeds[i], deeds[i+1])
	}
	p.deed(4, 0)
}

func TestAnyDeedsAndCrashes(t *testing.T) {
	for seed := range uint64(1500) {
		x := rand.New(rand.NewPCG(114, seed))
		deeds := make([]byte, 2*x.IntN(60))
		for i := range deeds {
			deeds[i] = byte(x.IntN(256))
		}
		play(t, deeds)
	}
}

func FuzzDeedsAndCrashes(f *testing.F) {
	f.Add([]byte("001122334455"))
	f.Add([]byte{1, 3, 1, 7, 4, 30, 0, 5, 3, 2, 1, 3, 4, 1, 5, 0})
	f.Fuzz(func(t *testing.T, deeds []byte) { play(t, deeds[:min(len(deeds), 200)]) })
}
