package wal_test

import (
	"math/rand/v2"
	"slices"
	"strconv"
	"strings"
	"testing"
	"unsafe"

	"latchkey/api"
	"latchkey/disk"
	"latchkey/wal"
)

func segment(n int) string { return "log." + strconv.Itoa(n) }

func recs(l ...api.Rec) []api.Rec { return l }

// Promise 11.3.

func TestFirstExample(t *testing.T) {
	d := disk.New()
	l := mustOpen(t, d, 0)
	mustBe(t, "Append", l.Append(recs(promise(9))), api.OK)
	s, _ := d.Read("log.1")
	if len(s) != 8+9 || s[8:] != "\x01\x09\x00\x00\x00\x00\x00\x00\x00" {
		t.Errorf("%q", s)
	}
	mustNumber(t, l, 1)
	mustBeSure(t, d, "log.1", 0)
	mustHave(t, d, "log.1", framesOf(promise(9)))
}

func TestSecondExample(t *testing.T) {
	d := disk.New()
	l := mustOpen(t, d, 0)
	mustBe(t, "Write", l.Write(recs(promise(17), promise(25))), api.OK)
	mustNumber(t, l, 1)
	d.Crash(20)
	mustOpen(t, d, 2, promise(17))
	mustHave(t, d, "log.2", framesOf(promise(17)))
}

func TestAppendIsSureAndWriteIsNot(t *testing.T) {
	d := disk.New()
	l := mustOpen(t, d, 0)
	size := func(r ...api.Rec) int { return len(framesOf(r...)) }
	mustBe(t, "Write", l.Write(recs(promise(9))), api.OK)
	mustBeSure(t, d, "log.1", size(promise(9)))
	mustBe(t, "Write", l.Write(recs(lock(1, "a"), promise(17))), api.OK)
	mustBeSure(t, d, "log.1", size(promise(9), lock(1, "a"), promise(17)))
	mustBe(t, "Append", l.Append(recs(lock(2, "b"))), api.OK) // and those ahead of it are sure, too
	mustBeSure(t, d, "log.1", 0)
	mustBe(t, "Write", l.Write(recs(promise(25))), api.OK)
	mustBeSure(t, d, "log.1", size(promise(25)))
	mustBe(t, "Append", l.Append(recs(promise(33), promise(41))), api.OK)
	mustBeSure(t, d, "log.1", 0)
	mustNumber(t, l, 1)
	all := recs(promise(9), lock(1, "a"), promise(17), lock(2, "b"), promise(25), promise(33), promise(41))
	mustHave(t, d, "log.1", framesOf(all...))
	d.Crash(0)
	mustOpen(t, d, 1, all...)
}

func TestNoRecordsWithoutASegment(t *testing.T) {
	for _, none := range [][]api.Rec{nil, {}, someRecs()[:0]} {
		d := disk.New()
		l := mustOpen(t, d, 0)
		mustBe(t, "Append", l.Append(none), api.OK)
		mustBe(t, "Write", l.Write(none), api.OK)
		mustNumber(t, l, 0)
		mustHave(t, d)
		mustOpen(t, d, 0)
	}
}

func TestNoRecordsWithASegment(t *testing.T) {
	for _, none := range [][]api.Rec{nil, {}, someRecs()[:0]} {
		d := disk.New()
		l := mustOpen(t, d, 0)
		l.Write(recs(promise(9)))
		mustBe(t, "Write", l.Write(none), api.OK)
		mustBeSure(t, d, "log.1", 17)
		mustBe(t, "Append", l.Append(none), api.OK) // what was written alone is sure then
		mustBeSure(t, d, "log.1", 0)
		mustNumber(t, l, 1)
		d.Crash(0)
		mustOpen(t, d, 1, promise(9))
	}
}

// A log that was opened again goes on behind its records, and makes sure what another wrote.
func TestOpenGoesOn(t *testing.T) {
	d := disk.New()
	l := mustOpen(t, d, 0)
	l.Write(recs(promise(9)))
	l = mustOpen(t, d, 1, promise(9))
	mustBeSure(t, d, "log.1", 17)
	mustBe(t, "Append", l.Append(nil), api.OK)
	mustBeSure(t, d, "log.1", 0)
	mustBe(t, "Append", l.Append(recs(lock(1, "a"))), api.OK)
	mustHave(t, d, "log.1", framesOf(promise(9), lock(1, "a")))
	l = mustOpen(t, d, 1, promise(9), lock(1, "a"))
	mustBe(t, "Write", l.Write(recs(lock(2, "b"))), api.OK)
	mustOpen(t, d, 1, promise(9), lock(1, "a"), lock(2, "b"))
}

func TestAppendBehindASegmentWithoutBytes(t *testing.T) {
	d := disk.New()
	l := mustOpen(t, d, 0)
	l.Write(recs(promise(9)))
	d.Crash(0)
	mustHave(t, d, "log.1", "")
	l = mustOpen(t, d, 1)
	mustHave(t, d, "log.1", "")
	mustBe(t, "Append", l.Append(recs(promise(17))), api.OK)
	mustHave(t, d, "log.1", framesOf(promise(17)))
}

func TestManyRecords(t *testing.T) {
	x := rand.New(rand.NewPCG(11, 3))
	some := someRecs()
	d := disk.New()
	l := mustOpen(t, d, 0)
	var all []api.Rec
	for range 300 {
		var now []api.Rec
		for range x.IntN(8) {
			now = append(now, some[x.IntN(len(some))])
		}
		mustBe(t, "Append", l.Append(now), api.OK)
		all = append(all, now...)
	}
	mustHave(t, d, "log.1", framesOf(all...))
	d.Crash(0)
	l = mustOpen(t, d, 1, all...)
	mustBe(t, "Append", l.Append(some), api.OK)
	mustOpen(t, d, 1, append(all, some...)...)
}

func TestOneThatIsNoRecord(t *testing.T) {
	for _, wrong := range wrongRecs() {
		for at := range 3 {
			row := slices.Insert(recs(promise(17), lock(1, "a")), at, wrong)
			for _, ahead := range []int{0, 1, 2} { // without a segment, with one, with one of which a part is not sure
				d := disk.New()
				l := mustOpen(t, d, 0)
				var want []string
				if ahead > 0 {
					l.Append(recs(promise(9)))
					want = []string{"log.1", framesOf(promise(9))}
				}
				if ahead > 1 {
					l.Write(recs(promise(10)))
					want = []string{"log.1", framesOf(promise(9), promise(10))}
				}
				d.Append("log.tmp", "older")
				mustBe(t, "Append", l.Append(row), api.ErrArg)
				mustBe(t, "Write", l.Write(row), api.ErrArg)
				mustBe(t, "Reset", l.Reset(row), api.ErrArg)
				mustHave(t, d, append(want, "log.tmp", "older")...)
				mustBeSure(t, d, "log.1", 17*max(ahead-1, 0))
				mustNumber(t, l, min(ahead, 1))
			}
		}
	}
}

func TestReset(t *testing.T) {
	d := disk.New()
	l := mustOpen(t, d, 0)
	l.Append(recs(promise(9), lock(1, "a")))
	l.Write(recs(lock(2, "b")))
	for n := 2; n <= 30; n++ {
		mustBe(t, "Reset", l.Reset(recs(promise(n), lock(n, "c"))), api.OK)
		mustNumber(t, l, n)
		mustHave(t, d, segment(n), framesOf(promise(n), lock(n, "c")))
		mustBeSure(t, d, segment(n), 0)
	}
	mustBe(t, "Append", l.Append(recs(promise(41))), api.OK)
	mustBe(t, "Write", l.Write(recs(promise(49))), api.OK)
	mustHave(t, d, "log.30", framesOf(promise(30), lock(30, "c"), promise(41), promise(49)))
	mustBeSure(t, d, "log.30", 17)
	d.Crash(0)
	l = mustOpen(t, d, 30, promise(30), lock(30, "c"), promise(41))
	mustBe(t, "Reset", l.Reset(recs(promise(41))), api.OK)
	mustOpen(t, d, 31, promise(41))
}

func TestFirstReset(t *testing.T) {
	d := disk.New()
	l := mustOpen(t, d, 0)
	mustBe(t, "Reset", l.Reset(recs(promise(9))), api.OK)
	mustNumber(t, l, 1)
	mustHave(t, d, "log.1", framesOf(promise(9)))
	mustBeSure(t, d, "log.1", 0)
	mustBe(t, "Append", l.Append(recs(promise(17))), api.OK)
	mustOpen(t, d, 1, promise(9), promise(17))
}

func TestResetOfNoRecords(t *testing.T) {
	d := disk.New()
	l := mustOpen(t, d, 0)
	mustBe(t, "Reset", l.Reset(nil), api.OK) // a segment is made, also if it has nothing in it
	mustNumber(t, l, 1)
	mustHave(t, d, "log.1", "")
	l.Append(recs(promise(9)))
	mustBe(t, "Reset", l.Reset([]api.Rec{}), api.OK)
	mustNumber(t, l, 2)
	mustHave(t, d, "log.2", "")
	l = mustOpen(t, d, 2)
	mustBe(t, "Append", l.Append(nil), api.OK)
	mustBe(t, "Append", l.Append(recs(promise(17))), api.OK)
	mustHave(t, d, "log.2", framesOf(promise(17)))
}

func TestResetWithAnOlderFile(t *testing.T) {
	for _, sure := range []bool{false, true} {
		d := disk.New()
		l := mustOpen(t, d, 0)
		l.Append(recs(promise(9)))
		d.Append("log.tmp", framesOf(promise(33), promise(41))+"x")
		if sure {
			d.Sync("log.tmp")
		}
		mustBe(t, "Reset", l.Reset(recs(promise(17))), api.OK)
		mustHave(t, d, "log.2", framesOf(promise(17)))
		mustBeSure(t, d, "log.2", 0)
		mustOpen(t, d, 2, promise(17))
	}
}

// A segment that somebody else took away is gone, as it is to be.
func TestResetWithoutTheOneAhead(t *testing.T) {
	d := disk.New()
	l := mustOpen(t, d, 0)
	l.Append(recs(promise(9)))
	d.Remove("log.1")
	mustBe(t, "Append of no records", l.Append(nil), api.ErrNoFile)
	mustBe(t, "Reset", l.Reset(recs(promise(17))), api.OK)
	mustOpen(t, d, 2, promise(17))
}

func TestResetOverAnotherFile(t *testing.T) {
	d := disk.New()
	l := mustOpen(t, d, 0)
	l.Append(recs(promise(9)))
	d.Append("log.2", "somebody else's")
	mustBe(t, "Reset", l.Reset(recs(promise(17))), api.OK)
	mustHave(t, d, "log.2", framesOf(promise(17)))
}

func TestLogsAreApart(t *testing.T) {
	d, e := disk.New(), disk.New()
	a, b := mustOpen(t, d, 0), mustOpen(t, e, 0)
	a.Append(recs(promise(9)))
	mustNumber(t, b, 0)
	mustHave(t, e)
	b.Reset(recs(promise(17)))
	b.Reset(recs(promise(25)))
	mustNumber(t, a, 1)
	mustHave(t, d, "log.1", framesOf(promise(9)))
	mustHave(t, e, "log.2", framesOf(promise(25)))
}

// full gives records whose frames have just so many bytes together as a file may have.
func full() []api.Rec {
	var l []api.Rec
	left := api.MaxFile
	for left%17 != 0 { // a frame of 18 bytes beside those of 17
		l = append(l, accept(64, 1, api.Cmd{}))
		left -= 18
	}
	for range left / 17 {
		l = append(l, promise(9))
	}
	return l
}

func TestAFileThatIsFull(t *testing.T) {
	all := full()
	s := framesOf(all...)
	if len(s) != api.MaxFile {
		t.Fatalf("%d bytes", len(s))
	}
	for _, put := range []func(*wal.Log, []api.Rec) api.Errno{(*wal.Log).Append, (*wal.Log).Write, (*wal.Log).Reset} {
		d := disk.New()
		l := mustOpen(t, d, 0)
		mustBe(t, "one too many at once", put(l, append(slices.Clone(all), promise(9))), api.ErrRange)
		mustBe(t, "one more byte at once", put(l, append(slices.Clone(all[1:]), accept(64, 64, api.Cmd{}))), api.ErrRange)
		mustNumber(t, l, 0)
		mustHave(t, d)
		mustBe(t, "just as many", put(l, all), api.OK)
		mustNumber(t, l, 1)
		mustHave(t, d, "log.1", s)
		for range 2 {
			unsure := d.Unsynced("log.1")
			mustBe(t, "Append", l.Append(recs(promise(9))), api.ErrRange)
			mustBe(t, "Write", l.Write(recs(promise(9))), api.ErrRange)
			mustBe(t, "one that is no record is told first", l.Append(recs(promise(9), promise(0))), api.ErrArg)
			mustNumber(t, l, 1)
			mustBeSure(t, d, "log.1", unsure) // nothing was synced by a call that answered an error
			mustHave(t, d, "log.1", s)
			mustBe(t, "Append of no records", l.Append(nil), api.OK)
		}
		mustBeSure(t, d, "log.1", 0)
		mustOpen(t, d, 1, all...)
		mustBe(t, "Reset", l.Reset(recs(promise(17))), api.OK)
		mustBe(t, "Append", l.Append(recs(promise(25))), api.OK) // there is room again
		mustOpen(t, d, 2, promise(17), promise(25))
	}
}

// R2: a Reset that answers an error leaves all as it was, an older file too.
func TestResetWithoutRoom(t *testing.T) {
	d := disk.New()
	l := mustOpen(t, d, 0)
	l.Append(recs(promise(9)))
	l.Write(recs(promise(17)))
	d.Append("log.tmp", "older")
	more := append(full(), promise(9))
	mustBe(t, "Reset", l.Reset(more), api.ErrRange)
	mustBe(t, "Reset, and one is no record", l.Reset(append(more, promise(0))), api.ErrArg)
	mustNumber(t, l, 1)
	mustHave(t, d, "log.1", framesOf(promise(9), promise(17)), "log.tmp", "older")
	mustBeSure(t, d, "log.1", 17)
	mustBe(t, "Append", l.Append(recs(promise(25))), api.OK)
	mustOpen(t, d, 1, promise(9), promise(17), promise(25))
}

func TestOnNil(t *testing.T) {
	var l *wal.Log
	for _, row := range [][]api.Rec{nil, recs(promise(9)), recs(promise(0))} {
		mustBe(t, "Append", l.Append(row), api.ErrArg)
		mustBe(t, "Write", l.Write(row), api.ErrArg)
		mustBe(t, "Reset", l.Reset(row), api.ErrArg)
	}
	mustNumber(t, l, 0)
}

// R1: a log that no Open gave does not panic.
func TestZeroLog(t *testing.T) {
	var l wal.Log
	mustBe(t, "Append", l.Append(recs(promise(9))), api.ErrArg)
	mustBe(t, "Write", l.Write(recs(promise(9))), api.ErrArg)
	mustBe(t, "Reset", l.Reset(recs(promise(9))), api.ErrArg)
	mustNumber(t, &l, 0)
}

// R4: what is handed in is not changed, what lies behind the list's end neither, and it is not looked at again.
func TestWhatIsHandedIn(t *testing.T) {
	name := []byte("abc")
	loose := unsafe.String(&name[0], len(name)) // a text that changes, as none should, tells whether it was kept
	back := recs(lock(1, loose), promise(9), promise(101), promise(102))
	was := recs(lock(1, "abc"), promise(9), promise(101), promise(102))
	d := disk.New()
	l := mustOpen(t, d, 0)
	for _, put := range []func([]api.Rec) api.Errno{l.Reset, l.Append, l.Write} {
		mustBe(t, "put", put(back[:2]), api.OK)
		mustBe(t, "put, and one is no record", put(append(slices.Clone(back[:2]), promise(0))), api.ErrArg)
		mustRecs(t, back, was)
	}
	for i := range back {
		back[i] = promise(77)
	}
	copy(name, "xyz")
	want := recs(lock(1, "abc"), promise(9), lock(1, "abc"), promise(9), lock(1, "abc"), promise(9))
	mustHave(t, d, "log.1", framesOf(want...))
	mustOpen(t, d, 1, want...)
}

// The chapter's words done to another disk by its own calls: plain tells what a log should leave.
type plain struct {
	d      *disk.Disk
	number int
}

func (p *plain) write(l []api.Rec, sync bool) {
	if len(l) > 0 && p.number == 0 {
		p.number = 1
	}
	if len(l) > 0 {
		p.d.Append(segment(p.number), framesOf(l...))
	}
	if sync && p.number > 0 {
		p.d.Sync(segment(p.number))
	}
}

func (p *plain) reset(l []api.Rec) {
	for _, step := range p.resetSteps(l) {
		step()
	}
	p.number++
}

// resetSteps are what a Reset does to the disk, one call each: between two of them a crash may come.
func (p *plain) resetSteps(l []api.Rec) []func() {
	now, next := segment(p.number), segment(p.number+1)
	steps := []func(){
		func() { p.d.Remove("log.tmp") },
		func() { p.d.Append("log.tmp", framesOf(l...)) },
		func() { p.d.Sync("log.tmp") },
		func() { p.d.Rename("log.tmp", next) },
	}
	if p.number > 0 {
		steps = append(steps, func() { p.d.Remove(now) })
	}
	return steps
}

func sameDisks(t *testing.T, a, b *disk.Disk) {
	t.Helper()
	if x, y := a.Files(), b.Files(); !slices.Equal(x, y) {
		t.Fatalf("%q, want %q", x, y)
	}
	for _, file := range a.Files() {
		x, _ := a.Read(file)
		y, _ := b.Read(file)
		if x != y || a.Unsynced(file) != b.Unsynced(file) {
			t.Fatalf("%s: %q with %d not sure, want %q with %d", file, x, a.Unsynced(file), y, b.Unsynced(file))
		}
	}
}

func TestAnyDeedsAgainstThePlainWords(t *testing.T) {
	some := someRecs()
	for seed := range uint64(400) {
		x := rand.New(rand.NewPCG(113, seed))
		d, p := disk.New(), plain{d: disk.New()}
		l := mustOpen(t, d, 0)
		for range x.IntN(40) {
			var row []api.Rec
			for range x.IntN(4) {
				row = append(row, some[x.IntN(len(some))])
			}
			switch x.IntN(8) {
			case 0, 1:
				mustBe(t, "Append", l.Append(row), api.OK)
				p.write(row, true)
			case 2, 3:
				mustBe(t, "Write", l.Write(row), api.OK)
				p.write(row, false)
			case 4:
				mustBe(t, "Reset", l.Reset(row), api.OK)
				p.reset(row)
			case 5:
				mustBe(t, "Append of none", l.Append(append(row, promise(-1))), api.ErrArg)
			case 6:
				for _, e := range []*disk.Disk{d, p.d} {
					e.Append("log.tmp", "older")
				}
			case 7:
				l = mustOpen(t, d, p.number, readPlainly(p.d, p.number)...)
				p.d.Remove("log.tmp")
			}
			mustNumber(t, l, p.number)
			sameDisks(t, d, p.d)
		}
	}
}

// readPlainly gives the records of a segment by trying which of all records stands next.
func readPlainly(d *disk.Disk, number int) []api.Rec {
	var l []api.Rec
	s, _ := d.Read(segment(number))
next:
	for _, r := range someRecs() {
		if rest, ok := strings.CutPrefix(s, framesOf(r)); ok {
			l, s = append(l, r), rest
			goto next
		}
	}
	return l
}
