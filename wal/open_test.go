package wal_test

import (
	"encoding/binary"
	"hash/crc32"
	"slices"
	"strings"
	"testing"
	"unsafe"

	"latchkey/api"
	"latchkey/disk"
	"latchkey/wal"
)

// framed gives the frame of a text as chapter 2 tells it.
func framed(text string) string {
	length := binary.LittleEndian.AppendUint32(nil, uint32(len(text)))
	sum := crc32.ChecksumIEEE(append(slices.Clone(length), text...))
	return string(binary.LittleEndian.AppendUint32(length, sum)) + text
}

// framesOf gives the frames of records one behind the other.
func framesOf(l ...api.Rec) string {
	var s strings.Builder
	for _, r := range l {
		s.WriteString(framed(textOf(r)))
	}
	return s.String()
}

func put(t *testing.T, d *disk.Disk, file, s string) {
	t.Helper()
	mustBe(t, "Append "+file, d.Append(file, s), api.OK)
	mustBe(t, "Sync "+file, d.Sync(file), api.OK)
}

func mustBe(t *testing.T, what string, got, want api.Errno) {
	t.Helper()
	if got != want {
		t.Fatalf("%s: %d, want %d", what, got, want)
	}
}

func mustRecs(t *testing.T, got, want []api.Rec) {
	t.Helper()
	if !slices.Equal(got, want) {
		t.Fatalf("%d records %+v, want %d %+v", len(got), got[:min(len(got), 9)], len(want), want[:min(len(want), 9)])
	}
}

// mustOpen opens d and holds the log's number and its records against those that are wanted.
func mustOpen(t *testing.T, d *disk.Disk, number int, want ...api.Rec) *wal.Log {
	t.Helper()
	l, recs, err := wal.Open(d)
	mustBe(t, "Open", err, api.OK)
	if l == nil {
		t.Fatal("no log")
	}
	mustRecs(t, recs, want)
	mustNumber(t, l, number)
	return l
}

func mustNumber(t *testing.T, l *wal.Log, want int) {
	t.Helper()
	if got := l.Segment(); got != want {
		t.Fatalf("Segment: %d, want %d", got, want)
	}
}

// mustHave holds all that is on a disk against files: name, bytes, name, bytes, .. by rising names.
func mustHave(t *testing.T, d *disk.Disk, files ...string) {
	t.Helper()
	var got []string
	for _, file := range d.Files() {
		s, _ := d.Read(file)
		got = append(got, file, s)
	}
	if !slices.Equal(got, files) {
		t.Fatalf("on disk: %.300q, want %.300q", got, files)
	}
}

func mustBeSure(t *testing.T, d *disk.Disk, file string, unsure int) {
	t.Helper()
	if n := d.Unsynced(file); n != unsure {
		t.Fatalf("%s: %d bytes are not sure, want %d", file, n, unsure)
	}
}

// lock is an accept with a name, which a record shares with nothing.
func lock(slot int, name string) api.Rec {
	return accept(slot, 9, api.Cmd{Kind: api.CmdLock, Session: 3, Seq: 1, Name: name})
}

// Promise 11.2.

func TestOpenOfNil(t *testing.T) {
	if l, recs, err := wal.Open(nil); l != nil || len(recs) != 0 || err != api.ErrArg {
		t.Errorf("%v %v %d", l, recs, err)
	}
}

func TestOpenOfNothing(t *testing.T) {
	d := disk.New()
	mustOpen(t, d, 0)
	mustHave(t, d)
	mustOpen(t, d, 0)
	mustOpen(t, &disk.Disk{}, 0)
}

func TestOpenOfWholeFrames(t *testing.T) {
	all := someRecs()
	for n := range len(all) + 1 {
		d := disk.New()
		mustBe(t, "Append", d.Append("log.7", framesOf(all[:n]...)), api.OK) // not synced: that is left, too
		mustOpen(t, d, 7, all[:n]...)
		mustHave(t, d, "log.7", framesOf(all[:n]...))
		mustBeSure(t, d, "log.7", len(framesOf(all[:n]...)))
		mustOpen(t, d, 7, all[:n]...)
	}
}

// Of each beginning of a segment the records that are whole are read, and are alone in the next segment, unless it ends just there.
func TestOpenOfEachBeginning(t *testing.T) {
	all := []api.Rec{promise(9), lock(1, "a"), accept(2, 9, api.Cmd{}), lock(3, strings.Repeat("n", 64)), promise(high), lock(4, "bc")}
	s := framesOf(all...)
	whole := 0
	for size := range len(s) + 1 {
		for whole < len(all) && len(framesOf(all[:whole+1]...)) <= size {
			whole++
		}
		d := disk.New()
		put(t, d, "log.4", s[:size])
		mustMend(t, d, 4, s[:size], all[:whole])
	}
	if whole != len(all) {
		t.Errorf("%d records", whole)
	}
}

// mustMend opens a disk whose segment has the bytes s, of which recs are to be read, and looks at what is there then; twice.
func mustMend(t *testing.T, d *disk.Disk, number int, s string, recs []api.Rec) *wal.Log {
	t.Helper()
	if framesOf(recs...) != s {
		number++
	}
	mustOpen(t, d, number, recs...)
	mustHave(t, d, segment(number), framesOf(recs...))
	mustBeSure(t, d, segment(number), 0)
	l := mustOpen(t, d, number, recs...)
	mustHave(t, d, segment(number), framesOf(recs...))
	return l
}

func TestOpenOfForeignBytesBehind(t *testing.T) {
	some := []api.Rec{promise(9), lock(1, "a")}
	for _, ahead := range [][]api.Rec{nil, some[:1], some} {
		for _, behind := range []string{
			"\x00", "x", "\xff", strings.Repeat("\x00", 7), strings.Repeat("\x00", 8), strings.Repeat("\x00", 100), strings.Repeat("\xff", 8), strings.Repeat("\xff", 100), "log.1",
			framed(""), framed("\x00"), framed("\x01"), framed("\x02"), framed("\x03"), framed("foreign"), framed(promiseText(0)), framed(promiseText(high + 1)), framed(promiseText(1 << 63)),
			framed(promiseText(9)[:8]), framed(promiseText(9) + "\x00"), framed(acceptText(1, 0, api.Cmd{})), framed(acceptText(0, 1, api.Cmd{})), framed(acceptText(1, 1, api.Cmd{Kind: 13})), framed(acceptText(1, 1, api.Cmd{}) + "\x00"),
			framed(promiseText(9))[:16], framed(framed(promiseText(9))), promiseText(9), framed(strings.Repeat("x", api.MaxText)),
		} {
			for _, end := range []string{"", framesOf(promise(17)), framesOf(promise(17), lock(2, "b"))} { // good ones behind do not count
				d := disk.New()
				s := framesOf(ahead...) + behind + end
				put(t, d, "log.1", s)
				mustMend(t, d, 1, s, ahead)
			}
		}
	}
}

func TestOpenOfATurnedBit(t *testing.T) {
	some := []api.Rec{promise(9), lock(1, "abc"), promise(17)}
	s := framesOf(some...)
	for at := range len(s) {
		whole := 0
		for len(framesOf(some[:whole+1]...)) <= at {
			whole++
		}
		for bit := range 8 {
			turned := []byte(s)
			turned[at] ^= 1 << bit
			d := disk.New()
			put(t, d, "log.1", string(turned))
			mustMend(t, d, 1, string(turned), some[:whole])
		}
	}
}

func TestOpenOfAFullSegmentWithForeignBytes(t *testing.T) {
	d := disk.New()
	s := framesOf(promise(9)) + strings.Repeat("x", api.MaxFile-17)
	put(t, d, "log.1", s)
	l := mustMend(t, d, 1, s, []api.Rec{promise(9)})
	mustBe(t, "Append", l.Append([]api.Rec{promise(17)}), api.OK) // there is room again
	mustOpen(t, d, 2, promise(9), promise(17))
}

func TestOpenMadeTheFileBytesSure(t *testing.T) {
	d := disk.New()
	d.Append("log.1", framesOf(promise(9))+"x") // not synced, and yet what is written anew is
	mustOpen(t, d, 2, promise(9))
	d.Crash(0)
	mustOpen(t, d, 2, promise(9))
	mustHave(t, d, "log.2", framesOf(promise(9)))
}

// The greatest number counts, not the last name byte by byte, nor the last file that was made.
func TestOpenOfSeveralSegments(t *testing.T) {
	for _, order := range [][]int{{1, 2, 3}, {3, 2, 1}, {9, 10, 2}, {10, 9}, {99, 100, 1}, {5, 123456789, 99999999}, {1, 1000}, {9999999999999999, 9, 8}, {2, 11, 1, 10, 12, 3}} {
		d := disk.New()
		for _, n := range order {
			put(t, d, segment(n), framesOf(promise(n%high+1), promise(3)))
		}
		most := slices.Max(order)
		mustOpen(t, d, most, promise(most%high+1), promise(3))
		mustHave(t, d, segment(most), framesOf(promise(most%high+1), promise(3)))
	}
}

// It counts also if an older one has more in it.
func TestOpenOfAGreatestSegmentThatIsPoor(t *testing.T) {
	for _, s := range []string{"", "x", strings.Repeat("\x00", 100), framesOf(promise(9))[:16], framesOf(promise(17)), framesOf(promise(17)) + "x"} {
		d := disk.New()
		put(t, d, "log.1", framesOf(someRecs()...))
		put(t, d, "log.2", "x")
		put(t, d, "log.9", s)
		put(t, d, "log.tmp", framesOf(promise(3)))
		var want []api.Rec
		if strings.HasPrefix(s, framesOf(promise(17))) {
			want = []api.Rec{promise(17)}
		}
		mustMend(t, d, 9, s, want)
	}
}

func TestOpenRemovesTheFileThatWasNotRenamed(t *testing.T) {
	for _, tmp := range []string{"", "x", framesOf(promise(17))} {
		d := disk.New()
		put(t, d, "log.3", framesOf(promise(9)))
		d.Append("log.tmp", tmp)
		mustOpen(t, d, 3, promise(9))
		mustHave(t, d, "log.3", framesOf(promise(9)))

		d = disk.New()
		put(t, d, "log.3", framesOf(promise(9))+"x")
		d.Append("log.tmp", tmp)
		mustOpen(t, d, 4, promise(9))
		mustHave(t, d, "log.4", framesOf(promise(9)))

		d = disk.New() // alone: it is no segment, whatever its bytes are
		d.Append("log.tmp", tmp)
		mustOpen(t, d, 0)
		mustHave(t, d)
	}
}

// nearNames are none of a log's: they are neither read nor removed.
var nearNames = []string{
	"log.0", "log.00", "log.01", "log.001", "log.", "log", "log.x", "log.1x", "log.x1", "log.1.", "log.1.1", "log.-1", "log.+1", "log. 1", "log.1 ", "log.1_0", "log.0x1", "log.1e1", "log.\x001", "log.1\x00", "log.\xd9\xa1",
	"log.1\n", "log.10000000000000000", "log.00000000000000001", "log.0000000000000001", "log.99999999999999999", "log.9223372036854775807", "log.9223372036854775808", "log.18446744073709551617", "log." + strings.Repeat("1", 60), "log.0" + strings.Repeat("1", 15),
	"Log.1", "LOG.1", "log.1.tmp", "log.tmp1", "log.tmp.", "log.TMP", "xlog.1", ".log.1", "log,1", "log..1", "log1", "1", "tmp", "snap", "snap.tmp", "a",
}

func TestNamesNearASegments(t *testing.T) {
	for _, name := range nearNames {
		d := disk.New()
		put(t, d, name, framesOf(promise(17))+"x")
		l := mustOpen(t, d, 0)
		mustHave(t, d, name, framesOf(promise(17))+"x")
		mustBe(t, "Append", l.Append([]api.Rec{promise(9)}), api.OK)
		mustBe(t, "Reset", l.Reset([]api.Rec{promise(3)}), api.OK)
		mustOpen(t, d, 2, promise(3))
		if s, err := d.Read(name); s != framesOf(promise(17))+"x" || err != api.OK {
			t.Errorf("%q: %q %d", name, s, err)
		}
	}
}

func TestOtherFilesAreLeftAlone(t *testing.T) {
	for _, s := range []string{framesOf(promise(9)), framesOf(promise(9)) + "x"} {
		d := disk.New()
		for _, name := range nearNames {
			put(t, d, name, "of "+name)
			d.Append(name, "!")
		}
		put(t, d, "log.5", s)
		put(t, d, "log.4", s)
		d.Append("log.tmp", s)
		l, _, _ := wal.Open(d)
		l.Append([]api.Rec{promise(17)})
		l.Reset(nil)
		mustOpen(t, d, l.Segment())
		want := append(slices.Clone(nearNames), segment(l.Segment()))
		slices.Sort(want)
		if got := d.Files(); !slices.Equal(got, want) {
			t.Errorf("%q, want %q", got, want)
		}
		for _, name := range nearNames {
			got, _ := d.Read(name)
			if got != "of "+name+"!" || d.Unsynced(name) != 1 {
				t.Errorf("%q: %q", name, got)
			}
		}
	}
}

func TestFirstResetLeavesLog0(t *testing.T) {
	d := disk.New()
	put(t, d, "log.0", "mine")
	l := mustOpen(t, d, 0)
	mustBe(t, "Reset", l.Reset([]api.Rec{promise(9)}), api.OK)
	mustHave(t, d, "log.0", "mine", "log.1", framesOf(promise(9)))
}

func TestNumbersOfManyDigits(t *testing.T) {
	number := 1
	for digits := 1; digits <= 16; digits++ {
		for _, n := range []int{number, 10*number - 1} {
			d := disk.New()
			put(t, d, segment(n), framesOf(promise(9)))
			mustOpen(t, d, n, promise(9))
			mustHave(t, d, segment(n), framesOf(promise(9)))
		}
		number *= 10
	}
}

// Behind the greatest number there is no next one: nothing is changed, and nothing lost.
func TestGreatestNumber(t *testing.T) {
	const last = 9999999999999999
	d := disk.New()
	put(t, d, segment(last-1), framesOf(promise(9)))
	l := mustOpen(t, d, last-1, promise(9))
	mustBe(t, "Reset to the last", l.Reset([]api.Rec{promise(17)}), api.OK)
	mustNumber(t, l, last)
	mustBe(t, "Append", l.Append([]api.Rec{promise(25)}), api.OK)
	d.Append("log.tmp", "older")
	mustBe(t, "Reset of none", l.Reset([]api.Rec{promise(0)}), api.ErrArg)
	mustBe(t, "Reset past the last", l.Reset([]api.Rec{promise(33)}), api.ErrRange)
	mustNumber(t, l, last)
	mustHave(t, d, segment(last), framesOf(promise(17), promise(25)), "log.tmp", "older")
	l = mustOpen(t, d, last, promise(17), promise(25))
	mustBe(t, "Append", l.Append([]api.Rec{promise(33)}), api.OK)
	mustOpen(t, d, last, promise(17), promise(25), promise(33))

	d = disk.New()
	put(t, d, segment(last), framesOf(promise(9))+"x")
	put(t, d, "log.1", "older")
	put(t, d, "log.tmp", "older")
	if l, recs, err := wal.Open(d); l != nil || len(recs) != 0 || err != api.ErrRange {
		t.Errorf("%v %v %d", l, recs, err)
	}
	mustHave(t, d, "log.1", "older", segment(last), framesOf(promise(9))+"x", "log.tmp", "older")
}

// R4: what one Open hands out, another does not, nor is it what is kept.
func TestOpenGivesNewMemory(t *testing.T) {
	d := disk.New()
	put(t, d, "log.1", framesOf(lock(1, "abc"), lock(2, "abc")))
	_, a, _ := wal.Open(d)
	_, b, _ := wal.Open(d)
	names := []string{a[0].Entry.Cmd.Name, a[1].Entry.Cmd.Name, b[0].Entry.Cmd.Name, b[1].Entry.Cmd.Name}
	for i, name := range names {
		for j := range i {
			if name != "abc" || unsafe.StringData(name) == unsafe.StringData(names[j]) {
				t.Errorf("names %d and %d", i, j)
			}
		}
	}
	a[0], a[1] = promise(1), promise(2)
	for i := range a[:cap(a)] {
		a[:cap(a)][i] = promise(3)
	}
	mustRecs(t, b, []api.Rec{lock(1, "abc"), lock(2, "abc")})
	mustOpen(t, d, 1, lock(1, "abc"), lock(2, "abc"))
	mustHave(t, d, "log.1", framesOf(lock(1, "abc"), lock(2, "abc")))
}

// R5: the same disk gives the same answers, however often.
func TestSameDiskSameAnswers(t *testing.T) {
	for range 50 {
		d := disk.New()
		for n := 1; n <= 40; n++ {
			d.Append(segment(n), framesOf(promise(n))+"x")
			d.Append("other"+segment(n), "x")
		}
		mustOpen(t, d, 41, promise(40))
		if n := len(d.Files()); n != 41 {
			t.Fatalf("%d files", n)
		}
	}
}

func FuzzOpen(f *testing.F) {
	f.Add(framesOf(someRecs()...), "log.1")
	f.Add(framesOf(promise(9))+"x", "log.2")
	f.Add("", "log.tmp")
	f.Fuzz(func(t *testing.T, s, name string) {
		d := disk.New()
		d.Append("log.1", s)
		d.Append(name, "x")
		l, recs, err := wal.Open(d)
		if err != api.OK {
			return // the greatest number
		}
		if got, _ := d.Read(segment(l.Segment())); l.Segment() == 0 || got != framesOf(recs...) {
			t.Errorf("%q: %+v", got, recs)
		}
		mustOpen(t, d, l.Segment(), recs...)
	})
}
