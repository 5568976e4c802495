package durable_test

import (
	"encoding/binary"
	"hash/crc32"
	"math"
	"math/rand/v2"
	"slices"
	"strconv"
	"strings"
	"testing"
	"unsafe"

	"latchkey/api"
	"latchkey/disk"
	"latchkey/durable"
	"latchkey/snap"
	"latchkey/wal"
)

const longestSnap = api.MaxText - 64

// framed gives the frame of s, as the frame's chapter says it.
func framed(s string) string {
	head := binary.LittleEndian.AppendUint32(nil, uint32(len(s)))
	sum := crc32.ChecksumIEEE(append(slices.Clone(head), s...))
	return string(binary.LittleEndian.AppendUint32(head, sum)) + s
}

// textOf gives the bytes of a record, as the log's chapter says it.
func textOf(r api.Rec) string {
	if r.Kind == api.RecPromise {
		return string(binary.LittleEndian.AppendUint64([]byte{1}, uint64(r.N)))
	}
	c := r.Entry.Cmd
	cmd := binary.AppendVarint(nil, int64(c.Kind))
	cmd = binary.AppendVarint(cmd, int64(c.Session))
	cmd = binary.AppendVarint(cmd, int64(c.Seq))
	cmd = binary.AppendUvarint(cmd, uint64(len(c.Name)))
	cmd = append(cmd, c.Name...)
	cmd = binary.AppendVarint(cmd, int64(c.N))
	b := binary.AppendVarint([]byte{2}, int64(r.Entry.Slot))
	b = binary.AppendVarint(b, int64(r.Entry.Ballot))
	b = binary.AppendUvarint(b, uint64(len(cmd)))
	return string(append(b, cmd...))
}

func framesOf(l ...api.Rec) string {
	var b strings.Builder
	for _, r := range l {
		b.WriteString(framed(textOf(r)))
	}
	return b.String()
}

// snapOf gives the bytes of a snapshot's file, as its chapter says it.
func snapOf(slot int, text string) string {
	b := binary.AppendVarint(nil, int64(slot))
	b = binary.AppendUvarint(b, uint64(len(text)))
	return framed(string(b) + text)
}

// told is all that a disk tells of a file.
type told struct {
	name, bytes string
	unsure      int
}

func (f told) String() string {
	return f.name + " " + strconv.Quote(f.bytes[:min(len(f.bytes), 80)]) + " of " + strconv.Itoa(len(f.bytes)) + ", unsure " + strconv.Itoa(f.unsure)
}

func tell(d *disk.Disk) []told {
	var all []told
	for _, file := range d.Files() {
		s, _ := d.Read(file)
		all = append(all, told{file, s, d.Unsynced(file)})
	}
	return all
}

func mustTell(t *testing.T, d *disk.Disk, want ...told) {
	t.Helper()
	if got := tell(d); !slices.Equal(got, want) {
		t.Fatalf("the disk has %v, not %v", got, want)
	}
}

func mustBe(t *testing.T, what string, got, want api.Errno) {
	t.Helper()
	if got != want {
		t.Fatalf("%s: %d, not %d", what, got, want)
	}
}

// lay appends bytes to a file, for sure.
func lay(t *testing.T, d *disk.Disk, file, s string) {
	t.Helper()
	mustBe(t, "Append", d.Append(file, s), api.OK)
	mustBe(t, "Sync", d.Sync(file), api.OK)
}

func mustOpen(t *testing.T, d *disk.Disk, want api.Durable) *durable.Store {
	t.Helper()
	s, err := durable.Open(d)
	mustBe(t, "Open", err, api.OK)
	mustState(t, "Open", s.State(), want)
	return s
}

func mustNotOpen(t *testing.T, d *disk.Disk, want api.Errno) {
	t.Helper()
	before := tell(d)
	if s, err := durable.Open(d); s != nil || err != want {
		t.Fatalf("Open: %v %d, not %d", s, err, want)
	}
	mustTell(t, d, before...)
}

func mustPut(t *testing.T, s *durable.Store, l []api.Rec, write bool) {
	t.Helper()
	mustBe(t, "Put", s.Put(l, write), api.OK)
}

func mustSnap(t *testing.T, s *durable.Store, d api.Durable) {
	t.Helper()
	mustBe(t, "Snap", s.Snap(d), api.OK)
}

// Promise 13.2.

func TestOpenOfNil(t *testing.T) {
	mustNotOpen(t, nil, api.ErrArg)
}

func TestOpenOfAnEmptyDisk(t *testing.T) {
	d := disk.New()
	mustOpen(t, d, api.Durable{})
	mustOpen(t, d, api.Durable{})
	mustTell(t, d)
	mustOpen(t, &disk.Disk{}, api.Durable{})
}

func TestOpenOfASnapshotAlone(t *testing.T) {
	for _, c := range []struct {
		slot int
		text string
	}{{1, ""}, {5, "x"}, {high, "\x00\xff"}, {9, strings.Repeat("t", longestSnap)}} {
		d := disk.New()
		lay(t, d, "snap", snapOf(c.slot, c.text))
		mustOpen(t, d, api.Durable{Base: c.slot, Snap: c.text})
		mustTell(t, d, told{"snap", snapOf(c.slot, c.text), 0})
	}
}

func TestOpenOfALogAlone(t *testing.T) {
	l := recs(promise(9), lock(3, 9, "c"), lock(1, 17, "a"), lock(3, 9, "d"))
	d := disk.New()
	lay(t, d, "log.1", framesOf(l...))
	mustOpen(t, d, api.Durable{Promised: 17, Entries: entries(named(1, 17, "a"), named(3, 9, "d"))})
	mustTell(t, d, told{"log.1", framesOf(l...), 0})
	empty := disk.New()
	lay(t, empty, "log.4", "")
	mustOpen(t, empty, api.Durable{})
}

// Acceptances at the snapshot's slot and below count for their ballots alone.
func TestOpenOfBoth(t *testing.T) {
	l := recs(promise(9), lock(4, 25, "a"), lock(5, 33, "b"), lock(7, 9, "d"), lock(6, 17, "c"))
	d := disk.New()
	lay(t, d, "snap", snapOf(5, "table"))
	lay(t, d, "log.3", framesOf(l...))
	want := api.Durable{Promised: 33, Base: 5, Snap: "table", Entries: entries(named(6, 17, "c"), named(7, 9, "d"))}
	s := mustOpen(t, d, want)
	mustTell(t, d, told{"log.3", framesOf(l...), 0}, told{"snap", snapOf(5, "table"), 0})
	mustPut(t, s, recs(lock(5, 1, "b"), lock(8, 1, "e")), false)
	want.Entries = append(want.Entries, named(8, 1, "e"))
	mustState(t, "State", s.State(), want)
	mustOpen(t, d, want)
}

// Open does to the log what the log's chapter says, and to the snapshot nothing.
func TestOpenMendsTheLog(t *testing.T) {
	l := recs(promise(9), lock(4, 25, "a"))
	d := disk.New()
	lay(t, d, "snap", snapOf(2, "s"))
	lay(t, d, "snap.tmp", "older")
	lay(t, d, "log.3", framesOf(promise(99)))
	lay(t, d, "log.7", framesOf(l...)+"torn")
	lay(t, d, "log.tmp", "older")
	lay(t, d, "other", "o")
	mustOpen(t, d, api.Durable{Promised: 25, Base: 2, Snap: "s", Entries: entries(named(4, 25, "a"))})
	mustTell(t, d, told{"log.8", framesOf(l...), 0}, told{"other", "o", 0}, told{"snap", snapOf(2, "s"), 0}, told{"snap.tmp", "older", 0})
}

func TestOpenOfAFileThatIsNoSnapshot(t *testing.T) {
	whole := snapOf(5, "table")
	files := []string{"", "x", framed(""), framed("x"), whole[1:], whole + "x", whole + whole, snapOf(0, "s"), snapOf(-1, "s"), snapOf(high+1, "s"), snapOf(1, strings.Repeat("x", longestSnap+1))}
	for size := range len(whole) {
		files = append(files, whole[:size])
	}
	for _, s := range files {
		d := disk.New()
		lay(t, d, "snap", s)
		mustNotOpen(t, d, api.ErrFormat)
		lay(t, d, "log.1", framesOf(promise(9))) // and a log that would be mended is left as it is
		lay(t, d, "log.2", framesOf(promise(9))+"torn")
		lay(t, d, "log.tmp", "older")
		mustNotOpen(t, d, api.ErrFormat)
	}
}

// A log that can't be mended, as there is no number behind its own.
func TestOpenOfALogThatCannotBeMended(t *testing.T) {
	d := disk.New()
	lay(t, d, "log.9999999999999999", framesOf(promise(9))+"torn")
	lay(t, d, "snap", snapOf(5, "s"))
	_, _, want := wal.Open(d)
	mustNotOpen(t, d, want)
	mustBe(t, "wal.Open", want, api.ErrRange)
}

func TestPutIsSureOrNot(t *testing.T) {
	d := disk.New()
	s := mustOpen(t, d, api.Durable{})
	first, second, third := recs(promise(9), lock(1, 9, "a")), recs(promise(17)), recs(lock(3, 25, "c"), lock(2, 25, "b"))
	mustPut(t, s, first, false)
	mustTell(t, d, told{"log.1", framesOf(first...), 0})
	mustState(t, "State", s.State(), api.Durable{Promised: 9, Entries: entries(named(1, 9, "a"))})
	mustPut(t, s, second, true)
	mustTell(t, d, told{"log.1", framesOf(first...) + framesOf(second...), len(framesOf(second...))})
	mustState(t, "State", s.State(), api.Durable{Promised: 17, Entries: entries(named(1, 9, "a"))})
	mustPut(t, s, third, true)
	mustTell(t, d, told{"log.1", framesOf(first...) + framesOf(second...) + framesOf(third...), len(framesOf(second...) + framesOf(third...))})
	want := api.Durable{Promised: 25, Entries: entries(named(1, 9, "a"), named(2, 25, "b"), named(3, 25, "c"))}
	mustState(t, "State", s.State(), want)
	mustPut(t, s, recs(promise(1)), false) // a promise that changes nothing is written, too; all is sure then
	mustTell(t, d, told{"log.1", framesOf(first...) + framesOf(second...) + framesOf(third...) + framesOf(promise(1)), 0})
	mustState(t, "State", s.State(), want)
	mustOpen(t, d, want)
}

func TestPutOfNoRecords(t *testing.T) {
	for _, none := range [][]api.Rec{nil, {}, recs(promise(99))[:0]} {
		d := disk.New()
		s := mustOpen(t, d, api.Durable{})
		mustPut(t, s, none, false)
		mustPut(t, s, none, true)
		mustTell(t, d)
		mustState(t, "State", s.State(), api.Durable{})
		mustPut(t, s, recs(promise(9)), true)
		mustPut(t, s, none, true)
		mustTell(t, d, told{"log.1", framesOf(promise(9)), 17})
		mustPut(t, s, none, false) // makes sure what was written alone
		mustTell(t, d, told{"log.1", framesOf(promise(9)), 0})
		mustState(t, "State", s.State(), api.Durable{Promised: 9})
	}
}

// wrongRecs are none, each by one field or two.
func wrongRecs() []api.Rec {
	e := entry(3, 17)
	l := []api.Rec{
		{}, {N: 9}, {Entry: e}, {Kind: 3, N: 9}, {Kind: 3, Entry: e}, {Kind: -1, N: 9}, {Kind: math.MaxInt, N: 9}, {Kind: math.MinInt, N: 9},
		promise(0), promise(-1), promise(high + 1), promise(math.MinInt), promise(math.MaxInt), {Kind: api.RecPromise, N: 9, Entry: e}, {Kind: api.RecPromise, Entry: e},
		{Kind: api.RecAccept}, {Kind: api.RecAccept, N: 9}, {Kind: api.RecAccept, N: 17, Entry: e}, {Kind: api.RecAccept, N: -1, Entry: e},
	}
	for _, e := range wrongEntries() {
		l = append(l, api.Rec{Kind: api.RecAccept, Entry: e})
	}
	return l
}

// wrongEntries may not stand in a record; but for the last two their slots are 3.
func wrongEntries() []api.Entry {
	c := func(c api.Cmd) api.Entry { return api.Entry{Slot: 3, Ballot: 17, Cmd: c} }
	return []api.Entry{
		entry(3, 0), entry(3, -1), entry(3, high+1), entry(3, math.MaxInt), entry(3, math.MinInt),
		c(api.Cmd{Kind: 13}), c(api.Cmd{Kind: -1}), c(api.Cmd{N: 1}), c(api.Cmd{Kind: api.CmdTerm}), c(api.Cmd{Kind: api.CmdLock, Session: 1, Seq: 1}),
		named(3, 17, ""), named(3, 17, strings.Repeat("n", api.MaxName+1)), c(api.Cmd{Kind: api.CmdLock, Seq: 1, Name: "a"}),
		entry(high+1, 17), entry(math.MaxInt, 17),
	}
}

// full gives records that fill a file to its last byte, of slots from 1 on.
func full() []api.Rec {
	var l []api.Rec
	size := 0
	for slot := 1; api.MaxFile-size > 200; slot++ {
		l = append(l, lock(slot, 9, strings.Repeat("n", 1+slot%64)))
		size += len(framesOf(l[len(l)-1]))
	}
	for left := api.MaxFile - size; left > 0; left = api.MaxFile - size {
		r := promise(9)
		if 17+17 > left || left > 17+64 {
			r = lock(1, 9, strings.Repeat("n", min(max(left-17, 1), 40)))
		}
		l = append(l, r)
		size += len(framesOf(r))
	}
	return l
}

func TestPutOfAsManyAsThereMayBe(t *testing.T) {
	all := full()
	if len(framesOf(all...)) != api.MaxFile {
		t.Fatalf("%d bytes", len(framesOf(all...)))
	}
	want := plainFold(api.Durable{}, all)
	for _, write := range []bool{false, true} {
		d := disk.New()
		s := mustOpen(t, d, api.Durable{})
		mustRefuse(t, d, s, append(slices.Clone(all), promise(17)), write, api.ErrRange)
		mustTell(t, d)
		mustPut(t, s, all, write)
		mustState(t, "State", s.State(), want)
		mustRefuse(t, d, s, recs(promise(17)), write, api.ErrRange)
		mustRefuse(t, d, s, recs(accept(1, 1)), !write, api.ErrRange)
		mustRefuse(t, d, s, recs(promise(17), promise(0)), write, api.ErrArg)
		mustPut(t, s, nil, write)
		mustPut(t, s, nil, false)
		d.Crash(0)
		mustOpen(t, d, want)
	}
}

// mustRefuse puts what is refused, and looks whether anything is changed by that.
func mustRefuse(t *testing.T, d *disk.Disk, s *durable.Store, l []api.Rec, write bool, want api.Errno) {
	t.Helper()
	files, state := tell(d), s.State()
	mustBe(t, "Put", s.Put(l, write), want)
	mustTell(t, d, files...)
	mustState(t, "State", s.State(), state)
}

func TestPutOfOneThatIsNoRecord(t *testing.T) {
	for _, wrong := range wrongRecs() {
		d := disk.New()
		s := mustOpen(t, d, api.Durable{})
		rows := [][]api.Rec{{wrong}, {promise(41), wrong}, {wrong, lock(9, 41, "x")}, {lock(9, 41, "x"), wrong, promise(41)}, {wrong, wrong}}
		for _, write := range []bool{false, true} {
			for _, row := range rows {
				mustRefuse(t, d, s, row, write, api.ErrArg)
			}
		}
		mustTell(t, d)
		mustPut(t, s, recs(promise(9), lock(3, 17, "c")), false)
		mustPut(t, s, recs(promise(25)), true) // not sure, and a Put that is refused does not make it so
		for _, write := range []bool{false, true} {
			for _, row := range rows {
				mustRefuse(t, d, s, row, write, api.ErrArg)
			}
		}
		mustPut(t, s, recs(promise(33)), false)
		mustOpen(t, d, api.Durable{Promised: 33, Entries: entries(named(3, 17, "c"))})
	}
}

func TestSnap(t *testing.T) {
	d := disk.New()
	s := mustOpen(t, d, api.Durable{})
	mustPut(t, s, recs(promise(9), lock(1, 9, "a"), lock(2, 9, "b"), lock(3, 9, "c")), false)
	mustPut(t, s, recs(lock(4, 17, "d")), true)
	state := api.Durable{Promised: 17, Base: 2, Snap: "table", Entries: entries(named(3, 9, "c"), named(4, 17, "d"))}
	mustSnap(t, s, state)
	mustState(t, "State", s.State(), state)
	log := framesOf(promise(17), lock(3, 9, "c"), lock(4, 17, "d"))
	mustTell(t, d, told{"log.2", log, 0}, told{"snap", snapOf(2, "table"), 0})
	mustPut(t, s, recs(lock(2, 25, "x"), lock(5, 25, "e")), false)
	mustTell(t, d, told{"log.2", log + framesOf(lock(2, 25, "x"), lock(5, 25, "e")), 0}, told{"snap", snapOf(2, "table"), 0})
	state.Promised, state.Entries = 25, append(state.Entries, named(5, 25, "e"))
	mustState(t, "State", s.State(), state)
	s = mustOpen(t, d, state)
	state = api.Durable{Base: 5, Snap: ""} // any state may be laid, also one that has less
	mustSnap(t, s, state)
	mustTell(t, d, told{"log.3", "", 0}, told{"snap", snapOf(5, ""), 0})
	mustState(t, "State", s.State(), state)
	mustOpen(t, d, state)
}

func TestSnapOnAnEmptyDisk(t *testing.T) {
	for _, state := range []api.Durable{{Base: 1}, {Base: 1, Entries: entries()}, {Promised: 9, Base: 7, Snap: "s"}, {Promised: 17, Base: 7, Entries: entries(named(8, 17, "h"), entry(high, 3))}} {
		d := disk.New()
		s := mustOpen(t, d, api.Durable{})
		mustSnap(t, s, state)
		mustTell(t, d, told{"log.1", framesOf(durable.Recs(state)...), 0}, told{"snap", snapOf(state.Base, state.Snap), 0})
		mustState(t, "State", s.State(), state)
		mustOpen(t, d, state)
	}
}

// Files that an earlier Save, an earlier Reset left.
func TestSnapBesideOlderFiles(t *testing.T) {
	d := disk.New()
	s := mustOpen(t, d, api.Durable{})
	lay(t, d, "snap.tmp", "older")
	lay(t, d, "log.tmp", "older")
	mustSnap(t, s, api.Durable{Promised: 9, Base: 7, Snap: "s"})
	mustTell(t, d, told{"log.1", framesOf(promise(9)), 0}, told{"snap", snapOf(7, "s"), 0})
}

// Base may fall, too, and what is promised: the state is the one that was handed in.
func TestSnapOfALesserState(t *testing.T) {
	d := disk.New()
	s := mustOpen(t, d, api.Durable{})
	mustSnap(t, s, api.Durable{Promised: 41, Base: 9, Snap: "nine", Entries: entries(entry(10, 41))})
	less := api.Durable{Promised: 9, Base: 3, Snap: "three", Entries: entries(entry(4, 9))}
	mustSnap(t, s, less)
	mustState(t, "State", s.State(), less)
	mustOpen(t, d, less)
	mustPut(t, s, recs(promise(17), lock(5, 9, "e")), false)
	mustOpen(t, d, api.Durable{Promised: 17, Base: 3, Snap: "three", Entries: entries(entry(4, 9), named(5, 9, "e"))})
}

// saved gives a store that has something of everything: a snapshot, a log, records that are not sure.
func saved(t *testing.T) (*disk.Disk, *durable.Store) {
	t.Helper()
	d := disk.New()
	s := mustOpen(t, d, api.Durable{})
	mustSnap(t, s, api.Durable{Promised: 9, Base: 2, Snap: "before", Entries: entries(named(3, 9, "c"))})
	mustPut(t, s, recs(lock(4, 17, "d")), true)
	return d, s
}

// anew gives what is told of a state that was saved when it is opened: the ballots of its entries are promised, whatever it said.
func anew(d api.Durable) api.Durable {
	return plainFold(api.Durable{Base: d.Base, Snap: d.Snap}, durable.Recs(d))
}

// mustSnapOn saves d on a store that has something, and on one that has nothing.
func mustSnapOn(t *testing.T, state api.Durable) {
	t.Helper()
	d, s := saved(t)
	mustSnap(t, s, state)
	mustState(t, "State", s.State(), state)
	mustTell(t, d, told{"log.2", framesOf(durable.Recs(state)...), 0}, told{"snap", snapOf(state.Base, state.Snap), 0})
	mustOpen(t, d, anew(state))
	d = disk.New()
	mustSnap(t, mustOpen(t, d, api.Durable{}), state)
	mustOpen(t, d, anew(state))
}

// mustNotSnap looks whether d is refused, and nothing changed by that.
func mustNotSnap(t *testing.T, what string, state api.Durable, want api.Errno) {
	t.Helper()
	for _, empty := range []bool{false, true} {
		d, s := saved(t)
		if empty {
			d = disk.New()
			s = mustOpen(t, d, api.Durable{})
		}
		lay(t, d, "log.tmp", "older")
		lay(t, d, "snap.tmp", "older")
		files, before := tell(d), s.State()
		mustBe(t, what, s.Snap(state), want)
		mustTell(t, d, files...)
		mustState(t, what, s.State(), before)
		mustPut(t, s, recs(promise(99)), false)
		before.Promised = 99
		mustOpen(t, d, before)
	}
}

func TestSnapOfEachBase(t *testing.T) {
	for _, base := range []int{1, 2, 3, 64, 1 << 31, high - 1, high} {
		mustSnapOn(t, api.Durable{Promised: 9, Base: base, Snap: "s"})
		if base < high {
			mustSnapOn(t, api.Durable{Promised: 9, Base: base, Snap: "s", Entries: entries(entry(base+1, 9))})
		}
	}
	for _, base := range []int{0, -1, -2, -high, math.MinInt, math.MinInt + 1, high + 1, high + 2, 1 << 41, math.MaxInt - 1, math.MaxInt} {
		mustNotSnap(t, "Base", api.Durable{Promised: 9, Base: base, Snap: "s"}, api.ErrArg)
		mustNotSnap(t, "Base", api.Durable{Base: base}, api.ErrArg)
		mustNotSnap(t, "Base", api.Durable{Promised: 9, Base: base, Snap: "s", Entries: entries(entry(5, 9))}, api.ErrArg)
	}
	mustNotSnap(t, "nothing", api.Durable{}, api.ErrArg)
}

func TestSnapOfEachPromise(t *testing.T) {
	for _, n := range []int{0, 1, 2, 9, 1 << 31, high - 1, high} {
		mustSnapOn(t, api.Durable{Promised: n, Base: 5, Snap: "s"})
	}
	for _, n := range []int{-1, -2, -high, math.MinInt, high + 1, 1 << 41, math.MaxInt} {
		mustNotSnap(t, "Promised", api.Durable{Promised: n, Base: 5, Snap: "s"}, api.ErrArg)
		mustNotSnap(t, "Promised", api.Durable{Promised: n, Base: 5, Snap: "s", Entries: entries(entry(6, 9))}, api.ErrArg)
	}
}

func TestSnapOfEachText(t *testing.T) {
	for _, text := range []string{"", "x", "\x00", "\xff\xfe", strings.Repeat("s", longestSnap-1), strings.Repeat("s", longestSnap)} {
		mustSnapOn(t, api.Durable{Promised: 9, Base: 5, Snap: text, Entries: entries(entry(6, 9))})
	}
	for _, size := range []int{longestSnap + 1, longestSnap + 2, api.MaxText, api.MaxText + 1, api.MaxFile + 1} {
		mustNotSnap(t, "Snap", api.Durable{Promised: 9, Base: 5, Snap: strings.Repeat("s", size)}, api.ErrArg)
	}
}

func TestSnapOfEntriesThatRise(t *testing.T) {
	for _, l := range [][]api.Entry{nil, {}, {entry(6, 1)}, {entry(high, high)}, {entry(6, 1), entry(7, 1)}, {entry(7, 9), entry(100, 1), entry(high-1, 3), named(high, 2, "x")}, {named(6, 9, strings.Repeat("n", api.MaxName))}} {
		mustSnapOn(t, api.Durable{Promised: 9, Base: 5, Snap: "s", Entries: l})
		mustSnapOn(t, api.Durable{Base: 5, Snap: "s", Entries: l})
	}
}

func TestSnapOfEntriesThatDoNot(t *testing.T) {
	for _, l := range [][]api.Entry{
		{entry(5, 9)}, {entry(4, 9)}, {entry(1, 9)}, {entry(0, 9)}, {entry(-1, 9)}, {entry(math.MinInt, 9)}, // at Base and below
		{entry(5, 9), entry(6, 9)}, {entry(6, 9), entry(5, 9)}, {entry(7, 9), entry(6, 9)}, {entry(7, 9), entry(7, 9)}, {entry(7, 9), named(7, 9, "x")},
		{entry(6, 9), entry(8, 9), entry(7, 9)}, {entry(6, 9), entry(8, 9), entry(8, 9)}, {entry(8, 9), entry(6, 9), entry(7, 9)}, {entry(6, 9), entry(7, 9), entry(4, 9)},
	} {
		mustNotSnap(t, "Entries", api.Durable{Promised: 9, Base: 5, Snap: "s", Entries: l}, api.ErrArg)
	}
}

func TestSnapOfEntriesThatAreNoRecords(t *testing.T) {
	for _, e := range wrongEntries() {
		ahead, behind := entry(e.Slot-1, 9), entry(e.Slot+1, 9)
		rows := [][]api.Entry{{e}, {ahead, e}}
		if e.Slot == 3 {
			rows = append(rows, entries(e, behind), entries(ahead, e, behind))
		}
		for _, row := range rows {
			mustNotSnap(t, "Entries", api.Durable{Promised: 9, Base: 1, Snap: "s", Entries: row}, api.ErrArg)
			mustNotSnap(t, "Entries", api.Durable{Base: 1, Entries: row}, api.ErrArg)
		}
	}
}

// many gives entries whose records' frames have just that many bytes together, above slot base.
func many(base, bytes int) []api.Entry {
	var l []api.Entry
	for slot := base + 1; bytes > 0; slot++ {
		least := len(framesOf(lock(slot, 9, "n"))) - 1
		n := min(bytes-least, api.MaxName)
		if left := bytes - least - n; left > 0 && left < 40 { // what is left must be a frame, too
			n -= 40
		}
		l = append(l, named(slot, 9, strings.Repeat("n", n)))
		bytes -= least + n
	}
	return l
}

// The log has room for as many records as a file has bytes. Beyond that nothing is saved, and the snapshot is the one so far.
func TestSnapOfAsManyAsThereMayBe(t *testing.T) {
	fits := api.Durable{Promised: 9, Base: 5, Snap: "s", Entries: many(5, api.MaxFile-17)}
	if size := len(framesOf(durable.Recs(fits)...)); size != api.MaxFile {
		t.Fatalf("%d bytes", size)
	}
	mustSnapOn(t, fits)
	fits.Promised, fits.Entries = 0, many(5, api.MaxFile)
	mustSnapOn(t, fits)
	mustNotSnap(t, "a promise more", api.Durable{Promised: 9, Base: 5, Snap: "s", Entries: fits.Entries}, api.ErrRange)
	mustNotSnap(t, "a byte more", api.Durable{Base: 5, Snap: "s", Entries: many(5, api.MaxFile+1)}, api.ErrRange)
	mustNotSnap(t, "much more", api.Durable{Base: 5, Snap: "s", Entries: many(5, 2*api.MaxFile)}, api.ErrRange)
	longer := strings.Repeat("s", longestSnap+1)
	mustNotSnap(t, "two errors", api.Durable{Base: 5, Snap: longer, Entries: many(5, api.MaxFile+1)}, api.ErrArg)
	wrong := append(many(5, api.MaxFile+1), entry(high, 0))
	mustNotSnap(t, "two errors", api.Durable{Base: 5, Snap: "s", Entries: wrong}, api.ErrArg)
}

// A segment whose number is the greatest can't be reset: ErrRange, and nothing is saved.
func TestSnapBehindTheGreatestNumber(t *testing.T) {
	d := disk.New()
	lay(t, d, "log.9999999999999998", framesOf(promise(9)))
	s := mustOpen(t, d, api.Durable{Promised: 9})
	state := api.Durable{Promised: 17, Base: 3, Snap: "s"}
	mustSnap(t, s, state)
	mustTell(t, d, told{"log.9999999999999999", framesOf(promise(17)), 0}, told{"snap", snapOf(3, "s"), 0})
	for range 2 {
		files := tell(d)
		mustBe(t, "Snap", s.Snap(api.Durable{Promised: 25, Base: 4, Snap: "t"}), api.ErrRange)
		mustBe(t, "Snap", s.Snap(api.Durable{Promised: 25, Base: high + 1, Snap: "t"}), api.ErrArg)
		mustBe(t, "Snap", s.Snap(api.Durable{Promised: -1, Base: 4, Snap: "t"}), api.ErrArg)
		mustTell(t, d, files...)
		mustState(t, "State", s.State(), state)
		s = mustOpen(t, d, state)
	}
	mustPut(t, s, recs(promise(33)), false)
	state.Promised = 33
	mustOpen(t, d, state)
}

func TestOnNil(t *testing.T) {
	var s *durable.Store
	mustState(t, "State", s.State(), api.Durable{})
	for _, write := range []bool{false, true} {
		mustBe(t, "Put", s.Put(nil, write), api.ErrArg)
		mustBe(t, "Put", s.Put(recs(promise(9)), write), api.ErrArg)
		mustBe(t, "Put", s.Put(recs(promise(0)), write), api.ErrArg)
	}
	mustBe(t, "Snap", s.Snap(api.Durable{}), api.ErrArg)
	mustBe(t, "Snap", s.Snap(api.Durable{Promised: 9, Base: 5, Snap: "s", Entries: entries(entry(6, 9))}), api.ErrArg)
}

func TestZeroStore(t *testing.T) {
	s := &durable.Store{}
	mustState(t, "State", s.State(), api.Durable{})
	mustBe(t, "Put", s.Put(recs(promise(9)), false), api.ErrArg)
	mustBe(t, "Put", s.Put(recs(promise(9)), true), api.ErrArg)
	mustBe(t, "Snap", s.Snap(api.Durable{Promised: 9, Base: 5}), api.ErrArg)
	mustState(t, "State", s.State(), api.Durable{})
}

func TestStoresAreApart(t *testing.T) {
	d, e := disk.New(), disk.New()
	a, b := mustOpen(t, d, api.Durable{}), mustOpen(t, e, api.Durable{})
	mustPut(t, a, recs(promise(9)), false)
	mustSnap(t, b, api.Durable{Promised: 17, Base: 3, Snap: "b"})
	mustPut(t, a, recs(lock(1, 9, "a")), false)
	mustOpen(t, d, api.Durable{Promised: 9, Entries: entries(named(1, 9, "a"))})
	mustOpen(t, e, api.Durable{Promised: 17, Base: 3, Snap: "b"})
}

func TestPutSharesNoMemory(t *testing.T) {
	d := disk.New()
	s := mustOpen(t, d, api.Durable{})
	k := lend()
	mustSnap(t, s, k.d)
	k.mustBeWhole(t)
	want := plainFold(lend().d, lend().l)
	mustPut(t, s, k.l, true)
	k.mustBeWhole(t)
	k.spoil()
	mustState(t, "State", s.State(), want)
	mustPut(t, s, nil, false)
	mustOpen(t, d, want)
}

func TestSnapSharesNoMemory(t *testing.T) {
	d := disk.New()
	s := mustOpen(t, d, api.Durable{})
	k := lend()
	mustSnap(t, s, k.d)
	k.mustBeWhole(t)
	mustPut(t, s, recs(lock(3, 9, "x"), lock(4, 9, "y"), lock(10, 9, "z")), false) // into the state, not into the list that was handed in
	k.mustBeWhole(t)
	k.spoil()
	mustState(t, "State", s.State(), plainFold(lend().d, recs(lock(3, 9, "x"), lock(4, 9, "y"), lock(10, 9, "z"))))
	other := lend()
	other.d.Base = 0
	mustBe(t, "Snap", s.Snap(other.d), api.ErrArg)
	other.d.Base = 2
	other.mustBeWhole(t)
}

func TestStateSharesNoMemory(t *testing.T) {
	d := disk.New()
	s := mustOpen(t, d, api.Durable{})
	want := plainFold(lend().d, lend().l)
	mustSnap(t, s, want)
	a, b := s.State(), s.State()
	for i := range a.Entries {
		if unsafe.StringData(a.Entries[i].Cmd.Name) == unsafe.StringData(b.Entries[i].Cmd.Name) {
			t.Errorf("the name of slot %d is shared", a.Entries[i].Slot)
		}
	}
	if unsafe.StringData(a.Snap) == unsafe.StringData(b.Snap) {
		t.Error("the snapshot's text is shared")
	}
	clear(a.Entries[:cap(a.Entries)])
	mustState(t, "another answer", b, want)
	mustState(t, "State", s.State(), want)
	mustPut(t, s, recs(lock(3, 41, "x"), lock(90, 41, "y"), lock(80, 41, "z")), false)
	mustState(t, "an answer from before", b, want)
	mustState(t, "State", s.State(), plainFold(want, recs(lock(3, 41, "x"), lock(90, 41, "y"), lock(80, 41, "z"))))
}

// Open's state is not in what the disk has.
func TestOpenSharesNoMemory(t *testing.T) {
	d := disk.New()
	want := plainFold(lend().d, lend().l)
	mustSnap(t, mustOpen(t, d, api.Durable{}), want)
	a, b := mustOpen(t, d, want), mustOpen(t, d, want)
	clear(a.State().Entries)
	mustPut(t, a, recs(lock(3, 41, "x")), true)
	mustState(t, "another store", b.State(), want)
}

// Many Puts of one record each, as a server makes them.
func TestManyPuts(t *testing.T) {
	d := disk.New()
	s := mustOpen(t, d, api.Durable{})
	var all []api.Rec
	for i := range 20000 {
		r := lock(1+i, 1+i%7, "n")
		if i%3 == 1 {
			r = lock(1+i/2, 8, "m")
		}
		all = append(all, r)
		mustPut(t, s, recs(r), i%5 > 0)
	}
	want := plainFold(api.Durable{}, all)
	mustState(t, "State", s.State(), want)
	mustOpen(t, d, want)
}

// plain is a store by the chapter's words: a disk that is done to what the chapters 11 and 12 list, and a state.
type plain struct {
	d     *disk.Disk
	l     *wal.Log
	state api.Durable
}

func openPlain(d *disk.Disk) *plain {
	p := &plain{d: d}
	p.state.Base, p.state.Snap, _ = snap.Load(d)
	var l []api.Rec
	p.l, l, _ = wal.Open(d)
	p.state = plainFold(p.state, l)
	return p
}

func (p *plain) put(l []api.Rec, write bool) api.Errno {
	err := api.OK
	if write {
		err = p.l.Write(l)
	} else {
		err = p.l.Append(l)
	}
	if err == api.OK {
		p.state = plainFold(p.state, l)
	}
	return err
}

func (p *plain) snap(d api.Durable) api.Errno {
	last := d.Base
	for _, e := range d.Entries {
		if _, err := wal.EncodeRec(api.Rec{Kind: api.RecAccept, Entry: e}); err != api.OK || e.Slot <= last {
			return api.ErrArg
		}
		last = e.Slot
	}
	if d.Base < 1 || d.Promised < 0 || d.Promised > high {
		return api.ErrArg
	}
	if err := snap.Save(p.d, d.Base, d.Snap); err != api.OK {
		return err
	}
	p.l.Reset(durable.Recs(d))
	d.Entries = slices.Clone(d.Entries)
	p.state = d
	return api.OK
}

// anyState gives one of which some may not be saved.
func anyState(x *rand.Rand) api.Durable {
	d := someState(x)
	switch x.IntN(12) {
	case 0:
		d.Promised = ints[x.IntN(len(ints))]
	case 1:
		d.Base = ints[x.IntN(len(ints))]
	case 2:
		d.Entries = append(d.Entries, entry(1+x.IntN(14), x.IntN(3)))
	}
	return d
}

func TestAnyDeedsAgainstThePlainWords(t *testing.T) {
	for seed := range uint64(1500) {
		x := rand.New(rand.NewPCG(135, seed))
		a, b := disk.New(), disk.New()
		s, p := mustOpen(t, a, api.Durable{}), openPlain(b)
		for range 20 {
			switch x.IntN(8) {
			case 0:
				d := anyState(x)
				mustBe(t, "Snap", s.Snap(d), p.snap(d))
			case 1:
				p = openPlain(b)
				s = mustOpen(t, a, p.state)
			case 2:
				keep := x.IntN(120)
				a.Crash(keep)
				b.Crash(keep)
				p = openPlain(b)
				s = mustOpen(t, a, p.state)
			case 3:
				l := append(someRecs(x, x.IntN(3)), wrongRecs()[x.IntN(len(wrongRecs()))])
				write := x.IntN(2) == 0
				mustBe(t, "Put", s.Put(l, write), p.put(l, write))
			default:
				l, write := someRecs(x, x.IntN(5)), x.IntN(2) == 0
				mustBe(t, "Put", s.Put(l, write), p.put(l, write))
			}
			mustState(t, "State", s.State(), p.state)
			mustTell(t, a, tell(b)...)
		}
	}
}
