package durable_test

import (
	"math"
	"math/rand/v2"
	"slices"
	"testing"

	"latchkey/api"
	"latchkey/disk"
	"latchkey/durable"
)

// wholeOf gives those of the records whose frames are whole within the first keep bytes.
func wholeOf(l []api.Rec, keep int) []api.Rec {
	n := 0
	for n < len(l) && len(framesOf(l[:n+1]...)) <= keep {
		n++
	}
	return l[:n]
}

// unsure tells how many bytes of a disk are not sure.
func unsure(d *disk.Disk) int {
	n := 0
	for _, file := range d.Files() {
		n += d.Unsynced(file)
	}
	return n
}

// mustGoOn looks whether a disk that crashed tells want, and a store on it may be used on.
func mustGoOn(t *testing.T, d *disk.Disk, want api.Durable) {
	t.Helper()
	mustOpen(t, d, want)
	s := mustOpen(t, d, want)
	behind := recs(lock(77, 99, "behind"), promise(107))
	mustPut(t, s, behind, false)
	d.Crash(0)
	want = plainFold(want, behind)
	s = mustOpen(t, d, want)
	want.Base, want.Snap, want.Entries = 77, "later", nil
	mustSnap(t, s, want)
	d.Crash(0)
	mustOpen(t, d, want)
}

// Promise 13.3.

// Of what was written alone a crash keeps a beginning; of what was synced, all.
func TestCrashBehindPuts(t *testing.T) {
	sure := recs(promise(9), lock(3, 9, "c"), lock(2, 9, "b"))
	loose := recs(lock(3, 17, "cc"), promise(25), lock(1, 1, "a"), accept(5, 33))
	size := len(framesOf(loose...))
	for _, base := range []int{0, 2} {
		for keep := -1; keep <= size+1; keep++ {
			d := disk.New()
			s := mustOpen(t, d, api.Durable{})
			state := api.Durable{}
			if base > 0 {
				state = api.Durable{Promised: 5, Base: base, Snap: "table"}
				mustSnap(t, s, state)
			}
			mustPut(t, s, sure[:1], true)
			mustPut(t, s, sure[1:], false)
			mustPut(t, s, loose[:2], true)
			mustPut(t, s, loose[2:], true)
			mustState(t, "State", s.State(), plainFold(plainFold(state, sure), loose))
			d.Crash(keep)
			mustGoOn(t, d, plainFold(plainFold(state, sure), wholeOf(loose, keep)))
		}
	}
}

func TestCrashOfAllAndNone(t *testing.T) {
	for _, keep := range []int{math.MinInt, -1, 0, math.MaxInt} {
		d := disk.New()
		s := mustOpen(t, d, api.Durable{})
		mustPut(t, s, recs(promise(9), lock(1, 9, "a")), true)
		d.Crash(keep)
		want := api.Durable{}
		if keep > 0 {
			want = api.Durable{Promised: 9, Entries: entries(named(1, 9, "a"))}
		}
		mustGoOn(t, d, want)
	}
}

// A crash ahead of any Put, and one behind a Put of no records, which makes sure what was written.
func TestCrashAheadOfPuts(t *testing.T) {
	d := disk.New()
	mustOpen(t, d, api.Durable{})
	d.Crash(5)
	s := mustOpen(t, d, api.Durable{})
	mustTell(t, d)
	mustPut(t, s, recs(promise(9)), true)
	mustPut(t, s, nil, true)
	mustPut(t, s, nil, false)
	d.Crash(0)
	mustGoOn(t, d, api.Durable{Promised: 9})
}

// A Put that is synced is the bytes behind the log, and the sync: between the two it is as one that is written alone.
func TestCrashWithinAPut(t *testing.T) {
	l := recs(lock(2, 17, "bb"), promise(25), lock(4, 25, "d"))
	state := api.Durable{Promised: 9, Base: 2, Snap: "table", Entries: entries(named(3, 9, "c"))}
	for keep := range len(framesOf(l...)) + 1 {
		d := disk.New()
		mustSnap(t, mustOpen(t, d, api.Durable{}), state)
		d.Append("log.1", framesOf(l...))
		d.Crash(keep)
		mustGoOn(t, d, plainFold(state, wholeOf(l, keep)))
	}
}

// snapSteps are what Snap does to a disk whose log has that number, by the words of the chapters 11 and 12.
func snapSteps(d *disk.Disk, number string, next string, state api.Durable) []func() {
	return []func(){
		func() { d.Remove("snap.tmp") },
		func() { d.Append("snap.tmp", snapOf(state.Base, state.Snap)) },
		func() { d.Sync("snap.tmp") },
		func() { d.Rename("snap.tmp", "snap") },
		func() { d.Remove("log.tmp") },
		func() { d.Append("log.tmp", framesOf(durable.Recs(state)...)) },
		func() { d.Sync("log.tmp") },
		func() { d.Rename("log.tmp", next) },
		func() { d.Remove(number) },
	}
}

const (
	snapRenamed = 4 // steps of a Snap from which on the new snapshot counts
	logRenamed  = 8 // and the new log
)

// Behind a crash within a Snap the state is the one ahead of it, or the one behind it, or, between the two, the records of the one ahead above the new snapshot; never one without its promise.
func TestCrashWithinASnap(t *testing.T) {
	before := api.Durable{Promised: 9, Base: 2, Snap: "two", Entries: entries(named(3, 9, "c"), named(4, 9, "d"), named(6, 9, "f"))}
	loose := recs(promise(17), lock(5, 17, "e"))
	after := api.Durable{Promised: 17, Base: 4, Snap: "four", Entries: entries(named(5, 17, "e"), named(6, 9, "f"))}
	for _, older := range []bool{false, true} {
		for done := range logRenamed + 2 {
			for keep, left := 0, 1; keep <= left; keep++ {
				d := disk.New()
				s := mustOpen(t, d, api.Durable{})
				mustSnap(t, s, before)
				mustPut(t, s, loose, true)
				if older {
					lay(t, d, "snap.tmp", "older")
					lay(t, d, "log.tmp", "older")
				}
				for _, step := range snapSteps(d, "log.1", "log.2", after)[:done] {
					step()
				}
				left = unsure(d)
				d.Crash(keep)
				switch {
				case done >= logRenamed:
					mustGoOn(t, d, after)
				case done >= snapRenamed:
					mustGoOn(t, d, plainFold(api.Durable{Base: 4, Snap: "four"}, append(durable.Recs(before), wholeOf(loose, keep)...)))
				default:
					mustGoOn(t, d, plainFold(before, wholeOf(loose, keep)))
				}
			}
		}
	}
}

func TestCrashWithinTheFirstSnap(t *testing.T) {
	after := api.Durable{Promised: 17, Base: 4, Snap: "four", Entries: entries(named(5, 17, "e"))}
	for done := range logRenamed + 1 {
		for keep, left := 0, 1; keep <= left; keep++ {
			d := disk.New()
			for _, step := range snapSteps(d, "log.0", "log.1", after)[:done] {
				step()
			}
			left = unsure(d)
			d.Crash(keep)
			switch {
			case done >= logRenamed:
				mustGoOn(t, d, after)
			case done >= snapRenamed:
				mustGoOn(t, d, api.Durable{Base: 4, Snap: "four"})
			default:
				mustGoOn(t, d, api.Durable{})
			}
		}
	}
}

// The steps above are the ones that Snap takes: behind the last the disk is the same.
func TestSnapTakesThoseSteps(t *testing.T) {
	after := api.Durable{Promised: 17, Base: 4, Snap: "four", Entries: entries(named(5, 17, "e"))}
	a, b := disk.New(), disk.New()
	var s *durable.Store
	for _, d := range []*disk.Disk{a, b} {
		s = mustOpen(t, d, api.Durable{})
		mustPut(t, s, recs(promise(9), lock(1, 9, "a")), true)
	}
	for _, step := range snapSteps(a, "log.1", "log.2", after) {
		step()
	}
	mustSnap(t, s, after)
	mustTell(t, b, tell(a)...)
}

func TestCrashBehindASnap(t *testing.T) {
	d := disk.New()
	s := mustOpen(t, d, api.Durable{})
	mustPut(t, s, recs(promise(9), lock(1, 9, "a"), lock(2, 9, "b")), true)
	state := api.Durable{Promised: 9, Base: 1, Snap: "one", Entries: entries(named(2, 9, "b"))}
	mustSnap(t, s, state) // what was written alone is in it, for sure
	d.Crash(0)
	s = mustOpen(t, d, state)
	mustPut(t, s, recs(lock(3, 17, "c")), true)
	d.Crash(1)
	mustGoOn(t, d, state)
}

// An Open that mends a torn log is a Reset: behind a crash within it the same is told.
func TestCrashWithinAnOpen(t *testing.T) {
	l := recs(promise(9), lock(3, 9, "c"))
	want := api.Durable{Promised: 9, Base: 2, Snap: "two", Entries: entries(named(3, 9, "c"))}
	for done := range 6 {
		for keep, left := 0, 1; keep <= left; keep++ {
			d := disk.New()
			lay(t, d, "snap", snapOf(2, "two"))
			lay(t, d, "log.6", framesOf(l...)+"torn")
			steps := []func(){
				func() { d.Remove("log.tmp") },
				func() { d.Append("log.tmp", framesOf(l...)) },
				func() { d.Sync("log.tmp") },
				func() { d.Rename("log.tmp", "log.7") },
				func() { d.Remove("log.6") },
			}
			for _, step := range steps[:done] {
				step()
			}
			left = unsure(d)
			d.Crash(keep)
			mustGoOn(t, d, want)
		}
	}
}

// played is a store in the midst of a script, with what must be told behind a crash: the state as of what is sure, and the records that may be lost.
type played struct {
	t     *testing.T
	d     *disk.Disk
	s     *durable.Store
	sure  api.Durable
	loose []api.Rec
}

// deed does one step of the script: what says which, n with how much.
func (p *played) deed(what, n byte) {
	p.t.Helper()
	x := rand.New(rand.NewPCG(uint64(what), uint64(n)))
	row := someRecs(x, int(n%4))
	switch what % 7 {
	case 0:
		mustPut(p.t, p.s, row, false)
		p.sure, p.loose = plainFold(p.sure, append(p.loose, row...)), nil
	case 1, 2:
		mustPut(p.t, p.s, row, true)
		p.loose = append(p.loose, row...)
	case 3:
		now := p.s.State() // as a server does: what it knows, without the entries up to some slot
		base := now.Base + 1 + int(n)%3
		now.Base, now.Snap = base, string(rune('a'+n%26))
		now.Entries = slices.DeleteFunc(now.Entries, func(e api.Entry) bool { return e.Slot <= base })
		mustSnap(p.t, p.s, now)
		p.sure, p.loose = now, nil
	case 4:
		p.d.Crash(int(n) - 1)
		p.sure, p.loose = plainFold(p.sure, wholeOf(p.loose, int(n)-1)), nil
		p.open()
	case 5:
		lay(p.t, p.d, "log.tmp", "older") // of a Snap that did not come far
		lay(p.t, p.d, "snap.tmp", "older")
		p.open()
	case 6:
		mustBe(p.t, "Put", p.s.Put(append(row, promise(0)), n%2 == 0), api.ErrArg)
		mustBe(p.t, "Snap", p.s.Snap(api.Durable{Promised: 9}), api.ErrArg)
	}
	mustState(p.t, "State", p.s.State(), plainFold(p.sure, p.loose))
}

func (p *played) open() {
	p.t.Helper()
	p.s = mustOpen(p.t, p.d, plainFold(p.sure, p.loose))
}

func play(t *testing.T, deeds []byte) {
	t.Helper()
	p := played{t: t, d: disk.New()}
	p.open()
	for i := 0; i+1 < len(deeds); i += 2 {
		p.deed(deeds[i], deeds[i+1])
	}
	p.deed(4, 0)
}

func TestAnyDeedsAndCrashes(t *testing.T) {
	for seed := range uint64(1500) {
		x := rand.New(rand.NewPCG(136, seed))
		deeds := make([]byte, 2*x.IntN(60))
		for i := range deeds {
			deeds[i] = byte(x.IntN(256))
		}
		play(t, deeds)
	}
}

func FuzzDeedsAndCrashes(f *testing.F) {
	f.Add([]byte("00112233445566"))
	f.Add([]byte{1, 3, 1, 7, 4, 30, 0, 5, 3, 2, 1, 3, 4, 1, 5, 0, 6, 1})
	f.Fuzz(func(t *testing.T, deeds []byte) { play(t, deeds[:min(len(deeds), 200)]) })
}

// Of any bytes on a disk Open tells a state or ErrFormat, and what it tells is told again.
func FuzzOpen(f *testing.F) {
	f.Add(snapOf(5, "table"), framesOf(promise(9), lock(6, 9, "f")))
	f.Add("", "")
	f.Add("x", framesOf(lock(1, 9, "a"))+"x")
	f.Fuzz(func(t *testing.T, snapshot, log string) {
		d := disk.New()
		if snapshot != "" {
			lay(t, d, "snap", snapshot)
		}
		lay(t, d, "log.1", log)
		s, err := durable.Open(d)
		if err != api.OK {
			mustBe(t, "Open", err, api.ErrFormat)
			return
		}
		mustGoOn(t, d, s.State())
	})
}
