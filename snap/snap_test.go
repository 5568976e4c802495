package snap_test

import (
	"encoding/binary"
	"hash/crc32"
	"math"
	"math/rand/v2"
	"slices"
	"strconv"
	"strings"
	"testing"
	"unsafe"

	"latchkey/api"
	"latchkey/disk"
	"latchkey/snap"
)

const (
	greatestSlot = 1 << 40
	longestText  = api.MaxText - 64
)

// digits gives n seven bits to a byte, as the codec's chapter says it.
func digits(n uint64) string { return string(binary.AppendUvarint(nil, n)) }

// body gives what stands in a snapshot's frame.
func body(slot int, text string) string {
	return string(binary.AppendVarint(nil, int64(slot))) + digits(uint64(len(text))) + text
}

// framed gives the frame of s, as the frame's chapter says it.
func framed(s string) string {
	head := binary.LittleEndian.AppendUint32(nil, uint32(len(s)))
	sum := crc32.ChecksumIEEE(append(slices.Clone(head), s...))
	return string(binary.LittleEndian.AppendUint32(head, sum)) + s
}

// bytesOf gives the bytes of the file snap.
func bytesOf(slot int, text string) string { return framed(body(slot, text)) }

// allBytes gives a text in which each byte stands.
func allBytes() string {
	var b []byte
	for i := range 256 {
		b = append(b, byte(i))
	}
	return string(b)
}

func mustBe(t *testing.T, what string, got, want api.Errno) {
	t.Helper()
	if got != want {
		t.Fatalf("%s: %d, not %d", what, got, want)
	}
}

func mustSave(t *testing.T, d *disk.Disk, slot int, text string) {
	t.Helper()
	mustBe(t, "Save", snap.Save(d, slot, text), api.OK)
}

func mustLoad(t *testing.T, d *disk.Disk, slot int, text string) {
	t.Helper()
	n, s, err := snap.Load(d)
	if n != slot || s != text || err != api.OK {
		t.Fatalf("Load: %d, %.40q of %d bytes, %d; not %d, %.40q of %d bytes", n, s, len(s), err, slot, text, len(text))
	}
}

func mustNotLoad(t *testing.T, d *disk.Disk, want api.Errno) {
	t.Helper()
	if n, s, err := snap.Load(d); n != 0 || s != "" || err != want {
		t.Fatalf("Load: %d, %.40q, %d; not 0, \"\", %d", n, s, err, want)
	}
}

// put appends bytes to a file, for sure.
func put(t *testing.T, d *disk.Disk, file, s string) {
	t.Helper()
	mustBe(t, "Append", d.Append(file, s), api.OK)
	mustBe(t, "Sync", d.Sync(file), api.OK)
}

// on gives a disk whose file snap has these bytes.
func on(t *testing.T, s string) *disk.Disk {
	t.Helper()
	d := disk.New()
	put(t, d, "snap", s)
	return d
}

// told is all that a disk tells of a file.
type told struct {
	name, bytes string
	unsure      int
}

func (f told) String() string {
	return f.name + " " + strconv.Quote(f.bytes[:min(len(f.bytes), 60)]) + " of " + strconv.Itoa(len(f.bytes)) + ", unsure " + strconv.Itoa(f.unsure)
}

func tell(d *disk.Disk) []told {
	var all []told
	for _, file := range d.Files() {
		s, _ := d.Read(file)
		all = append(all, told{file, s, d.Unsynced(file)})
	}
	return all
}

func mustTell(t *testing.T, d *disk.Disk, want ...told) {
	t.Helper()
	if got := tell(d); !slices.Equal(got, want) {
		t.Fatalf("the disk has %v, not %v", got, want)
	}
}

// Promise 12.1.

func TestExamples(t *testing.T) {
	d := disk.New()
	mustNotLoad(t, d, api.ErrNoFile)
	mustTell(t, d)
	mustSave(t, d, 5, "x")
	mustLoad(t, d, 5, "x")
}

// The disk, byte by byte: written out here by hand.
func TestBytes(t *testing.T) {
	d := disk.New()
	mustSave(t, d, 5, "x")
	s, err := d.Read("snap")
	mustBe(t, "Read", err, api.OK)
	if len(s) != 11 || s[:4] != "\x03\x00\x00\x00" || s[8:] != "\x0a\x01x" {
		t.Errorf("%q", s)
	}
	mustTell(t, d, told{"snap", bytesOf(5, "x"), 0})
	mustSave(t, d, 64, "ab") // twice 64 is 128, of two bytes
	s, _ = d.Read("snap")
	if len(s) != 13 || s[:4] != "\x05\x00\x00\x00" || s[8:] != "\x80\x01\x02ab" {
		t.Errorf("%q", s)
	}
	mustTell(t, d, told{"snap", bytesOf(64, "ab"), 0})
}

func TestOneBehindTheOther(t *testing.T) {
	d := disk.New()
	for i := range 300 {
		slot, text := 1+i*i%97, strings.Repeat(string(rune('a'+i%26)), i%41)
		mustSave(t, d, slot, text) // slots may fall, too
		mustLoad(t, d, slot, text)
		mustLoad(t, d, slot, text)
		mustTell(t, d, told{"snap", bytesOf(slot, text), 0})
	}
}

func TestSlotsThatMayBe(t *testing.T) {
	d := disk.New()
	for _, slot := range []int{1, 2, 63, 64, 8191, 8192, 1<<31 - 1, 1 << 31, 1 << 32, greatestSlot - 1, greatestSlot} {
		mustSave(t, d, slot, "s")
		mustLoad(t, d, slot, "s")
		mustTell(t, d, told{"snap", bytesOf(slot, "s"), 0})
	}
}

func TestSlotsThatMayNotBe(t *testing.T) {
	for _, slot := range []int{0, -1, -5, greatestSlot + 1, 2 * greatestSlot, -greatestSlot, math.MinInt, math.MinInt + 1, math.MaxInt, math.MaxInt - 1} {
		for _, text := range []string{"", "x", strings.Repeat("x", longestText+1)} {
			d := disk.New()
			mustBe(t, "Save", snap.Save(d, slot, text), api.ErrArg)
			mustTell(t, d)
			mustNotLoad(t, d, api.ErrNoFile)
		}
	}
}

func TestTextsThatMayBe(t *testing.T) {
	d := disk.New()
	texts := []string{"", "\x00", "\xff", "é", allBytes(), bytesOf(3, "inner"), "snap", strings.Repeat("x", 127), strings.Repeat("x", 128)}
	for size := longestText - 2; size <= longestText; size++ {
		texts = append(texts, strings.Repeat("\x80", size))
	}
	for _, slot := range []int{1, 7, greatestSlot} {
		for _, text := range texts {
			mustSave(t, d, slot, text)
			mustLoad(t, d, slot, text)
			mustTell(t, d, told{"snap", bytesOf(slot, text), 0})
		}
	}
}

func TestTextsThatMayNotBe(t *testing.T) {
	for _, size := range []int{longestText + 1, longestText + 2, api.MaxText - 1, api.MaxText, api.MaxText + 1, api.MaxFile + 1} {
		d := disk.New()
		mustBe(t, "Save", snap.Save(d, 1, strings.Repeat("x", size)), api.ErrArg)
		mustTell(t, d)
		mustNotLoad(t, d, api.ErrNoFile)
	}
}

// A Save that is refused has changed nothing: not the snapshot, not an older snap.tmp, nor what is sure of it.
func TestRefusedSaveChangesNothing(t *testing.T) {
	d := disk.New()
	mustSave(t, d, 5, "x")
	put(t, d, "snap.tmp", "old")
	d.Append("snap.tmp", "er")
	want := tell(d)
	for _, slot := range []int{0, -1, greatestSlot + 1} {
		mustBe(t, "Save", snap.Save(d, slot, "y"), api.ErrArg)
		mustTell(t, d, want...)
	}
	mustBe(t, "Save", snap.Save(d, 6, strings.Repeat("x", longestText+1)), api.ErrArg)
	mustTell(t, d, want...)
	mustLoad(t, d, 5, "x")
}

func TestSaveOverAnOlderTemp(t *testing.T) {
	for _, older := range []string{"", "half", bytesOf(9, "older"), bytesOf(9, "older")[:9], strings.Repeat("x", api.MaxFile)} {
		for _, sure := range []bool{false, true} {
			for _, ahead := range []bool{false, true} {
				d := disk.New()
				if ahead {
					mustSave(t, d, 5, "x")
				}
				mustBe(t, "Append", d.Append("snap.tmp", older), api.OK)
				if sure {
					d.Sync("snap.tmp")
				}
				mustSave(t, d, 6, "yy")
				mustTell(t, d, told{"snap", bytesOf(6, "yy"), 0})
				d.Crash(0)
				mustLoad(t, d, 6, "yy")
			}
		}
	}
}

// What was in snap is gone, whatever it was: also a file that has no room for a byte more.
func TestSaveOverAnOlderSnap(t *testing.T) {
	for _, older := range []string{"", "half", bytesOf(9, strings.Repeat("o", 500)), strings.Repeat("x", api.MaxFile)} {
		d := on(t, older)
		d.Append("snap", "loose") // where there is room
		mustSave(t, d, 6, "yy")
		mustTell(t, d, told{"snap", bytesOf(6, "yy"), 0})
		mustLoad(t, d, 6, "yy")
	}
}

// A file has more room than a snapshot needs, and snap.tmp is new: so the disk never lacks it, full as other files may be.
func TestSaveBesideFullFiles(t *testing.T) {
	full := strings.Repeat("f", api.MaxFile)
	d := disk.New()
	for _, file := range []string{"snap", "snap.tmp", "log.1", "z"} {
		put(t, d, file, full)
		mustBe(t, "Append", d.Append(file, "x"), api.ErrRange)
	}
	text := strings.Repeat("x", longestText)
	mustSave(t, d, greatestSlot, text)
	mustLoad(t, d, greatestSlot, text)
	mustTell(t, d, told{"log.1", full, 0}, told{"snap", bytesOf(greatestSlot, text), 0}, told{"z", full, 0})
}

func TestLoadWithoutAFile(t *testing.T) {
	d := disk.New()
	mustNotLoad(t, d, api.ErrNoFile)
	put(t, d, "snap.tmp", bytesOf(5, "x"))
	mustNotLoad(t, d, api.ErrNoFile)
	for _, file := range []string{"snap2", "Snap", "sna", "snap ", "snap.1", "log.1"} {
		put(t, d, file, bytesOf(5, "x"))
	}
	mustNotLoad(t, d, api.ErrNoFile)
	put(t, d, "snap", bytesOf(6, "y"))
	mustLoad(t, d, 6, "y")
	mustBe(t, "Remove", d.Remove("snap"), api.OK)
	mustNotLoad(t, d, api.ErrNoFile)
}

// What Save could have laid is read, whoever laid it, sure or not.
func TestLoadOfWhatOthersLaid(t *testing.T) {
	d := disk.New()
	d.Append("snap", bytesOf(5, "x"))
	mustLoad(t, d, 5, "x")
	for _, slot := range []int{1, greatestSlot} {
		for _, text := range []string{"", allBytes(), strings.Repeat("x", longestText)} {
			mustLoad(t, on(t, bytesOf(slot, text)), slot, text)
		}
	}
}

func TestLoadOfNoFrame(t *testing.T) {
	whole := bytesOf(5, "some text")
	for size := range len(whole) { // no bytes at all, up to one less than the frame
		mustNotLoad(t, on(t, whole[:size]), api.ErrFormat)
	}
	for _, behind := range []string{"x", "\x00", whole, whole[:8], bytesOf(6, "y"), framed("")} {
		mustNotLoad(t, on(t, whole+behind), api.ErrFormat)
		mustNotLoad(t, on(t, behind[:1]+whole), api.ErrFormat)
	}
	long := "\x01\x00\x08\x00" // a length of MaxText and one more
	mustNotLoad(t, on(t, long+"\x00\x00\x00\x00"+strings.Repeat("x", api.MaxText+1)), api.ErrFormat)
	mustNotLoad(t, on(t, strings.Repeat("\xff", 40)), api.ErrFormat)
	mustNotLoad(t, on(t, strings.Repeat("x", api.MaxFile)), api.ErrFormat)
	mustNotLoad(t, on(t, body(5, "some text")), api.ErrFormat)
}

func TestLoadOfATurnedBit(t *testing.T) {
	for _, text := range []string{"", "x", "some text"} {
		whole := bytesOf(77, text)
		for bit := range 8 * len(whole) {
			b := []byte(whole)
			b[bit/8] ^= 1 << (bit % 8)
			mustNotLoad(t, on(t, string(b)), api.ErrFormat)
		}
	}
}

// Frames that are whole, whose text is none of a snapshot.
func TestLoadOfAFrameThatSaveDoesNotLay(t *testing.T) {
	for _, s := range []string{
		"",             // neither number nor text
		"\x0a",         // the number alone
		"\x0a\x01",     // a text that is not there
		"\x0a\x02x",    // one that ends within
		"\x8a",         // a number that ends within
		"\x0a\x80",     // a length that ends within
		"\x0a\x01xy",   // a byte behind
		"\x0a\x00\x00", // behind the text of no bytes, too
		body(5, "x") + body(5, "x"),
		"\x8a\x00\x01x", // the slot in more bytes than it needs
		"\x8a\x80\x00\x01x",
		"\x0a\x81\x00x", // the length likewise
		"\x00\x01x",     // slot 0
		body(-1, "x"), body(-5, "x"),
		body(greatestSlot+1, "x"), body(2*greatestSlot, "x"),
		body(math.MaxInt, "x"), body(math.MinInt, "x"),
		strings.Repeat("\xff", 9) + "\x01\x01x", // the greatest number of 64 bits, which is a slot below 0
		strings.Repeat("\xff", 9) + "\x02\x01x", // more than 64 bits
		"\x0a" + digits(1<<63) + "x",            // a length that is no int
		"\x0a" + digits(math.MaxUint64) + "x",
		"\x01x\x0a", // the text ahead of the slot
		body(5, strings.Repeat("x", longestText+1)),
		body(1, strings.Repeat("x", api.MaxText-4)),
		body(5, strings.Repeat("x", api.MaxText-4)),
		body(0, ""), body(greatestSlot+1, ""),
		body(0, strings.Repeat("x", longestText+1)),
	} {
		mustNotLoad(t, on(t, framed(s)), api.ErrFormat)
	}
}

// A file that is no snapshot is left as it is, and a Save mends it.
func TestLoadChangesNothing(t *testing.T) {
	d := on(t, bytesOf(5, "x")+"z")
	d.Append("snap", "loose")
	put(t, d, "snap.tmp", bytesOf(6, "y"))
	want := tell(d)
	mustNotLoad(t, d, api.ErrFormat)
	mustNotLoad(t, d, api.ErrFormat)
	mustTell(t, d, want...)
	mustSave(t, d, 7, "z")
	mustLoad(t, d, 7, "z")
	d.Append("snap", "z")
	mustNotLoad(t, d, api.ErrFormat)
	d.Crash(0)
	mustLoad(t, d, 7, "z")
	put(t, d, "snap.tmp", bytesOf(6, "y"))
	want = tell(d)
	mustLoad(t, d, 7, "z")
	mustTell(t, d, want...)
}

func TestOtherFilesAreLeftAlone(t *testing.T) {
	d := disk.New()
	var others []told
	for _, file := range []string{"Snap", "log.1", "log.tmp", "sna", "snap.", "snap.1", "snap.tmp2", "snaps", "tmp"} {
		put(t, d, file, "sure of "+file)
		d.Append(file, "loose")
		others = append(others, told{file, "sure of " + file + "loose", len("loose")})
	}
	mustSave(t, d, 5, "x")
	mustSave(t, d, 6, "y")
	mustLoad(t, d, 6, "y")
	got := tell(d)
	at := slices.IndexFunc(got, func(f told) bool { return f.name == "snap" })
	if at < 0 || got[at] != (told{"snap", bytesOf(6, "y"), 0}) {
		t.Fatalf("%v", got)
	}
	if got = slices.Delete(got, at, at+1); !slices.Equal(got, others) {
		t.Errorf("%v, not %v", got, others)
	}
}

func TestNil(t *testing.T) {
	mustBe(t, "Save", snap.Save(nil, 5, "x"), api.ErrArg)
	mustBe(t, "Save", snap.Save(nil, 0, ""), api.ErrArg)
	mustBe(t, "Save", snap.Save(nil, math.MinInt, strings.Repeat("x", longestText+1)), api.ErrArg)
	mustNotLoad(t, nil, api.ErrArg)
}

// A disk's zero value has no files, and may be used.
func TestZeroDisk(t *testing.T) {
	d := &disk.Disk{}
	mustNotLoad(t, d, api.ErrNoFile)
	mustBe(t, "Save", snap.Save(d, 0, "x"), api.ErrArg)
	mustSave(t, d, 5, "x")
	mustLoad(t, d, 5, "x")
}

func TestTwoDisks(t *testing.T) {
	a, b := disk.New(), disk.New()
	mustSave(t, a, 5, "x")
	mustNotLoad(t, b, api.ErrNoFile)
	mustSave(t, b, 6, "y")
	mustLoad(t, a, 5, "x")
	mustLoad(t, b, 6, "y")
}

// A caller may go on with the memory that it handed in: neither was it changed, nor is it kept.
func TestHandedInIsNotKept(t *testing.T) {
	memory := []byte(allBytes())
	d := disk.New()
	mustSave(t, d, 5, unsafe.String(unsafe.SliceData(memory), len(memory)))
	if string(memory) != allBytes() {
		t.Error("Save changed the text")
	}
	for i := range memory {
		memory[i] = 'z'
	}
	mustLoad(t, d, 5, allBytes())
	mustTell(t, d, told{"snap", bytesOf(5, allBytes()), 0})
}

// What is handed out is the caller's alone: whoever writes there changes neither the disk nor another answer.
func TestHandedOutIsNew(t *testing.T) {
	d := disk.New()
	mustSave(t, d, 5, allBytes())
	_, a, _ := snap.Load(d)
	_, b, _ := snap.Load(d)
	if unsafe.StringData(a) == unsafe.StringData(b) {
		t.Fatal("two answers share memory")
	}
	memory := unsafe.Slice(unsafe.StringData(a), len(a))
	for i := range memory {
		memory[i] = 'z'
	}
	if b != allBytes() {
		t.Error("another answer changed")
	}
	mustLoad(t, d, 5, allBytes())
	mustTell(t, d, told{"snap", bytesOf(5, allBytes()), 0})
}

// The same calls on new disks have the same answers, and leave the same bytes.
func TestSameAgain(t *testing.T) {
	run := func() []string {
		d, answers := disk.New(), []string(nil)
		for i := range 40 {
			err := snap.Save(d, i*7%13, strings.Repeat("t", i*5%17))
			n, s, why := snap.Load(d)
			raw, _ := d.Read("snap")
			answers = append(answers, strconv.Itoa(int(err))+" "+strconv.Itoa(n)+" "+s+" "+strconv.Itoa(int(why))+" "+raw)
		}
		return answers
	}
	want := run()
	for range 20 {
		if got := run(); !slices.Equal(got, want) {
			t.Fatalf("%q, not %q", got, want)
		}
	}
}

// Promise 12.2.

// saveSteps are the steps of a Save, as the chapter names them, on a disk that has an older snap.tmp or none.
func saveSteps(d *disk.Disk, slot int, text string) []func() {
	return []func(){
		func() { d.Remove("snap.tmp") },
		func() { d.Append("snap.tmp", bytesOf(slot, text)) },
		func() { d.Sync("snap.tmp") },
		func() { d.Rename("snap.tmp", "snap") },
	}
}

func unsure(d *disk.Disk) int {
	n := 0
	for _, file := range d.Files() {
		n += d.Unsynced(file)
	}
	return n
}

// atEachCrash lays a new disk, does the first steps of a Save, more at each turn, and crashes it in each way that there is.
func atEachCrash(t *testing.T, lay func(d *disk.Disk), slot int, text string, look func(d *disk.Disk, whole bool)) {
	t.Helper()
	all := len(saveSteps(nil, slot, text))
	for done := range all + 1 {
		for keep, most := -1, 0; keep <= most+1; keep++ {
			d := disk.New()
			lay(d)
			for _, step := range saveSteps(d, slot, text)[:done] {
				step()
			}
			most = unsure(d)
			d.Crash(keep)
			look(d, done == all)
		}
	}
}

// mustGoOn tells whether snapshots may be saved behind a crash.
func mustGoOn(t *testing.T, d *disk.Disk) {
	t.Helper()
	mustSave(t, d, 77, "behind")
	d.Crash(0)
	mustLoad(t, d, 77, "behind")
	if s, _ := d.Read("snap"); s != bytesOf(77, "behind") || slices.Contains(d.Files(), "snap.tmp") {
		t.Fatalf("%v", tell(d))
	}
}

func TestCrashWithinASave(t *testing.T) {
	for _, older := range []string{"", "half", bytesOf(9, "older")} {
		for _, loose := range []string{"", "loose bytes"} {
			atEachCrash(t, func(d *disk.Disk) {
				mustSave(t, d, 5, "x")
				d.Append("snap.tmp", older)
				d.Append("log.1", loose)
			}, 6, "some text", func(d *disk.Disk, whole bool) {
				if whole {
					mustLoad(t, d, 6, "some text")
				} else {
					mustLoad(t, d, 5, "x")
				}
				mustGoOn(t, d)
			})
		}
	}
}

func TestCrashWithinTheFirstSave(t *testing.T) {
	for _, older := range []string{"", "half", bytesOf(9, "older")} {
		atEachCrash(t, func(d *disk.Disk) { d.Append("snap.tmp", older) }, 6, "some text", func(d *disk.Disk, whole bool) {
			if whole {
				mustLoad(t, d, 6, "some text")
			} else {
				mustNotLoad(t, d, api.ErrNoFile)
			}
			mustGoOn(t, d)
		})
	}
}

// The Save itself leaves just what these steps leave, so that what holds behind the last of them holds behind it.
func TestSaveIsItsSteps(t *testing.T) {
	for _, older := range []string{"", "half", bytesOf(9, "older")} {
		a, b := disk.New(), disk.New()
		for _, d := range []*disk.Disk{a, b} {
			mustSave(t, d, 5, "x")
			d.Append("snap.tmp", older)
			d.Append("log.1", "loose")
		}
		for _, step := range saveSteps(a, 6, "some text") {
			step()
		}
		mustSave(t, b, 6, "some text")
		mustTell(t, b, tell(a)...)
	}
}

// Behind a Save none of its bytes is lost, keep what the crash may; nor takes it a byte of what the crash keeps elsewhere.
func TestCrashBehindASave(t *testing.T) {
	for keep := -1; keep <= 12; keep++ {
		d := disk.New()
		mustSave(t, d, 5, "x")
		d.Append("log.1", "loose")
		mustSave(t, d, 6, "some text")
		d.Append("log.1", "bytes")
		d.Crash(keep)
		mustTell(t, d, told{"log.1", "loosebytes"[:min(max(keep, 0), 10)], 0}, told{"snap", bytesOf(6, "some text"), 0})
		mustLoad(t, d, 6, "some text")
		d.Crash(keep)
		mustLoad(t, d, 6, "some text")
	}
}

// Saves that are done, begun, refused, and crashes, in any order: it is always the last one that was saved whole.
func TestRandomScripts(t *testing.T) {
	for seed := range uint64(300) {
		r := rand.New(rand.NewPCG(seed, 12))
		d := disk.New()
		slot, text := 0, "" // of the last that was saved whole; slot 0: there is none
		for range 60 {
			n, s := 1+r.IntN(greatestSlot), randomText(r)
			switch r.IntN(6) {
			case 0, 1:
				mustSave(t, d, n, s)
				slot, text = n, s
			case 2:
				steps := saveSteps(d, n, s)
				for _, step := range steps[:r.IntN(len(steps))] {
					step()
				}
			case 3:
				mustBe(t, "Save", snap.Save(d, -r.IntN(3), s), api.ErrArg)
			case 4:
				d.Append("log.1", s)
			case 5:
				d.Crash(r.IntN(2 + unsure(d)))
			}
			if slot == 0 {
				mustNotLoad(t, d, api.ErrNoFile)
			} else {
				mustLoad(t, d, slot, text)
			}
		}
	}
}

func randomText(r *rand.Rand) string {
	b := make([]byte, r.IntN(20))
	for i := range b {
		b[i] = byte(r.Uint32())
	}
	return string(b)
}

// Of any bytes: either they are just those that Save lays of what Load tells, or ErrFormat.
func FuzzLoad(f *testing.F) {
	f.Add("")
	f.Add(bytesOf(5, "x"))
	f.Add(bytesOf(5, "x") + "z")
	f.Add(bytesOf(0, "x"))
	f.Add(bytesOf(greatestSlot, ""))
	f.Fuzz(func(t *testing.T, s string) {
		for _, raw := range []string{s, framed(s)} {
			if len(raw) > api.MaxFile {
				return
			}
			d := on(t, raw)
			slot, text, err := snap.Load(d)
			if err == api.OK {
				again := disk.New()
				mustSave(t, again, slot, text)
				mustTell(t, again, told{"snap", raw, 0})
			} else {
				mustNotLoad(t, d, api.ErrFormat)
			}
			mustTell(t, d, told{"snap", raw, 0})
		}
	})
}

func FuzzSave(f *testing.F) {
	f.Add(5, "x", "")
	f.Add(0, "", "half")
	f.Add(greatestSlot, allBytes(), bytesOf(9, "older"))
	f.Fuzz(func(t *testing.T, slot int, text, older string) {
		if len(older) > api.MaxFile {
			return
		}
		d := disk.New()
		put(t, d, "snap.tmp", older)
		if slot < 1 || slot > greatestSlot || len(text) > longestText {
			mustBe(t, "Save", snap.Save(d, slot, text), api.ErrArg)
			mustTell(t, d, told{"snap.tmp", older, 0})
			return
		}
		mustSave(t, d, slot, text)
		d.Crash(0)
		mustTell(t, d, told{"snap", bytesOf(slot, text), 0})
		mustLoad(t, d, slot, text)
	})
}
