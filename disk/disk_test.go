package disk_test

import (
	"math"
	"math/rand/v2"
	"slices"
	"strings"
	"testing"
	"unsafe"

	"latchkey/api"
	"latchkey/disk"
)

const most = 1 << 22 // bytes of a file

// wrongNames may not be; nor is there ever a file of one.
var wrongNames = []string{"", strings.Repeat("a", 65), strings.Repeat("a", 1000), strings.Repeat("\x00", 65), strings.Repeat("é", 33)}

// goodNames may be, whatever bytes they are of.
var goodNames = []string{"a", strings.Repeat("a", 64), strings.Repeat("é", 32), "\x00", "\xff", " ", "/", "..", "log.1", "a/b", "snap.tmp"}

// model is a disk told as plainly as the chapter does: one row of all bytes that are there, in the order in which they were appended.
type model struct {
	ids  map[string]int
	row  []single
	made int
}

type single struct {
	id   int
	b    byte
	sure bool
}

func newModel() *model { return &model{ids: map[string]int{}} }

func good(name string) bool { return len(name) >= 1 && len(name) <= 64 }

func (m *model) read(file string) (string, api.Errno) {
	id, there := m.ids[file]
	if !there {
		return "", api.ErrNoFile
	}
	var l []byte
	for _, x := range m.row {
		if x.id == id {
			l = append(l, x.b)
		}
	}
	return string(l), api.OK
}

func (m *model) append(file, s string) api.Errno {
	if !good(file) {
		return api.ErrArg
	}
	if old, _ := m.read(file); len(old)+len(s) > most {
		return api.ErrRange
	}
	if _, there := m.ids[file]; !there {
		m.made++
		m.ids[file] = m.made
	}
	for i := range len(s) {
		m.row = append(m.row, single{m.ids[file], s[i], false})
	}
	return api.OK
}

func (m *model) sync(file string) api.Errno {
	id, there := m.ids[file]
	if !there {
		return api.ErrNoFile
	}
	for i := range m.row {
		m.row[i].sure = m.row[i].sure || m.row[i].id == id
	}
	return api.OK
}

func (m *model) remove(file string) api.Errno {
	id, there := m.ids[file]
	if !there {
		return api.ErrNoFile
	}
	delete(m.ids, file)
	m.row = slices.DeleteFunc(m.row, func(x single) bool { return x.id == id })
	return api.OK
}

func (m *model) rename(from, to string) api.Errno {
	id, there := m.ids[from]
	switch {
	case !good(to):
		return api.ErrArg
	case !there:
		return api.ErrNoFile
	case from != to:
		m.remove(to)
		delete(m.ids, from)
		m.ids[to] = id
	}
	return api.OK
}

func (m *model) unsynced(file string) int {
	n := 0
	for _, x := range m.row {
		if x.id == m.ids[file] && !x.sure {
			n++
		}
	}
	return n
}

func (m *model) crash(keep int) {
	var stay []single
	for _, x := range m.row {
		if x.sure || keep > 0 {
			if !x.sure {
				keep--
			}
			x.sure = true
			stay = append(stay, x)
		}
	}
	m.row = stay
}

func (m *model) files() []string {
	var l []string
	for name := range m.ids {
		l = append(l, name)
	}
	slices.SortFunc(l, strings.Compare)
	return l
}

// both is a disk and its model, to which the same is done.
type both struct {
	t *testing.T
	d *disk.Disk
	m *model
}

func newBoth(t *testing.T) both { return both{t, disk.New(), newModel()} }

func (x both) errno(what string, got, want api.Errno) {
	x.t.Helper()
	if got != want {
		x.t.Fatalf("%s: %d, want %d", what, got, want)
	}
}

func (x both) append(file, s string) {
	x.t.Helper()
	x.errno("Append "+short(file)+" "+short(s), x.d.Append(file, s), x.m.append(file, s))
}

func (x both) sync(file string) {
	x.t.Helper()
	x.errno("Sync "+short(file), x.d.Sync(file), x.m.sync(file))
}

func (x both) remove(file string) {
	x.t.Helper()
	x.errno("Remove "+short(file), x.d.Remove(file), x.m.remove(file))
}

func (x both) rename(from, to string) {
	x.t.Helper()
	x.errno("Rename "+short(from)+" "+short(to), x.d.Rename(from, to), x.m.rename(from, to))
}

func (x both) crash(keep int) {
	x.d.Crash(keep)
	x.m.crash(keep)
}

// check holds all that the disk tells against the model; of names without a file too.
func (x both) check() {
	x.t.Helper()
	if got, want := x.d.Files(), x.m.files(); !slices.Equal(got, want) {
		x.t.Fatalf("Files: %q, want %q", got, want)
	}
	for _, file := range append(append(x.m.files(), wrongNames...), "nobody's") {
		got, err := x.d.Read(file)
		want, wantErr := x.m.read(file)
		if got != want || err != wantErr {
			x.t.Fatalf("Read %s: %s %d, want %s %d", short(file), short(got), err, short(want), wantErr)
		}
		if got, want := x.d.Unsynced(file), x.m.unsynced(file); got != want {
			x.t.Fatalf("Unsynced %s: %d, want %d", short(file), got, want)
		}
	}
}

// short is s, if it is not so long that nobody would read it.
func short(s string) string {
	if len(s) > 80 {
		return s[:80] + ".."
	}
	return "\"" + s + "\""
}

// mustRead tells whether file has those bytes, with so many that are not sure.
func mustRead(t *testing.T, d *disk.Disk, file, want string, unsure int) {
	t.Helper()
	got, err := d.Read(file)
	if got != want || err != api.OK {
		t.Errorf("Read %s: %s %d, want %s", short(file), short(got), err, short(want))
	}
	if n := d.Unsynced(file); n != unsure {
		t.Errorf("Unsynced %s: %d, want %d", short(file), n, unsure)
	}
}

func mustBe(t *testing.T, what string, got, want api.Errno) {
	t.Helper()
	if got != want {
		t.Errorf("%s: %d, want %d", what, got, want)
	}
}

func mustHaveFiles(t *testing.T, d *disk.Disk, want ...string) {
	t.Helper()
	if got := d.Files(); !slices.Equal(got, want) {
		t.Errorf("Files: %q, want %q", got, want)
	}
}

// mustNotBeThere tells whether each call that asks for a file says that it is not.
func mustNotBeThere(t *testing.T, d *disk.Disk, file string) {
	t.Helper()
	files := d.Files()
	if s, err := d.Read(file); s != "" || err != api.ErrNoFile {
		t.Errorf("Read %s: %s %d", short(file), short(s), err)
	}
	mustBe(t, "Sync "+short(file), d.Sync(file), api.ErrNoFile)
	mustBe(t, "Remove "+short(file), d.Remove(file), api.ErrNoFile)
	mustBe(t, "Rename from "+short(file), d.Rename(file, "elsewhere"), api.ErrNoFile)
	if n := d.Unsynced(file); n != 0 {
		t.Errorf("Unsynced %s: %d", short(file), n)
	}
	mustHaveFiles(t, d, files...)
}

// Promise 5.1.

func TestNew(t *testing.T) {
	d := disk.New()
	if d == nil {
		t.Fatal("nil")
	}
	mustHaveFiles(t, d)
	mustNotBeThere(t, d, "a")
}

func TestOneFile(t *testing.T) {
	d := disk.New()
	mustBe(t, "Append", d.Append("a", "xy"), api.OK)
	mustRead(t, d, "a", "xy", 2)
	mustBe(t, "Append", d.Append("a", "z"), api.OK)
	mustRead(t, d, "a", "xyz", 3)
	mustBe(t, "Sync", d.Sync("a"), api.OK)
	mustRead(t, d, "a", "xyz", 0)
	mustBe(t, "Sync again", d.Sync("a"), api.OK)
	mustRead(t, d, "a", "xyz", 0)
	mustBe(t, "Append", d.Append("a", "\x00\xff"), api.OK)
	mustRead(t, d, "a", "xyz\x00\xff", 2)
	mustHaveFiles(t, d, "a")
	mustBe(t, "Rename", d.Rename("a", "b"), api.OK)
	mustRead(t, d, "b", "xyz\x00\xff", 2)
	mustNotBeThere(t, d, "a")
	mustHaveFiles(t, d, "b")
	mustBe(t, "Remove", d.Remove("b"), api.OK)
	mustNotBeThere(t, d, "b")
	mustHaveFiles(t, d)
	mustBe(t, "Append", d.Append("b", "w"), api.OK)
	mustRead(t, d, "b", "w", 1)
}

func TestSeveralFiles(t *testing.T) {
	x := newBoth(t)
	for _, deed := range []func(){
		func() { x.append("b", "12") },
		func() { x.append("a", "34") },
		func() { x.append("c", "") },
		func() { x.sync("a") },
		func() { x.append("b", "5") },
		func() { x.append("a", "6") },
		func() { x.rename("b", "d") },
		func() { x.append("b", "7") },
		func() { x.append("d", "8") },
		func() { x.remove("a") },
		func() { x.rename("d", "c") },
		func() { x.append("a", "9") },
		func() { x.sync("c") },
		func() { x.append("c", "0") },
		func() { x.crash(2) },
		func() { x.append("b", "x") },
		func() { x.remove("c") },
		func() { x.rename("b", "a") },
		func() { x.crash(0) },
	} {
		deed()
		x.check()
	}
}

func TestDisksAreApart(t *testing.T) {
	a, b := disk.New(), disk.New()
	a.Append("f", "a")
	mustHaveFiles(t, b)
	b.Append("f", "bb")
	b.Sync("f")
	mustRead(t, a, "f", "a", 1)
	a.Crash(0)
	mustRead(t, a, "f", "", 0)
	mustRead(t, b, "f", "bb", 0)
}

func TestNamesThatMayBe(t *testing.T) {
	for _, name := range goodNames {
		d := disk.New()
		mustBe(t, "Append "+short(name), d.Append(name, "x"), api.OK)
		mustRead(t, d, name, "x", 1)
		mustHaveFiles(t, d, name)
		mustBe(t, "Rename", d.Rename(name, "other"), api.OK)
		mustBe(t, "Rename to "+short(name), d.Rename("other", name), api.OK)
		mustRead(t, d, name, "x", 1)
		mustHaveFiles(t, d, name)
		mustBe(t, "Sync "+short(name), d.Sync(name), api.OK)
		mustRead(t, d, name, "x", 0)
		mustBe(t, "Remove "+short(name), d.Remove(name), api.OK)
		mustHaveFiles(t, d)
	}
}

func TestNamesThatMayNotBe(t *testing.T) {
	d := disk.New()
	d.Append("f", "x")
	for _, name := range wrongNames {
		mustBe(t, "Append "+short(name), d.Append(name, "x"), api.ErrArg)
		mustBe(t, "Append nothing "+short(name), d.Append(name, ""), api.ErrArg)
		mustBe(t, "Append too much "+short(name), d.Append(name, strings.Repeat("x", most+1)), api.ErrArg)
		mustBe(t, "Rename to "+short(name), d.Rename("f", name), api.ErrArg)
		mustBe(t, "Rename to and from "+short(name), d.Rename(name, name), api.ErrArg)
		mustBe(t, "Rename from nothing to "+short(name), d.Rename("nobody's", name), api.ErrArg)
		mustNotBeThere(t, d, name)
	}
	mustHaveFiles(t, d, "f")
	mustRead(t, d, "f", "x", 1)
}

func TestNamesOfEachLength(t *testing.T) {
	d := disk.New()
	for n := range 130 {
		want := api.OK
		if n < 1 || n > 64 {
			want = api.ErrArg
		}
		name := strings.Repeat("n", n)
		d.Append("from", "x")
		mustBe(t, "Append "+short(name), d.Append(name, "x"), want)
		mustBe(t, "Rename to "+short(name), d.Rename("from", name), want)
	}
	if n := len(d.Files()); n != 65 { // from stays, as the last names may not be
		t.Errorf("%d files", n)
	}
}

func TestAppendNothing(t *testing.T) {
	d := disk.New()
	mustBe(t, "Append", d.Append("a", ""), api.OK)
	mustHaveFiles(t, d, "a")
	mustRead(t, d, "a", "", 0)
	mustBe(t, "Append again", d.Append("a", ""), api.OK)
	mustBe(t, "Sync", d.Sync("a"), api.OK)
	d.Append("a", "x")
	d.Sync("a")
	mustBe(t, "Append to bytes", d.Append("a", ""), api.OK)
	mustRead(t, d, "a", "x", 0)
	d.Append("a", "y")
	d.Append("a", "")
	mustRead(t, d, "a", "xy", 1)
}

func TestFileFullAtOnce(t *testing.T) {
	for _, s := range []struct {
		size int
		want api.Errno
	}{{most - 1, api.OK}, {most, api.OK}, {most + 1, api.ErrRange}, {2 * most, api.ErrRange}} {
		d := disk.New()
		text := strings.Repeat("abc", s.size/3+1)[:s.size]
		mustBe(t, "Append", d.Append("f", text), s.want)
		if s.want == api.OK {
			mustRead(t, d, "f", text, s.size)
		} else {
			mustNotBeThere(t, d, "f")
			mustHaveFiles(t, d)
		}
	}
}

func TestFileFullBySeveral(t *testing.T) {
	d := disk.New()
	half := strings.Repeat("h", most/2)
	mustBe(t, "first half", d.Append("f", half), api.OK)
	d.Sync("f") // those that are sure count as the others do
	mustBe(t, "one more than a half", d.Append("f", half+"x"), api.ErrRange)
	mustRead(t, d, "f", half, 0)
	mustBe(t, "all but one", d.Append("f", half[1:]), api.OK)
	mustBe(t, "two", d.Append("f", "xy"), api.ErrRange)
	mustBe(t, "nothing", d.Append("f", ""), api.OK)
	mustRead(t, d, "f", half+half[1:], most/2-1)
	mustBe(t, "the last", d.Append("f", "x"), api.OK)
	mustBe(t, "one too many", d.Append("f", "y"), api.ErrRange)
	mustBe(t, "MaxFile too many", d.Append("f", half+half), api.ErrRange)
	mustBe(t, "nothing to a full one", d.Append("f", ""), api.OK)
	mustRead(t, d, "f", half+half[1:]+"x", most/2)
}

func TestFileFullByteByByte(t *testing.T) {
	d := disk.New()
	for i := range most {
		if err := d.Append("f", "x"); err != api.OK {
			t.Fatalf("byte %d: %d", i, err)
		}
	}
	mustBe(t, "one too many", d.Append("f", "x"), api.ErrRange)
	if n := d.Unsynced("f"); n != most {
		t.Errorf("Unsynced: %d", n)
	}
	d.Crash(most - 1)
	mustRead(t, d, "f", strings.Repeat("x", most-1), 0)
}

func TestEachFileHasItsOwnBound(t *testing.T) {
	d := disk.New()
	full := strings.Repeat("f", most)
	mustBe(t, "a", d.Append("a", full), api.OK)
	mustBe(t, "b", d.Append("b", full), api.OK)
	mustBe(t, "Rename", d.Rename("a", "c"), api.OK)
	mustBe(t, "to the new name", d.Append("c", "x"), api.ErrRange)
	mustBe(t, "to the old name", d.Append("a", full), api.OK)
	mustBe(t, "Rename", d.Rename("a", "b"), api.OK)
	mustBe(t, "Remove", d.Remove("b"), api.OK)
	mustBe(t, "to a file anew", d.Append("b", full), api.OK)
	mustBe(t, "one too many", d.Append("b", "x"), api.ErrRange)
}

func TestWhatIsGoneLeavesRoom(t *testing.T) {
	d := disk.New()
	full := strings.Repeat("f", most)
	d.Append("f", full)
	d.Crash(most - 2)
	mustBe(t, "three", d.Append("f", "xyz"), api.ErrRange)
	mustBe(t, "two", d.Append("f", "xy"), api.OK)
	mustRead(t, d, "f", full[2:]+"xy", 2)
}

func TestRefusedAppendChangesNothing(t *testing.T) {
	x := newBoth(t)
	x.append("a", "12")
	x.sync("a")
	x.append("a", "3")
	x.append("b", "4")
	mustBe(t, "too much for a", x.d.Append("a", strings.Repeat("x", most-2)), api.ErrRange)
	mustBe(t, "too much for b", x.d.Append("b", strings.Repeat("x", most)), api.ErrRange)
	mustBe(t, "too much for a new one", x.d.Append("c", strings.Repeat("x", most+1)), api.ErrRange)
	mustBe(t, "no name", x.d.Append("", "x"), api.ErrArg)
	x.check()
	x.append("a", "5")
	x.check()
	x.crash(2)
	x.check()
	mustRead(t, x.d, "a", "123", 0)
	mustRead(t, x.d, "b", "4", 0)
}

func TestNoFile(t *testing.T) {
	d := disk.New()
	d.Append("there", "x")
	for _, file := range append(append([]string{"ther", "there ", "There", "there\x00"}, goodNames...), wrongNames...) {
		mustNotBeThere(t, d, file)
	}
	mustBe(t, "Rename to itself", d.Rename("a", "a"), api.ErrNoFile)
	mustBe(t, "Rename to what is there", d.Rename("a", "there"), api.ErrNoFile)
	mustRead(t, d, "there", "x", 1)
	d.Remove("there")
	mustNotBeThere(t, d, "there")
	mustHaveFiles(t, d)
}

func TestRenameToATakenName(t *testing.T) {
	d := disk.New()
	d.Append("a", "old")
	d.Sync("a")
	d.Append("a", "er")
	d.Append("b", "new")
	d.Sync("b")
	d.Append("b", "x")
	mustBe(t, "Rename", d.Rename("b", "a"), api.OK)
	mustRead(t, d, "a", "newx", 1)
	mustNotBeThere(t, d, "b")
	mustHaveFiles(t, d, "a")
	d.Append("a", "y")
	mustRead(t, d, "a", "newxy", 2)
	d.Append("b", "z")
	mustRead(t, d, "b", "z", 1)
	mustRead(t, d, "a", "newxy", 2)
}

func TestRenameOfAnEmptyFile(t *testing.T) {
	d := disk.New()
	d.Append("a", "")
	d.Append("b", "x")
	d.Sync("b")
	mustBe(t, "Rename", d.Rename("a", "b"), api.OK)
	mustRead(t, d, "b", "", 0)
	mustHaveFiles(t, d, "b")
}

func TestRenameToItself(t *testing.T) {
	x := newBoth(t)
	x.append("a", "12")
	x.sync("a")
	x.append("a", "34")
	x.append("b", "56")
	x.append("a", "78")
	mustBe(t, "Rename", x.d.Rename("a", "a"), api.OK)
	x.check()
	x.crash(3)
	x.check()
	mustRead(t, x.d, "a", "1234", 0)
	mustRead(t, x.d, "b", "5", 0)
}

func TestRenamedFilesChangePlaces(t *testing.T) {
	d := disk.New()
	d.Append("a", "1")
	d.Append("b", "2")
	for _, l := range [][2]string{{"a", "c"}, {"b", "a"}, {"c", "b"}} {
		mustBe(t, "Rename", d.Rename(l[0], l[1]), api.OK)
	}
	mustRead(t, d, "a", "2", 1)
	mustRead(t, d, "b", "1", 1)
	mustHaveFiles(t, d, "a", "b")
	d.Crash(1)
	mustRead(t, d, "a", "", 0)
	mustRead(t, d, "b", "1", 0)
}

func TestSyncOfOneFileAlone(t *testing.T) {
	d := disk.New()
	d.Append("a", "12")
	d.Append("b", "345")
	d.Sync("a")
	mustRead(t, d, "a", "12", 0)
	mustRead(t, d, "b", "345", 3)
}

func TestFilesByteByByte(t *testing.T) {
	want := []string{"\x00", "\x00a", "/", "1", "10", "2", "A", "B", "Z", "a", "a\x00", "a ", "aa", "ab", "b", "z", "\x80", "é", "\xff", "\xff\xff"}
	x := rand.New(rand.NewPCG(5, 1))
	for range 50 {
		d := disk.New()
		for _, i := range x.Perm(len(want)) {
			d.Append(want[i], "x")
		}
		mustHaveFiles(t, d, want...)
		mustHaveFiles(t, d, want...)
		d.Remove("a")
		d.Rename("z", "a")
		mustHaveFiles(t, d, slices.DeleteFunc(slices.Clone(want), func(s string) bool { return s == "z" })...)
	}
}

func TestNil(t *testing.T) {
	var d *disk.Disk
	for _, file := range append(append([]string{}, goodNames...), wrongNames...) {
		mustBe(t, "Append", d.Append(file, "x"), api.ErrArg)
		mustBe(t, "Append nothing", d.Append(file, ""), api.ErrArg)
		mustBe(t, "Append too much", d.Append(file, strings.Repeat("x", most+1)), api.ErrArg)
		mustBe(t, "Sync", d.Sync(file), api.ErrArg)
		mustBe(t, "Remove", d.Remove(file), api.ErrArg)
		mustBe(t, "Rename from", d.Rename(file, "a"), api.ErrArg)
		mustBe(t, "Rename to", d.Rename("a", file), api.ErrArg)
		if s, err := d.Read(file); s != "" || err != api.ErrArg {
			t.Errorf("Read: %q %d", s, err)
		}
		if n := d.Unsynced(file); n != 0 {
			t.Errorf("Unsynced: %d", n)
		}
	}
	for _, keep := range []int{math.MinInt, -1, 0, 1, math.MaxInt} {
		d.Crash(keep)
	}
	if l := d.Files(); len(l) != 0 {
		t.Errorf("Files: %q", l)
	}
}

func TestZeroDiskIsEmpty(t *testing.T) {
	var d disk.Disk
	mustNotBeThere(t, &d, "a")
	d.Crash(1)
	mustHaveFiles(t, &d)
	mustBe(t, "Append", d.Append("a", "x"), api.OK)
	mustRead(t, &d, "a", "x", 1)
}

// Rule R4.

// mayShare tells whether two texts have their first byte in one place.
func mayShare(a, b string) bool { return unsafe.StringData(a) == unsafe.StringData(b) }

func TestNewMemory(t *testing.T) {
	name, to, text := strings.Repeat("n", 20), strings.Repeat("t", 20), strings.Repeat("x", 100)
	d := disk.New()
	d.Append(name, text)
	first, _ := d.Read(name)
	second, _ := d.Read(name)
	if mayShare(first, text) || mayShare(first, second) {
		t.Error("Read shares memory")
	}
	once, again := d.Files(), d.Files()
	if mayShare(once[0], name) || mayShare(once[0], again[0]) {
		t.Error("Files shares a name")
	}
	once[0] = "changed"
	mustHaveFiles(t, d, name)
	d.Append(to, "")
	d.Rename(name, to)
	if mayShare(d.Files()[0], to) {
		t.Error("Rename keeps the name")
	}
}

// TestNothingIsKept lays names and bytes into memory that is changed behind the call: what the disk keeps must be its own.
func TestNothingIsKept(t *testing.T) {
	handed := func(s string) (string, []byte) {
		l := []byte(s)
		return unsafe.String(&l[0], len(l)), l
	}
	d := disk.New()
	name, nameBytes := handed("name")
	text, textBytes := handed("text")
	to, toBytes := handed("to")
	d.Append(name, text)
	copy(nameBytes, "????")
	copy(textBytes, "????")
	mustRead(t, d, "name", "text", 4)
	d.Append("to", "taken")
	d.Rename("name", to)
	copy(toBytes, "??")
	mustRead(t, d, "to", "text", 4)
	mustHaveFiles(t, d, "to")
}

func TestWhatWasReadStays(t *testing.T) {
	d := disk.New()
	d.Append("a", "12345678")
	whole, _ := d.Read("a")
	d.Crash(3)
	part, _ := d.Read("a")
	d.Append("a", "xyzxyzxyz")
	if whole != "12345678" || part != "123" {
		t.Errorf("%q %q", whole, part)
	}
}

// Promise 5.2.

func TestExample(t *testing.T) {
	d := disk.New()
	d.Append("a", "xy")
	d.Sync("a")
	d.Append("a", "z")
	d.Append("b", "w")
	d.Crash(1)
	mustRead(t, d, "a", "xyz", 0)
	mustRead(t, d, "b", "", 0)
	mustHaveFiles(t, d, "a", "b")
}

// interleaved gives a disk with bytes that are not sure in several files, appended in turn, beside some that are sure.
func interleaved(t *testing.T) both {
	x := newBoth(t)
	x.append("b", "AB")
	x.append("c", "CD")
	x.sync("b")
	x.sync("c")
	for _, l := range [][2]string{{"c", "1"}, {"a", "234"}, {"b", "5"}, {"a", "6"}, {"d", ""}, {"c", "78"}, {"b", "90"}, {"a", "!"}} {
		x.append(l[0], l[1])
	}
	return x
}

func TestCrashKeepsABeginningOverAllFiles(t *testing.T) {
	for keep, want := range [][3]string{
		{"", "AB", "CD"},
		{"", "AB", "CD1"},
		{"2", "AB", "CD1"},
		{"23", "AB", "CD1"},
		{"234", "AB", "CD1"},
		{"234", "AB5", "CD1"},
		{"2346", "AB5", "CD1"},
		{"2346", "AB5", "CD17"},
		{"2346", "AB5", "CD178"},
		{"2346", "AB59", "CD178"},
		{"2346", "AB590", "CD178"},
		{"2346!", "AB590", "CD178"},
		{"2346!", "AB590", "CD178"},
	} {
		x := interleaved(t)
		x.crash(keep)
		for i, file := range []string{"a", "b", "c"} {
			mustRead(t, x.d, file, want[i], 0)
		}
		mustRead(t, x.d, "d", "", 0)
		mustHaveFiles(t, x.d, "a", "b", "c", "d")
		x.check()
	}
}

func TestCrashWithKeepFarOff(t *testing.T) {
	for _, keep := range []int{-1, -2, -1 << 40, math.MinInt} {
		x := interleaved(t)
		x.d.Crash(keep)
		x.m.crash(0)
		x.check()
		mustRead(t, x.d, "a", "", 0)
	}
	for _, keep := range []int{12, 100, 1 << 40, math.MaxInt} {
		x := interleaved(t)
		x.d.Crash(keep)
		x.m.crash(11)
		x.check()
		mustRead(t, x.d, "a", "2346!", 0)
	}
}

func TestCrashOfAnEmptyDisk(t *testing.T) {
	d := disk.New()
	for _, keep := range []int{-1, 0, 1, math.MaxInt} {
		d.Crash(keep)
		mustHaveFiles(t, d)
	}
	mustBe(t, "Append", d.Append("a", "x"), api.OK)
	mustRead(t, d, "a", "x", 1)
}

func TestCrashWhenAllIsSure(t *testing.T) {
	d := disk.New()
	d.Append("a", "12")
	d.Append("b", "34")
	d.Sync("a")
	d.Sync("b")
	for _, keep := range []int{-1, 0, 1, 3, math.MaxInt} {
		d.Crash(keep)
		mustRead(t, d, "a", "12", 0)
		mustRead(t, d, "b", "34", 0)
	}
}

func TestEmptiedFileStays(t *testing.T) {
	d := disk.New()
	d.Append("a", "12")
	d.Append("b", "")
	d.Crash(0)
	mustHaveFiles(t, d, "a", "b")
	mustRead(t, d, "a", "", 0)
	mustRead(t, d, "b", "", 0)
	d.Append("a", "3")
	mustRead(t, d, "a", "3", 1)
}

func TestCrashBehindSync(t *testing.T) {
	d := disk.New()
	d.Append("a", "12")
	d.Append("b", "34")
	d.Append("a", "5")
	d.Sync("a") // what is sure of a takes none of what is kept
	d.Append("a", "6")
	d.Append("b", "7")
	d.Crash(3)
	mustRead(t, d, "a", "1256", 0)
	mustRead(t, d, "b", "34", 0)
}

func TestCrashBehindRemove(t *testing.T) {
	d := disk.New()
	d.Append("a", "12")
	d.Append("b", "34")
	d.Remove("a") // what is gone takes none of what is kept
	d.Append("c", "5")
	d.Append("a", "67") // a new file, whose bytes are the last
	d.Crash(4)
	mustRead(t, d, "a", "6", 0)
	mustRead(t, d, "b", "34", 0)
	mustRead(t, d, "c", "5", 0)
	d.Append("c", "8")
	d.Sync("c")
	d.Remove("c")
	d.Crash(9)
	mustNotBeThere(t, d, "c")
	mustHaveFiles(t, d, "a", "b")
}

func TestCrashBehindRename(t *testing.T) {
	d := disk.New()
	d.Append("a", "12")
	d.Append("b", "34")
	d.Sync("b")
	d.Append("b", "5")
	d.Append("c", "67")
	d.Append("b", "8")
	d.Rename("b", "a") // 1 and 2 are gone; 5 stays ahead of 6, and 8 behind 7
	d.Append("a", "9")
	d.Crash(2)
	mustRead(t, d, "a", "345", 0)
	mustRead(t, d, "c", "6", 0)
	mustHaveFiles(t, d, "a", "c")
	mustNotBeThere(t, d, "b")
}

func TestCrashMindsWhenBytesCameNotTheFile(t *testing.T) {
	d := disk.New()
	d.Append("z", "1")
	d.Append("a", "2")
	d.Append("m", "3")
	d.Rename("z", "zz")
	d.Append("zz", "4")
	d.Append("a", "5")
	d.Crash(4)
	mustRead(t, d, "zz", "14", 0)
	mustRead(t, d, "a", "2", 0)
	mustRead(t, d, "m", "3", 0)
}

func TestSecondCrash(t *testing.T) {
	d := disk.New()
	d.Append("a", "12")
	d.Append("b", "34")
	d.Crash(3)
	d.Crash(0) // what the first one kept is sure
	mustRead(t, d, "a", "12", 0)
	mustRead(t, d, "b", "3", 0)
	d.Append("b", "5")
	d.Append("a", "678")
	mustRead(t, d, "b", "35", 1)
	mustRead(t, d, "a", "12678", 3)
	d.Crash(2)
	mustRead(t, d, "a", "126", 0)
	mustRead(t, d, "b", "35", 0)
	d.Crash(9) // what is gone does not come back
	mustRead(t, d, "a", "126", 0)
}

func TestNothingAppendedTakesNothing(t *testing.T) {
	d := disk.New()
	d.Append("a", "1")
	d.Append("b", "")
	d.Append("a", "")
	d.Append("b", "2")
	d.Append("a", "3")
	d.Crash(2)
	mustRead(t, d, "a", "1", 0)
	mustRead(t, d, "b", "2", 0)
}

func TestCrashOverManyFiles(t *testing.T) {
	const count, rounds = 300, 5
	name := func(i int) string { return "file" + strings.Repeat("i", i%50) + string(rune('a'+i/50)) }
	for _, keep := range []int{0, 1, count, count + 7, 3*count - 1, count * rounds} {
		d := disk.New()
		for range rounds {
			for i := range count {
				d.Append(name(i), "x")
			}
		}
		d.Crash(keep)
		for i := range count {
			want := keep / count
			if i < keep%count {
				want++
			}
			mustRead(t, d, name(i), strings.Repeat("x", want), 0)
		}
	}
}

// Promise 5.3.

// ledger is what a test itself put to one disk: of each file all bytes that were appended, and how many of them must stay.
type ledger map[string]*account

type account struct {
	all  string
	sure int
}

// mustHold tells whether each file has a beginning of what was appended, with all that is sure.
func (l ledger) mustHold(t *testing.T, d *disk.Disk) {
	t.Helper()
	for file, a := range l {
		s, err := d.Read(file)
		if err != api.OK || !strings.HasPrefix(a.all, s) || len(s) < a.sure {
			t.Fatalf("%s: %q %d, of %q the first %d are sure", file, s, err, a.all, a.sure)
		}
	}
	if len(d.Files()) != len(l) {
		t.Fatalf("Files: %q, want %d", d.Files(), len(l))
	}
}

func TestSureBytesAreNeverLost(t *testing.T) {
	names := []string{"a", "b", "c", "d"}
	for seed := range uint64(200) {
		x := rand.New(rand.NewPCG(53, seed))
		d, l := disk.New(), ledger{}
		for range 100 {
			file, to := names[x.IntN(4)], names[x.IntN(4)]
			switch a := l[file]; x.IntN(8) {
			case 0, 1, 2:
				s := randomText(x, 6)
				d.Append(file, s)
				if a == nil {
					a = &account{}
					l[file] = a
				}
				a.all += s
			case 3, 4:
				if d.Sync(file) == api.OK {
					a.sure = len(a.all)
				}
			case 5:
				if d.Rename(file, to) == api.OK {
					delete(l, file)
					l[to] = a
				}
			case 6:
				if x.IntN(4) == 0 {
					d.Remove(file)
					delete(l, file)
				}
			case 7:
				d.Crash(x.IntN(12) - 1)
				l.mustHold(t, d)
				for file, a := range l { // what is there now is all that there is, and sure
					a.all, _ = d.Read(file)
					a.sure = len(a.all)
				}
			}
			l.mustHold(t, d)
		}
	}
}

func randomText(x *rand.Rand, most int) string {
	l := make([]byte, x.IntN(most+1))
	for i := range l {
		l[i] = byte(x.IntN(256))
	}
	return string(l)
}

// All of it.

// deed does one of all deeds; what and n choose it.
func (x both) deed(what, n byte, names []string) {
	x.t.Helper()
	file, other := names[int(n)%len(names)], names[int(n)/len(names)%len(names)]
	switch what % 8 {
	case 0, 1, 2:
		x.append(file, strings.Repeat(string(rune('a'+what/8%26)), int(n)/len(names)%5))
	case 3:
		x.sync(file)
	case 4:
		x.rename(file, other)
	case 5:
		x.remove(file)
	case 6:
		x.crash(int(n)%16 - 1)
	case 7: // so that nearly every deed comes ahead of a crash and behind one
		x.append(other, string(rune('A'+what/8%26)))
	}
	x.check()
}

// everyCrash holds what a crash would leave, whatever it keeps, against the model: deeds does the same to new disks.
func everyCrash(t *testing.T, deeds []byte, names []string) {
	t.Helper()
	first := play(t, deeds, names)
	for keep := -1; keep <= len(first.m.row)+1; keep++ {
		x := play(t, deeds, names)
		x.crash(keep)
		x.check()
	}
}

func play(t *testing.T, deeds []byte, names []string) both {
	x := newBoth(t)
	for i := 0; i+1 < len(deeds); i += 2 {
		x.deed(deeds[i], deeds[i+1], names)
	}
	return x
}

var someNames = []string{"a", "b", "c", "log.1", strings.Repeat("n", 64), strings.Repeat("n", 65), ""}

func TestAnyDeeds(t *testing.T) {
	for seed := range uint64(300) {
		x := rand.New(rand.NewPCG(5, seed))
		names := someNames[:2+x.IntN(len(someNames)-1)]
		deeds := make([]byte, 2*x.IntN(80))
		for i := range deeds {
			deeds[i] = byte(x.IntN(256))
		}
		play(t, deeds, names)
	}
}

func TestAnyCrashBehindAnyDeeds(t *testing.T) {
	for seed := range uint64(100) {
		x := rand.New(rand.NewPCG(52, seed))
		deeds := make([]byte, 2*x.IntN(30))
		for i := range deeds {
			deeds[i] = byte(x.IntN(256))
		}
		everyCrash(t, deeds, someNames[:3])
	}
}

// Rule R5: the same deeds give the same answers, however often.
func TestSameDeedsSameAnswers(t *testing.T) {
	for range 50 {
		x := interleaved(t)
		x.crash(6)
		mustRead(t, x.d, "a", "2346", 0)
		mustRead(t, x.d, "b", "AB5", 0)
		mustRead(t, x.d, "c", "CD1", 0)
	}
}

func FuzzDeeds(f *testing.F) {
	f.Add([]byte("00112233445566"))
	f.Add([]byte{0, 10, 8, 11, 3, 0, 0, 10, 6, 3, 4, 7, 7, 0, 6, 5})
	f.Fuzz(func(t *testing.T, deeds []byte) {
		everyCrash(t, deeds[:min(len(deeds), 60)], someNames)
	})
}
