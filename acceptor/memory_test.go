package acceptor_test

import (
	"slices"
	"strings"
	"testing"
	"unsafe"

	"latchkey/acceptor"
	"latchkey/api"
)

// Rule R4.

// lent gives texts whose bytes may be written over.
type lent struct{ bytes [][]byte }

func (k *lent) text(s string) string {
	b := []byte(s)
	k.bytes = append(k.bytes, b)
	return unsafe.String(unsafe.SliceData(b), len(b))
}

// spoil writes over all bytes that were lent.
func (k *lent) spoil() {
	for _, b := range k.bytes {
		clear(b)
	}
}

// rows are the entries of a state that is lent, and behind its end two more; out of order, and one of them at Base.
func rows(text func(string) string) []api.Entry {
	return entries(named(9, 9, text("nine")), named(2, 9, text("two")), named(3, 9, text("three")), named(5, 9, text("five")), named(7, 9, text("behind")), named(8, 9, text("behind")))
}

func lentState(text func(string) string) api.Durable {
	return api.Durable{Promised: 9, Base: 2, Snap: text("snapshot"), Entries: rows(text)[:4]}
}

func TestNewKeepsNothing(t *testing.T) {
	k := &lent{}
	d := lentState(k.text)
	a := acceptor.New(d)
	if !equal(d, lentState(strings.Clone)) || !slices.Equal(d.Entries[:cap(d.Entries)], rows(strings.Clone)) {
		t.Fatalf("what was handed in was changed: %v", d.Entries[:cap(d.Entries)])
	}
	p := plainNew(lentState(strings.Clone))
	clear(d.Entries[:cap(d.Entries)])
	k.spoil()
	mustKnow(t, "behind the spoiling", a, p)
}

func TestNewIsChangedAlone(t *testing.T) {
	d := lentState(strings.Clone)
	a, b := acceptor.New(d), acceptor.New(d)
	a.Accept(17, named(3, 0, "other"))
	a.Accept(17, named(4, 0, "new"))
	a.Cut(3, "cut")
	mustKnow(t, "another acceptor", b, plainNew(lentState(strings.Clone)))
	if !equal(d, lentState(strings.Clone)) || !slices.Equal(d.Entries[:cap(d.Entries)], rows(strings.Clone)) {
		t.Fatalf("what was handed in was changed: %v", d.Entries[:cap(d.Entries)])
	}
}

func TestAcceptAndCutKeepNothing(t *testing.T) {
	for _, slot := range []int{3, 4, 5, 10} { // in the place of another, between others, behind all
		k := &lent{}
		a, p := acceptor.New(lentState(strings.Clone)), plainNew(lentState(strings.Clone))
		out, _ := a.Accept(17, named(slot, 0, k.text("accepted")))
		want, _ := p.accept(17, named(slot, 0, "accepted"))
		k.spoil()
		mustKnow(t, "behind the first", a, p)
		again, _ := a.Accept(25, named(slot, 0, k.text("again")))
		wantAgain, _ := p.accept(25, named(slot, 0, "again"))
		a.Cut(3, k.text("cut"))
		p.cut(3, "cut")
		k.spoil()
		mustKnow(t, "behind the spoiling", a, p)
		if !slices.Equal(out.Recs, want) || !slices.Equal(again.Recs, wantAgain) {
			t.Fatalf("%v %v", out.Recs, again.Recs)
		}
	}
}

func TestWhatIsHandedOutIsNew(t *testing.T) {
	a, p := acceptor.New(lentState(strings.Clone)), plainNew(lentState(strings.Clone))
	out, _ := a.Accept(17, named(4, 0, "four"))
	p.accept(17, named(4, 0, "four"))
	other, same := a.Durable(), a.From(0)
	for _, l := range [][]api.Entry{a.From(0), a.From(4), a.Durable().Entries} {
		clear(l[:cap(l)])
		mustKnow(t, "behind the spoiling", a, p)
	}
	clear(out.Recs[:cap(out.Recs)])
	mustKnow(t, "behind the spoiling of records", a, p)
	if !equal(other, p.durable()) || !slices.Equal(same, p.from(0)) {
		t.Fatalf("another answer was changed: %v %v", other, same)
	}
}

// What was handed out stays as it was, whatever is done behind it.
func TestWhatIsHandedOutStays(t *testing.T) {
	a, p := acceptor.New(lentState(strings.Clone)), plainNew(lentState(strings.Clone))
	all, some, d, want := a.From(0), a.From(5), a.Durable(), p.durable()
	out, _ := a.Accept(17, named(5, 0, "first"))
	a.Accept(25, named(5, 0, "second"))
	a.Accept(25, named(4, 0, "between"))
	a.Cut(4, "cut")
	a.Cut(greatest, "all")
	if !slices.Equal(all, want.Entries) || !slices.Equal(some, want.Entries[1:]) || !equal(d, want) {
		t.Fatalf("%v %v %v", all, some, d)
	}
	if !slices.Equal(out.Recs, recs(promise(17), accept(named(5, 17, "first")))) {
		t.Fatalf("%v", out.Recs)
	}
}

// No two answers have a text in common, nor one with what was handed in or is kept.
func TestTextsAreNotShared(t *testing.T) {
	e, snap := named(4, 0, strings.Clone("four")), strings.Clone("cut")
	a := acceptor.New(lentState(strings.Clone))
	out, _ := a.Accept(9, e)
	a.Cut(3, snap)
	at, _ := a.At(4)
	again, _ := a.At(4)
	names := []string{e.Cmd.Name, out.Recs[0].Entry.Cmd.Name, at.Cmd.Name, again.Cmd.Name, a.From(0)[0].Cmd.Name, a.From(0)[0].Cmd.Name, a.Durable().Entries[0].Cmd.Name, a.Durable().Entries[0].Cmd.Name}
	texts := []string{snap, a.Durable().Snap, a.Durable().Snap}
	for _, l := range [][]string{names, texts} {
		seen := map[*byte]int{}
		for i, s := range l {
			if was, there := seen[unsafe.StringData(s)]; there || s != l[0] {
				t.Errorf("%q: the %dth shares memory with the %dth", s, i, was)
			}
			seen[unsafe.StringData(s)] = i
		}
	}
}
