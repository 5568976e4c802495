package durable

import (
	"cmp"
	"slices"
	"strings"

	"latchkey/api"
)

// Fold gives d with the records of r put into it, one behind the other.
func Fold(d api.Durable, r []api.Rec) api.Durable {
	folded := clone(d)
	fold(&folded, r)
	return folded
}

// Recs gives the records that make the state d of one that has its snapshot alone.
func Recs(d api.Durable) []api.Rec {
	var recs []api.Rec
	if d.Promised > 0 {
		recs = append(recs, api.Rec{Kind: api.RecPromise, N: d.Promised})
	}
	for _, e := range d.Entries {
		recs = append(recs, api.Rec{Kind: api.RecAccept, Entry: cloneEntry(e)})
	}
	return recs
}

// Same tells whether a and b are the same, all of it.
func Same(a, b api.Durable) bool {
	return a.Promised == b.Promised && a.Base == b.Base && a.Snap == b.Snap && slices.Equal(a.Entries, b.Entries)
}

// fold puts the records of r into d itself. Entries that belong between others are put there all at once, at the end: one by one, a log whose slots fall would move the others each time.
func fold(d *api.Durable, r []api.Rec) {
	var between []api.Entry
	put := func(rec api.Rec) {
		switch rec.Kind {
		case api.RecPromise:
			d.Promised = max(d.Promised, rec.N)
		case api.RecAccept:
			d.Promised = max(d.Promised, rec.Entry.Ballot)
			e := cloneEntry(rec.Entry)
			if e.Slot > d.Base && !place(d, e) {
				between = append(between, e)
			}
		}
	}
	for _, rec := range r {
		put(rec)
	}
	if len(between) > 0 {
		d.Entries = lastBySlot(append(d.Entries, between...))
	}
}

// place puts e in the place of the entry of its slot, or behind all of them; false, if it belongs between them.
func place(d *api.Durable, e api.Entry) bool {
	at, there := slices.BinarySearchFunc(d.Entries, e, bySlot)
	switch {
	case there:
		d.Entries[at] = e
	case at == len(d.Entries):
		d.Entries = append(d.Entries, e)
	default:
		return false
	}
	return true
}

// lastBySlot gives the entries by rising slots: of those with one slot the last.
func lastBySlot(entries []api.Entry) []api.Entry {
	slices.SortStableFunc(entries, bySlot)
	kept := entries[:0]
	for i, e := range entries {
		if i+1 == len(entries) || entries[i+1].Slot != e.Slot {
			kept = append(kept, e)
		}
	}
	return kept
}

func bySlot(a, b api.Entry) int { return cmp.Compare(a.Slot, b.Slot) }

// clone gives d in new memory.
func clone(d api.Durable) api.Durable {
	var entries []api.Entry
	for _, e := range d.Entries {
		entries = append(entries, cloneEntry(e))
	}
	return api.Durable{Promised: d.Promised, Base: d.Base, Snap: strings.Clone(d.Snap), Entries: entries}
}

// cloneEntry gives e with a name of its own memory.
func cloneEntry(e api.Entry) api.Entry {
	e.Cmd.Name = strings.Clone(e.Cmd.Name)
	return e
}
