package acceptor

import (
	"cmp"
	"strings"

	"latchkey/api"
)

// records are those of one call, in the order in which they must come to the log. Its methods are handed, as values, to what changes an acceptor: so each change is recorded where it is made.
type records struct {
	list []api.Rec
}

// promise puts the record of a promise behind the others.
func (r *records) promise(b int) {
	r.list = append(r.list, api.Rec{Kind: api.RecPromise, N: b})
}

// accept puts the record of an acceptance behind the others.
func (r *records) accept(e api.Entry) {
	r.list = append(r.list, api.Rec{Kind: api.RecAccept, Entry: clone(e)})
}

// clone gives e with a name of its own memory.
func clone(e api.Entry) api.Entry {
	e.Cmd.Name = strings.Clone(e.Cmd.Name)
	return e
}

func bySlot(e api.Entry, slot int) int { return cmp.Compare(e.Slot, slot) }
