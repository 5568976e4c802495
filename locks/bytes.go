package locks

import (
	"latchkey/api"
	"latchkey/codec"
)

const maxNumber = 1 << 30 // of a session, of a Seq

// Encode gives the bytes of l.
func (l *Locks) Encode() string {
	if l == nil {
		return ""
	}
	w := codec.New()
	w.U64(l.token)
	w.Int(len(l.named))
	for _, name := range l.names() {
		w.Text(name)
		l.named[name].write(w)
	}
	return w.String()
}

// Decode gives the locks whose bytes t are. Those that were read are written again and held against t: so flags, counts, what comes twice and what is out of order need not be looked at one by one.
func Decode(t string) (*Locks, api.Errno) {
	l, r := New(), codec.Of(t)
	l.token = r.U64()
	for range r.Int() {
		if !l.read(r) {
			return nil, api.ErrFormat
		}
	}
	if l.Encode() != t {
		return nil, api.ErrFormat
	}
	return l, api.OK
}

// write writes all of a lock but its name.
func (x *lock) write(w *codec.Writer) {
	w.Int(flag(x.writer))
	w.Int(len(x.holders))
	for _, session := range x.holding() {
		w.Int(session)
	}
	w.Int(len(x.places))
	for p := range x.waiting {
		w.Int(p.session)
		w.Int(p.seq)
		w.Int(flag(p.reader))
	}
}

// read adds the lock that is next in r, and tells false, if there may be none such beside those so far. Of a bad reader the name is empty, which none may be.
func (l *Locks) read(r *codec.Reader) bool {
	name, x := r.Text(), newLock()
	if len(l.named) >= api.MaxNames || name == "" || len(name) > api.MaxName || !x.readHolders(r) || !x.readQueue(r) {
		return false
	}
	l.named[name] = x
	return true
}

// readHolders reads whether a writer holds the lock, and who does; false, if they may not.
func (x *lock) readHolders(r *codec.Reader) bool {
	x.writer = r.Int() == 1
	for range r.Int() {
		session := r.Int()
		if !isNumber(session) {
			return false
		}
		x.holders[session] = struct{}{}
	}
	return len(x.holders) == 1 || x.held() && !x.writer
}

// readQueue reads who waits; false, if they may not behind those that hold the lock.
func (x *lock) readQueue(r *codec.Reader) bool {
	for range r.Int() {
		w := wait{session: r.Int(), seq: r.Int(), reader: r.Int() == 1}
		if !isNumber(w.session) || !isNumber(w.seq) || x.holds(w.session) || x.waits(w.session) {
			return false
		}
		x.join(w)
	}
	return !x.anybody() || !x.hasRoom(x.first().reader)
}

// isNumber tells whether a session or a Seq may have this number.
func isNumber(n int) bool { return 1 <= n && n <= maxNumber }

// flag gives 1 for true, 0 for false.
func flag(b bool) int {
	if b {
		return 1
	}
	return 0
}
