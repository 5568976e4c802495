package session

import (
	"latchkey/api"
	"latchkey/codec"
)

const (
	maxErr = 255
	maxN   = 1 << 30
)

// Encode gives the bytes of s.
func (s *Sessions) Encode() string {
	if s == nil {
		return ""
	}
	w := codec.New()
	w.Int(len(s.all))
	for id := 1; id <= len(s.all); id++ {
		s.write(w, id)
	}
	s.writeClients(w)
	return w.String()
}

// Decode gives the sessions whose bytes t are. Those that were read are written again and held against t: so what stands at ids, flags, clients and what is not answered need not be looked at one by one.
func Decode(t string) (*Sessions, api.Errno) {
	s, r := New(), codec.Of(t)
	for range r.Int() {
		if !s.read(r) {
			return nil, api.ErrFormat
		}
	}
	if len(s.open) > api.MaxSessions || s.Encode() != t {
		return nil, api.ErrFormat
	}
	return s, api.OK
}

// write writes the session of that id.
func (s *Sessions) write(w *codec.Writer, id int) {
	x := s.all[id]
	_, open := s.open[id]
	w.Int(id)
	w.Int(x.client)
	w.Int(x.life)
	w.Int(flag(open))
	w.Int(x.seq)
	w.Int(flag(x.answered))
	w.Int(int(x.answer.Err))
	w.U64(x.answer.Token)
	w.Int(x.answer.N)
}

// writeClients writes each client that has a session, with its latest one.
func (s *Sessions) writeClients(w *codec.Writer) {
	count := 0
	for _, id := range s.latest {
		count += flag(id > 0)
	}
	w.Int(count)
	for client, id := range s.latest {
		if id > 0 {
			w.Int(client)
			w.Int(s.lifeOf(client))
			w.Int(id)
		}
	}
}

// read adds the session that is next in r, and tells false, if there may be none such behind those so far. Of a bad reader all is 0, which is no life.
func (s *Sessions) read(r *codec.Reader) bool {
	id := r.Int()
	x := session{client: r.Int(), life: r.Int()}
	open := r.Int() == 1
	x.seq, x.answered = r.Int(), r.Int() == 1
	answer := api.Reply{Session: id, Seq: x.seq, Err: api.Errno(r.Int()), Token: r.U64(), N: r.Int()}
	if !mayLive(x.client, x.life) || x.life <= s.lifeOf(x.client) || x.seq < 0 {
		return false
	}
	if x.answered {
		if !mayAnswer(answer) {
			return false
		}
		x.answer = answer
	}
	s.add(x, open)
	return true
}

// mayAnswer tells whether r may be the answer to a session's command.
func mayAnswer(r api.Reply) bool {
	return r.Seq > 0 && 0 <= r.Err && r.Err <= maxErr && -maxN <= r.N && r.N <= maxN
}

// flag gives 1 for true, 0 for false.
func flag(b bool) int {
	if b {
		return 1
	}
	return 0
}
