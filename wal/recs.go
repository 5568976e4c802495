package wal

import (
	"latchkey/api"
	"latchkey/cmds"
)

const ballotBytes = 8

// EncodeRec gives the bytes of r.
func EncodeRec(r api.Rec) (string, api.Errno) {
	switch {
	case isPromise(r):
		return string([]byte{api.RecPromise}) + ballotText(r.N), api.OK
	case r.Kind == api.RecAccept && r.N == 0 && r.Entry.Ballot >= 1:
		entry, err := cmds.EncodeEntry(r.Entry)
		if err != api.OK {
			return "", api.ErrArg
		}
		return string([]byte{api.RecAccept}) + entry, api.OK
	}
	return "", api.ErrArg
}

// DecodeRec gives the record whose bytes s are.
func DecodeRec(s string) (api.Rec, api.Errno) {
	if s == "" {
		return api.Rec{}, api.ErrFormat
	}
	switch s[0] {
	case api.RecPromise:
		return decodePromise(s[1:])
	case api.RecAccept:
		return decodeAccept(s[1:])
	}
	return api.Rec{}, api.ErrFormat
}

func decodePromise(s string) (api.Rec, api.Errno) {
	if len(s) != ballotBytes {
		return api.Rec{}, api.ErrFormat
	}
	r := api.Rec{Kind: api.RecPromise, N: ballot(s)}
	if !isPromise(r) {
		return api.Rec{}, api.ErrFormat
	}
	return r, api.OK
}

func decodeAccept(s string) (api.Rec, api.Errno) {
	entry, err := cmds.DecodeEntry(s)
	if err != api.OK || entry.Ballot < 1 {
		return api.Rec{}, api.ErrFormat
	}
	return api.Rec{Kind: api.RecAccept, Entry: entry}, api.OK
}

func isPromise(r api.Rec) bool {
	return r.Kind == api.RecPromise && 1 <= r.N && r.N <= api.MaxBallot && r.Entry == api.Entry{}
}

// ballotText gives the bytes of n, little end first.
func ballotText(n int) string {
	var digits [ballotBytes]byte
	for i := range digits {
		digits[i] = byte(n)
		n >>= 8
	}
	return string(digits[:])
}

// ballot is ballotText's way back; of bytes that are no int's it wraps round to one below 0, which is no ballot.
func ballot(s string) int {
	n := 0
	for i := range ballotBytes {
		n |= int(s[i]) << (8 * i)
	}
	return n
}
