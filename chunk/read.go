package chunk

import (
	"bytes"

	"weftline/api"
	"weftline/tlv"
)

// listed is how many bytes a gap or one of Dups has.
const listed = 4

// reader has the bytes of a value, and the chunk that is read of them.
type reader struct {
	Chunk
	from *tlv.In
}

// Read is the chunk of bytes.
func Read(b []byte) (Chunk, error) {
	in := tlv.Read(b)
	var r reader
	r.Kind = int(in.Num(1))
	flags := in.Num(1)
	r.from = tlv.Read(in.Take(int(in.Num(2)) - headBytes))
	r.value(flags)
	// The reader takes what it finds and refuses nothing: what it took of a good
	// chunk's bytes is that chunk, and has them again; of other bytes it can't.
	if own, err := Bytes(r.Chunk); err != nil || !bytes.Equal(own, b) {
		return Chunk{}, api.ErrForm
	}
	return r.Chunk, nil
}

// Split is the first chunk of bytes, and what is behind it.
func Split(b []byte) (kind int, one, rest []byte, err error) {
	if len(b) == 0 {
		return 0, nil, nil, api.ErrNone
	}
	in := tlv.Read(b)
	kind = int(in.Num(1))
	in.Num(1)                           // flags
	in.Take(int(in.Num(2)) - headBytes) // wrong, where the length is below four
	in.Pad()
	rest = in.Take(in.Left())
	if in.End() != nil {
		return 0, nil, nil, api.ErrForm
	}
	return kind, copied(b[:len(b)-len(rest)]), rest, nil
}

// value reads the value of the kind that was read.
func (r *reader) value(flags uint64) {
	switch r.Kind {
	case Data:
		r.piece(flags)
	case Init, InitAck:
		r.Tag, r.Window = r.word(), r.number(4)
		r.Out, r.In = r.number(2), r.number(2)
		r.TSN = r.word()
		r.params()
	case Sack:
		r.sack()
	case Heartbeat, HeartbeatAck:
		r.params()
	case Abort, Error:
		r.Cause = r.number(2)
	case Shutdown:
		r.TSN = r.word()
	case CookieEcho, Auth:
		r.Info = r.rest()
	case Asconf:
		r.Serial = r.word()
		r.params()
	case AsconfAck:
		r.Serial, r.OK = r.word(), r.number(4) == 1
	}
}

// piece reads the value of Data.
func (r *reader) piece(flags uint64) {
	r.Piece.End = flags&endFlag != 0
	r.Piece.Begin = flags&beginFlag != 0
	r.Piece.Unordered = flags&unorderedFlag != 0
	r.Piece.TSN = r.word()
	r.Piece.Stream, r.Piece.Seq = uint16(r.number(2)), uint16(r.number(2))
	r.Piece.Text = r.rest()
}

// sack reads the value of Sack: no more gaps and Dups than there are bytes
// for, since the counts may tell of thousands.
func (r *reader) sack() {
	r.TSN, r.Window = r.word(), r.number(4)
	gaps, dups := r.number(2), r.number(2)
	for range min(gaps, r.from.Left()/listed) {
		r.Gaps = append(r.Gaps, Gap{From: r.number(2), To: r.number(2)})
	}
	for range min(dups, r.from.Left()/listed) {
		r.Dups = append(r.Dups, r.word())
	}
}

// params reads parameters till the value's end, whichever kind uses them.
func (r *reader) params() {
	list, _ := tlv.Params(r.rest()) // none, and so no good chunk, where these are no parameters
	for _, p := range list {
		switch p.Kind {
		case randomParam:
			r.Random = p.Value
		case addrParam:
			r.Addrs = append(r.Addrs, addrOf(p))
		case beatParam, infoParam:
			r.Info = p.Value
		case opParam + Add, opParam + Delete, opParam + Primary:
			r.Ops = append(r.Ops, Op{Kind: p.Kind - opParam, Addr: addrOf(p)})
		}
	}
}

// addrOf is the address that is a parameter's value.
func addrOf(p tlv.Param) api.Addr {
	return api.Addr(tlv.Read(p.Value).Num(4))
}

// number is the next number, as an int.
func (r *reader) number(size int) int {
	return int(r.from.Num(size))
}

// word is the next number of size 4.
func (r *reader) word() uint32 {
	return uint32(r.from.Num(4))
}

// rest is all bytes that are left.
func (r *reader) rest() []byte {
	return r.from.Take(r.from.Left())
}
