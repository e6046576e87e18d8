package chunk

import (
	"weftline/api"
	"weftline/tlv"
)

const (
	headBytes  = 4 // kind, flags and length, which are counted with the value
	causeBytes = 4 // what a cause tells of its own length
)

// The flags of Data.
const (
	endFlag       = 1
	beginFlag     = 2
	unorderedFlag = 4
)

// The kinds of parameters; that of an op is opParam and the op's own.
const (
	beatParam   = 1
	addrParam   = 5
	infoParam   = 7
	randomParam = 0x8002
	opParam     = 0xc000
)

// Bytes is a chunk's bytes.
func Bytes(c Chunk) ([]byte, error) {
	if !Good(c) {
		return nil, api.ErrForm
	}
	value := valueOf(c)
	var out tlv.Out
	out.Num(uint64(c.Kind), 1)
	out.Num(flagsOf(c.Piece), 1) // 0 of other kinds than Data, whose piece is nought
	out.Num(uint64(len(value)+headBytes), 2)
	out.Put(value)
	out.Pad()
	return out.Bytes(), nil
}

// flagsOf is the flags that tell of a piece.
func flagsOf(p api.Piece) uint64 {
	flags := uint64(0)
	if p.End {
		flags += endFlag
	}
	if p.Begin {
		flags += beginFlag
	}
	if p.Unordered {
		flags += unorderedFlag
	}
	return flags
}

// valueOf is the value of a good chunk.
func valueOf(c Chunk) []byte {
	var out tlv.Out
	switch c.Kind {
	case Data:
		out.Num(uint64(c.Piece.TSN), 4)
		out.Num(uint64(c.Piece.Stream), 2)
		out.Num(uint64(c.Piece.Seq), 2)
		out.Put(c.Piece.Text)
	case Init, InitAck:
		putStart(&out, c)
	case Sack:
		putSack(&out, c)
	case Heartbeat, HeartbeatAck:
		putParam(&out, beatParam, c.Info)
	case Abort, Error:
		out.Num(uint64(c.Cause), 2)
		out.Num(causeBytes, 2)
	case Shutdown:
		out.Num(uint64(c.TSN), 4)
	case CookieEcho, Auth:
		out.Put(c.Info)
	case Asconf:
		putOps(&out, c)
	case AsconfAck:
		out.Num(uint64(c.Serial), 4)
		out.Num(numberOf(c.OK), 4)
	}
	return out.Bytes()
}

// putStart puts the value of Init or InitAck.
func putStart(out *tlv.Out, c Chunk) {
	out.Num(uint64(c.Tag), 4)
	out.Num(uint64(c.Window), 4)
	out.Num(uint64(c.Out), 2)
	out.Num(uint64(c.In), 2)
	out.Num(uint64(c.TSN), 4)
	putParam(out, randomParam, c.Random)
	for _, a := range c.Addrs {
		putAddr(out, addrParam, a)
	}
	if c.Kind == InitAck {
		putParam(out, infoParam, c.Info)
	}
}

// putSack puts the value of Sack.
func putSack(out *tlv.Out, c Chunk) {
	out.Num(uint64(c.TSN), 4)
	out.Num(uint64(c.Window), 4)
	out.Num(uint64(len(c.Gaps)), 2)
	out.Num(uint64(len(c.Dups)), 2)
	for _, g := range c.Gaps {
		out.Num(uint64(g.From), 2)
		out.Num(uint64(g.To), 2)
	}
	for _, tsn := range c.Dups {
		out.Num(uint64(tsn), 4)
	}
}

// putOps puts the value of Asconf.
func putOps(out *tlv.Out, c Chunk) {
	out.Num(uint64(c.Serial), 4)
	for _, o := range c.Ops {
		putAddr(out, opParam+o.Kind, o.Addr)
	}
}

// putAddr puts a parameter whose value is an address.
func putAddr(out *tlv.Out, kind int, a api.Addr) {
	var value tlv.Out
	value.Num(uint64(a), 4)
	putParam(out, kind, value.Bytes())
}

// putParam puts a parameter. None of a good chunk is refused: its kind is
// one of those above, and its value is far from being too long.
func putParam(out *tlv.Out, kind int, value []byte) {
	b, _ := tlv.Write(tlv.Param{Kind: kind, Value: value})
	out.Put(b)
}

func numberOf(ok bool) uint64 {
	if ok {
		return 1
	}
	return 0
}
