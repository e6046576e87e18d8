package packet

import (
	"weftline/api"
	"weftline/chunk"
	"weftline/tlv"
)

// What the kind of a chunk that isn't known tells.
const (
	passFrom  = 128 // from this kind on it is passed over
	reportBit = 64
)

// Read is what was read of a packet's bytes.
type Read struct {
	Packet  Packet
	Unknown []int
	Stopped bool
}

// Parse reads a packet's bytes.
func Parse(b []byte) (Read, error) {
	if len(b) > api.MaxPacket {
		return Read{}, api.ErrLarge
	}
	if len(b) < headBytes {
		return Read{}, api.ErrForm
	}
	if !sumFits(b) {
		return Read{}, api.ErrSum
	}
	r, err := readChunks(b[headBytes:])
	if err != nil {
		return Read{}, err
	}
	head := tlv.Read(b[:headBytes])
	r.Packet.From = api.Addr(head.Num(4))
	r.Packet.To = api.Addr(head.Num(4))
	r.Packet.Tag = uint32(head.Num(4))
	if !isRight(r.Packet) {
		return Read{}, api.ErrForm
	}
	return r, nil
}

// readChunks reads chunks' bytes, till none are left or one stops it.
func readChunks(b []byte) (Read, error) {
	var r Read
	for len(b) > 0 && !r.Stopped {
		kind, one, rest, err := chunk.Split(b)
		if err != nil {
			return Read{}, err
		}
		b = rest
		if !chunk.Known(kind) {
			r.passOver(kind)
			continue
		}
		c, err := chunk.Read(one)
		if err != nil {
			return Read{}, err
		}
		r.Packet.Chunks = append(r.Packet.Chunks, c)
	}
	return r, nil
}

// passOver takes down what is done about a chunk of a kind that isn't known.
func (r *Read) passOver(kind int) {
	if kind&reportBit != 0 {
		r.Unknown = append(r.Unknown, kind)
	}
	r.Stopped = kind < passFrom
}
