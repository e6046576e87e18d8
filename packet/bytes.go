package packet

import (
	"weftline/api"
	"weftline/crc"
	"weftline/tlv"
)

const (
	sumPlace  = 12 // where the check sum stands, behind from, to and the tag
	sumBytes  = 4
	headBytes = sumPlace + sumBytes
)

// Bytes is a packet's bytes.
func Bytes(p Packet) ([]byte, error) {
	if !Good(p) {
		return nil, api.ErrForm
	}
	if Room(p.Chunks...) > api.MaxPacket {
		return nil, api.ErrLarge
	}
	var out tlv.Out
	out.Num(uint64(p.From), 4)
	out.Num(uint64(p.To), 4)
	out.Num(uint64(p.Tag), 4)
	out.Num(0, sumBytes)
	for _, c := range p.Chunks {
		out.Put(bytesOf(c))
	}
	b := out.Bytes()
	sum := sumOf(b)
	copy(b[sumPlace:], sum[:])
	return b, nil
}

// sumOf is the check sum of a packet's bytes, whatever stands in its place.
func sumOf(b []byte) [sumBytes]byte {
	var noughts [sumBytes]byte
	return crc.Put(crc.Sum(b[:sumPlace], noughts[:], b[headBytes:]))
}

// sumFits tells whether the check sum in a packet's bytes is right.
func sumFits(b []byte) bool {
	var told [sumBytes]byte
	copy(told[:], b[sumPlace:])
	return told == sumOf(b)
}
