package cookie

import (
	"weftline/api"
	"weftline/mac"
	"weftline/tlv"
)

// sealBytes is how many bytes the tag by the host's secret has, behind all else.
const sealBytes = 32

// Make is a cookie's bytes.
func Make(secret []byte, c Cookie) ([]byte, error) {
	if !Good(c) {
		return nil, api.ErrForm
	}
	var out tlv.Out
	write(&out, c)
	seal := mac.Sum(secret, out.Bytes())
	out.Put(seal[:])
	return out.Bytes(), nil
}

// write puts all that a good cookie says.
func write(out *tlv.Out, c Cookie) {
	out.Num(uint64(c.Made), 8)
	out.Num(uint64(c.Life), 8)
	out.Num(uint64(c.Mine), 4)
	out.Num(uint64(c.Peers), 4)
	out.Num(uint64(c.MyTSN), 4)
	out.Num(uint64(c.PeerTSN), 4)
	out.Num(uint64(c.Window), 4)
	out.Num(uint64(c.Out), 1)
	out.Num(uint64(c.In), 1)
	out.Num(uint64(len(c.Addrs)), 1)
	for _, a := range c.Addrs {
		out.Num(uint64(a), 4)
	}
	out.Num(uint64(len(c.MyRandom)), 1)
	out.Put(c.MyRandom)
	out.Num(uint64(len(c.PeerRandom)), 1)
	out.Put(c.PeerRandom)
	out.Num(uint64(c.TieMine), 4)
	out.Num(uint64(c.TiePeer), 4)
}

// Open is the cookie of bytes.
func Open(secret, b []byte, now int) (Cookie, error) {
	end := len(b) - sealBytes
	if end < 0 || !mac.Check(b[end:], secret, b[:end]) {
		return Cookie{}, api.ErrCookie
	}
	in := tlv.Read(b[:end])
	c := read(in)
	if in.End() != nil || !Good(c) {
		return Cookie{}, api.ErrForm
	}
	if Late(c, now) > 0 {
		return Cookie{}, api.ErrStale
	}
	return c, nil
}

// read takes all that a cookie says; whether it is whole and good isn't asked here.
func read(in *tlv.In) Cookie {
	var c Cookie
	// A Made or Life that is too great for an int comes out below 0, which isn't good either.
	c.Made = int(in.Num(8))
	c.Life = int(in.Num(8))
	c.Mine = uint32(in.Num(4))
	c.Peers = uint32(in.Num(4))
	c.MyTSN = uint32(in.Num(4))
	c.PeerTSN = uint32(in.Num(4))
	c.Window = int(in.Num(4))
	c.Out = int(in.Num(1))
	c.In = int(in.Num(1))
	for range int(in.Num(1)) {
		c.Addrs = append(c.Addrs, api.Addr(in.Num(4)))
	}
	c.MyRandom = in.Take(int(in.Num(1)))
	c.PeerRandom = in.Take(int(in.Num(1)))
	c.TieMine = uint32(in.Num(4))
	c.TiePeer = uint32(in.Num(4))
	return c
}
