package chunk

import (
	"slices"

	"weftline/api"
)

const (
	mostWindow = 1<<31 - 1
	mostAddr   = 1<<31 - 1
	mostRandom = 64
	authBytes  = 32
	mostGaps   = 16
	mostGap    = 65535
	mostDups   = 16
	mostCause  = 65535
	mostOps    = 9
)

// Good tells whether a chunk is good.
func Good(c Chunk) bool {
	return Known(c.Kind) && fits(c) && Same(c, used(c))
}

// used is what the chunk's kind uses of it; all else of it is nought.
func used(c Chunk) Chunk {
	u := Chunk{Kind: c.Kind}
	switch c.Kind {
	case Data:
		u.Piece = c.Piece
	case Init, InitAck:
		u.Tag, u.Window, u.Out, u.In, u.TSN = c.Tag, c.Window, c.Out, c.In, c.TSN
		u.Random, u.Addrs = c.Random, c.Addrs
		if c.Kind == InitAck {
			u.Info = c.Info
		}
	case Sack:
		u.TSN, u.Window, u.Gaps, u.Dups = c.TSN, c.Window, c.Gaps, c.Dups
	case Heartbeat, HeartbeatAck, CookieEcho, Auth:
		u.Info = c.Info
	case Abort, Error:
		u.Cause = c.Cause
	case Shutdown:
		u.TSN = c.TSN
	case Asconf:
		u.Serial, u.Ops = c.Serial, c.Ops
	case AsconfAck:
		u.Serial, u.OK = c.Serial, c.OK
	}
	return u
}

// fits tells whether what the chunk's kind uses is within its bounds.
func fits(c Chunk) bool {
	switch c.Kind {
	case Data:
		return within(len(c.Piece.Text), 1, api.MaxText)
	case Init:
		return startFits(c)
	case InitAck:
		return startFits(c) && infoFits(c)
	case Sack:
		return windowFits(c) && gapsFit(c.Gaps) && len(c.Dups) <= mostDups
	case Heartbeat, HeartbeatAck, CookieEcho:
		return infoFits(c)
	case Auth:
		return len(c.Info) == authBytes
	case Abort, Error:
		return within(c.Cause, 0, mostCause)
	case Asconf:
		return opsFit(c.Ops)
	}
	return true
}

// startFits tells whether what Init and InitAck both use is within its bounds.
func startFits(c Chunk) bool {
	return c.Tag != 0 && windowFits(c) && within(c.Out, 1, api.MaxStreams) && within(c.In, 1, api.MaxStreams) &&
		within(len(c.Random), 1, mostRandom) && addrsFit(c.Addrs)
}

func windowFits(c Chunk) bool {
	return within(c.Window, 0, mostWindow)
}

func infoFits(c Chunk) bool {
	return within(len(c.Info), 1, api.MaxCookie)
}

func addrsFit(list []api.Addr) bool {
	return within(len(list), 1, api.MaxPaths) && !slices.ContainsFunc(list, func(a api.Addr) bool {
		return !isAddr(a)
	})
}

func gapsFit(list []Gap) bool {
	ahead := -1 // two less than the least From of the first gap, which has none ahead of it
	for _, g := range list {
		if g.From < ahead+2 || g.From > g.To || g.To > mostGap {
			return false
		}
		ahead = g.To
	}
	return len(list) <= mostGaps
}

func opsFit(list []Op) bool {
	return within(len(list), 1, mostOps) && !slices.ContainsFunc(list, func(o Op) bool {
		return !isOp(o.Kind) || !isAddr(o.Addr)
	})
}

// isOp tells whether there is such a kind of ops.
func isOp(kind int) bool {
	return kind == Add || kind == Delete || kind == Primary
}

func isAddr(a api.Addr) bool {
	return within(int(a), 1, mostAddr)
}

func within(n, least, most int) bool {
	return n >= least && n <= most
}
