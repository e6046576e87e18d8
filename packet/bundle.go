package packet

import (
	"weftline/api"
	"weftline/chunk"
)

// Room is how many bytes a packet of chunks has.
func Room(list ...chunk.Chunk) int {
	room := headBytes
	for _, c := range list {
		room += len(bytesOf(c))
	}
	return room
}

// bytesOf is a chunk's bytes; of one that isn't good there are none.
func bytesOf(c chunk.Chunk) []byte {
	b, _ := chunk.Bytes(c)
	return b
}

// Bundle is chunks in packets.
func Bundle(list ...chunk.Chunk) [][]chunk.Chunk {
	var packets [][]chunk.Chunk
	for _, c := range list {
		if !chunk.Good(c) {
			continue
		}
		last := len(packets) - 1
		if last < 0 || !mayJoin(packets[last], c) {
			packets = append(packets, nil)
			last++
		}
		packets[last] = append(packets[last], chunk.Copy(c))
	}
	return packets
}

// mayJoin tells whether a packet of chunks may have one more.
func mayJoin(list []chunk.Chunk, c chunk.Chunk) bool {
	return len(list) < api.MaxChunks &&
		Room(list...)+len(bytesOf(c)) <= api.MaxPacket &&
		!standsAlone(list[len(list)-1]) && !standsAlone(c)
}
