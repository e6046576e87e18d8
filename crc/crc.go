// Package crc is layer 1: check sums of texts. See shared/doc/01-crc.md.
package crc

const (
	// feedback is what the register is changed by where a 1 is shifted out of it.
	feedback = 0x82f63b78

	// The register is a polynomial whose power 0 stands in the highest bit,
	// and a byte 0 multiplies it by the eighth power.
	eighthPower = 1 << (31 - 8)

	sumBytes = 4
)

// fourBits is what the low four bits of the register change it by when they
// are shifted out. Four at a time keep the table short and spare most steps.
var fourBits = [16]uint32{
	0x00000000, 0x105ec76f, 0x20bd8ede, 0x30e349b1,
	0x417b1dbc, 0x5125dad3, 0x61c69362, 0x7198540d,
	0x82f63b78, 0x92a8fc17, 0xa24bb5a6, 0xb21572c9,
	0xc38d26c4, 0xd3d3e1ab, 0xe330a81a, 0xf36e6f75,
}

// Sum is CRC32c of all parts, one behind the other.
func Sum(parts ...[]byte) uint32 {
	register := ^uint32(0)
	for _, part := range parts {
		for _, b := range part {
			register = changed(register, b)
		}
	}
	return ^register
}

// changed is the register behind one more byte.
func changed(register uint32, b byte) uint32 {
	register ^= uint32(b)
	register = register>>4 ^ fourBits[register&15]
	return register>>4 ^ fourBits[register&15]
}

// Join is, of the sums a and b of two texts, of which the second one has n
// bytes, that of both, one behind the other; n below 0 counts as 0.
func Join(a, b uint32, n int) uint32 {
	// n may be any number, so its bytes are not gone through one by one:
	// power belongs to 1, 2, 4, 8 .. bytes, and n's bits tell which are taken.
	power := uint32(eighthPower)
	for ; n > 0; n >>= 1 {
		if n&1 == 1 {
			a = product(a, power)
		}
		power = product(power, power)
	}
	return a ^ b
}

// product is that of two polynomials, as the register holds them.
func product(a, b uint32) uint32 {
	sum := uint32(0)
	for ; a != 0; a <<= 1 {
		if a>>31 == 1 {
			sum ^= b
		}
		b = shifted(b)
	}
	return sum
}

// shifted is the register behind one more bit 0.
func shifted(register uint32) uint32 {
	if register&1 == 1 {
		return register>>1 ^ feedback
	}
	return register >> 1
}

// Put is a sum as four bytes, the low one first.
func Put(sum uint32) [4]byte {
	return [4]byte{byte(sum), byte(sum >> 8), byte(sum >> 16), byte(sum >> 24)}
}

// Get is the sum that Put has made bytes of.
func Get(b [4]byte) uint32 {
	return uint32(b[0]) | uint32(b[1])<<8 | uint32(b[2])<<16 | uint32(b[3])<<24
}

// Fits tells whether a text's last four bytes are the sum of all ahead of them.
func Fits(text []byte) bool {
	if len(text) < sumBytes {
		return false
	}
	body := len(text) - sumBytes
	var last [sumBytes]byte
	copy(last[:], text[body:])
	return Get(last) == Sum(text[:body])
}

// Close is a text, and its sum's bytes behind it.
func Close(text []byte) []byte {
	// Appending to the text itself could write into the caller's spare room.
	closed := make([]byte, 0, len(text)+sumBytes)
	closed = append(closed, text...)
	sum := Put(Sum(text))
	return append(closed, sum[:]...)
}
