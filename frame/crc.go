package frame

// sumBytes is how many bytes a frame's sum has.
const sumBytes = 4

// polynomial is that of CRC-32, its highest power at the lowest bit, as the state is shifted right.
const polynomial = 0xedb88320

// Crc tells the sum of bytes.
func Crc(b []byte) uint32 {
	state := ^uint32(0)
	for _, next := range b {
		state ^= uint32(next)
		for range 8 {
			out := state & 1
			state = state>>1 ^ polynomial&-out // -out has all bits set, or none: so no branch hangs on the bytes
		}
	}
	return ^state
}

// sumOf tells the Crc as it is laid.
func sumOf(b []byte) [sumBytes]byte {
	crc := Crc(b)
	return [sumBytes]byte{byte(crc), byte(crc >> 8), byte(crc >> 16), byte(crc >> 24)}
}
