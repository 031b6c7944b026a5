package frame

// halfByteSteps are the results of four of the checksum's steps on registers from 0 to 15. What four steps combine with a register depends on its last four bits alone, so that these sixteen results stand for all registers.
var halfByteSteps = [16]uint32{
	0x00000000, 0x105ec76f, 0x20bd8ede, 0x30e349b1, 0x417b1dbc, 0x5125dad3, 0x61c69362, 0x7198540d,
	0x82f63b78, 0x92a8fc17, 0xa24bb5a6, 0xb21572c9, 0xc38d26c4, 0xd3d3e1ab, 0xe330a81a, 0xf36e6f75,
}

// Sum returns the CRC-32C checksum of bytes.
func Sum(b []byte) uint32 { return checksum(b) }

// checksum returns the checksum of all parts, one after the other.
func checksum(parts ...[]byte) uint32 {
	register := ^uint32(0)
	for _, part := range parts {
		for _, c := range part {
			register ^= uint32(c)
			register = register>>4 ^ halfByteSteps[register%16]
			register = register>>4 ^ halfByteSteps[register%16]
		}
	}
	return ^register
}
