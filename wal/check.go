package wal

import "ciborium/api"

// What a byte turns in the register, four of its bits at a time: the low ones, and the high ones. All is by exclusive or, so a byte turns what its halves do together.
var (
	lowTurns = [16]uint32{
		0x00000000, 0xf26b8303, 0xe13b70f7, 0x1350f3f4, 0xc79a971f, 0x35f1141c, 0x26a1e7e8, 0xd4ca64eb,
		0x8ad958cf, 0x78b2dbcc, 0x6be22838, 0x9989ab3b, 0x4d43cfd0, 0xbf284cd3, 0xac78bf27, 0x5e133c24,
	}
	highTurns = [16]uint32{
		0x00000000, 0x105ec76f, 0x20bd8ede, 0x30e349b1, 0x417b1dbc, 0x5125dad3, 0x61c69362, 0x7198540d,
		0x82f63b78, 0x92a8fc17, 0xa24bb5a6, 0xb21572c9, 0xc38d26c4, 0xd3d3e1ab, 0xe330a81a, 0xf36e6f75,
	}
)

// check is the CRC-32C of s.
func check(s api.Sector) uint32 {
	register := ^uint32(0)
	for _, b := range s {
		out := byte(register) ^ b
		register = register>>8 ^ lowTurns[out&15] ^ highTurns[out>>4]
	}
	return ^register
}
