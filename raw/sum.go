package raw

// halves has, of each four bits, what four of a sum's eight steps make of
// them; the steps of a byte are then two looks instead of eight turns.
var halves = [16]uint32{
	0x00000000, 0x105ec76f, 0x20bd8ede, 0x30e349b1,
	0x417b1dbc, 0x5125dad3, 0x61c69362, 0x7198540d,
	0x82f63b78, 0x92a8fc17, 0xa24bb5a6, 0xb21572c9,
	0xc38d26c4, 0xd3d3e1ab, 0xe330a81a, 0xf36e6f75,
}

// Sum tells the check sum of some bytes.
func Sum(b string) int {
	x := ^uint32(0)
	for i := range len(b) {
		x ^= uint32(b[i])
		x = x>>4 ^ halves[x&15]
		x = x>>4 ^ halves[x&15]
	}
	return int(^x)
}
