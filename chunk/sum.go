package chunk

// halves is what the lowest half byte of the register does to it when it is shifted out: four steps of the polynomial 0xEDB88320.
var halves = [16]uint32{
	0x00000000, 0x1DB71064, 0x3B6E20C8, 0x26D930AC, 0x76DC4190, 0x6B6B51F4, 0x4DB26158, 0x5005713C,
	0xEDB88320, 0xF00F9344, 0xD6D6A3E8, 0xCB61B38C, 0x9B64C2B0, 0x86D3D2D4, 0xA00AE278, 0xBDBDF21C,
}

// Sum is the CRC-32 of these bytes, one list behind the other.
func Sum(l ...[]byte) uint32 {
	s := ^uint32(0)
	for _, list := range l {
		for _, x := range list {
			s ^= uint32(x)
			s = s>>4 ^ halves[s&15]
			s = s>>4 ^ halves[s&15]
		}
	}
	return ^s
}
