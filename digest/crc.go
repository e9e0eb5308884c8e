package digest

// What is laid over the register when a 1 goes out.
const poly = 0xEDB88320

// Crc: P2.1.
func Crc(b []byte) uint32 { return More(0, b) }

// More: P2.1.
func More(sum uint32, b []byte) uint32 {
	reg := ^sum
	for _, x := range b {
		for i := range 8 {
			reg ^= uint32(x>>uint(i)) & 1
			out := reg & 1
			reg >>= 1
			if out == 1 {
				reg ^= poly
			}
		}
	}
	return ^reg
}
