package packed

const (
	magic = 0x706c6468 // its bytes are hdlp

	headTag   = 1
	layerTag  = 2
	weightTag = 3
	threshTag = 4
	biasTag   = 5

	headSize   = 8 // but for the name
	layerSize  = 13
	modeSize   = 1
	numberSize = 8 // of a threshold's T, and of a bias
	threshSize = modeSize + numberSize
)

// put adds numbers of so many bytes, which must fit them, the lowest byte first.
func put[N int | int64](b []byte, size int, numbers ...N) []byte {
	for _, n := range numbers {
		for i := range size {
			b = append(b, byte(n>>(8*i)))
		}
	}
	return b
}

// cursor takes numbers from the front of bytes, which must be there.
type cursor struct {
	left []byte
}

func (c *cursor) take(n int) []byte {
	b := c.left[:n]
	c.left = c.left[n:]
	return b
}

// number is the next number of so many bytes, the lowest byte first.
func (c *cursor) number(size int) int64 {
	n := int64(0)
	for i, b := range c.take(size) {
		n |= int64(b) << (8 * i)
	}
	return n
}

// get takes numbers of so many bytes into their places, one behind the other.
func (c *cursor) get(size int, places ...*int) {
	for _, place := range places {
		*place = int(c.number(size))
	}
}
