package chunk

import "heddle/api"

// reader takes bytes from the front. Behind its first fault, which stands in a field, it takes nothing more.
type reader struct {
	left  []byte
	fault api.Errno
}

// refuse notes a fault, unless one was found ahead of it.
func (r *reader) refuse(wrong bool, e api.Errno) {
	if wrong && r.fault == api.OK {
		r.fault = e
	}
}

// take is the next n bytes; none behind a fault.
func (r *reader) take(n int) []byte {
	r.refuse(n > len(r.left), api.ErrShort)
	if r.fault != api.OK {
		return nil
	}
	b := r.left[:n]
	r.left = r.left[n:]
	return b
}

// summed is the next n bytes, behind which their sum stands; none, or not to be trusted, behind a fault.
func (r *reader) summed(n int) []byte {
	b := r.take(n + numSize)
	if r.fault != api.OK {
		return nil
	}
	r.refuse(Sum(b[:n]) != number(b[n:]), api.ErrSum)
	return b[:n]
}

// head is two numbers under a sum; noughts behind a fault.
func (r *reader) head() (kind uint32, count int) {
	b := r.summed(headSize - numSize)
	if r.fault != api.OK {
		return 0, 0
	}
	return number(b), int(number(b[numSize:]))
}

// open takes the container's head, and is its number of chunks; 0 behind a fault.
func (r *reader) open(magic uint32) int {
	m, count := r.head()
	r.refuse(m != magic, api.ErrTag)
	r.refuse(count > maxChunks, api.ErrLong)
	if r.fault != api.OK {
		return 0
	}
	return count
}

// chunk takes a chunk; an empty one behind a fault.
func (r *reader) chunk() api.Chunk {
	tag, n := r.head()
	b := r.summed(n)
	if r.fault != api.OK {
		return api.Chunk{}
	}
	// Only what is there and right is copied: a length that is told is not to cost memory.
	body := make([]byte, n)
	copy(body, b)
	return api.Chunk{Tag: tag, Body: body}
}

// end: nothing may be left.
func (r *reader) end() { r.refuse(len(r.left) > 0, api.ErrTag) }
