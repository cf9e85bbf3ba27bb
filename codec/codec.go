// Package codec is layer 1: bytes that are written, and read, in one way: see shared/doc/01-codec.md.
package codec

// A Var below the least of these bytes is that byte; each of them says how many bytes of the number follow it.
const (
	twoFollow   = 253
	fourFollow  = 254
	eightFollow = 255
)

// firstOfVar answers the first byte of the shortest Var of n, the only one that readers accept.
func firstOfVar(n uint64) byte {
	switch {
	case n < twoFollow:
		return byte(n)
	case n < 1<<16:
		return twoFollow
	case n < 1<<32:
		return fourFollow
	}
	return eightFollow
}

// following answers how many bytes of a Var follow its first one.
func following(first byte) int {
	switch first {
	case twoFollow:
		return 2
	case fourFollow:
		return 4
	case eightFollow:
		return 8
	}
	return 0
}

// number answers what b stands for, its most significant byte first.
func number(b []byte) uint64 {
	var n uint64
	for _, x := range b {
		n = n<<8 | uint64(x)
	}
	return n
}
