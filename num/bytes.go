package num

import (
	"math/bits"

	"shelf/api"
)

// unsigned are the kinds of numbers that stand in bytes: one a size.
type unsigned interface {
	uint8 | uint16 | uint32 | uint64
}

// loadBytes reads the number of kind N that b begins with.
func loadBytes[N unsigned](b string, order api.Order) (uint64, api.Errno) {
	size := sizeOf[N]()
	if len(b) < size {
		return 0, api.ErrRange
	}
	var n N
	for i := range size {
		n |= N(b[i]) << weight(i, size, order)
	}
	return uint64(n), api.OK
}

// storeBytes writes v as a number of kind N.
func storeBytes[N unsigned](v uint64, order api.Order) (string, api.Errno) {
	n := N(v)
	if uint64(n) != v {
		return "", api.ErrWide
	}
	b := make([]byte, sizeOf[N]())
	for i := range len(b) {
		b[i] = byte(n >> weight(i, len(b), order))
	}
	return string(b), api.OK
}

// sizeOf is how many bytes a number of kind N has.
func sizeOf[N unsigned]() int { return bits.Len64(uint64(^N(0))) / 8 }

// weight is how many bits stand below byte i of size bytes.
func weight(i, size int, order api.Order) int {
	if order == api.Big {
		i = size - 1 - i
	}
	return 8 * i
}

// isOrder tells whether order is a byte order at all.
func isOrder(order api.Order) bool { return order == api.Little || order == api.Big }
