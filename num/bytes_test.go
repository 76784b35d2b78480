package num_test

import (
	"encoding/binary"
	"math"
	"slices"
	"strings"
	"testing"

	"shelf/api"
	"shelf/num"
)

// wantLoad asks Load and wants the number v and the Errno e.
func wantLoad(t *testing.T, b string, at, size int, order api.Order, v uint64, e api.Errno) {
	t.Helper()
	if gotV, gotE := num.Load(b, at, size, order); gotV != v || gotE != e {
		t.Errorf("Load(%q, %d, %d, %d) = %d, %d, want %d, %d", b, at, size, order, gotV, gotE, v, e)
	}
}

// wantStore asks Store and wants the bytes b and the Errno e.
func wantStore(t *testing.T, v uint64, size int, order api.Order, b string, e api.Errno) {
	t.Helper()
	if gotB, gotE := num.Store(v, size, order); gotB != b || gotE != e {
		t.Errorf("Store(%d, %d, %d) = %q, %d, want %q, %d", v, size, order, gotB, gotE, b, e)
	}
}

// noSizes are ints that are no size of a number in bytes.
func noSizes() []int {
	return []int{math.MinInt, -8, -1, 0, 3, 5, 6, 7, 9, 16, 32, 64, 1<<32 + 1, 1<<32 + 8, math.MaxInt}
}

// noOrders are Orders that are neither Little nor Big.
func noOrders() []api.Order {
	return []api.Order{math.MinInt, -1, 2, 3, 1 << 32, 1<<32 + 1, math.MaxInt}
}

// numbers are numbers at and around the edges of the sizes.
func numbers() []uint64 {
	list := []uint64{0, 0x0102030405060708, 0xfedcba9876543210, 0x00ff00ff00ff00ff, math.MaxUint64}
	for shift := range 64 {
		list = append(list, 1<<shift, 1<<shift-1, 1<<shift+1)
	}
	return list
}

// 1.7: the bytes from the place at on, in either order.
func TestLoad(t *testing.T) {
	b := "\x80\x01\x02\xfd\x04\x85\x06\x07\xf8\x09\x0a\xff"
	raw := []byte(b)
	for at := 0; at < len(b); at++ {
		wantLoad(t, b, at, 1, api.Big, uint64(raw[at]), api.OK)
		wantLoad(t, b, at, 1, api.Little, uint64(raw[at]), api.OK)
	}
	for at := 0; at+2 <= len(b); at++ {
		wantLoad(t, b, at, 2, api.Big, uint64(binary.BigEndian.Uint16(raw[at:])), api.OK)
		wantLoad(t, b, at, 2, api.Little, uint64(binary.LittleEndian.Uint16(raw[at:])), api.OK)
	}
	for at := 0; at+4 <= len(b); at++ {
		wantLoad(t, b, at, 4, api.Big, uint64(binary.BigEndian.Uint32(raw[at:])), api.OK)
		wantLoad(t, b, at, 4, api.Little, uint64(binary.LittleEndian.Uint32(raw[at:])), api.OK)
	}
	for at := 0; at+8 <= len(b); at++ {
		wantLoad(t, b, at, 8, api.Big, binary.BigEndian.Uint64(raw[at:]), api.OK)
		wantLoad(t, b, at, 8, api.Little, binary.LittleEndian.Uint64(raw[at:]), api.OK)
	}
}

// 1.7: a place from which on there are too few bytes, for every int.
func TestLoadBeyondTheBytes(t *testing.T) {
	for length := range 12 {
		b := strings.Repeat("\x01", length)
		for _, size := range []int{1, 2, 4, 8} {
			for _, order := range []api.Order{api.Little, api.Big} {
				for at := max(length-size+1, 0); at <= length+9; at++ {
					wantLoad(t, b, at, size, order, 0, api.ErrRange)
				}
				for less := range 9 {
					wantLoad(t, b, -1-less, size, order, 0, api.ErrRange)
					wantLoad(t, b, math.MaxInt-less, size, order, 0, api.ErrRange)
					wantLoad(t, b, math.MinInt+less, size, order, 0, api.ErrRange)
				}
			}
		}
	}
}

// 1.7: sizes and orders that are none.
func TestLoadRefusals(t *testing.T) {
	b := strings.Repeat("\x01", 100)
	for _, size := range noSizes() {
		wantLoad(t, b, 0, size, api.Little, 0, api.ErrRange)
		wantLoad(t, b, 0, size, api.Big, 0, api.ErrRange)
	}
	for _, order := range noOrders() {
		for _, size := range []int{1, 2, 4, 8} {
			wantLoad(t, b, 0, size, order, 0, api.ErrRange)
		}
	}
}

// 1.8: the bytes that Load reads.
func TestStore(t *testing.T) {
	wantStore(t, 0, 1, api.Big, "\x00", api.OK)
	wantStore(t, 0xfe, 1, api.Little, "\xfe", api.OK)
	wantStore(t, 0x1234, 2, api.Big, "\x12\x34", api.OK)
	wantStore(t, 0x1234, 2, api.Little, "\x34\x12", api.OK)
	wantStore(t, 0x89abcdef, 4, api.Big, "\x89\xab\xcd\xef", api.OK)
	wantStore(t, 0x89abcdef, 4, api.Little, "\xef\xcd\xab\x89", api.OK)
	wantStore(t, 0xfedcba9876543210, 8, api.Big, "\xfe\xdc\xba\x98\x76\x54\x32\x10", api.OK)
	wantStore(t, 0xfedcba9876543210, 8, api.Little, "\x10\x32\x54\x76\x98\xba\xdc\xfe", api.OK)
	wantStore(t, 1, 8, api.Big, "\x00\x00\x00\x00\x00\x00\x00\x01", api.OK)
	wantStore(t, 1, 8, api.Little, "\x01\x00\x00\x00\x00\x00\x00\x00", api.OK)
}

// 1.8: the greatest number that a size holds, and the first that it does not.
func TestStoreTooWide(t *testing.T) {
	for _, order := range []api.Order{api.Little, api.Big} {
		for _, size := range []int{1, 2, 4} {
			first := uint64(1) << (8 * size)
			wantStore(t, first-1, size, order, strings.Repeat("\xff", size), api.OK)
			wantStore(t, first, size, order, "", api.ErrWide)
			wantStore(t, first+1, size, order, "", api.ErrWide)
			wantStore(t, 1<<63, size, order, "", api.ErrWide)
			wantStore(t, math.MaxUint64, size, order, "", api.ErrWide)
		}
		wantStore(t, math.MaxUint64, 8, order, strings.Repeat("\xff", 8), api.OK)
	}
}

// 1.8: sizes and orders that are none; they go ahead of ErrWide.
func TestStoreRefusals(t *testing.T) {
	for _, v := range []uint64{0, 256, math.MaxUint64} {
		for _, size := range noSizes() {
			wantStore(t, v, size, api.Little, "", api.ErrRange)
			wantStore(t, v, size, api.Big, "", api.ErrRange)
		}
		for _, order := range noOrders() {
			for _, size := range []int{1, 2, 4, 8} {
				wantStore(t, v, size, order, "", api.ErrRange)
			}
		}
	}
}

// 1.9: Load and Store undo each other, and the orders mirror each other.
func TestLoadAndStore(t *testing.T) {
	for _, v := range numbers() {
		for _, size := range []int{1, 2, 4, 8} {
			if size < 8 && v>>(8*size) != 0 {
				continue
			}
			little, e := num.Store(v, size, api.Little)
			if e != api.OK || len(little) != size {
				t.Errorf("Store(%d, %d, Little) = %q, %d", v, size, little, e)
			}
			turned := []byte(little)
			slices.Reverse(turned)
			big := string(turned)
			wantStore(t, v, size, api.Big, big, api.OK)
			wantLoad(t, little, 0, size, api.Little, v, api.OK)
			wantLoad(t, big, 0, size, api.Big, v, api.OK)
			wantLoad(t, "\xaa"+little+"\xaa", 1, size, api.Little, v, api.OK)
			wantLoad(t, "\xaa"+big+"\xaa", 1, size, api.Big, v, api.OK)
		}
	}
}

// 1.9: Store of what Load read gives the bytes back.
func TestStoreWhatLoadRead(t *testing.T) {
	for _, b := range []string{"\x00", "\x7f", "\xff", "\x00\x01", "\x80\x00", "\x00\x00\x00\x00", "\x01\x80\xff\x00", "\x00\x01\x02\x03\x04\x05\x06\x07", "\xff\xfe\xfd\xfc\x00\x01\x02\x03"} {
		for _, order := range []api.Order{api.Little, api.Big} {
			v, e := num.Load(b, 0, len(b), order)
			if e != api.OK {
				t.Errorf("Load(%q, 0, %d, %d) is refused: %d", b, len(b), order, e)
			}
			wantStore(t, v, len(b), order, b, api.OK)
		}
	}
}

// 1.10: the least even number that is not below n.
func TestEven(t *testing.T) {
	for half := -1000; half <= 1000; half++ {
		wantEven(t, 2*half, 2*half)
		wantEven(t, 2*half-1, 2*half)
	}
	wantEven(t, math.MaxInt, math.MaxInt)
	wantEven(t, math.MaxInt-1, math.MaxInt-1)
	wantEven(t, math.MaxInt-2, math.MaxInt-1)
	wantEven(t, math.MaxInt-3, math.MaxInt-3)
	wantEven(t, math.MinInt, math.MinInt)
	wantEven(t, math.MinInt+1, math.MinInt+2)
}

func wantEven(t *testing.T, n, even int) {
	t.Helper()
	if got := num.Even(n); got != even {
		t.Errorf("Even(%d) = %d, want %d", n, got, even)
	}
}

// The chapter's examples, row by row.
func TestExamplesOfBytes(t *testing.T) {
	const b = "\x01\x02\x03\x04"
	wantLoad(t, b, 0, 4, api.Big, 16909060, api.OK)
	wantLoad(t, b, 0, 4, api.Little, 67305985, api.OK)
	wantLoad(t, b, 3, 1, api.Big, 4, api.OK)
	wantLoad(t, b, 3, 2, api.Big, 0, api.ErrRange)
	wantLoad(t, b, -1, 1, api.Big, 0, api.ErrRange)
	wantLoad(t, b, 0, 3, api.Big, 0, api.ErrRange)
	wantLoad(t, b, 9223372036854775807, 8, api.Big, 0, api.ErrRange)
	wantLoad(t, strings.Repeat("\xff", 8), 0, 8, api.Little, 18446744073709551615, api.OK)
	wantStore(t, 258, 2, api.Big, "\x01\x02", api.OK)
	wantStore(t, 258, 2, api.Little, "\x02\x01", api.OK)
	wantStore(t, 256, 1, api.Big, "", api.ErrWide)
	wantStore(t, 256, 3, api.Big, "", api.ErrRange)
	wantStore(t, 256, 1, 2, "", api.ErrRange)
	wantEven(t, 0, 0)
	wantEven(t, 7, 8)
	wantEven(t, 8, 8)
	wantEven(t, -7, -6)
	wantEven(t, -3, -2)
	wantEven(t, 5, 6)
	wantEven(t, 6, 6)
}
