// Package num: numbers in fixed-width fields and in bytes: see doc/01-num.md.
package num

import (
	"math"

	"shelf/api"
)

// Dec reads a field of decimal digits with blanks behind.
func Dec(field string) (int, api.Errno) { return readDigits(field, 10) }

// Oct reads a field of octal digits with blanks behind.
func Oct(field string) (int, api.Errno) { return readDigits(field, 8) }

// PutDec writes v in decimal digits, with blanks behind up to width.
func PutDec(v, width int) (string, api.Errno) { return writeDigits(v, width, 10) }

// PutOct writes v in octal digits, with blanks behind up to width.
func PutOct(v, width int) (string, api.Errno) { return writeDigits(v, width, 8) }

// Load reads the unsigned number of size bytes that stands at at in b.
func Load(b string, at, size int, order api.Order) (uint64, api.Errno) {
	if !isOrder(order) || at < 0 || at > len(b) {
		return 0, api.ErrRange
	}
	switch size {
	case 1:
		return loadBytes[uint8](b[at:], order)
	case 2:
		return loadBytes[uint16](b[at:], order)
	case 4:
		return loadBytes[uint32](b[at:], order)
	case 8:
		return loadBytes[uint64](b[at:], order)
	}
	return 0, api.ErrRange
}

// Store writes v as size bytes.
func Store(v uint64, size int, order api.Order) (string, api.Errno) {
	if !isOrder(order) {
		return "", api.ErrRange
	}
	switch size {
	case 1:
		return storeBytes[uint8](v, order)
	case 2:
		return storeBytes[uint16](v, order)
	case 4:
		return storeBytes[uint32](v, order)
	case 8:
		return storeBytes[uint64](v, order)
	}
	return "", api.ErrRange
}

// Even is the least even number that is not below n.
func Even(n int) int {
	if n == math.MaxInt {
		return n // no even int is above it
	}
	return n + n&1
}
