package head

import (
	"shelf/api"
	"shelf/num"
)

// blank fills a field up behind what it holds.
const blank = " "

// fields are a header's fields as they stand, one a row of columns.
type fields [rows]string

// numbers are what a header's fields say, one a row of columns; 0 in the rows that hold no number.
type numbers [rows]int

// cut takes a header apart.
func cut(header string) (f fields) {
	for i, c := range columns {
		f[i] = header[c.at : c.at+c.width]
	}
	return f
}

// join puts a header together. A field may be shorter than its columns: blanks stand there already.
func join(f fields) string {
	var header [api.HeadSize]byte
	for i := range header {
		header[i] = blank[0]
	}
	for i, c := range columns {
		copy(header[c.at:c.at+c.width], f[i])
	}
	return string(header[:])
}

// readNumbers reads every field that holds a number.
func readNumbers(f fields) (n numbers, e api.Errno) {
	for i, c := range columns {
		switch c.base {
		case 8:
			n[i], e = num.Oct(f[i])
		case 10:
			n[i], e = num.Dec(f[i])
		}
		if e != api.OK {
			return numbers{}, e
		}
	}
	return n, api.OK
}

// writeNumbers writes every field that holds a number, and leaves the others empty.
func writeNumbers(n numbers) (f fields, e api.Errno) {
	for i, c := range columns {
		switch c.base {
		case 8:
			f[i], e = num.PutOct(n[i], c.width)
		case 10:
			f[i], e = num.PutDec(n[i], c.width)
		}
		if e != api.OK {
			return fields{}, e
		}
	}
	return f, api.OK
}
