package index

import (
	"strings"

	"shelf/api"
	"shelf/num"
)

// codec is a form of the index: in how many bytes and in which order its numbers stand, and what is done by that. The functions in its fields are methods of this type, and are handed the codec that they work for.
type codec struct {
	form   api.Form
	width  int
	order  api.Order
	length func(c codec, b bulk) int
	fits   func(c codec, b bulk) bool // have the numbers that are no places of members room?
	write  func(c codec, out *strings.Builder, list []api.Entry, b bulk)
	read   func(c codec, data string) ([]api.Entry, bool)
}

// codecs are all the forms.
func codecs() [3]codec {
	return [3]codec{
		{api.Index32, 4, api.Big, codec.rowLength, codec.rowFits, codec.writeRow, codec.readRow},
		{api.Index64, 8, api.Big, codec.rowLength, codec.rowFits, codec.writeRow, codec.readRow},
		{api.IndexBSD, 4, api.Little, codec.pairsLength, codec.pairsFit, codec.writePairs, codec.readPairs},
	}
}

func codecOf(form api.Form) (codec, api.Errno) {
	for _, c := range codecs() {
		if c.form == form {
			return c, api.OK
		}
	}
	return codec{}, api.ErrForm
}

// holds: has the form's number room for v?
func (c codec) holds(v int) bool { return v >= 0 && (c.width == 8 || v < api.Wide32) }

// reaches: has the form room for the places of all these entries?
func (c codec) reaches(list []api.Entry) bool {
	for _, entry := range list {
		if !c.holds(entry.At) {
			return false
		}
	}
	return true
}

// store writes a number that the form holds.
func (c codec) store(out *strings.Builder, v int) {
	bytes, _ := num.Store(uint64(v), c.width, c.order)
	out.WriteString(bytes)
}

// load reads the number at a place of data, if data hold it whole.
func (c codec) load(data string, at int) (uint64, bool) {
	v, e := num.Load(data, at, c.width, c.order)
	return v, e == api.OK
}
