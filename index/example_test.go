package index_test

import (
	"testing"

	"shelf/api"
	"shelf/index"
)

// The chapter's examples, row by row.
func TestExamples(t *testing.T) {
	l := list("f", 8, "go", 300)
	wantSize(t, api.Index32, []string{"f", "go"}, 18, api.OK)
	wantSize(t, api.Index64, []string{"f", "go"}, 30, api.OK)
	wantSize(t, api.IndexBSD, []string{"f", "go"}, 30, api.OK)
	wantEncode(t, api.Index32, l, hex("00 00 00 02, 00 00 00 08, 00 00 01 2c, 66 00 67 6f 00, 00"))
	wantEncode(t, api.Index64, l, hex("00 00 00 00 00 00 00 02, 00 00 00 00 00 00 00 08, 00 00 00 00 00 00 01 2c, 66 00 67 6f 00, 00"))
	wantEncode(t, api.IndexBSD, l, hex("10 00 00 00, 00 00 00 00 08 00 00 00, 02 00 00 00 2c 01 00 00, 06 00 00 00, 66 00 67 6f 00, 00"))
	wantEncode(t, api.Index32, nil, hex("00 00 00 00"))
	wantEncode(t, api.IndexBSD, nil, hex("00 00 00 00 00 00 00 00"))
	wantSize(t, api.NoIndex, []string{"f"}, 0, api.ErrForm)
	wantSize(t, 4, []string{""}, 0, api.ErrForm)
	wantNoEncode(t, api.Index32, list("", -1), api.ErrName)
	wantNoEncode(t, api.Index32, list("f", 4294967296), api.ErrFar)
	wantNoEncode(t, api.IndexBSD, list("f", 4294967296), api.ErrFar)
	wantNoEncode(t, api.Index64, list("f", -1), api.ErrFar)
	wantEncode(t, api.Index64, list("f", 4294967296), hex("00 00 00 00 00 00 00 01, 00 00 00 01 00 00 00 00, 66 00"))
	wantDecode(t, api.Index32, hex("00 00 00 00 00 00 00"), nil)
	wantNoDecode(t, api.Index32, hex("00 00 00 00 01"), api.ErrIndex)
	wantNoDecode(t, api.Index32, hex("00 00 00 01, 00 00 00 08, 66"), api.ErrIndex)
	wantNoDecode(t, api.Index32, hex("ff ff ff ff, 00"), api.ErrIndex)
	narrow, _ := index.Encode(api.Index32, l)
	wantNoDecode(t, api.Index64, narrow, api.ErrIndex)
	wantDecode(t, api.IndexBSD, hex("08 00 00 00, 01 00 00 00 05 00 00 00, 04 00 00 00, 61 62 63 00, 77"), list("bc", 5))
	wantNoDecode(t, api.IndexBSD, hex("04 00 00 00, 00 00 00 00, 00 00 00 00"), api.ErrIndex)
	wantFind(t, api.Index32, narrow, "go", 300, api.OK)
	wantFind(t, api.Index32, narrow, "x", 0, api.ErrNone)
}
