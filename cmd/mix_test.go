package cmd_test

import (
	"strings"
	"testing"

	"shelf/api"
)

// wantMix wants the letters of key, with an O in the operation's place, to go with these operations and with no other: there culprit is told.
func wantMix(t *testing.T, key, goes, culprit string) {
	t.Helper()
	for _, op := range "dmpqrstx" {
		line := list("ar", strings.ReplaceAll(key, "O", string(op)), "x.o", "lib.a", "y.o")
		if !strings.ContainsRune(goes, op) {
			wantRefused(t, line, culprit, api.ErrMix)
			wantRefused(t, line[:2], culprit, api.ErrMix)
			continue
		}
		want, culprit, e := modelDecode(line)
		if e != api.OK {
			t.Errorf("the model refuses %q: %q, %d", line, culprit, e)
		}
		wantTaken(t, line, want)
	}
}

// 15.6: each refusal by itself.
func TestWhatGoesTogether(t *testing.T) {
	for _, key := range []string{"Oa", "aO", "-Oa", "aOlD"} {
		wantMix(t, key, "mr", "a")
	}
	wantMix(t, "Ob", "mr", "b")
	wantMix(t, "bO", "mr", "b")
	wantMix(t, "Oi", "mr", "i")
	wantMix(t, "iO", "mr", "i")
	wantMix(t, "Ou", "r", "u")
	wantMix(t, "uO", "r", "u")
	wantMix(t, "OT", "rq", "T")
	wantMix(t, "OTT", "rq", "T")
	wantMix(t, "Oo", "x", "o")
	wantMix(t, "Oc", "rq", "c")
	wantMix(t, "OS", "dmqr", "S")
	wantRefused(t, words("ar ruD lib.a"), "u", api.ErrMix)
	wantRefused(t, words("ar Dru lib.a"), "u", api.ErrMix)
	wantRefused(t, words("ar r -D -u lib.a"), "u", api.ErrMix)
	wantRefused(t, words("ar --format=bsd rT lib.a"), "T", api.ErrMix)
	wantRefused(t, words("ar --format=bsd qT lib.a"), "T", api.ErrMix)
	wantRefused(t, words("ar --thin --format=bsd q lib.a"), "T", api.ErrMix)
}

// 15.6: D, v and the format go with every operation.
func TestWhatAlwaysGoes(t *testing.T) {
	for _, op := range []byte("dmpqrstx") {
		wantTaken(t, list("ar", string(op)+"D", "lib.a"), ar(op, det))
		wantTaken(t, list("ar", string(op)+"v", "lib.a"), ar(op, verbose))
		wantTaken(t, list("ar", string(op)+"Dvl", "lib.a"), ar(op, det, verbose))
		wantTaken(t, list("ar", "--format=gnu", string(op), "lib.a"), ar(op))
		wantTaken(t, list("ar", "--format=bsd", "vD"+string(op), "lib.a"), ar(op, bsd, det, verbose))
	}
}

// 15.6: of two refusals the first in the order is told, however the letters stand.
func TestOrderOfMixes(t *testing.T) {
	for _, x := range [][2]string{
		{"tau", "a"}, {"uta", "a"}, {"dib", "b"}, {"qiu", "i"}, {"qTSbu", "b"}, {"tSa", "a"}, {"taT", "a"}, {"xca", "a"},
		{"quD", "u"}, {"tTu", "u"}, {"tou", "u"}, {"Scut", "u"}, {"ruDo", "u"}, {"oDur", "u"}, {"rTuD", "u"},
		{"toT", "T"}, {"tcT", "T"}, {"tST", "T"}, {"doTcS", "T"},
		{"tco", "o"}, {"tSo", "o"}, {"rcSo", "o"}, {"Scop", "o"},
		{"tSc", "c"}, {"xSc", "c"}, {"Scs", "c"},
	} {
		wantRefused(t, list("ar", x[0], "x.o", "lib.a"), x[1], api.ErrMix)
		wantRefused(t, list("ar", "-"+x[0], "x.o", "lib.a"), x[1], api.ErrMix)
		wantRefused(t, list("ar", x[0]), x[1], api.ErrMix)
	}
	wantRefused(t, words("ar --format=bsd rTu lib.a -D"), "T", api.ErrMix)
	wantRefused(t, words("ar --format=bsd rTuD lib.a"), "u", api.ErrMix)
	wantRefused(t, words("ar --format=bsd rTo lib.a"), "T", api.ErrMix)
	wantRefused(t, words("ar --thin ta lib.a"), "a", api.ErrMix)
	wantRefused(t, words("ar --thin tu lib.a"), "u", api.ErrMix)
	wantRefused(t, words("ar --thin to lib.a"), "T", api.ErrMix)
	wantRefused(t, words("ar --thin --format=bsd qa lib.a"), "a", api.ErrMix)
}
