package link_test

import (
	"testing"

	"shelf/api"
	"shelf/link"
)

// shelfL is the chapter's library L.
func shelfL() api.Library {
	return library("f:8 g:70 h:140", "8 70 140", "f,g,h", "h x,,g")
}

// The chapter's examples of Search and Group, row by row.
func TestSearchExamples(t *testing.T) {
	wantSearch(t, shelfL(), "; f; ", "f h g; x; 5:8 5:140 5:70")
	wantSearch(t, shelfL(), "; g f; ", "f g h; x; 5:8 5:70 5:140")
	wantSearch(t, shelfL(), "h; f; ", "h f; x; 5:8")
	wantSearch(t, shelfL(), "; f; 5:8", "; f; 5:8")
	wantSearch(t, shelfL(), "; f; 4:8", "f h g; x; 4:8 5:8 5:140 5:70")
	wantSearch(t, shelfL(), "; f f y; ", "f h g; y x; 5:8 5:140 5:70")
	wantGroup(t, []api.Library{shelfL(), library("x:8", "8", "x", "f y")}, "; f; ", "f h g x; y; 0:8 0:140 0:70 1:8")
	wantSearch(t, library("f:8", "8", "", ""), "; f; ", "; f; 5:8")
	wantSearch(t, library("f:9", "8", "f", ""), "; f; ", "; f; ")
}

// The chapter's examples of Open, row by row.
func TestOpenExamples(t *testing.T) {
	f := member("f.o", object("f", ""))
	wantRefused(t, "without index, f defined", parsed(api.NoIndex, "", numbers("8"), f), api.ErrNoIndex)
	wantOpen(t, "without index and ELF files", parsed(api.NoIndex, "", numbers("8"), member("t", "text")), api.Library{At: numbers("8"), Names: words("t"), Defines: lists(""), Needs: lists("")}, api.OK)
	wantRefused(t, "a place that is no member's", parsed(api.Index32, encoded(t, api.Index32, "f:9"), numbers("8"), f), api.ErrIndex)
}

// The chapter's examples of Run, row by row, and the document's twelfth.
func TestRunExamples(t *testing.T) {
	f := volume(t, files{
		"lib.a":  packed(t, api.GNU, member("m.o", object("main", ""))),
		"text.a": packed(t, api.GNU, member("a.o", "hello"), member("b.o", "hi")),
	})
	wantResult(t, "none", link.Run(f, "main", nil), api.Result{Out: "undefined: main\n", Code: api.ErrNone})
	wantResult(t, "lib.a", link.Run(f, "main", []string{"lib.a"}), api.Result{Out: "lib.a(m.o)\n"})
	wantResult(t, "no.a", link.Run(f, "main", []string{"no.a"}), api.Result{Msg: "ld: no.a: no such file\n", Code: api.ErrMissing})
	wantResult(t, "text.a", link.Run(f, "main", []string{"text.a"}), api.Result{Out: "undefined: main\n", Code: api.ErrNone})
}
