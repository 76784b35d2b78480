package tool_test

import (
	"fmt"
	"slices"
	"testing"

	"shelf/api"
	"shelf/arc"
	"shelf/index"
	"shelf/syms"
	"shelf/tool"
)

// objects are files with symbols and without, and archives of each kind that have an index, or none, or an old one.
func objects() files {
	f, g := object("f", "g"), object("h")
	fm, gm, text := member("f.o", f), member("g.o", g), member("text", "words")
	list := files{"f.o": put(f), "g.o": put(g), "text": put("words"), "empty": put(""), "long.name.of.an.object.o": put(object("l", "f"))}
	list["g.a"] = put(gnu(gm, text))
	list["b.a"] = put(bsd(text, fm))
	list["t.a"] = put(thin(fm, text, gm))
	list["old.a"] = put(regular(part("/", api.Meta{Date: 3}, narrow(entry{"q", 8})), part("f.o/", own, f), part("text/", own, "words")))
	return list
}

// bareLines are commands in two forms: S is put in at %s.
func bareLines() []string {
	return []string{
		"ar r%s g.a f.o", "ar d%s g.a text", "ar m%s g.a g.o", "ar q%s g.a g.o long.name.of.an.object.o", "ar q%s g.a g.a", "ar d%s g.a g.o",
		"ar r%s b.a g.o long.name.of.an.object.o", "ar m%s b.a f.o", "ar d%s b.a text", "ar d%s b.a f.o text", "ar q%s b.a b.a f.o",
		"ar r%sT t.a f.o empty", "ar q%sT t.a f.o g.a", "ar d%s t.a f.o", "ar m%s t.a f.o", "ar r%sT t.a long.name.of.an.object.o",
		"ar m%s old.a", "ar r%s old.a text g.o", "ar q%s old.a",
		"ar r%sc new.a f.o g.o", "ar --format=bsd q%sc new.a f.o text g.o", "ar q%scT new.a g.o text f.o f.o", "ar r%sc new.a", "ar --format=bsd r%sc new.a", "ar r%scT new.a", "ar --format=bsd r%sc new.a text",
	}
}

// leaves is the archive that these lines leave, one behind the other; each must answer OK.
func leaves(t *testing.T, e api.Env, lines ...string) string {
	t.Helper()
	f := durable(t, objects())
	for _, line := range lines {
		if r := tool.Run(f, args(line), e); r.Code != api.OK {
			t.Errorf("%s: %q", line, r.Msg)
		}
	}
	return look(t, f)[archiveOf(lines[0])].data
}

// 17.17: ranlib, and ar s, behind S give the bytes of the command without S.
func TestRanlibBehindBare(t *testing.T) {
	for _, line := range bareLines() {
		for _, wide := range []int{0, 1, 300} {
			e := env
			e.Wide = wide
			archive := archiveOf(line)
			if wide > 0 && (archive == "b.a" || slices.Contains(args(line), "--format=bsd")) {
				continue // places that a BSD index cannot tell then
			}
			for _, det := range []string{"", "D"} {
				want := leaves(t, e, fmt.Sprintf(line, det))
				ranlib := "ranlib " + archive
				if det != "" {
					ranlib = "ranlib -D " + archive
				}
				for _, second := range []string{ranlib, "ar s" + det + " " + archive, "ar sv" + det + " " + archive} {
					got := leaves(t, e, fmt.Sprintf(line, det+"S"), second)
					if got != want {
						t.Errorf("17.17: %s with S, then %s: %q, want %q", line, second, got, want)
					}
				}
				if got := leaves(t, e, fmt.Sprintf(line, det), ranlib); got != want {
					t.Errorf("17.17: %s, then %s: %q, want %q", line, ranlib, got, want)
				}
			}
		}
	}
}

// 17.9, with layers 9 and 11: the index of what a command without S leaves tells just what the members define, at their places; with S there is none.
func TestIndexTellsTruth(t *testing.T) {
	for _, line := range bareLines() {
		f := durable(t, objects())
		if r := tool.Run(f, args(fmt.Sprintf(line, "")), env); r.Code != api.OK {
			t.Fatalf("%s: %q", line, r.Msg)
		}
		left := look(t, f)
		p, _, e := arc.Parse(left[archiveOf(line)].data)
		if e != api.OK {
			t.Fatalf("%s: %d", line, e)
		}
		var want []api.Entry
		for i, m := range p.Members {
			data := m.Data
			if p.Kind == api.Thin {
				data = left[m.Name].data
			}
			for _, name := range syms.Globals(data) {
				want = append(want, api.Entry{Name: name, At: p.At[i]})
			}
		}
		var got []api.Entry
		if p.Form != api.NoIndex {
			got, e = index.Decode(p.Form, p.Index)
		}
		if e != api.OK || !slices.Equal(got, want) || (p.Form == api.NoIndex) != (len(want) == 0) {
			t.Errorf("%s: the index is %v, %d, want %v", line, got, e, want)
		}
		bare, _, _ := arc.Parse(leaves(t, env, fmt.Sprintf(line, "S")))
		if bare.Form != api.NoIndex {
			t.Errorf("%s with S: an index of form %d", line, bare.Form)
		}
	}
}
