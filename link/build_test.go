package link_test

import (
	"bytes"
	"debug/elf"
	"encoding/binary"
	"strings"
	"testing"

	"shelf/api"
	"shelf/index"
	"shelf/lay"
	"shelf/pack"
	"shelf/vfs"
)

// symbol is one of an object file.
type symbol struct {
	name    string
	bind    int
	section int
}

// objectOf is an ELF file with these symbols.
func objectOf(list ...symbol) string {
	texts := "\x00"
	table := []elf.Sym64{{}}
	for _, s := range list {
		table = append(table, elf.Sym64{Name: uint32(len(texts)), Info: byte(s.bind << 4), Shndx: uint16(s.section)})
		texts += s.name + "\x00"
	}
	at := uint64(64 + 24*len(table))
	end := at + uint64(len(texts))
	id := [16]byte{0x7f, 'E', 'L', 'F', 2, 1, 1}
	return bytesOf(elf.Header64{Ident: id, Type: 1, Version: 1, Shoff: end, Shentsize: 64, Shnum: 3}) +
		bytesOf(table) + texts +
		bytesOf([]elf.Section64{{}, {Type: 2, Off: 64, Size: at - 64, Link: 2, Entsize: 24}, {Type: 3, Off: at, Size: end - at}})
}

// object is an ELF file that defines and needs these words; what it has beside them is neither for others nor from others.
func object(defines, needs string) string {
	list := []symbol{{"local", 0, 1}, {"weakly", 2, 0}}
	for _, name := range words(needs) {
		list = append(list, symbol{name, 1, 0})
	}
	for i, name := range words(defines) {
		list = append(list, symbol{name, 1 + i%2, 1}) // every other one is weak
	}
	return objectOf(list...)
}

// bytesOf are the bytes of a struct, or of a list of them.
func bytesOf(x any) string {
	var b bytes.Buffer
	if err := binary.Write(&b, binary.LittleEndian, x); err != nil {
		panic(err)
	}
	return b.String()
}

func member(name, data string) api.Member {
	return api.Member{Meta: api.Meta{Date: 5, UID: 1, GID: 2, Mode: 0o644}, Name: name, Size: len(data), Data: data}
}

// packed is an archive as a command leaves it.
func packed(t *testing.T, kind api.Kind, list ...api.Member) string {
	t.Helper()
	b, e := pack.Build(kind, list, 7, api.Wide32, false)
	if e != api.OK {
		t.Fatal(e)
	}
	return b
}

// wide is an archive with the wide index.
func wide(t *testing.T, kind api.Kind, list ...api.Member) string {
	t.Helper()
	b, e := pack.Build(kind, list, 7, 1, false)
	if e != api.OK {
		t.Fatal(e)
	}
	return b
}

// bare is an archive without an index.
func bare(t *testing.T, kind api.Kind, list ...api.Member) string {
	t.Helper()
	return written(t, api.Archive{Kind: kind, Members: list})
}

// indexed is an archive with an index of these bytes.
func indexed(t *testing.T, kind api.Kind, form api.Form, bytes string, list ...api.Member) string {
	t.Helper()
	return written(t, api.Archive{Kind: kind, Form: form, Index: bytes, Members: list})
}

// written is an archive's bytes; a thin one's members lose their data on the way.
func written(t *testing.T, a api.Archive) string {
	t.Helper()
	members := make([]api.Member, len(a.Members))
	for i, m := range a.Members {
		if a.Kind == api.Thin {
			m.Data = ""
		}
		members[i] = m
	}
	a.Members = members
	b, e := lay.Write(a)
	if e != api.OK {
		t.Fatal(e)
	}
	return b
}

// encoded are the bytes of an index of pairs like name:place.
func encoded(t *testing.T, form api.Form, pairs string) string {
	t.Helper()
	b, e := index.Encode(form, entries(pairs))
	if e != api.OK {
		t.Fatal(e)
	}
	return b
}

// forms are the forms of an index.
func forms() []api.Form { return []api.Form{api.Index32, api.Index64, api.IndexBSD} }

// files are the bytes of files by their names.
type files map[string]string

// volume has just these files, all durable; the count of calls is 0.
func volume(t *testing.T, list files) *vfs.FS {
	t.Helper()
	f := vfs.New(1 << 20)
	for name, data := range list {
		h, err := f.Create(name, api.Meta{})
		must(t, err)
		_, err = h.Write(data)
		must(t, err)
		must(t, h.Sync())
		must(t, h.Close())
	}
	f.Restart(2*api.MaxFiles, nil)
	return f
}

func must(t *testing.T, err error) {
	t.Helper()
	if err != nil {
		t.Fatal(err)
	}
}

// look tells all the files of a volume with the power on. It takes the plan away.
func look(t *testing.T, f *vfs.FS) files {
	t.Helper()
	f.Arm(nil)
	names, err := f.List()
	must(t, err)
	out := files{}
	for _, name := range names {
		data, err := f.ReadFile(name)
		must(t, err)
		out[name] = data
	}
	return out
}

func wantResult(t *testing.T, what string, got, want api.Result) {
	t.Helper()
	if got != want {
		t.Errorf("%s:\n got %q, %q, %d\nwant %q, %q, %d", what, got.Out, got.Msg, got.Code, want.Out, want.Msg, want.Code)
	}
}

// out is an answer of these lines: with a name that stays undefined the code says so.
func out(lines ...string) api.Result {
	var r api.Result
	for _, l := range lines {
		r.Out += l + "\n"
		if strings.HasPrefix(l, "undefined: ") {
			r.Code = api.ErrNone
		}
	}
	return r
}
