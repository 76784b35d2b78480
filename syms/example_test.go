package syms_test

import (
	std "debug/elf"
	"testing"

	"shelf/api"
)

// numbersOfB are the numbers of the chapter's file B that its examples change.
type numbersOfB struct {
	second, third std.Sym32
	one, two      std.Section32
}

// fileB is the chapter's file B, with other numbers where change says so.
func fileB(change func(n *numbersOfB)) string {
	k := kind{32, api.Big}
	n := numbersOfB{
		second: std.Sym32{Name: 1, Value: 16, Size: 8, Info: 0x12, Shndx: 1},
		third:  std.Sym32{Name: 6, Info: 0x10, Other: 2},
		one:    std.Section32{Type: 2, Off: 52, Size: 48, Link: 2, Entsize: 16},
		two:    std.Section32{Type: 3, Off: 100, Size: 11},
	}
	if change != nil {
		change(&n)
	}
	h := std.Header32{Ident: [16]byte{0x7f, 0x45, 0x4c, 0x46, 1, 2, 1}, Shoff: 111, Shentsize: 40, Shnum: 3}
	return k.bytes(h) + k.bytes(std.Sym32{}) + k.bytes(n.second) + k.bytes(n.third) + "\x00main\x00puts\x00" +
		k.bytes(std.Section32{}) + k.bytes(n.one) + k.bytes(n.two)
}

// The chapter's examples, row by row: those of names.
func TestExamplesOfNames(t *testing.T) {
	b := fileB(nil)
	if len(b) != 231 {
		t.Fatalf("B has %d bytes", len(b))
	}
	wantTable(t, "B", b, []api.Symbol{{}, {Name: "main", Bind: 1, Type: 2, Section: 1, Value: 16, Size: 8}, {Name: "puts", Bind: 1, Other: 2}}, api.OK)
	wantGlobals(t, "B", b, "main")
	wantNeeds(t, "B", b, "puts")
	b = fileB(func(n *numbersOfB) { n.third.Shndx = 0xfff2 })
	wantGlobals(t, "the third's Section fff2", b, "main", "puts")
	wantNeeds(t, "the third's Section fff2", b)
	b = fileB(func(n *numbersOfB) { n.third.Info = 0x20 })
	wantGlobals(t, "the third's info 20", b, "main")
	wantNeeds(t, "the third's info 20", b)
	b = fileB(func(n *numbersOfB) { n.second.Info = 0x22 })
	wantGlobals(t, "the second's info 22", b, "main")
	for _, info := range []byte{0x02, 0x32, 0xa2} {
		wantGlobals(t, "the second's info is local or unknown", fileB(func(n *numbersOfB) { n.second.Info = info }))
	}
	b = fileB(func(n *numbersOfB) { n.third.Name, n.third.Shndx = 7, 1 })
	wantGlobals(t, "the third's name's place 7", b, "main", "uts")
	wantGlobals(t, "the second's name's place 0", fileB(func(n *numbersOfB) { n.second.Name = 0 }))
}

// The chapter's examples, row by row: those of refusals, and the one without a symbol table.
func TestExamplesOfRefusals(t *testing.T) {
	wantRefused(t, "the third's name's place 11", fileB(func(n *numbersOfB) { n.third.Name = 11 }), api.ErrString)
	wantRefused(t, "entry 1's EntSize 24", fileB(func(n *numbersOfB) { n.one.Entsize = 24 }), api.ErrEntSize)
	wantRefused(t, "entry 1's Size 40", fileB(func(n *numbersOfB) { n.one.Size = 40 }), api.ErrEntSize)
	wantRefused(t, "entry 1's Link 3", fileB(func(n *numbersOfB) { n.one.Link = 3 }), api.ErrLink)
	wantRefused(t, "entry 1's Link 1", fileB(func(n *numbersOfB) { n.one.Link = 1 }), api.ErrLink)
	wantRefused(t, "entry 2's Size 200", fileB(func(n *numbersOfB) { n.two.Size = 200 }), api.ErrCut)
	wantRefused(t, "entry 2's Size 10", fileB(func(n *numbersOfB) { n.two.Size = 10 }), api.ErrString)
	wantRefused(t, "entry 1's Type 11", fileB(func(n *numbersOfB) { n.one.Type = 11 }), api.OK)
	wantRefused(t, "230 bytes", fileB(nil)[:230], api.ErrCut)
	wantRefused(t, "the empty file", "", api.ErrNoELF)
	if api.ErrLink != 60 {
		t.Errorf("ErrLink is %d", api.ErrLink)
	}
}
