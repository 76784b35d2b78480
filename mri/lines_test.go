package mri_test

import (
	"slices"
	"strings"
	"testing"

	"shelf/api"
	"shelf/mri"
)

// of is a command, written short.
func of(verb int, name string, names ...string) api.Mri {
	return api.Mri{Verb: verb, Name: name, Names: names}
}

// same: are these the same commands, a list without elements being nil or not?
func same(a, b []api.Mri) bool {
	return slices.EqualFunc(a, b, func(x, y api.Mri) bool {
		return x.Verb == y.Verb && x.Name == y.Name && slices.Equal(x.Names, y.Names)
	})
}

// wantDecode: the text is just these commands.
func wantDecode(t *testing.T, text string, want ...api.Mri) {
	t.Helper()
	if got, line, e := mri.Decode(text); !same(got, want) || line != 0 || e != api.OK {
		t.Errorf("Decode(%q) = %+v, %d, %d, want %+v, 0, 0", text, got, line, e, want)
	}
}

// wantNo: the text is refused at this line.
func wantNo(t *testing.T, text string, line int, code api.Errno) {
	t.Helper()
	if got, at, e := mri.Decode(text); got != nil || at != line || e != code {
		t.Errorf("Decode(%q) = %+v, %d, %d, want none, %d, %d", text, got, at, e, line, code)
	}
}

// del is DELETE of these names: what stands behind it shows how a line is read.
func del(names ...string) api.Mri { return of(api.MriDelete, "", names...) }

var list = of(api.MriList, "")

// 19.1: lines end with a newline, the last one need not; nothing is a line behind the last newline; the empty text has none.
func TestLines(t *testing.T) {
	wantDecode(t, "")
	wantDecode(t, "\n")
	wantDecode(t, "\n\n\n")
	wantDecode(t, "LIST", list)
	wantDecode(t, "LIST\n", list)
	wantDecode(t, "LIST\nLIST", list, list)
	wantDecode(t, "LIST\nLIST\n", list, list)
	wantDecode(t, "\n\nLIST\n\n\nLIST\n\n", list, list)
	wantDecode(t, "DELETE a\r\nLIST\r\n", del("a"), list)
}

// 19.1: no other byte ends a line.
func TestOtherEndsOfLines(t *testing.T) {
	for _, b := range []string{"\v", "\f", "\x00", "\x85", "\u0085", "\u2028"} {
		wantDecode(t, "DELETE a"+b+"b"+b, del("a"+b+"b"+b))
	}
	wantDecode(t, "DELETE a\rLIST", del("a", "LIST"))
}

// 19.1: lines are numbered from 1, the empty ones and those of remarks alone too.
func TestLineNumbers(t *testing.T) {
	for n := range 5 {
		for _, ahead := range []string{"\n", "LIST\n", "*\n", " ,\t\n", "; FOO\n"} {
			text := strings.Repeat(ahead, n)
			wantNo(t, text+"FOO", n+1, api.ErrVerb)
			wantNo(t, text+"FOO\n", n+1, api.ErrVerb)
			wantNo(t, text+"DELETE\nFOO\n", n+1, api.ErrList)
		}
	}
}

// 19.2: everything from the first '*' or ';' on is a remark.
func TestRemarks(t *testing.T) {
	for _, sign := range []string{"*", ";"} {
		wantDecode(t, sign)
		wantDecode(t, sign+"FOO\n"+sign+" ( ) \n")
		wantDecode(t, " \t"+sign+"LIST")
		wantDecode(t, "DELETE a b"+sign, del("a", "b"))
		wantDecode(t, "DELETE a"+sign+"b\nLIST", del("a"), list)
		wantDecode(t, "DELETE a "+sign+" b ; * + \nLIST", del("a"), list)
		wantDecode(t, "LIST"+sign+"(x", list)
		wantNo(t, "DELETE"+sign+" a", 1, api.ErrList)
		wantNo(t, "ADDLIB l (x"+sign+")", 1, api.ErrList)
		wantNo(t, sign+"\nS"+sign+"AVE", 2, api.ErrVerb)
	}
}

// 19.2: blanks, tabs, carriage returns and commas part tokens, as many of them as there are.
func TestPartingBytes(t *testing.T) {
	for _, gap := range []string{" ", "\t", "\r", ",", "  ", ", ", " ,,\t\r ", "\r\r"} {
		wantDecode(t, "DELETE"+gap+"a"+gap+"b", del("a", "b"))
		wantDecode(t, gap+"DELETE"+gap+"a"+gap+"b"+gap+"\n"+gap, del("a", "b"))
		wantDecode(t, gap+"LIST"+gap+"; x", list)
		wantDecode(t, "ADDLIB"+gap+"l"+gap+"("+gap+"x"+gap+")"+gap, of(api.MriAddLib, "l", "x"))
	}
}

// 19.2: of all bytes just these part tokens, stand by themselves, or begin a remark: every other one is part of a word, by itself too.
func TestEveryByte(t *testing.T) {
	for b := range 256 {
		s := string([]byte{byte(b)})
		text := "DELETE a" + s + "b " + s
		switch {
		case strings.Contains(" \t\r,", s):
			wantDecode(t, text, del("a", "b"))
		case strings.Contains("*;", s):
			wantDecode(t, text, del("a"))
		case s == "\n":
			wantNo(t, text, 2, api.ErrVerb)
		case strings.Contains("()", s):
			wantNo(t, text, 1, api.ErrList)
		case s == "+":
			wantDecode(t, text, del("a+b"))
		default:
			wantDecode(t, text, del("a"+s+"b", s))
		}
	}
}

// 19.2: parentheses are tokens by themselves, wherever they stand.
func TestParentheses(t *testing.T) {
	for _, text := range []string{"ADDLIB l(x,y)", "ADDLIB l (x y)", "ADDLIB l( x\ty )", "ADDLIB,l(x)y", "ADDLIB l(x(y)", "ADDLIB(l x y)"} {
		switch text {
		case "ADDLIB,l(x)y", "ADDLIB l(x(y)", "ADDLIB(l x y)":
			wantNo(t, text, 1, api.ErrList)
		default:
			wantDecode(t, text, of(api.MriAddLib, "l", "x", "y"))
		}
	}
	wantDecode(t, "DIRECTORY l()", of(api.MriDirectory, "l"))
	wantNo(t, "(LIST", 1, api.ErrVerb)
	wantNo(t, "LIST(", 1, api.ErrList)
	wantNo(t, "DELETE a(", 1, api.ErrList)
	wantNo(t, "DELETE )a", 1, api.ErrList)
	wantNo(t, "OPEN a)", 1, api.ErrList)
}

// 19.2: words have any other bytes, whatever they would be elsewhere.
func TestWords(t *testing.T) {
	for _, word := range []string{"\x00", "a\x00b", "\xff", "\xc3", "é", "\xe2\x82", "日本", "\"a", "'", "\\", "a/b", "/", "#", "@x", "-v", "[", "{x}", "++", "+a", "a+", "=", "\ufffd", "\v"} {
		wantDecode(t, "DELETE "+word, del(word))
		wantDecode(t, "DELETE x,"+word+"\nOPEN "+word, del("x", word), of(api.MriOpen, word))
		wantDecode(t, "ADDLIB "+word+"("+word+")", of(api.MriAddLib, word, word))
	}
}
