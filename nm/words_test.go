package nm_test

import (
	"fmt"
	"slices"
	"strings"
	"testing"

	"shelf/api"
	"shelf/nm"
)

const (
	blanks   = "                "
	mainLine = "0000000000000000 T main\n"
	putsLine = blanks + " U puts\n"
)

// mainO is an object file that defines main and needs puts.
func mainO() string { return object(global("main"), needed("puts")) }

// mixO is an object file with symbols of all sorts, in another order than that of their names and of their values.
func mixO() string {
	return object(symbol("low", 0, 1, 0x30), needed("puts"), symbol("b", 1, 2, 0x20), symbol("a", 2, 1, 0x40), symbol("maybe", 2, 0, 0))
}

// mixLines are the lines of mixO by the first letter of the name.
func mixLines(names string) string {
	line := map[rune]string{
		'l': "0000000000000030 t low\n", 'p': putsLine, 'b': "0000000000000020 D b\n", 'a': "0000000000000040 W a\n", 'm': blanks + " w maybe\n",
	}
	out := ""
	for _, n := range names {
		out += line[n]
	}
	return out
}

// mixed is a volume with mixO, and with files whose names are options.
func mixed() files {
	return files{"x": mixO(), "-": mainO(), "-g": mainO(), "g": mainO(), "-x": mainO()}
}

// 20.5: each option by itself, and options together, in one word and in several, in any order, given again.
func TestOptions(t *testing.T) {
	list := mixed()
	for args, names := range map[string]string{
		"": "ablmp", "-g": "abmp", "-u": "mp", "-n": "mpbla", "-p": "lpbam", "-r": "pmlba", "-s": "ablmp",
		"-gn": "mpba", "-g -n": "mpba", "-n -g": "mpba", "-ng": "mpba", "-gg": "abmp", "-g -g": "abmp", "-nn": "mpbla", "-rr": "pmlba", "-r -r": "pmlba", "-pp -p": "lpbam", "-uu": "mp", "-ss -s": "ablmp",
		"-up": "pm", "-pr": "mabpl", "-p -n -r": "mabpl", "-gnprsu": "mp", "-usrpng": "mp", "-ur": "pm", "-nr": "albpm", "-sgr": "pmba",
	} {
		wantRun(t, list, args+" x", told(mixLines(names)), 1)
	}
	for _, args := range []string{"-A", "-AA", "-A -A"} {
		wantRun(t, list, args+" x", told("x:0000000000000040 W a\nx:0000000000000020 D b\nx:0000000000000030 t low\nx:"+blanks+" w maybe\nx:"+putsLine), 1)
	}
	wantRun(t, list, "-gAn -p x", told("x:"+putsLine+"x:0000000000000020 D b\nx:0000000000000040 W a\nx:"+blanks+" w maybe\n"), 1)
}

// 20.5: every choice of options, in one word or one word each, is what Sort makes of the options.
func TestOptionsAsSort(t *testing.T) {
	rows, _ := nm.Rows(mixO())
	for _, letters := range allOptions() {
		prefix := ""
		if strings.Contains(letters, "A") {
			prefix = "x:"
		}
		want := told(nm.Text(nm.Sort(rows, options(letters)), 64, prefix))
		var one, each []string
		if letters != "" {
			one = []string{"-" + letters}
		}
		for _, l := range letters {
			each = append(each, "-"+string(l))
		}
		slices.Reverse(each)
		wantWords(t, mixed(), append(one, "x"), want, 1)
		wantWords(t, mixed(), append(each, "x"), want, 1)
	}
}

// 20.5: a letter that is no option is refused, the first one from the left, ahead of everything else.
func TestUnknownLetter(t *testing.T) {
	list := mixed()
	for args, letter := range map[string]string{
		"-x": "x", "-x x": "x", "-gx x": "x", "-g -nx x": "x", "-xy x": "x", "-yx x": "y", "-gxy x none": "x", "--": "-", "-- x": "-", "-g- x": "-", "--help": "-", "-G": "G", "-a": "a", "-N": "N", "-P": "P", "-R": "R", "-S": "S", "-U": "U", "-1": "1", "-=x": "=",
		"-gé x": "é", "-é": "é", "-é\xff": "é", "-\u20acg": "\u20ac", "-g\U0001f600x": "\U0001f600", "-\ufffd x": "\ufffd", "-\ufffd\xff": "\ufffd",
	} {
		wantRun(t, list, args, no(letter, api.ErrNmLetter, ""), 0)
	}
	// The letters of other alphabets that look like the options.
	for _, letter := range []string{"\u0391", "\u0440", "\uff47", "\u017f"} {
		wantRun(t, list, "-"+letter+" x", no(letter, api.ErrNmLetter, ""), 0)
	}
}

// 20.5: a byte that begins no rune is one by itself, and is told as what it is.
func TestStrayLetter(t *testing.T) {
	list := mixed()
	for word, letter := range map[string]string{
		"-\xff": `"\xff"`, "-g\xffx": `"\xff"`, "-\xc3": `"\xc3"`, "-\xc3g": `"\xc3"`, "-\x80\x80": `"\x80"`, "-\xe2\x82": `"\xe2"`, "-g\xed\xa0\x80": `"\xed"`, "-\xf0\x9f\x98": `"\xf0"`, "-\xc0\x80": `"\xc0"`,
		"-\x00": `"\x00"`, "- ": `" "`, "-g\n": `"\n"`, "-\t": `"\t"`, "-\"": `"\""`, "-\\": `"\\"`, "-\x7f": `"\x7f"`, "-\u0085": `"\xc2\x85"`,
	} {
		wantWords(t, list, []string{word, "x"}, no(letter, api.ErrNmLetter, ""), 0)
		wantWords(t, list, []string{"-g", word}, no(letter, api.ErrNmLetter, ""), 0)
	}
}

// 20.5: no file: neither words, nor words that are options alone.
func TestNoFile(t *testing.T) {
	list := mixed()
	for _, args := range []string{"", "-g", "-g -n", "-gnprsuA", "-s -s -s"} {
		wantRun(t, list, args, no("", api.ErrNoFile, ""), 0)
	}
	f := durable(t, list)
	wantResult(t, "20.5: nil", nm.Run(f, nil), no("", api.ErrNoFile, ""))
	wantResult(t, "20.5: the words", nm.Run(f, nil), api.Result{Msg: "nm: no file named\n", Code: 201})
	wantResult(t, "20.5: the words", nm.Run(f, []string{"-x"}), api.Result{Msg: "nm: x: unknown option letter\n", Code: 200})
}

// 20.5: the first word that is no option ends them: - alone, the empty word, any other; what is behind it are files, whatever they look like.
func TestFirstFile(t *testing.T) {
	list := mixed()
	both := mainLine + putsLine
	wantRun(t, list, "-", told(both), 1)
	wantRun(t, list, "-r -", told(putsLine+mainLine), 1)
	wantRun(t, list, "- -g", told("\n-:\n"+both+"\n-g:\n"+both), 2)
	wantRun(t, list, "g -g -x", told("\ng:\n"+both+"\n-g:\n"+both+"\n-x:\n"+both), 3)
	wantRun(t, list, "-u g -", told("\ng:\n"+putsLine+"\n-:\n"+putsLine), 2)
	wantRun(t, list, "g -u", no("-u", api.ErrMissing, "\ng:\n"+both), 2)
	wantRun(t, list, "- -", told("\n-:\n"+both+"\n-:\n"+both), 2)
	wantRun(t, list, "g --", no("--", api.ErrMissing, "\ng:\n"+both), 2)
	wantRun(t, list.without("-"), "-", no("-", api.ErrMissing, ""), 1)
	wantWords(t, list, []string{""}, no("", api.ErrFileName, ""), 1)
	wantWords(t, list, []string{"-g", "", "-x"}, no("", api.ErrFileName, ""), 1)
	wantWords(t, list, []string{"", "-q"}, no("", api.ErrFileName, ""), 1)
	wantWords(t, list, []string{" -g"}, no(`" -g"`, api.ErrMissing, ""), 1)
}

// 20.5, R4: args is neither changed nor kept, its spare room included.
func TestArgsUnchanged(t *testing.T) {
	args := []string{"-g", "-n", "x", "-", "none", "spare", "spare"}
	for n := range 6 {
		given := slices.Clone(args)
		f := durable(t, mixed())
		first := nm.Run(f, given[:n])
		if !slices.Equal(given, args) {
			t.Errorf("20.5: args are %q now", given)
		}
		clear(given)
		wantResult(t, fmt.Sprintf("20.5: %q again", args[:n]), nm.Run(f, args[:n]), first)
	}
}
