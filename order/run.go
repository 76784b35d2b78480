package order

import (
	"strings"

	"shelf/api"
	"shelf/text"
)

// refused is what a run answers that ends at a file.
func refused(name string, code api.Errno) api.Result {
	msg := "lorder: " + text.Quote(name) + ": " + code.Error() + "\n"
	return api.Result{Msg: msg, Code: code}
}

// told is what a run answers that has put files in order.
func told(names []string, loops [][]string) api.Result {
	var out, msg strings.Builder
	for _, name := range names {
		out.WriteString(text.Quote(name) + "\n")
	}
	for _, loop := range loops {
		msg.WriteString("tsort: input contains a loop: " + text.Join(loop) + "\n")
	}
	code := api.OK
	if len(loops) > 0 {
		code = api.ErrLoop
	}
	return api.Result{Out: out.String(), Msg: msg.String(), Code: code}
}
