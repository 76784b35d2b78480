package salvage

import (
	"strconv"
	"strings"

	"shelf/api"
	"shelf/text"
)

// archiveMode is the mode of the archive that is saved.
const archiveMode = 0o644

// refused is what a run answers that ends at a file.
func refused(name string, code api.Errno) api.Result {
	msg := "salvage: " + text.Quote(name) + ": " + code.Error() + "\n"
	return api.Result{Msg: msg, Code: code}
}

// told is what a run answers that has saved what is not damaged.
func told(list []api.Damage) api.Result {
	var out strings.Builder
	tell := func(d api.Damage) {
		out.WriteString("damage at " + strconv.Itoa(d.At) + ", " + strconv.Itoa(d.Len) + " bytes: " + d.Code.Error() + "\n")
	}
	for _, d := range list {
		tell(d)
	}
	code := api.OK
	if len(list) > 0 {
		code = api.ErrDamage
	}
	return api.Result{Out: out.String(), Code: code}
}
