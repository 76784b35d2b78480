package tool

import (
	"strings"

	"shelf/api"
	"shelf/ops"
	"shelf/show"
)

// meant are the members that the command names, or all; and the names that no member has.
func (w *work) meant() ([]api.Member, []string) {
	if len(w.command.Names) == 0 {
		return w.members, nil
	}
	numbers, missing := ops.Select(w.members, w.command.Names)
	list := make([]api.Member, len(numbers))
	for i, number := range numbers {
		list[i] = w.members[number]
	}
	return list, missing
}

// contents carries out t.
func (w *work) contents() api.Result {
	list, missing := w.meant()
	answer := w.ended(missing)
	answer.Out = show.List(list, w.command.Verbose)
	return answer
}

// printOut carries out p.
func (w *work) printOut() api.Result {
	list, missing := w.meant()
	if w.kind == api.Thin {
		if no := w.fetch(list); no.code != api.OK {
			return no.told(w.command.Prog)
		}
	}
	answer := w.ended(missing)
	answer.Out = show.Print(list, w.command.Verbose)
	return answer
}

// ended tells the names that no member has.
func (w *work) ended(missing []string) api.Result {
	var answer api.Result
	var told strings.Builder
	for _, name := range missing {
		told.WriteString(show.Message(w.command.Prog, name, api.ErrNoMember))
		answer.Code = api.ErrNoMember
	}
	answer.Msg = told.String()
	return answer
}
