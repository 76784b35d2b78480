package syms

import "shelf/api"

// Bindings of symbols that others can see.
const (
	global = 1
	weak   = 2
)

// undefined is the Section of a symbol that another file must define.
const undefined = 0

// each calls see with every symbol of a file, and with none if one of its tables is refused: a part of the names would be a lie.
func each(b string, see func(api.Symbol)) {
	all, e := Table(b)
	if e != api.OK {
		return
	}
	for _, s := range all {
		see(s)
	}
}

// isOffered: does the symbol's file define it for others?
func isOffered(s api.Symbol) bool {
	return (s.Bind == global || s.Bind == weak) && s.Section != undefined && s.Name != ""
}

// isNeeded: must another file define the symbol? A weak one may stay without a definition.
func isNeeded(s api.Symbol) bool {
	return s.Bind == global && s.Section == undefined && s.Name != ""
}
