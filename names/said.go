package names

import "shelf/api"

// said is what a field says: a value of one of the types below.
type said interface{ sort() int }

// special is a field that means no ordinary member: its sort.
type special int

// short is a name that stands in the field with a slash behind.
type short string

// ref is where a name stands in the table.
type ref int

// plain is a name that is its own field.
type plain string

// long is how many bytes of name stand ahead of the data.
type long int

func (s special) sort() int { return int(s) }
func (short) sort() int     { return api.FieldShort }
func (ref) sort() int       { return api.FieldRef }
func (plain) sort() int     { return api.FieldPlain }
func (long) sort() int      { return api.FieldLong }

// tell puts what a field says into the form that is handed out.
func tell(s said) api.Field {
	f := api.Field{Sort: s.sort()}
	switch s := s.(type) {
	case short:
		f.Name = string(s)
	case plain:
		f.Name = string(s)
	case ref:
		f.Num = int(s)
	case long:
		f.Num = int(s)
	}
	return f
}
