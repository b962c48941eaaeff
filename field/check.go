package field

import (
	"changeling/api"
	"changeling/kin"
)

// set is some texts.
type set map[string]struct{}

// names are those of p's classes.
func names(p api.Program) set {
	s := make(set, len(p.Classes))
	for _, c := range p.Classes {
		s[c.Name] = struct{}{}
	}
	return s
}

// check is what is wrong in the class x, where the program's classes have those names.
func check(x part, own set) int {
	l := fields(x)
	if twice(l) {
		return api.ErrTwice
	}
	for _, f := range l {
		// kin.Type of the program itself would go over all its classes for each field.
		if _, is := own[f.Type]; !is && !kin.Type(api.Program{}, f.Type) {
			return api.ErrClass
		}
	}
	return api.OK
}

// twice tells whether two of those fields have one name.
func twice(l []api.Field) bool {
	seen := make(set, len(l))
	for _, f := range l {
		seen[f.Name] = struct{}{}
	}
	return len(seen) < len(l)
}
