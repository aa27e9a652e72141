package registry

import (
	"broker/api"
	"broker/schema"
)

// mode says which schema may follow another one as the next version of a subject.
type mode interface {
	permits(old, next api.Type) bool
}

// none permits every schema.
type none struct{}

func (none) permits(old, next api.Type) bool { return true }

// backward permits a schema that accepts what the old one accepts.
type backward struct{}

func (backward) permits(old, next api.Type) bool { return schema.Includes(next, old) }

// forward permits a schema that accepts nothing but what the old one accepts.
type forward struct{}

func (forward) permits(old, next api.Type) bool { return schema.Includes(old, next) }

// full permits what backward and forward permit.
type full struct{}

func (full) permits(old, next api.Type) bool {
	return backward{}.permits(old, next) && forward{}.permits(old, next)
}

// modeOf returns the mode with a number, and whether there is one.
func modeOf(number int) (mode, bool) {
	switch number {
	case api.ModeNone:
		return none{}, true
	case api.ModeBackward:
		return backward{}, true
	case api.ModeForward:
		return forward{}, true
	case api.ModeFull:
		return full{}, true
	}
	return nil, false
}
