package run

import "lapidary/api"

// The words of errors.
const (
	wrongKind   = "wrong kind"
	wrongArg    = "wrong argument"
	tooLarge    = "too large"
	noRoom      = "no room"
	notKept     = "can not be kept"
	byNought    = "by nought"
	noName      = "no such name"
	noProgram   = "no program"
	notThere    = "not there"
	tooDeep     = "too deep"
	noPlace     = "no such place"
	noKey       = "no such key"
	noReturn    = "can not return"
	wrongCount  = "wrong number of arguments"
	notKnown    = "does not understand " // and the selector
	someFailure = "error"
)

// word is the word of an error that a call of another layer answers.
func word(err api.Errno) string {
	switch err {
	case api.OK:
		return ""
	case api.ErrKind:
		return wrongKind
	case api.ErrArg:
		return wrongArg
	case api.ErrSize, api.ErrLarge:
		return tooLarge
	case api.ErrFull:
		return noRoom
	case api.ErrKeep:
		return notKept
	case api.ErrZero:
		return byNought
	case api.ErrName:
		return noName
	case api.ErrSyntax:
		return noProgram
	}
	return notThere
}
