// Package layout: what the words of fragments are, and what may stand in them.
// It is no layer: it stands on those up to area, and those that lay words or
// read them have it in common (chapter 12 has the words, P13.1 what may stand
// there).
package layout

import (
	"spolia/api"
	"spolia/area"
	"spolia/conf"
	"spolia/num"
	"spolia/shape"
	"spolia/word"
)

// Words of fragments.
const (
	LinkWord   = 0 // of an object's fragment, and of a sentinel
	HeadWord   = 1 // of a first fragment, as all below
	LengthWord = 2
	ModeWord   = 3
	WhereWord  = 4 // the first one that says where the elements are
)

// Modes of an object.
const (
	Apart = 0
	Side  = 1 // its fragments stand side by side
)

// Modes of an array: where the references to its data fragments are.
const (
	Inline = 0 // in the sentinel
	Spined = 1 // in a spine
	InRow  = 2 // nowhere: the fragments stand side by side
)

// Words of spines.
const (
	SentinelWord = 0 // the reference to the sentinel
	CountWord    = 1 // how many references are behind these
	SpineHead    = 2 // how many words are ahead of them
)

// Head answers the shape and the mode of which w, the word 1 of a first
// fragment, tells, and whether there is such a shape. Whether that one may be of
// the mode is asked apart, since another error may go between.
func Head(c conf.Conf, w complex128) (shape.Shape, int, bool) {
	kind, mode, isHead := word.Tell(w)
	s, isShape := conf.Shape(c, kind)
	if !isHead || !isShape {
		return shape.Shape{}, 0, false
	}
	return s, mode, true
}

// MayHead tells whether the mode may stand in a Head of the shape: an array's
// own mode stands in a word of its own.
func MayHead(s shape.Shape, mode int) bool {
	return mode == Apart || mode == Side && !s.Array
}

// Length answers the length of which w, the word 2 of a sentinel, tells.
func Length(w complex128) (int, bool) {
	n, ok := num.Int(w)
	if !ok || n < 0 || n > api.MaxLength {
		return 0, false
	}
	return n, true
}

// Mode answers the mode of which w, the word 3 of a sentinel, tells, and whether
// an array of that length may be of it.
func Mode(w complex128, length int) (int, bool) {
	mode, ok := num.Int(w)
	if !ok || mode < Inline || mode > InRow {
		return 0, false
	}
	short := shape.Data(length) <= api.Inline
	if short != (mode == Inline) {
		return 0, false
	}
	return mode, true
}

// Spine answers the address of which w, the word 4 of a sentinel, tells, and
// whether there is a word.
func Spine(c conf.Conf, w complex128) (int, bool) {
	at, ok := num.Int(w)
	if region, _, _ := area.Of(c, at); !ok || region == area.Nowhere {
		return 0, false
	}
	return at, true
}

// Frag answers the fragment to which w refers, and whether there is one.
func Frag(c conf.Conf, w complex128) (int, bool) {
	frag, ok := word.Index(w)
	if !ok || frag >= c.Frags {
		return 0, false
	}
	return frag, true
}
