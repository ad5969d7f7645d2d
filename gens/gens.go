// Package gens is layer 1: generations of slots. See shared/doc/01-gens.md.
package gens

import (
	"strconv"

	"estray/api"
)

// later is a generation that comes after another one, if it is one.
type later struct {
	gen uint32
	is  bool
}

// ask answers a question about generations; with a number that is not a generation, the question is never put.
func ask[T any](question func() T, gens ...uint32) (T, api.Errno) {
	for _, g := range gens {
		if e := Check(g); e != api.OK {
			var zero T
			return zero, e
		}
	}
	return question(), api.OK
}

// Check reports whether a number is a generation.
func Check(g uint32) api.Errno {
	// No upper bound is asked for: MaxGen is the greatest number of the type.
	if g == 0 {
		return api.ErrArg
	}
	return api.OK
}

// Next returns the next generation; false: there is none.
func Next(g uint32) (uint32, bool, api.Errno) { return After(g, 1) }

// Left returns how many generations are left.
func Left(g uint32) (uint32, api.Errno) {
	return ask(func() uint32 { return api.MaxGen - g }, g)
}

// Text writes a generation.
func Text(g uint32) (string, api.Errno) {
	return ask(func() string { return strconv.FormatUint(uint64(g), 10) }, g)
}

// Parse reads a generation.
func Parse(s string) (uint32, api.Errno) {
	n, err := strconv.ParseUint(s, 10, 32)
	if err != nil {
		return 0, api.ErrForm
	}
	g := uint32(n)
	// The library also reads zeros ahead, which no text has: what was read has to be written the same way.
	if text, e := Text(g); e != api.OK || text != s {
		return 0, api.ErrForm
	}
	return g, api.OK
}

// Newer reports whether a generation is later than another one.
func Newer(a, b uint32) (bool, api.Errno) {
	return ask(func() bool { return a > b }, a, b)
}

// After returns the generation n steps later.
func After(g uint32, n uint64) (uint32, bool, api.Errno) {
	l, e := ask(func() later {
		// n is compared before it is added: the sum might not fit.
		if n > uint64(api.MaxGen-g) {
			return later{}
		}
		return later{g + uint32(n), true}
	}, g)
	return l.gen, l.is, e
}
