// Package word is layer 1: entries of page tables, and addresses, as words.
package word

import (
	"math/bits"

	"priory/api"
)

// addresses is how many addresses there are: they are the words below it.
const addresses api.Word = api.Pages * api.PageWords

// field is a row of bits of a word: its number in masks.
type field int

// The fields of an entry's word, then those of an address.
const (
	entryPresent field = iota
	entryWrite
	entryCow
	entryFrame
	vaPlace
	vaTable
	vaRoot
	vaPage
)

// masks has the bits of each field, by its number.
var masks = [8]api.Word{
	0x00001,
	0x00002,
	0x00004,
	0x3ff00,
	0x0001f,
	0x003e0,
	0x07c00,
	0x07fe0,
}

// low tells the lowest bit of a field.
func low(f field) int {
	return bits.TrailingZeros32(uint32(masks[f]))
}

// take tells the number that stands in a field of a word.
func take(w api.Word, f field) int {
	return int((w & masks[f]) >> low(f))
}

// at makes a word of which one field is n, which fits, and all others are 0.
func at(f field, n int) api.Word {
	return api.Word(n) << low(f)
}

// one tells what stands in a field of one bit.
func one(on bool) int {
	if on {
		return 1
	}
	return 0
}

// Check: may an entry be?
func Check(e api.Entry) api.Errno {
	switch {
	case e.Frame < 0 || e.Frame >= api.MaxFrames:
		return api.ErrArg
	case !e.Present && e != api.Entry{}:
		return api.ErrArg
	case e.Cow && e.Write:
		return api.ErrArg
	}
	return api.OK
}

// Put: an entry as a word.
func Put(e api.Entry) (api.Word, api.Errno) {
	if err := Check(e); err != api.OK {
		return 0, err
	}
	var w api.Word
	put := func(f field, n int) { w |= at(f, n) }
	put(entryPresent, one(e.Present))
	put(entryWrite, one(e.Write))
	put(entryCow, one(e.Cow))
	put(entryFrame, e.Frame)
	return w, api.OK
}

// Get: a word as an entry.
func Get(w api.Word) (api.Entry, api.Errno) {
	e := api.Entry{
		Present: take(w, entryPresent) != 0,
		Write:   take(w, entryWrite) != 0,
		Cow:     take(w, entryCow) != 0,
		Frame:   take(w, entryFrame),
	}
	// A word with bits of no field comes back without them: one comparison finds these, and entries that may not be.
	if back, err := Put(e); err != api.OK || back != w {
		return api.Entry{}, api.ErrForm
	}
	return e, api.OK
}

// Cut: the parts of an address.
func Cut(va api.Word) (root, table, place int, e api.Errno) {
	if va >= addresses {
		return 0, 0, 0, api.ErrFault
	}
	return take(va, vaRoot), take(va, vaTable), take(va, vaPlace), api.OK
}

// Address: of a page and a place.
func Address(page, place int) (api.Word, api.Errno) {
	if page < 0 || page >= api.Pages || place < 0 || place >= api.PageWords {
		return 0, api.ErrArg
	}
	return at(vaPage, page) | at(vaPlace, place), api.OK
}

// Page: of an address.
func Page(va api.Word) (int, api.Errno) {
	if va >= addresses {
		return 0, api.ErrFault
	}
	return take(va, vaPage), api.OK
}
