// Package handle is layer 1: numbers that tell a slot, and which of those that stood there: see shared/doc/01-handle.md.
package handle

import (
	"strconv"

	"becket/api"
)

// slots is how many slots there are, and so how far one generation's handles lie from the next one's.
const slots = api.MaxSlot + 1

// tooGreat is at the same time no slot and no generation: a number of a text stops growing there, so that no run of digits leaves its type.
const tooGreat = max(api.MaxSlot, api.MaxGen) + 1

// Make is the handle of a slot and a generation.
func Make(slot, gen int) (int, api.Errno) {
	if slot < 0 || slot > api.MaxSlot || gen < 1 || gen > api.MaxGen {
		return 0, api.ErrRange
	}
	return slots*gen + slot, api.OK
}

// Fine tells whether it is a handle.
func Fine(h int) bool {
	gen := h / slots
	return gen >= 1 && gen <= api.MaxGen
}

// Slot is a handle's slot, and -1 of what is none.
func Slot(h int) int {
	if !Fine(h) {
		return -1
	}
	return h % slots
}

// Gen is a handle's generation, and 0 of what is none.
func Gen(h int) int {
	if !Fine(h) {
		return 0
	}
	return h / slots
}

// Next is the handle of the same slot, and the next generation.
func Next(h int) (int, api.Errno) {
	if !Fine(h) {
		return 0, api.ErrRange
	}
	if Gen(h) == api.MaxGen {
		return 0, api.ErrLimit
	}
	return h + slots, api.OK
}

// Text is a handle's text: its slot, a dot, and its generation.
func Text(h int) (string, api.Errno) {
	if !Fine(h) {
		return "", api.ErrRange
	}
	return strconv.Itoa(Slot(h)) + "." + strconv.Itoa(Gen(h)), api.OK
}

// Parse is the handle of a text.
func Parse(s string) (int, api.Errno) {
	var parts [2]number // ahead of the dot, and behind it
	at := 0
	for _, r := range s {
		switch {
		case r == '.' && at == 0:
			at = 1
		case !parts[at].take(r):
			return 0, api.ErrForm
		}
	}
	if !parts[0].begun || !parts[1].begun {
		return 0, api.ErrForm
	}
	return Make(parts[0].value, parts[1].value)
}

// number is what has been read of a number: begun tells a 0 that was read from none at all.
type number struct {
	value int
	begun bool
}

// take puts a digit behind the others, and tells whether it may stand there: no other sign may, nor anything behind a 0 that came first.
func (n *number) take(r rune) bool {
	if r < '0' || r > '9' || n.begun && n.value == 0 {
		return false
	}
	n.begun = true
	n.value = min(10*n.value+int(r-'0'), tooGreat)
	return true
}
