// Package runes: names, numbers, signs.
package runes

import "handfast/api"

// Sign is a name, a number, or one of ( ) , with the place of its first rune (from 1 on).
type Sign struct {
	Text string
	At   int
}

// MaxAmount has 13 digits; a longer text is refused unread, so that its number can't run over.
const maxDigits = 13

// What range over a string tells of a byte that is no UTF-8.
const noRune = 0xFFFD

// Letter tells whether r may stand in a name.
func Letter(r rune) bool {
	switch {
	case r >= 'a' && r <= 'z', digit(r), r == '_':
		return true
	}
	return r >= 0x80 && r != noRune
}

// Name tells whether s is 1 to MaxName Letters, the first one no digit.
func Name(s string) bool {
	count := 0
	for _, r := range s {
		if !Letter(r) || count == 0 && digit(r) || count == api.MaxName {
			return false
		}
		count++
	}
	return count > 0
}

// Number reads s as an amount, which has one text only: no `-0`, no 0 ahead of other digits.
func Number(s string) (int, bool) {
	if s == "" || s[0] != '-' {
		return natural(s)
	}
	n, ok := natural(s[1:])
	if !ok || n == 0 {
		return 0, false
	}
	return -n, true
}

// Signs cuts s into its signs; bad is the place of the first rune that belongs to none (0: there is none).
func Signs(s string) (l []Sign, bad int) {
	bad = firstBad(s)
	if bad != 0 {
		return nil, bad
	}
	return cut(s), 0
}

func digit(r rune) bool {
	return r >= '0' && r <= '9'
}

func natural(s string) (int, bool) {
	if s == "" || len(s) > maxDigits || len(s) > 1 && s[0] == '0' {
		return 0, false
	}
	n := 0
	for _, r := range s {
		if !digit(r) {
			return 0, false
		}
		n = n*10 + int(r-'0')
	}
	if n > api.MaxAmount {
		return 0, false
	}
	return n, true
}

func firstBad(s string) int {
	place := 0
	for _, r := range s {
		place++
		if r != ' ' && !mark(r) && !joins(r) {
			return place
		}
	}
	return 0
}

// A mark is a sign by itself.
func mark(r rune) bool {
	return r == '(' || r == ')' || r == ','
}

// Whether a run is a name or a number is the reader's to ask: here `-` joins like a Letter.
func joins(r rune) bool {
	return r == '-' || Letter(r)
}

func cut(s string) []Sign {
	var l []Sign
	var run []rune
	place := 0
	for _, r := range s {
		place++
		if joins(r) {
			run = append(run, r)
			continue
		}
		l = endRun(l, run, place)
		run = run[:0]
		if mark(r) {
			l = append(l, Sign{Text: string(r), At: place})
		}
	}
	return endRun(l, run, place+1)
}

// No run has noRune in it, so its runes make just the bytes that they were read from.
func endRun(l []Sign, run []rune, end int) []Sign {
	if len(run) == 0 {
		return l
	}
	return append(l, Sign{Text: string(run), At: end - len(run)})
}
