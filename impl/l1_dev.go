package impl

import (
	"strconv"
	"strings"
)

// DevArg is an operand: a device, a whole number, a decimal number or a word for one.
type DevArg struct {
	Kind int
	N    int
	P    int
}

// Kinds of operands.
const (
	DevX = 1 + iota
	DevY
	DevM
	DevS
	DevE
	DevG
	DevT
	DevC
	DevD
	DevR
	DevInt
	DevDec
	DevWord
)

// Bounds of operands.
const (
	DevMaxInt = 32767
	DevMaxDec = 999999999
	DevMaxP   = 6
)

// devMinInt is one further from 0 than DevMaxInt, as whole numbers have 16 bits.
const devMinInt = -DevMaxInt - 1

// devRow is what is known of a kind: the numbers and words have no letter and no size.
type devRow struct {
	letter string
	size   int
	bit    bool
	whole  bool
	real   bool
}

var devRows = [...]devRow{
	DevX:    {letter: "X", size: 32, bit: true},
	DevY:    {letter: "Y", size: 32, bit: true},
	DevM:    {letter: "M", size: 64, bit: true},
	DevS:    {letter: "S", size: 16, bit: true},
	DevE:    {letter: "E", size: 32},
	DevG:    {letter: "G", size: 5, bit: true},
	DevT:    {letter: "T", size: 16, bit: true, whole: true},
	DevC:    {letter: "C", size: 16, bit: true, whole: true},
	DevD:    {letter: "D", size: 32, whole: true},
	DevR:    {letter: "R", size: 16, real: true},
	DevInt:  {whole: true},
	DevDec:  {real: true},
	DevWord: {real: true},
}

var devWords = [...]string{"nan", "inf", "-inf", "-0.0"}

// devRowOf answers the empty row for a number that is no kind, so that no caller needs to look first.
func devRowOf(kind int) devRow {
	if kind < DevX || kind > DevWord {
		return devRow{}
	}
	return devRows[kind]
}

// DevSize is how many devices of a kind there are.
func DevSize(kind int) int { return devRowOf(kind).size }

// DevLetter is the letter of a kind of device.
func DevLetter(kind int) string { return devRowOf(kind).letter }

// DevOk says whether an operand is one.
func DevOk(a DevArg) bool {
	switch a.Kind {
	case DevInt:
		return a.N >= devMinInt && a.N <= DevMaxInt && a.P == 0
	case DevDec:
		return devDecOk(a.N, a.P)
	case DevWord:
		return a.N >= 0 && a.N < len(devWords) && a.P == 0
	}
	return a.N >= 0 && a.N < DevSize(a.Kind) && a.P == 0
}

// devDecOk refuses a last digit 0, unless it is the only one behind the point: each number has one text.
func devDecOk(n int, p int) bool {
	if n < -DevMaxDec || n > DevMaxDec || p < 1 || p > DevMaxP {
		return false
	}
	return p == 1 || n%10 != 0
}

// DevIsBit says whether an operand may be asked for a bit.
func DevIsBit(a DevArg) bool { return DevOk(a) && devRowOf(a.Kind).bit }

// DevIsWhole says whether an operand may be asked for a whole number.
func DevIsWhole(a DevArg) bool { return DevOk(a) && devRowOf(a.Kind).whole }

// DevIsReal says whether an operand may be asked for a real number.
func DevIsReal(a DevArg) bool { return DevOk(a) && devRowOf(a.Kind).real }

// DevText writes an operand.
func DevText(a DevArg) string {
	if !DevOk(a) {
		return ""
	}
	switch a.Kind {
	case DevInt:
		return strconv.Itoa(a.N)
	case DevDec:
		return devDecText(a.N, a.P)
	case DevWord:
		return devWords[a.N]
	}
	return DevLetter(a.Kind) + strconv.Itoa(a.N)
}

// devDecText writes n with its last p digits behind the point.
func devDecText(n int, p int) string {
	sign := ""
	if n < 0 {
		sign, n = "-", -n
	}
	digits := strconv.Itoa(n)
	if len(digits) <= p {
		digits = strings.Repeat("0", p+1-len(digits)) + digits
	}
	point := len(digits) - p
	return sign + digits[:point] + "." + digits[point:]
}

// DevRead reads an operand.
func DevRead(text string) (DevArg, bool) {
	a, isWord := devWord(text)
	if !isWord {
		a = devGuess(text)
	}
	// The guess is generous; what it lets pass is no text of an operand unless it is written just so.
	if !DevOk(a) || DevText(a) != text {
		return DevArg{}, false
	}
	return a, true
}

// devWord is asked ahead of devGuess, which would take -0.0 for a decimal number.
func devWord(text string) (DevArg, bool) {
	for n := range len(devWords) {
		if devWords[n] == text {
			return DevArg{Kind: DevWord, N: n}, true
		}
	}
	return DevArg{}, false
}

// devGuess is the one device or number whose text this may be; a number that is too great wraps, which DevRead finds out.
func devGuess(text string) DevArg {
	a := DevArg{Kind: DevInt}
	sign := 1
runes:
	for i, r := range text {
		switch {
		case r >= '0' && r <= '9':
			a.N = a.N*10 + int(r-'0')
			if a.Kind == DevDec {
				a.P++
			}
			continue
		case r == '.':
			a.Kind = DevDec
			continue
		case i > 0:
			return DevArg{}
		case r == '-':
			sign = -1
			continue
		}
		for kind := DevX; kind <= DevR; kind++ {
			if DevLetter(kind) == string(r) {
				a.Kind = kind
				continue runes
			}
		}
		return DevArg{}
	}
	a.N *= sign
	return a
}
