package whole

import (
	"strings"

	"lapidary/api"
)

const (
	chunkDigits = 9 // decimal digits that are reckoned with at once, within a word
	chunk       = 1000000000
	maxChunks   = 35  // of the greatest number, which has 309 decimal digits
	maxRead     = 400 // bytes of a text that may be a number
)

// Text is x's decimal digits.
func Text(x Int) string {
	if !Right(x) {
		return ""
	}
	if len(x.Mag) == 0 {
		return "0"
	}
	decimal := decimalDigits(load(x.Mag))
	text := strings.TrimLeft(string(decimal[:]), "0")
	if x.Neg {
		return "-" + text
	}
	return text
}

// decimalDigits has noughts ahead, up to its size.
func decimalDigits(d digits) [maxChunks * chunkDigits]byte {
	var decimal [maxChunks * chunkDigits]byte
	at := len(decimal)
	n := used(d[:])
	for range maxChunks {
		part := divideShort(d[:n], chunk)
		n = used(d[:n])
		for range chunkDigits {
			at--
			decimal[at] = '0' + byte(part%10)
			part /= 10
		}
	}
	return decimal
}

// Read is the number whose decimal digits s is.
func Read(s string) (Int, api.Errno) {
	decimal, neg := strings.CutPrefix(s, "-")
	if !plain(decimal) || neg && decimal == "0" {
		return Int{}, api.ErrForm
	}
	if len(s) > maxRead {
		return Int{}, api.ErrLarge
	}
	d := fromDecimal(decimal)
	return pack(neg, d[:])
}

// plain tells whether s is decimal digits, without a nought that says nothing.
func plain(s string) bool {
	if s == "" || len(s) > 1 && s[0] == '0' {
		return false
	}
	for i := range len(s) {
		if s[i] < '0' || s[i] > '9' {
			return false
		}
	}
	return true
}

// fromDecimal takes at most maxRead digits, for which twice the words of a number are enough.
func fromDecimal(decimal string) [2 * words]uint32 {
	var d [2 * words]uint32
	part, scale := uint32(0), uint32(1)
	for i := range len(decimal) {
		part = part*10 + uint32(decimal[i]-'0')
		scale *= 10
		if scale == chunk || i == len(decimal)-1 {
			addOnto(d[:], scale, part)
			part, scale = 0, 1
		}
	}
	return d
}
