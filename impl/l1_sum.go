package impl

import (
	"strconv"
	"strings"
)

// Bounds of sums.
const (
	SumMod = 65521
	SumMax = 400
)

// sumMalformed is what the readers of this layer panic with; the exported functions recover it.
const sumMalformed = "malformed text"

var sumDigits = [16]byte{'0', '1', '2', '3', '4', '5', '6', '7', '8', '9', 'a', 'b', 'c', 'd', 'e', 'f'}

// sumNumber is the sum of the bytes so far.
type sumNumber int

// with is the sum after one more byte.
func (n sumNumber) with(b byte) sumNumber {
	return (257*n + sumNumber(b) + 1) % SumMod
}

// SumOf is the sum of a text.
func SumOf(text string) int {
	n := sumNumber(1 + len(text)%997)
	for i := range len(text) {
		n = n.with(text[i])
	}
	return int(n)
}

// SumSeal is a text with its sum ahead.
func SumSeal(text string) string {
	if len(text) > SumMax {
		return ""
	}
	return strconv.Itoa(SumOf(text)) + ":" + text
}

// SumOpen is the text that was sealed.
func SumOpen(sealed string) (text string, ok bool) {
	defer func() {
		if recover() != nil {
			text, ok = "", false
		}
	}()
	return sumUnseal(sealed), true
}

// sumUnseal is the text that was sealed; it panics if there is none.
func sumUnseal(sealed string) string {
	// The number has no colon, so the text begins after the first one, whatever colons it has itself.
	_, text, found := strings.Cut(sealed, ":")
	// Sealing anew instead of reading the number leaves no second spelling of it to accept.
	// It also refuses a text that is too long, whose seal is empty, as sealed is not.
	if !found || SumSeal(text) != sealed {
		panic(sumMalformed)
	}
	// A piece of sealed would share its memory.
	return strings.Clone(text)
}

// SumHex writes bytes in hexadecimals.
func SumHex(text string) string {
	hex := make([]byte, 0, 2*len(text))
	for i := range len(text) {
		hex = append(hex, sumDigits[text[i]>>4], sumDigits[text[i]&15])
	}
	return string(hex)
}

// SumUnhex reads bytes in hexadecimals.
func SumUnhex(hex string) (text string, ok bool) {
	defer func() {
		if recover() != nil {
			text, ok = "", false
		}
	}()
	return sumBytes(hex), true
}

// sumBytes is the bytes that the digits tell; it panics if they tell none.
func sumBytes(hex string) string {
	if len(hex)%2 != 0 {
		panic(sumMalformed)
	}
	text := make([]byte, 0, len(hex)/2)
	for i := 0; i < len(hex); i += 2 {
		text = append(text, sumDigit(hex[i])<<4|sumDigit(hex[i+1]))
	}
	return string(text)
}

// sumDigit is the value of a digit; it panics if it is none.
func sumDigit(digit byte) byte {
	for value, d := range sumDigits {
		if d == digit {
			return byte(value)
		}
	}
	panic(sumMalformed)
}
