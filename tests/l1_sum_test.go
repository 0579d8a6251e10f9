package tests

import (
	"encoding/hex"
	"math/rand/v2"
	"strconv"
	"strings"
	"testing"
	"unsafe"

	"loop.example/palim/impl"
)

// allBytes is a text with each byte once.
func allBytes() string {
	b := make([]byte, 256)
	for i := range b {
		b[i] = byte(i)
	}
	return string(b)
}

// someText is a text of n bytes, the same one for the same source.
func someText(r *rand.Rand, n int) string {
	b := make([]byte, n)
	for i := range b {
		b[i] = byte(r.IntN(256))
	}
	return string(b)
}

// sealedByHand writes a sum ahead of a text, whatever its length.
func sealedByHand(text string) string {
	return strconv.Itoa(impl.SumOf(text)) + ":" + text
}

func TestSumLimits(t *testing.T) {
	if impl.SumMod != 65521 || impl.SumMax != 400 {
		t.Error(impl.SumMod, impl.SumMax)
	}
}

// The numbers were worked out by another program.
func TestSumOfKnownTexts(t *testing.T) {
	for _, c := range []struct {
		text string
		sum  int
	}{
		{"", 1},
		{"a", 612},
		{"b", 613},
		{"abc", 30382},
		{"ab:c", 17438},
		{"::", 16806},
		{"\xff", 770},
		{"\x00", 515},
		{"\x00\x00", 1842},
		{"gr\xc3\xbcn", 1552},
		{allBytes(), 56762},
		{strings.Repeat("x", 400), 62283},
		{strings.Repeat("x", 401), 5905},
		{strings.Repeat("x", 996), 64122},
		{strings.Repeat("x", 997), 28754},
		{strings.Repeat("x", 998), 39799},
		{strings.Repeat("x", 5000), 7300},
	} {
		if n := impl.SumOf(c.text); n != c.sum {
			t.Errorf("SumOf of %d bytes %.20q: %d, not %d", len(c.text), c.text, n, c.sum)
		}
	}
}

func TestSumOfIsBelowItsModulus(t *testing.T) {
	r := rand.New(rand.NewPCG(1, 1))
	for n := range 1200 {
		if s := impl.SumOf(someText(r, n)); s < 0 || s >= impl.SumMod {
			t.Fatalf("%d bytes: %d", n, s)
		}
	}
}

// Promise 1: texts that differ in one byte have different checksums.
func TestSumTellsOneByte(t *testing.T) {
	r := rand.New(rand.NewPCG(2, 2))
	for _, n := range []int{1, 2, 3, 24, impl.SumMax, impl.SumMax + 1, 1000} {
		text := someText(r, n)
		sum := impl.SumOf(text)
		for i := 0; i < n; i += 1 + n/50 {
			b := []byte(text)
			for mask := 1; mask < 256; mask++ {
				b[i] = text[i] ^ byte(mask)
				if impl.SumOf(string(b)) == sum {
					t.Fatalf("%d bytes: byte %d as %d and as %d", n, i, text[i], b[i])
				}
			}
		}
	}
}

func TestSumSeal(t *testing.T) {
	for _, c := range []struct{ text, sealed string }{
		{"", "1:"},
		{"a", "612:a"},
		{"ab:c", "17438:ab:c"},
		{"::", "16806:::"},
		{"\xff", "770:\xff"},
		{"\x00\x00", "1842:\x00\x00"},
		{strings.Repeat("x", 400), "62283:" + strings.Repeat("x", 400)},
		{strings.Repeat("x", 401), ""},
		{strings.Repeat("x", 5000), ""},
	} {
		if s := impl.SumSeal(c.text); s != c.sealed {
			t.Errorf("SumSeal of %d bytes %.20q: %.30q", len(c.text), c.text, s)
		}
	}
}

// Promise 1: a sealed text is opened.
func TestSumOpensWhatWasSealed(t *testing.T) {
	r := rand.New(rand.NewPCG(3, 3))
	texts := []string{"", ":", "::", ":a", "a:", "1:", "612:a", "612", "0", "\n", "\x00", " ", "\xff\xfe", allBytes(), strings.Repeat(":", impl.SumMax)}
	for n := range impl.SumMax + 1 {
		texts = append(texts, someText(r, n))
	}
	for _, text := range texts {
		if x, ok := impl.SumOpen(impl.SumSeal(text)); !ok || x != text {
			t.Errorf("%q: %q, %v", text, x, ok)
		}
	}
}

func TestSumOpensTwiceWhatWasSealedTwice(t *testing.T) {
	inner, ok := impl.SumOpen(impl.SumSeal(impl.SumSeal("a:b")))
	if text, ok2 := impl.SumOpen(inner); !ok || !ok2 || text != "a:b" {
		t.Errorf("%q, %q", inner, text)
	}
}

// refuses fails unless SumOpen answers the empty string and false.
func refuses(t *testing.T, sealed string) {
	t.Helper()
	if x, ok := impl.SumOpen(sealed); ok || x != "" {
		t.Errorf("SumOpen of %.40q: %.40q, %v", sealed, x, ok)
	}
}

func TestSumOpenRefusesOtherSpellings(t *testing.T) {
	for _, sealed := range []string{
		"", ":", "::", "1", "a", "612", "612a", ":a", "612:", "612:b", "613:a", "612::a", "612:a:", "612:aa",
		"0612:a", "00612:a", "01:", "0:", "+612:a", "-612:a", " 612:a", "612 :a", "612: a", "612:a ", "612:a\n", "\n612:a",
		"6_12:a", "612.0:a", "0x264:a", "6.12e2:a", "612;a", "66133:a", "-64909:a", "18446744073709552228:a",
		"\xd9\xa6\xd9\xa1\xd9\xa2:a", "612\x00:a", "612:\x00a",
		strings.Repeat("0", 1000) + "612:a", strings.Repeat("9", 1000) + ":a",
		"16806::", "16806::::", "4:16806:::",
	} {
		refuses(t, sealed)
	}
}

func TestSumOpenRefusesTextsThatAreTooLong(t *testing.T) {
	if x, ok := impl.SumOpen(sealedByHand(strings.Repeat("x", impl.SumMax))); !ok || len(x) != impl.SumMax {
		t.Error(len(x), ok)
	}
	for _, n := range []int{impl.SumMax + 1, impl.SumMax + 2, 997, 100000} {
		refuses(t, sealedByHand(strings.Repeat("x", n)))
		refuses(t, sealedByHand(strings.Repeat(":", n)))
	}
}

// Promise 1: no other text is opened, whatever the number ahead of it.
func TestSumOpenTakesOneNumber(t *testing.T) {
	for _, text := range []string{"", "a", "ab:c", "\xff"} {
		for n := -10; n < 3*impl.SumMod; n++ {
			x, ok := impl.SumOpen(strconv.Itoa(n) + ":" + text)
			if ok != (n == impl.SumOf(text)) || ok && x != text || !ok && x != "" {
				t.Fatalf("%d:%q: %q, %v", n, text, x, ok)
			}
		}
	}
}

// opensOnlyItself fails if what is opened is not what SumSeal made.
func opensOnlyItself(t *testing.T, sealed string) {
	t.Helper()
	x, ok := impl.SumOpen(sealed)
	if ok && impl.SumSeal(x) != sealed || !ok && x != "" {
		t.Errorf("%q: %q, %v", sealed, x, ok)
	}
}

// Promise 1: no other text is opened, wherever a sealed one was changed.
func TestSumOpenRefusesChangedTexts(t *testing.T) {
	r := rand.New(rand.NewPCG(4, 4))
	for _, text := range []string{"", "a", "ab:c", ":::", "612:a", someText(r, 24), someText(r, 60)} {
		sealed := impl.SumSeal(text)
		colon := strings.Index(sealed, ":")
		for i := range len(sealed) {
			opensOnlyItself(t, sealed[:i])
			opensOnlyItself(t, sealed[i:])
			opensOnlyItself(t, sealed[:i]+sealed[i+1:])
			for c := range 256 {
				b := []byte(sealed)
				b[i] = byte(c)
				opensOnlyItself(t, sealed[:i]+string([]byte{byte(c)})+sealed[i:])
				opensOnlyItself(t, string(b))
				if i > colon && string(b) != sealed { // a text that differs in one byte has another sum
					refuses(t, string(b))
				}
			}
		}
	}
}

func TestSumOpenHasMemoryOfItsOwn(t *testing.T) {
	sealed := impl.SumSeal("some text")
	text, _ := impl.SumOpen(sealed)
	first := uintptr(unsafe.Pointer(unsafe.StringData(sealed)))
	at := uintptr(unsafe.Pointer(unsafe.StringData(text)))
	if at >= first && at < first+uintptr(len(sealed)) {
		t.Error("the text is a piece of what was sealed")
	}
}

func TestSumHex(t *testing.T) {
	r := rand.New(rand.NewPCG(5, 5))
	for _, text := range []string{"", "a", "\x00", "\x0f\xf0", "a\xff", "gr\xc3\xbcn", allBytes(), someText(r, 401), someText(r, 5000)} {
		if h := impl.SumHex(text); h != hex.EncodeToString([]byte(text)) {
			t.Errorf("%.20q: %.40q", text, h)
		}
		if x, ok := impl.SumUnhex(impl.SumHex(text)); !ok || x != text {
			t.Errorf("%.20q: %.20q, %v", text, x, ok)
		}
	}
}

func TestSumUnhexKnownDigits(t *testing.T) {
	for _, c := range []struct{ hex, text string }{
		{"", ""},
		{"00", "\x00"},
		{"61ff", "a\xff"},
		{"0123456789abcdef", "\x01\x23\x45\x67\x89\xab\xcd\xef"},
	} {
		if x, ok := impl.SumUnhex(c.hex); !ok || x != c.text {
			t.Errorf("%q: %q, %v", c.hex, x, ok)
		}
	}
}

func TestSumUnhexRefusesOtherTexts(t *testing.T) {
	for _, h := range []string{
		"6", "616", "6g", "g6", "6A", "A6", "AB", "aB", "61FF", "61 62", " 61", "61 ", "6 ", " 6", "-6", "+6", "0x", "0x61", "6\x00", "\x006",
		"61\n", "6:", "6/", "6@", "6`", "\xff\xff", "\xc3\xbc", "\xef\xbc\x96\xef\xbc\x91", strings.Repeat("61", 5000) + "6", strings.Repeat("61", 5000) + "6G",
	} {
		if x, ok := impl.SumUnhex(h); ok || x != "" {
			t.Errorf("%.40q: %.40q, %v", h, x, ok)
		}
	}
}

// Every pair of bytes is either the digits of the byte that it tells or refused.
func TestSumUnhexOfEveryPair(t *testing.T) {
	taken := 0
	for a := range 256 {
		for b := range 256 {
			h := string([]byte{byte(a), byte(b)})
			x, ok := impl.SumUnhex(h)
			if ok {
				taken++
			}
			if ok && impl.SumHex(x) != h || !ok && x != "" {
				t.Errorf("%q: %q, %v", h, x, ok)
			}
		}
	}
	if taken != 256 {
		t.Error(taken)
	}
}
