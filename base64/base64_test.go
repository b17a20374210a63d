package base64

import (
	"bytes"
	library "encoding/base64"
	"math/rand"
	"strings"
	"testing"

	"roost/api"
)

// In the tests' names stands which promise they hold.

// random is n bytes, the same for every run of a test.
func random(r *rand.Rand, n int) []byte {
	b := make([]byte, n)
	r.Read(b)
	return b
}

// fillings are bytes of one length, of kinds that tell mistakes apart.
func fillings(r *rand.Rand, n int) [][]byte {
	return [][]byte{
		make([]byte, n),
		bytes.Repeat([]byte{0xff}, n),
		bytes.Repeat([]byte{0x80}, n),
		bytes.Repeat([]byte{0x01}, n),
		random(r, n),
	}
}

// bothWays holds Encode, and Decode of what it writes, against what must be.
func bothWays(t *testing.T, b []byte, want string) {
	t.Helper()
	if s := Encode(b); s != want {
		t.Errorf("Encode(%x): %q, not %q", b, s, want)
	}
	if got, e := Decode(want); e != api.OK || !bytes.Equal(got, b) {
		t.Errorf("Decode(%q): %x, %v, not %x", want, got, e, b)
	}
}

func refused(t *testing.T, s string) {
	t.Helper()
	if b, e := Decode(s); e != api.ErrForm || len(b) > 0 {
		t.Errorf("Decode(%q): %x, %v", s, b, e)
	}
}

// libraryDecode is what the library answers; it leaves line ends out, which here are no digits.
func libraryDecode(s string) ([]byte, api.Errno) {
	b, err := library.StdEncoding.Strict().DecodeString(s)
	if err != nil || strings.ContainsAny(s, "\r\n") {
		return nil, api.ErrForm
	}
	return b, api.OK
}

func asLibrary(t *testing.T, s string) {
	t.Helper()
	want, wantE := libraryDecode(s)
	if b, e := Decode(s); e != wantE || !bytes.Equal(b, want) {
		t.Fatalf("Decode(%q): %x, %v, not %x, %v", s, b, e, want, wantE)
	}
}

func TestP61Runs(t *testing.T) {
	bothWays(t, nil, "")
	bothWays(t, []byte("f"), "Zg==")
	bothWays(t, []byte("fo"), "Zm8=")
	bothWays(t, []byte("foo"), "Zm9v")
	bothWays(t, []byte{0xff, 0xff, 0xff}, "////")
	bothWays(t, []byte{0xfb}, "+w==")
}

// RFC 4648's own that the chapter leaves out.
func TestP61Known(t *testing.T) {
	bothWays(t, []byte("foob"), "Zm9vYg==")
	bothWays(t, []byte("fooba"), "Zm9vYmE=")
	bothWays(t, []byte("foobar"), "Zm9vYmFy")
}

// Each digit in each of a group's four places, and all of one and two bytes; digits are counted as the chapter does it, not taken from a table that could hold the same mistake.
func TestP61EveryDigit(t *testing.T) {
	digit := func(v int) byte {
		switch {
		case v < 26:
			return byte('A' + v)
		case v < 52:
			return byte('a' + v - 26)
		case v < 62:
			return byte('0' + v - 52)
		case v == 62:
			return '+'
		}
		return '/'
	}
	for place := range 4 {
		for v := range 64 {
			bits := v << (6 * (3 - place))
			want := []byte("AAAA")
			want[place] = digit(v)
			bothWays(t, []byte{byte(bits >> 16), byte(bits >> 8), byte(bits)}, string(want))
		}
	}
	for v := range 256 {
		bothWays(t, []byte{byte(v)}, string([]byte{digit(v >> 2), digit(v & 3 << 4)})+"==")
	}
	for v := range 65536 {
		bothWays(t, []byte{byte(v >> 8), byte(v)}, string([]byte{digit(v >> 10), digit(v >> 4 & 63), digit(v & 15 << 2)})+"=")
	}
}

func TestP61EveryThreeBytes(t *testing.T) {
	b := make([]byte, 0, 3<<24)
	for v := range 1 << 24 {
		b = append(b, byte(v>>16), byte(v>>8), byte(v))
	}
	s := Encode(b)
	if s != library.StdEncoding.EncodeToString(b) {
		t.Error("a group is written otherwise than the library does it")
	}
	if got, e := Decode(s); e != api.OK || !bytes.Equal(got, b) {
		t.Errorf("a group is not read as it was written: %v", e)
	}
}

func TestP61EveryLength(t *testing.T) {
	r := rand.New(rand.NewSource(1))
	for n := range 400 {
		for _, b := range fillings(r, n) {
			bothWays(t, b, library.StdEncoding.EncodeToString(b))
		}
	}
	for _, n := range []int{1<<16 - 1, 1 << 16, 1<<16 + 1, 1 << 20, 1<<20 + 1, 1<<20 + 2} {
		b := random(r, n)
		if s := Encode(b); s != library.StdEncoding.EncodeToString(b) {
			t.Errorf("of %d bytes", n)
		}
	}
}

func TestP62Runs(t *testing.T) {
	for _, s := range []string{"Zg=", "Zh==", "Zg== ", "Z===", "=", "Zm9v\n", "Zm8", "Zg==Zg=="} {
		refused(t, s)
	}
}

func TestP62Examples(t *testing.T) {
	if b, e := Decode(""); e != api.OK || len(b) > 0 {
		t.Errorf("Decode of none: %x, %v", b, e)
	}
	refused(t, "Zh==")
}

func TestP62WhiteSpace(t *testing.T) {
	for _, white := range []string{" ", "\n", "\r", "\r\n", "\t", "\v", "\f", "\u00a0", "\u2028", "\ufeff", "    ", "\n\n\n\n", "\r\n\r\n", "   \n"} {
		refused(t, white)
		for _, s := range []string{"Zg==", "Zm8=", "Zm9v", "Zm9vYg==", "Zm9vYmFy"} {
			for at := range len(s) + 1 {
				refused(t, s[:at]+white+s[at:])
			}
			for at := range s {
				if at+len(white) <= len(s) {
					refused(t, s[:at]+white+s[at+len(white):])
				}
			}
		}
	}
}

// Digits of other alphabets, and runes that look like digits or fold to them.
func TestP62OtherDigits(t *testing.T) {
	for _, s := range []string{
		"_w==", "-w==", "____", "----", "Zm9_", "Zm9-", "Zm9,", "Zm9.", "Zm9~", "Zm9*",
		"Zé==", "é==", "\u212aA==", "\u017fA==", "\uff21A=", "\uff21\uff21\uff21\uff21", "\u0660\u0660",
		"\xff\xff\xff\xff", "\x00\x00\x00\x00", "Zm9\x00", "Zm8=\x00", "\x00Zm8=", "\xdaZm9", "Zm9\xf6", "%3D%3D", "Zg%3D%3D",
	} {
		refused(t, s)
	}
}

func TestP62Pads(t *testing.T) {
	for _, s := range []string{
		"=", "==", "===", "====", "=====", "======", "========",
		"Z", "Z=", "Z==", "Z===", "Z====", "Zg", "Zg=", "Zg===", "Zg====", "Zg======", "Zm8", "Zm8==", "Zm8=====", "Zm9v=", "Zm9v==", "Zm9v===", "Zm9v====",
		"=Zg=", "==Zg", "Z=g=", "Z==g", "=Zm8", "Z=m8", "Zm=8", "=Zm9", "AA=A", "A=AA", "A===", "=AAA", "A==A",
		"Zg==Zg==", "Zm8=Zm8=", "Zg==Zm9v", "Zm8=Zm9v", "Zm9vZm8=Zm9v", "Zg==A", "Zm9vZ", "Zm9vZg", "Zm9vZg=", "Zm9vZm8", "Zm9vZ===", "Zm9v=Zg=",
	} {
		refused(t, s)
	}
}

// Each last digit ahead of pads: those whose bits behind are 0 are read, all others refused.
func TestP62BitsBehind(t *testing.T) {
	for _, ahead := range []string{"", "Zm9v", "////"} {
		for _, first := range []string{"A", "Z", "/", "+", "9"} {
			one, two := 0, 0
			for v := range 64 {
				c := string("ABCDEFGHIJKLMNOPQRSTUVWXYZabcdefghijklmnopqrstuvwxyz0123456789+/"[v])
				if _, e := Decode(ahead + first + c + "=="); (e == api.OK) != (v%16 == 0) {
					t.Errorf("%s%s%s==: %v", ahead, first, c, e)
				} else if e == api.OK {
					one++
				}
				if _, e := Decode(ahead + first + "A" + c + "="); (e == api.OK) != (v%4 == 0) {
					t.Errorf("%s%sA%s=: %v", ahead, first, c, e)
				} else if e == api.OK {
					two++
				}
			}
			if one != 4 || two != 16 {
				t.Errorf("behind %s%s: %d and %d digits", ahead, first, one, two)
			}
		}
	}
}

// Each byte put in each place of a text, in place of what stood there and between.
func TestP62EveryByteInEveryPlace(t *testing.T) {
	for _, s := range []string{"", "Zg==", "Zm8=", "Zm9v", "AA==", "AAA=", "////", "Zm9vYg==", "Zm9vYmE=", "Zm9vYmFy", "////////+w=="} {
		for v := range 256 {
			c := string([]byte{byte(v)})
			for at := range len(s) + 1 {
				asLibrary(t, s[:at]+c+s[at:])
				if at < len(s) {
					asLibrary(t, s[:at]+c+s[at+1:])
				}
			}
		}
	}
}

func TestP62EveryCut(t *testing.T) {
	r := rand.New(rand.NewSource(2))
	for n := range 40 {
		s := Encode(random(r, n))
		for from := range len(s) + 1 {
			for to := from; to <= len(s); to++ {
				asLibrary(t, s[from:to])
			}
		}
	}
}

// everyText goes through all texts of n of the signs.
func everyText(signs string, n int, do func(s string)) {
	text := make([]byte, n)
	var fill func(at int)
	fill = func(at int) {
		if at == n {
			do(string(text))
			return
		}
		for i := range len(signs) {
			text[at] = signs[i]
			fill(at + 1)
		}
	}
	fill(0)
}

func TestP62EveryShortText(t *testing.T) {
	for n := range 5 {
		everyText("ABQgw8/+9=-_ \n\r\x00\xff", n, func(s string) { asLibrary(t, s) })
	}
	for n := range 10 {
		everyText("AB=", n, func(s string) { asLibrary(t, s) })
	}
}

func TestP62RandomTexts(t *testing.T) {
	r := rand.New(rand.NewSource(3))
	const signs = "ABCDEFGHIJKLMNOPQRSTUVWXYZabcdefghijklmnopqrstuvwxyz0123456789+/="
	for range 20000 {
		asLibrary(t, string(random(r, r.Intn(20))))
		text := make([]byte, r.Intn(20))
		for i := range text {
			text[i] = signs[r.Intn(len(signs))]
		}
		asLibrary(t, string(text))
	}
}

// A fault at the end of a long text leaves nothing of what was read ahead of it.
func TestP62LongTexts(t *testing.T) {
	long := strings.Repeat("Zm9v", 1<<18)
	for _, s := range []string{"=", "Zh==", "Zm9=", "Zm9\n", "Z", "Zg==Zg==", "===="} {
		refused(t, long+s)
		refused(t, s+long)
	}
	if b, e := Decode(long + "Zg=="); e != api.OK || string(b) != strings.Repeat("foo", 1<<18)+"f" {
		t.Errorf("%d bytes, %v", len(b), e)
	}
}

func TestP63ThereAndBack(t *testing.T) {
	r := rand.New(rand.NewSource(4))
	for range 20000 {
		b := random(r, r.Intn(100))
		if got, e := Decode(Encode(b)); e != api.OK || !bytes.Equal(got, b) {
			t.Fatalf("of %x: %x, %v", b, got, e)
		}
	}
}

// Whatever is taken is what is written: of all texts, no two are read as the same bytes.
func TestP63WhatIsTakenIsWritten(t *testing.T) {
	read := map[string]string{}
	taken := func(s string) {
		b, e := Decode(s)
		if e != api.OK {
			return
		}
		if Encode(b) != s {
			t.Fatalf("%q is taken, and %q is written of it", s, Encode(b))
		}
		if other, twice := read[string(b)]; twice && other != s {
			t.Fatalf("%q and %q are both read as %x", s, other, b)
		}
		read[string(b)] = s
	}
	for n := range 5 {
		everyText("ABQRZgwh8/+9=-_ \n", n, taken)
	}
	everyText("AQg=", 8, taken)
	if len(read) < 1000 {
		t.Errorf("only %d texts were taken", len(read))
	}
}

func TestR2NothingHandedInIsChanged(t *testing.T) {
	r := rand.New(rand.NewSource(5))
	for n := range 70 {
		whole := append(random(r, n), bytes.Repeat([]byte{0xa5}, 100)...)
		before := bytes.Clone(whole)
		Encode(whole[:n])
		if !bytes.Equal(whole, before) {
			t.Errorf("%d bytes: the argument, or its spare room, was changed", n)
		}
	}
}

// Holds R4 as well: an answer stays as it is, whatever is written over the argument or over another answer.
func TestR2AnswersShareNothing(t *testing.T) {
	overwrite := func(b []byte) {
		b = b[:cap(b)]
		for i := range b {
			b[i] = 0xee
		}
	}
	r := rand.New(rand.NewSource(6))
	for n := range 70 {
		b := random(r, n)
		kept, s := bytes.Clone(b), Encode(b)
		overwrite(b)
		if s != library.StdEncoding.EncodeToString(kept) {
			t.Errorf("%d bytes: the text hangs on the argument", n)
		}
		one, _ := Decode(s)
		two, _ := Decode(s)
		overwrite(one)
		if three, e := Decode(s); e != api.OK || !bytes.Equal(two, kept) || !bytes.Equal(three, kept) {
			t.Errorf("%d bytes: an answer hangs on another", n)
		}
	}
}

func TestR2NilAndEmptyAreOne(t *testing.T) {
	for _, none := range [][]byte{nil, {}, make([]byte, 0, 9), []byte("foo")[:0]} {
		if s := Encode(none); s != "" {
			t.Errorf("Encode of none: %q", s)
		}
	}
}

// A refusal, or a long text, leaves nothing behind for the calls that follow.
func TestR4NothingIsKept(t *testing.T) {
	for _, s := range []string{"Zm9vZh==", "Zm9vYmFy", "Z", "Zm9vYm9=", "////", strings.Repeat("////", 1000)} {
		Decode(s)
		bothWays(t, []byte("f"), "Zg==")
		bothWays(t, nil, "")
		refused(t, "Zh==")
	}
}
