package stanza

import (
	"bytes"
	"encoding/binary"
	"encoding/hex"
	"fmt"
	"math"
	"math/rand"
	"runtime"
	"slices"
	"strings"
	"testing"
	"unicode/utf8"
	"unsafe"

	"roost/api"
)

// In the tests' names stands which promise they hold.

// The parts' letters, in the order of their bits; T is Text, L is List.
const letters = "ABTLNF"

var (
	minusZero = math.Copysign(0, -1)
	oddNaN    = math.Float64frombits(0xfff8000000000123)
	oneNaN    = math.Float64frombits(0x7ff8000000000000)
)

// kinds is the chapter's table: the letters of each kind's parts.
func kinds() map[int]string {
	return map[int]string{
		1: "A", 2: "T", 3: "T", 4: "AF", 5: "", 6: "ATN", 7: "T", 8: "N", 9: "ABL", 10: "A",
		11: "A", 12: "A", 13: "A", 14: "A", 15: "AL", 16: "A", 17: "A", 18: "A", 19: "F",
		31: "L", 32: "T", 33: "T", 34: "N", 35: "N", 36: "N", 37: "ABTLN", 38: "AN", 39: "N",
		40: "ABTLN", 41: "ABT", 42: "A", 43: "A", 44: "A", 45: "A", 46: "N",
	}
}

// noKinds are numbers beside the table's, at its edges, and those that a narrower number would take for one of them.
func noKinds() []int {
	out := []int{0, -1, -5, math.MinInt, math.MaxInt, 64, 127, 128, 255, 256 + 5, 1<<16 + 5, 1<<31 - 1, 1 << 31, 1<<31 + 5, 1<<32 + 5, 5 - 1<<32, 1<<62 + 5}
	for kind := 20; kind < 31; kind++ {
		out = append(out, kind)
	}
	for kind := 47; kind < 60; kind++ {
		out = append(out, kind)
	}
	return out
}

func hexed(t *testing.T, s string) []byte {
	t.Helper()
	b, err := hex.DecodeString(strings.ReplaceAll(s, " ", ""))
	if err != nil {
		t.Fatal(err)
	}
	return b
}

// said is a stanza as a text, its float by its bits.
func said(s api.Stanza) string {
	return fmt.Sprintf("%d %d %q %q %q %q %d %x", s.Kind, s.Id, s.A, s.B, s.Text, s.List, s.N, math.Float64bits(s.F))
}

func none(s api.Stanza) bool { return said(s) == said(api.Stanza{}) }

// with is a stanza of a kind with the parts of these letters.
func with(kind int, parts string) api.Stanza {
	s := api.Stanza{Kind: kind, Id: 300}
	for _, p := range parts {
		switch p {
		case 'A':
			s.A = "aé"
		case 'B':
			s.B = "b\x00"
		case 'T':
			s.Text = strings.Repeat("t", 200)
		case 'L':
			s.List = []string{"", "x", ""}
		case 'N':
			s.N = -77
		case 'F':
			s.F = -1.5
		}
	}
	return s
}

// subset is the letters whose bits n has.
func subset(n int) (parts string) {
	for i, p := range letters {
		if n>>i&1 == 1 {
			parts += string(p)
		}
	}
	return parts
}

func within(parts, has string) bool {
	for _, p := range parts {
		if !strings.ContainsRune(has, p) {
			return false
		}
	}
	return true
}

// numberForm, textForm and form are the document's words on forms, without octet.
func numberForm(n uint64) []byte { return binary.AppendUvarint(nil, n) }

func textForm(s string) []byte { return append(numberForm(uint64(len(s))), s...) }

func form(s api.Stanza, parts string) []byte {
	b := append(numberForm(uint64(s.Kind)), numberForm(s.Id)...)
	sum := byte(0)
	for _, p := range parts {
		sum += 1 << strings.IndexRune(letters, p)
	}
	b = append(b, sum)
	for _, p := range parts {
		switch p {
		case 'A':
			b = append(b, textForm(s.A)...)
		case 'B':
			b = append(b, textForm(s.B)...)
		case 'T':
			b = append(b, textForm(s.Text)...)
		case 'L':
			b = append(b, numberForm(uint64(len(s.List)))...)
			for _, text := range s.List {
				b = append(b, textForm(text)...)
			}
		case 'N':
			b = binary.AppendVarint(b, int64(s.N))
		case 'F':
			b = binary.BigEndian.AppendUint64(b, math.Float64bits(s.F))
		}
	}
	return b
}

func checks(t *testing.T, s api.Stanza, want api.Errno) {
	t.Helper()
	if e := Check(s); e != want {
		t.Errorf("Check(%s): %v, not %v", said(s), e, want)
	}
	if want == api.OK {
		return
	}
	if b, e := Write(s); len(b) > 0 || e != want {
		t.Errorf("Write(%s): %x, %v, not %v", said(s), b, e, want)
	}
}

func reads(t *testing.T, s string, want api.Errno) {
	t.Helper()
	r, e := Read(hexed(t, s))
	if e != want || e != api.OK && !none(r) {
		t.Errorf("Read(%s): %s, %v; not %v", s, said(r), e, want)
	}
}

func TestP41Kinds(t *testing.T) {
	for kind := range kinds() {
		checks(t, api.Stanza{Kind: kind}, api.OK)
	}
	for _, kind := range noKinds() {
		checks(t, api.Stanza{Kind: kind}, api.ErrRange)
		checks(t, with(kind, letters), api.ErrRange)
		checks(t, api.Stanza{Kind: kind, A: "\xff", B: strings.Repeat("b", 1025)}, api.ErrRange)
	}
}

func TestP41EveryKindWithEveryParts(t *testing.T) {
	for kind, has := range kinds() {
		for n := range 64 {
			want := api.OK
			if !within(subset(n), has) {
				want = api.ErrForm
			}
			checks(t, with(kind, subset(n)), want)
		}
	}
}

func TestP41WhatIsThere(t *testing.T) {
	for _, f := range []float64{minusZero, oneNaN, oddNaN, 5e-324, -5e-324, math.Inf(1), math.Inf(-1), 1} {
		checks(t, api.Stanza{Kind: api.Renew, F: f}, api.OK)
		checks(t, api.Stanza{Kind: api.Unbind, F: f}, api.ErrForm)
	}
	for _, n := range []int{1, -1, math.MinInt, math.MaxInt, 1 << 32, 1 << 8} {
		checks(t, api.Stanza{Kind: api.Fetch, N: n}, api.OK)
		checks(t, api.Stanza{Kind: api.Unbind, N: n}, api.ErrForm)
	}
	checks(t, api.Stanza{Kind: api.Unbind, List: []string{}}, api.OK)
	checks(t, api.Stanza{Kind: api.Unbind, List: []string{""}}, api.ErrForm)
	checks(t, api.Stanza{Kind: api.Unbind, Id: math.MaxUint64}, api.OK)
}

func TestP41Sizes(t *testing.T) {
	full, over := strings.Repeat("x", 1024), strings.Repeat("x", 1025)
	wide := strings.Repeat("é", 512)
	for _, text := range []string{full, wide} {
		checks(t, api.Stanza{Kind: api.Seen, A: text, B: text, Text: text, List: slices.Repeat([]string{text}, 64)}, api.OK)
	}
	for _, text := range []string{over, wide + "x", strings.Repeat("\xff", 1025)} {
		checks(t, api.Stanza{Kind: api.Seen, A: text}, api.ErrBig)
		checks(t, api.Stanza{Kind: api.Seen, B: text}, api.ErrBig)
		checks(t, api.Stanza{Kind: api.Seen, Text: text}, api.ErrBig)
		checks(t, api.Stanza{Kind: api.Seen, List: []string{text}}, api.ErrBig)
		checks(t, api.Stanza{Kind: api.Seen, List: append(make([]string, 63), text)}, api.ErrBig)
	}
	checks(t, api.Stanza{Kind: api.Features, List: make([]string, 64)}, api.OK)
	checks(t, api.Stanza{Kind: api.Features, List: make([]string, 65)}, api.ErrBig)
	checks(t, api.Stanza{Kind: api.Features, List: make([]string, 256)}, api.ErrBig)
}

// notUTF8 has bytes that stand alone, forms cut short, too long, of surrogates and beyond the last rune.
func notUTF8() []string {
	return []string{"\x80", "\xbf", "\xc3", "\xff", "\xfe", "\xc1\xa1", "\xe0\x81\xa1", "\xe2\x82", "\xf0\x9f\x98",
		"\xed\xa0\x80", "\xed\xbf\xbf", "\xf4\x90\x80\x80", "a\xffb", strings.Repeat("a", 1023) + "\xc3"}
}

func TestP41NotUTF8(t *testing.T) {
	for _, text := range notUTF8() {
		checks(t, api.Stanza{Kind: api.Item, A: text}, api.ErrName)
		checks(t, api.Stanza{Kind: api.Item, B: text}, api.ErrName)
		checks(t, api.Stanza{Kind: api.Item, Text: text}, api.ErrName)
		checks(t, api.Stanza{Kind: api.Item, List: []string{"", "a", text}}, api.ErrName)
	}
	checks(t, api.Stanza{Kind: api.Item, A: "\x00", B: "\ufffd", Text: "\U0010ffff", List: []string{"\ufffe", "\n"}}, api.OK)
}

func TestP41FirstRefusal(t *testing.T) {
	over := strings.Repeat("x", 1025)
	long := make([]string, 65)
	for _, x := range []struct {
		s    api.Stanza
		want api.Errno
	}{
		{api.Stanza{Kind: 20, A: over}, api.ErrRange},
		{api.Stanza{Kind: api.Unbind, A: "\xff"}, api.ErrForm},
		{api.Stanza{Kind: api.Unbind, A: over}, api.ErrForm},
		{api.Stanza{Kind: api.Unbind, List: long}, api.ErrForm},
		{api.Stanza{Kind: api.Hello, A: over, F: minusZero}, api.ErrForm},
		{api.Stanza{Kind: api.Hello, A: "\xff", N: 1}, api.ErrForm},
		{api.Stanza{Kind: api.Seen, A: "\xff", B: over, Text: over, List: long}, api.ErrName},
		{api.Stanza{Kind: api.Seen, A: over, B: "\xff", Text: "\xff", List: []string{"\xff"}}, api.ErrBig},
		{api.Stanza{Kind: api.Seen, B: "\xff", Text: over, List: long}, api.ErrName},
		{api.Stanza{Kind: api.Seen, B: over, Text: "\xff", List: []string{"\xff"}}, api.ErrBig},
		{api.Stanza{Kind: api.Seen, Text: "\xff", List: long}, api.ErrName},
		{api.Stanza{Kind: api.Seen, Text: over, List: []string{"\xff"}}, api.ErrBig},
		{api.Stanza{Kind: api.Seen, List: append([]string{"\xff"}, long...)}, api.ErrBig},
		{api.Stanza{Kind: api.Seen, List: []string{"a", "\xff", over}}, api.ErrName},
		{api.Stanza{Kind: api.Seen, List: []string{"a", over, "\xff"}}, api.ErrBig},
		{api.Stanza{Kind: api.Seen, List: append(make([]string, 63), "\xff")}, api.ErrName},
	} {
		checks(t, x.s, x.want)
	}
}

func TestP42Runs(t *testing.T) {
	for _, x := range []struct {
		s    api.Stanza
		want string
		e    api.Errno
	}{
		{api.Stanza{Kind: 5, Id: 7}, "05 07 00", api.OK},
		{api.Stanza{Kind: 4, A: "d", F: minusZero}, "04 00 21 01 64 80 00 00 00 00 00 00 00", api.OK},
		{api.Stanza{Kind: 5, A: "x"}, "", api.ErrForm},
		{api.Stanza{Kind: 20}, "", api.ErrRange},
		{api.Stanza{Kind: 11, A: strings.Repeat("a", 1025)}, "", api.ErrBig},
		{api.Stanza{Kind: 15, List: []string{""}}, "0f 00 08 01 00", api.OK}, // the chapter's first example
		{api.Stanza{Kind: 4, A: "d"}, "04 00 01 01 64", api.OK},              // its second one: not the second run
		{api.Stanza{Kind: 19, F: oneNaN}, "13 00 20 7f f8 00 00 00 00 00 00", api.OK},
		{api.Stanza{Kind: 19, F: oddNaN}, "13 00 20 7f f8 00 00 00 00 00 00", api.OK},
		{api.Stanza{Kind: 8, N: -1}, "08 00 10 01", api.OK},
		{api.Stanza{Kind: 8, Id: 300, N: 1}, "08 ac 02 10 02", api.OK},
		{api.Stanza{Kind: 46, Id: math.MaxUint64, N: math.MinInt}, "2e ff ff ff ff ff ff ff ff ff 01 10 ff ff ff ff ff ff ff ff ff 01", api.OK},
		{api.Stanza{Kind: 37, Id: 1, A: "a", B: "bb", Text: "t", List: []string{"x", "", "é"}, N: 3}, "25 01 1f 01 61 02 62 62 01 74 03 01 78 00 02 c3 a9 06", api.OK},
	} {
		b, e := Write(x.s)
		if !bytes.Equal(b, hexed(t, x.want)) || e != x.e {
			t.Errorf("Write(%s): %x, %v; not %s, %v", said(x.s), b, e, x.want, x.e)
		}
	}
}

func TestP42EveryKindWithEveryParts(t *testing.T) {
	for kind, has := range kinds() {
		for n := range 64 {
			parts := subset(n)
			if !within(parts, has) {
				continue
			}
			s := with(kind, parts)
			if b, e := Write(s); !bytes.Equal(b, form(s, parts)) || e != api.OK {
				t.Errorf("Write(%s): %x, %v; not %x", said(s), b, e, form(s, parts))
			}
		}
	}
}

func TestP43Runs(t *testing.T) {
	reads(t, "05 07", api.ErrForm)
	reads(t, "05 07 01 01 61", api.ErrForm)
	reads(t, "05 07 00 00", api.ErrForm)
	reads(t, "04 00 01 00", api.ErrForm)
	reads(t, "14 00 00", api.ErrRange)
	for _, x := range []struct {
		b    string
		want api.Stanza
	}{
		{"0f 00 08 01 00", api.Stanza{Kind: 15, List: []string{""}}},
		{"05 07 00", api.Stanza{Kind: 5, Id: 7}},
		{"04 00 21 01 64 80 00 00 00 00 00 00 00", api.Stanza{Kind: 4, A: "d", F: minusZero}},
		{"04 00 01 01 64", api.Stanza{Kind: 4, A: "d"}},
		{"13 00 20 7f f8 00 00 00 00 00 00", api.Stanza{Kind: 19, F: oneNaN}},
		{"08 00 10 01", api.Stanza{Kind: 8, N: -1}},
		{"2e ff ff ff ff ff ff ff ff ff 01 10 ff ff ff ff ff ff ff ff ff 01", api.Stanza{Kind: 46, Id: math.MaxUint64, N: math.MinInt}},
		{"25 01 1f 01 61 02 62 62 01 74 03 01 78 00 02 c3 a9 06", api.Stanza{Kind: 37, Id: 1, A: "a", B: "bb", Text: "t", List: []string{"x", "", "é"}, N: 3}},
	} {
		if r, e := Read(hexed(t, x.b)); said(r) != said(x.want) || e != api.OK {
			t.Errorf("Read(%s): %s, %v; not %s", x.b, said(r), e, said(x.want))
		}
	}
}

func TestP43Kind(t *testing.T) {
	reads(t, "", api.ErrForm)
	reads(t, "85", api.ErrForm)
	reads(t, "85 00 00 00", api.ErrForm)
	reads(t, "94", api.ErrForm)
	for _, kind := range noKinds() {
		b := numberForm(uint64(kind))
		for _, behind := range []string{"", "00", "80", "80 00", "00 00", "00 ff", "00 01 01 61"} {
			reads(t, hex.EncodeToString(b)+behind, api.ErrRange)
		}
	}
	reads(t, strings.Repeat("ff", 9)+"02", api.ErrRange)
	reads(t, strings.Repeat("80", 9)+"00", api.ErrForm)
}

func TestP43Id(t *testing.T) {
	reads(t, "05", api.ErrForm)
	reads(t, "05 80", api.ErrForm)
	reads(t, "05 80 00 00", api.ErrForm)
	reads(t, "05"+strings.Repeat("ff", 9)+"02 00", api.ErrRange)
	reads(t, "05"+strings.Repeat("80", 10)+"01 ff", api.ErrRange)
	reads(t, "05"+strings.Repeat("80", 9)+"01 ff", api.ErrForm)
	reads(t, "05"+strings.Repeat("80", 9)+"01 00", api.OK)
}

// A byte is refused by one bit that the kind does not have, whatever is behind it.
func TestP43EveryKindWithEveryByte(t *testing.T) {
	for kind, has := range kinds() {
		for sum := range 256 {
			parts := subset(sum % 64)
			s := with(kind, parts)
			b := form(s, parts)
			b[3] = byte(sum)
			r, e := Read(b)
			if sum < 64 && within(parts, has) {
				if said(r) != said(s) || e != api.OK {
					t.Errorf("Read(%x): %s, %v; not %s", b, said(r), e, said(s))
				}
				continue
			}
			if !none(r) || e != api.ErrForm {
				t.Errorf("Read(%x): %s, %v", b, said(r), e)
			}
			if r, e := Read(append(b[:4:4], 0x81, 0x08)); !none(r) || e != api.ErrForm {
				t.Errorf("Read(%x 81 08): %s, %v", b[:4], said(r), e)
			}
		}
	}
}

func TestP43Texts(t *testing.T) {
	for head, part := range map[string]string{"25 00 01": "A", "25 00 02": "B", "25 00 04": "Text", "25 00 08 01": "List"} {
		full := strings.Repeat("61", 1024)
		t.Log(part)
		reads(t, head, api.ErrForm)
		reads(t, head+"80", api.ErrForm)
		reads(t, head+"81 00 61", api.ErrForm)
		reads(t, head+strings.Repeat("80", 9)+"02", api.ErrRange)
		reads(t, head+"80 08"+full, api.OK)
		reads(t, head+"80 08"+full[2:], api.ErrForm)
		reads(t, head+"80 08"+full+"61", api.ErrForm)
		reads(t, head+"81 08"+full+"61", api.ErrBig)
		reads(t, head+"81 08", api.ErrBig)
		reads(t, head+strings.Repeat("ff", 9)+"01", api.ErrBig)
		reads(t, head+"02 61", api.ErrForm)
		reads(t, head+"02 ff", api.ErrForm)
		for _, text := range notUTF8() {
			reads(t, head+hex.EncodeToString(textForm(text)), api.ErrName)
		}
	}
}

func TestP43List(t *testing.T) {
	reads(t, "0f 00 08", api.ErrForm)
	reads(t, "0f 00 08 81", api.ErrForm)
	reads(t, "0f 00 08 81 00 00", api.ErrForm)
	reads(t, "0f 00 08"+strings.Repeat("ff", 9)+"02", api.ErrRange)
	reads(t, "0f 00 08 00", api.ErrForm)
	reads(t, "0f 00 08 00 01 61", api.ErrForm)
	reads(t, "0f 00 08 41", api.ErrBig)
	reads(t, "0f 00 08 41 01 ff", api.ErrBig)
	reads(t, "0f 00 08 41"+strings.Repeat("00", 65), api.ErrBig)
	reads(t, "0f 00 08 40"+strings.Repeat("00", 64), api.OK)
	reads(t, "0f 00 08 40"+strings.Repeat("00", 63), api.ErrForm)
	reads(t, "0f 00 08 80 02", api.ErrBig)
	reads(t, "0f 00 08"+strings.Repeat("ff", 9)+"01", api.ErrBig)
	reads(t, "0f 00 08 03 01 61 01 ff 81 08", api.ErrName)
	reads(t, "0f 00 08 03 01 61 81 08 01 ff", api.ErrBig)
	reads(t, "0f 00 08 03 01 61 00", api.ErrForm)
}

func TestP43Numbers(t *testing.T) {
	reads(t, "08 00 10", api.ErrForm)
	reads(t, "08 00 10 80", api.ErrForm)
	reads(t, "08 00 10 82 00", api.ErrForm)
	reads(t, "08 00 10 00", api.ErrForm)
	reads(t, "08 00 10 02 00", api.ErrForm)
	reads(t, "08 00 10"+strings.Repeat("ff", 9)+"02", api.ErrRange)
	reads(t, "08 00 10"+strings.Repeat("ff", 9)+"01", api.OK)
}

func TestP43Floats(t *testing.T) {
	reads(t, "13 00 20", api.ErrForm)
	reads(t, "13 00 20 3f f0 00 00 00 00 00", api.ErrForm)
	reads(t, "13 00 20 00 00 00 00 00 00 00 00", api.ErrForm)
	reads(t, "13 00 20 7f f0 00 00 00 00 00 01", api.ErrForm)
	reads(t, "13 00 20 ff f8 00 00 00 00 00 00", api.ErrForm)
	reads(t, "13 00 20 7f f8 00 00 00 00 00 00", api.OK)
	reads(t, "13 00 20 80 00 00 00 00 00 00 00", api.OK)
	reads(t, "13 00 20 00 00 00 00 00 00 00 01", api.OK)
	reads(t, "13 00 20 ff f0 00 00 00 00 00 00", api.OK)
	reads(t, "13 00 20 7f f0 00 00 00 00 00 00 00", api.ErrForm)
}

// A part that is said to be there and is not comes ahead of what is wrong behind it; bytes behind all of it come last.
func TestP43FirstRefusal(t *testing.T) {
	reads(t, "25 00 03 00 81 08", api.ErrForm)
	reads(t, "25 00 03 81 08 00", api.ErrBig)
	reads(t, "25 00 03 01 61 81 08", api.ErrBig)
	reads(t, "25 00 06 00 01 ff", api.ErrForm)
	reads(t, "25 00 0c 01 ff 41", api.ErrName)
	reads(t, "25 00 0c 00 41", api.ErrForm)
	reads(t, "25 00 0c 01 61 41", api.ErrBig)
	reads(t, "25 00 18 00"+strings.Repeat("ff", 10), api.ErrForm)
	reads(t, "25 00 18 01 00"+strings.Repeat("ff", 10), api.ErrRange)
	reads(t, "25 00 11 01 ff 00 00", api.ErrName)
	reads(t, "0b 00 01 01 ff 00", api.ErrName)
	reads(t, "0b 00 01 81 08 00", api.ErrBig)
	reads(t, "0b 00 01 01 61 ff", api.ErrForm)
}

// wrong is an error that is met while bytes are gone through.
type wrong struct{ e api.Errno }

func must(ok bool, e api.Errno) {
	if !ok {
		panic(wrong{e})
	}
}

// text reads by the document's words alone: no octet, no table of bits.
type text struct{ b []byte }

func (x *text) byte() byte {
	must(len(x.b) > 0, api.ErrForm)
	c := x.b[0]
	x.b = x.b[1:]
	return c
}

func (x *text) number() (n uint64) {
	for i := 0; ; i++ {
		c := x.byte()
		must(i < 9 || c <= 1, api.ErrRange)
		n += uint64(c&127) << (7 * i)
		if c < 128 {
			must(c > 0 || i == 0, api.ErrForm)
			return n
		}
	}
}

func (x *text) text() string {
	n := x.number()
	must(n <= 1024, api.ErrBig)
	must(n <= uint64(len(x.b)), api.ErrForm)
	s := string(x.b[:n])
	must(utf8.ValidString(s), api.ErrName)
	x.b = x.b[n:]
	return s
}

func (x *text) part(s *api.Stanza, p rune) {
	switch p {
	case 'A':
		s.A = x.text()
		must(s.A != "", api.ErrForm)
	case 'B':
		s.B = x.text()
		must(s.B != "", api.ErrForm)
	case 'T':
		s.Text = x.text()
		must(s.Text != "", api.ErrForm)
	case 'L':
		n := x.number()
		must(n <= 64, api.ErrBig)
		for range n {
			s.List = append(s.List, x.text())
		}
		must(n > 0, api.ErrForm)
	case 'N':
		n := x.number()
		s.N = int(n/2) ^ -int(n%2)
		must(s.N != 0, api.ErrForm)
	case 'F':
		must(len(x.b) >= 8, api.ErrForm)
		bits := binary.BigEndian.Uint64(x.b)
		x.b = x.b[8:]
		s.F = math.Float64frombits(bits)
		must(s.F == s.F || bits == 0x7ff8000000000000, api.ErrForm)
		must(bits != 0, api.ErrForm)
	}
}

// asked is what the document asks of Read.
func asked(b []byte) (s api.Stanza, e api.Errno) {
	defer func() {
		if w, ok := recover().(wrong); ok {
			s, e = api.Stanza{}, w.e
		}
	}()
	x := text{b}
	n := x.number()
	must(n < 1<<31, api.ErrRange)
	has, ok := kinds()[int(n)]
	must(ok, api.ErrRange)
	s.Kind, s.Id = int(n), x.number()
	sum := x.byte()
	must(sum < 64 && within(subset(int(sum)), has), api.ErrForm)
	for _, p := range subset(int(sum)) {
		x.part(&s, p)
	}
	must(len(x.b) == 0, api.ErrForm)
	return s, api.OK
}

// readsAsAsked holds Read against the document's words, and P4.5 where it takes the bytes.
func readsAsAsked(t *testing.T, b []byte) {
	t.Helper()
	r, e := Read(b)
	if want, f := asked(b); said(r) != said(want) || e != f {
		t.Fatalf("Read(%x): %s, %v; not %s, %v", b, said(r), e, said(want), f)
	}
	if e != api.OK {
		return
	}
	if again, e := Write(r); !bytes.Equal(again, b) || e != api.OK {
		t.Fatalf("Write(%s): %x, %v; not %x", said(r), again, e, b)
	}
}

func TestP43EveryCutAndByte(t *testing.T) {
	for kind, has := range kinds() {
		s := with(kind, has)
		s.Text = s.Text[:min(len(s.Text), 3)]
		b, _ := Write(s)
		for i := range b {
			readsAsAsked(t, b[:i])
			for c := range 256 {
				other := bytes.Clone(b)
				other[i] = byte(c)
				readsAsAsked(t, other)
				readsAsAsked(t, slices.Insert(bytes.Clone(b), i, byte(c)))
			}
		}
	}
}

// Holds R1 as well: whatever the bytes are, no call panics.
func TestP43AnyBytes(t *testing.T) {
	source := rand.New(rand.NewSource(43))
	often := []byte{0, 1, 2, 5, 8, 9, 15, 19, 37, 40, 64, 65, 127, 128, 129, 255, 0x61, 0x7f, 0xf8}
	for range 300000 {
		b := make([]byte, source.Intn(24))
		for i := range b {
			b[i] = byte(source.Intn(256))
			if source.Intn(3) > 0 {
				b[i] = often[source.Intn(len(often))]
			}
		}
		readsAsAsked(t, b)
	}
}

// What is behind a part is not copied with each of them, however long it is.
func TestP43LongBytesBehind(t *testing.T) {
	s := with(api.Seen, "ABTLN")
	s.List = make([]string, 64)
	b, _ := Write(s)
	b = append(b, make([]byte, 1<<26)...)
	var before, after runtime.MemStats
	runtime.ReadMemStats(&before)
	r, e := Read(b)
	runtime.ReadMemStats(&after)
	if !none(r) || e != api.ErrForm {
		t.Errorf("%s, %v", said(r), e)
	}
	if n := after.TotalAlloc - before.TotalAlloc; n > 1<<24 {
		t.Errorf("%d bytes of memory", n)
	}
}

func TestP44Client(t *testing.T) {
	for kind := -60; kind < 300; kind++ {
		if Client(kind) != (kind >= 1 && kind <= 19) {
			t.Error(kind, Client(kind))
		}
	}
	for _, kind := range noKinds() {
		if Client(kind) {
			t.Error(kind)
		}
	}
}

// randomText is UTF-8 of any runes, at times as long as may be.
func randomText(source *rand.Rand) string {
	runes := []rune{0, 'a', '\n', 0x7f, 0x80, 'é', 0x7ff, 0x800, 0xfffd, 0xffff, 0x10000, 0x10ffff}
	var s strings.Builder
	for range source.Intn(6) {
		s.WriteRune(runes[source.Intn(len(runes))])
	}
	if source.Intn(8) == 0 {
		s.WriteString(strings.Repeat("x", 1024-s.Len()))
	}
	return s.String()
}

// randomStanza may have empty texts, 0 and +0 in its parts' places.
func randomStanza(source *rand.Rand, kind int, has string) api.Stanza {
	ints := []int{0, 1, -1, 63, 64, -64, -65, math.MaxInt, math.MinInt, source.Int()}
	floats := []float64{0, minusZero, 1, -5e-324, math.Inf(1), math.Inf(-1), oneNaN, oddNaN, source.NormFloat64()}
	s := api.Stanza{Kind: kind, Id: source.Uint64() >> source.Intn(64)}
	for _, p := range has {
		switch p {
		case 'A':
			s.A = randomText(source)
		case 'B':
			s.B = randomText(source)
		case 'T':
			s.Text = randomText(source)
		case 'L':
			for range []int{0, 1, 2, 63, 64}[source.Intn(5)] {
				s.List = append(s.List, randomText(source))
			}
		case 'N':
			s.N = ints[source.Intn(len(ints))]
		case 'F':
			s.F = floats[source.Intn(len(floats))]
		}
	}
	return s
}

func TestP45ReadOfWrite(t *testing.T) {
	source := rand.New(rand.NewSource(45))
	for kind, has := range kinds() {
		for range 200 {
			s := randomStanza(source, kind, has)
			b, e := Write(s)
			if e != api.OK {
				t.Fatalf("Write(%s): %v", said(s), e)
			}
			if math.IsNaN(s.F) {
				s.F = oneNaN
			}
			if r, e := Read(b); said(r) != said(s) || e != api.OK {
				t.Fatalf("Read(%x): %s, %v; not %s", b, said(r), e, said(s))
			}
			readsAsAsked(t, b)
		}
	}
}

// The greatest one is longer than a frame; it is read all the same.
func TestP45Greatest(t *testing.T) {
	full := strings.Repeat("é", 512)
	s := api.Stanza{Kind: api.Item, Id: math.MaxUint64, A: full, B: full, Text: full, List: slices.Repeat([]string{full}, 64), N: math.MinInt}
	b, e := Write(s)
	if e != api.OK || len(b) != 1+10+1+67*(2+1024)+1+10 {
		t.Fatalf("%d bytes, %v", len(b), e)
	}
	if r, e := Read(b); said(r) != said(s) || e != api.OK {
		t.Errorf("%.80s .., %v", said(r), e)
	}
}

// Two stanzas that are not the same have two forms.
func TestP45MinusZeroIsAnother(t *testing.T) {
	plus, _ := Write(api.Stanza{Kind: api.Renew})
	minus, _ := Write(api.Stanza{Kind: api.Renew, F: minusZero})
	if bytes.Equal(plus, minus) {
		t.Errorf("both %x", plus)
	}
	p, _ := Read(plus)
	m, _ := Read(minus)
	if math.Signbit(p.F) || !math.Signbit(m.F) || p.F != 0 || m.F != 0 {
		t.Errorf("%v, %v", p.F, m.F)
	}
}

// roomy is bytes with room to spare in which nothing may be written.
func roomy(b []byte) (part, whole []byte) {
	whole = append(bytes.Clone(b), bytes.Repeat([]byte{0xa5}, 40)...)
	return whole[:len(b)], whole
}

// spoil writes over all of a list, its spare room too.
func spoil(b []byte) {
	b = b[:cap(b)]
	for i := range b {
		b[i] = ^b[i]
	}
}

func TestR2Write(t *testing.T) {
	for kind, has := range kinds() {
		s := with(kind, has)
		list := append(slices.Clone(s.List), "spare")
		s.List = list[:len(s.List)]
		before := said(s)
		first, _ := Write(s)
		second, _ := Write(s)
		want := bytes.Clone(second)
		spoil(first)
		if !bytes.Equal(second, want) || said(s) != before || list[len(s.List)] != "spare" {
			t.Errorf("kind %d: an answer is shared, or what was handed in was changed", kind)
		}
		if e := Check(s); e != api.OK || said(s) != before {
			t.Errorf("kind %d: Check: %v, %s", kind, e, said(s))
		}
	}
}

func TestR2Read(t *testing.T) {
	for kind, has := range kinds() {
		s := with(kind, has)
		form, _ := Write(s)
		for _, b := range [][]byte{form, form[:len(form)-1], append(bytes.Clone(form), 0)} {
			part, whole := roomy(b)
			before := bytes.Clone(whole)
			r, e := Read(part)
			if !bytes.Equal(whole, before) {
				t.Errorf("Read(%x) changed what it was given: %x", b, whole)
			}
			spoil(whole)
			if e == api.OK && said(r) != said(s) {
				t.Errorf("Read(%x): shared with what it was given: %s", b, said(r))
			}
		}
	}
}

func TestR2ReadTwice(t *testing.T) {
	b, _ := Write(with(api.Item, "ABTLN"))
	first, _ := Read(b)
	second, _ := Read(b)
	want := said(second)
	for i := range first.List[:cap(first.List)] {
		first.List[:cap(first.List)][i] = "other"
	}
	if said(second) != want {
		t.Error("two answers share a list")
	}
	if unsafe.StringData(first.A) == unsafe.StringData(second.A) {
		t.Error("two answers share a text")
	}
}

func TestR2NilAndEmptyListsAreOne(t *testing.T) {
	for kind := range kinds() {
		a, e := Write(api.Stanza{Kind: kind})
		b, f := Write(api.Stanza{Kind: kind, List: []string{}})
		if !bytes.Equal(a, b) || e != api.OK || f != api.OK {
			t.Errorf("kind %d: %x, %v; %x, %v", kind, a, e, b, f)
		}
	}
	r, e := Read([]byte{})
	s, f := Read(nil)
	if e != f || !none(r) || !none(s) {
		t.Error(e, f, r, s)
	}
}
