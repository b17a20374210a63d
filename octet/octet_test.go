package octet

import (
	"bytes"
	"encoding/binary"
	"encoding/hex"
	"math"
	"math/rand"
	"strings"
	"testing"

	"roost/api"
)

// In the tests' names stands which promise they hold.

const oddNaN = 0xfff8000000000123

var minusZero = math.Copysign(0, -1)

func hexed(t *testing.T, s string) []byte {
	t.Helper()
	b, err := hex.DecodeString(strings.ReplaceAll(s, " ", ""))
	if err != nil {
		t.Fatal(err)
	}
	return b
}

func times(n int, s string) string { return strings.Repeat(s, n) }

// The numbers at which a form becomes a byte longer, and their neighbours.
func edgeNumbers() []uint64 {
	out := []uint64{0, 1, 2, 300, math.MaxUint64, math.MaxUint64 - 1, 1 << 63}
	for shift := 7; shift < 64; shift += 7 {
		out = append(out, 1<<shift-1, 1<<shift, 1<<shift+1)
	}
	return out
}

func edgeInts() []int {
	out := []int{0, 1, -1, math.MaxInt, math.MinInt, math.MaxInt - 1, math.MinInt + 1}
	for shift := 6; shift < 63; shift += 7 {
		for _, n := range []int{1<<shift - 1, 1 << shift, 1<<shift + 1} {
			out = append(out, n, -n)
		}
	}
	return out
}

// Each is less than the one behind it, as P1.5 orders them.
func risingFloats() []float64 {
	return []float64{math.Inf(-1), -math.MaxFloat64, -1.5, -1, -5e-324, minusZero, 0, 5e-324, 1, 1.5, math.MaxFloat64, math.Inf(1), math.NaN()}
}

func TestP11PutUint(t *testing.T) {
	runs := []struct {
		n    uint64
		want string
	}{
		{0, "00"}, {1, "01"}, {127, "7f"}, {128, "80 01"}, {300, "ac 02"},
		{16383, "ff 7f"}, {16384, "80 80 01"},
		{1<<63 - 1, times(8, "ff") + "7f"}, {1 << 63, times(9, "80") + "01"}, {math.MaxUint64, times(9, "ff") + "01"},
	}
	for _, r := range runs {
		if got := PutUint(nil, r.n); !bytes.Equal(got, hexed(t, r.want)) {
			t.Errorf("PutUint(nil, %d): %x, not %s", r.n, got, r.want)
		}
		if got := PutUint([]byte{9, 8}, r.n); !bytes.Equal(got, hexed(t, "09 08"+r.want)) {
			t.Errorf("PutUint(09 08, %d): %x", r.n, got)
		}
	}
	for _, n := range edgeNumbers() {
		if got, want := PutUint(nil, n), binary.AppendUvarint(nil, n); !bytes.Equal(got, want) {
			t.Errorf("PutUint(nil, %d): %x, not %x", n, got, want)
		}
	}
}

func TestP11Uint(t *testing.T) {
	for _, n := range edgeNumbers() {
		for _, rest := range [][]byte{nil, {0}, {0x80, 1, 2}} {
			got, left, e := Uint(append(binary.AppendUvarint(nil, n), rest...))
			if got != n || !bytes.Equal(left, rest) || e != api.OK {
				t.Errorf("Uint of %d and %x: %d, %x, %d", n, rest, got, left, e)
			}
		}
	}
}

// What no number's form begins with, and so neither an int's nor a text's.
func noNumbers() map[string]api.Errno {
	return map[string]api.Errno{
		"":                       api.ErrForm,
		"80":                     api.ErrForm,
		"ff":                     api.ErrForm,
		"80 00":                  api.ErrForm,
		"81 00":                  api.ErrForm,
		"ff ff 80 00":            api.ErrForm,
		"80 00 ff":               api.ErrForm,
		times(9, "80"):           api.ErrForm,
		times(9, "ff"):           api.ErrForm,
		times(9, "ff") + "00":    api.ErrForm,
		times(9, "80") + "00 01": api.ErrForm,
		times(8, "80") + "00 02": api.ErrForm, // its ninth byte is met ahead of its tenth
		times(9, "ff") + "02":    api.ErrRange,
		times(9, "80") + "7f":    api.ErrRange,
		times(9, "80") + "81":    api.ErrRange,
		times(9, "80") + "81 00": api.ErrRange,
		times(10, "80"):          api.ErrRange, // b's end is behind the tenth byte
		times(10, "80") + "01":   api.ErrRange,
		times(40, "ff"):          api.ErrRange,
	}
}

func TestP11UintRefuses(t *testing.T) {
	for s, want := range noNumbers() {
		if n, rest, e := Uint(hexed(t, s)); n != 0 || len(rest) > 0 || e != want {
			t.Errorf("Uint(%s): %d, %x, %d", s, n, rest, e)
		}
	}
}

func TestP11TenthByte(t *testing.T) {
	for _, low := range []string{"80", "ff"} {
		for last := range 256 {
			b := append(hexed(t, times(9, low)), byte(last), 5)
			n, rest, e := Uint(b)
			switch {
			case last == 0 && e != api.ErrForm, last > 1 && e != api.ErrRange:
				t.Errorf("Uint(%x): %d", b, e)
			case last == 1 && (e != api.OK || n < 1<<63 || !bytes.Equal(rest, []byte{5})):
				t.Errorf("Uint(%x): %d, %x, %d", b, n, rest, e)
			case last != 1 && (n != 0 || len(rest) > 0):
				t.Errorf("Uint(%x): %d, %x beside an error", b, n, rest)
			}
		}
	}
}

func TestP12Signs(t *testing.T) {
	runs := []struct {
		n    int
		want string
	}{
		{0, "00"}, {-1, "01"}, {1, "02"}, {-2, "03"}, {-64, "7f"}, {64, "80 01"}, {-65, "81 01"},
		{math.MinInt, times(9, "ff") + "01"}, {math.MaxInt, "fe" + times(8, "ff") + "01"},
	}
	for _, r := range runs {
		if got := PutInt([]byte{7}, r.n); !bytes.Equal(got, hexed(t, "07"+r.want)) {
			t.Errorf("PutInt(07, %d): %x, not %s", r.n, got, r.want)
		}
		if n, rest, e := Int(hexed(t, r.want+"03 04")); n != r.n || !bytes.Equal(rest, []byte{3, 4}) || e != api.OK {
			t.Errorf("Int(%s 03 04): %d, %x, %d", r.want, n, rest, e)
		}
	}
	for _, n := range edgeInts() {
		if got, want := PutInt(nil, n), binary.AppendVarint(nil, int64(n)); !bytes.Equal(got, want) {
			t.Errorf("PutInt(nil, %d): %x, not %x", n, got, want)
		}
	}
}

func TestP12IntRefuses(t *testing.T) {
	for s, want := range noNumbers() {
		if n, rest, e := Int(hexed(t, s)); n != 0 || len(rest) > 0 || e != want {
			t.Errorf("Int(%s): %d, %x, %d", s, n, rest, e)
		}
	}
}

func TestP13PutFloat(t *testing.T) {
	runs := []struct {
		f    float64
		want string
	}{
		{1, "3ff0000000000000"}, {-2.5, "c004000000000000"}, {math.Pi, "400921fb54442d18"},
		{0, "0000000000000000"}, {minusZero, "8000000000000000"},
		{math.Inf(1), "7ff0000000000000"}, {math.Inf(-1), "fff0000000000000"},
		{5e-324, "0000000000000001"}, {math.MaxFloat64, "7fefffffffffffff"},
		{math.NaN(), "7ff8000000000000"}, {math.Float64frombits(oddNaN), "7ff8000000000000"},
		{math.Float64frombits(0x7ff0000000000001), "7ff8000000000000"}, {math.Float64frombits(math.MaxUint64), "7ff8000000000000"},
	}
	for _, r := range runs {
		if got := PutFloat([]byte{9}, r.f); !bytes.Equal(got, hexed(t, "09"+r.want)) {
			t.Errorf("PutFloat(09, %v): %x, not %s", r.f, got, r.want)
		}
		f, rest, e := Float(hexed(t, r.want+"06"))
		if math.Float64bits(f) != binary.BigEndian.Uint64(hexed(t, r.want)) || !bytes.Equal(rest, []byte{6}) || e != api.OK {
			t.Errorf("Float(%s 06): %v, %x, %d", r.want, f, rest, e)
		}
	}
}

func TestP13FloatRefuses(t *testing.T) {
	noFloats := []string{
		"", "00", "3ff00000000000", "7ff80000000000",
		"7ff0000000000001", "7ff7ffffffffffff", "7ff8000000000001", "7fffffffffffffff",
		"fff0000000000001", "fff8000000000000", "fff8000000000000 00", "ffffffffffffffff",
	}
	for _, s := range noFloats {
		if f, rest, e := Float(hexed(t, s)); math.Float64bits(f) != 0 || len(rest) > 0 || e != api.ErrForm {
			t.Errorf("Float(%s): %v, %x, %d", s, f, rest, e)
		}
	}
}

func TestP14PutText(t *testing.T) {
	long := strings.Repeat("x", 300)
	for s, want := range map[string]string{
		"": "00", "ab": "02 61 62", "é": "02 c3 a9", "\xff\x00": "02 ff 00", long: "ac 02" + times(300, "78"),
	} {
		if got := PutText([]byte{9}, s); !bytes.Equal(got, hexed(t, "09"+want)) {
			t.Errorf("PutText(09, %q): %x", s, got)
		}
	}
}

func TestP14Text(t *testing.T) {
	runs := []struct {
		b    string
		most int
		s    string
		rest string
		e    api.Errno
	}{
		{"01 61 62", 1, "a", "62", api.OK},
		{"01 61 62", math.MaxInt, "a", "62", api.OK},
		{"00", 0, "", "", api.OK},
		{"00 61", -1, "", "61", api.OK},
		{"00 61", math.MinInt, "", "61", api.OK},
		{"02 c3 a9", 2, "é", "", api.OK},
		{"03 ef bf bd", 3, "\ufffd", "", api.OK}, // the rune that stands for no rune is one
		{"04 f4 8f bf bf ff", 4, "\U0010ffff", "ff", api.OK},
		{"03 61 00 62", 3, "a\x00b", "", api.OK},

		{"01 61", -1, "", "", api.ErrBig},
		{"01 61", math.MinInt, "", "", api.ErrBig},
		{"01 61", 0, "", "", api.ErrBig},
		{"02 c3 a9", 1, "", "", api.ErrBig}, // bytes are counted, not runes
		{"05 61 62 63 64 65", 4, "", "", api.ErrBig},
		{"05", 4, "", "", api.ErrBig},       // and b ends within the text
		{"02 ff ff", 1, "", "", api.ErrBig}, // and it is not UTF-8
		{times(9, "ff") + "01 61", math.MaxInt, "", "", api.ErrBig},
		{times(9, "80") + "01 61", math.MaxInt, "", "", api.ErrBig},

		{"03 61 62", 9, "", "", api.ErrForm},
		{"03", 3, "", "", api.ErrForm},
		{"03 ff ff", 9, "", "", api.ErrForm}, // and what there is is not UTF-8
		{times(8, "ff") + "7f 61", math.MaxInt, "", "", api.ErrForm},

		{"02 c3 28", 9, "", "", api.ErrName},
		{"01 c3 a9", 9, "", "", api.ErrName},    // the rune goes on behind the text
		{"01 80", 9, "", "", api.ErrName},       // goes on with nothing
		{"02 c0 80", 9, "", "", api.ErrName},    // longer than it need be
		{"03 ed a0 80", 9, "", "", api.ErrName}, // half of a pair
		{"04 f4 90 80 80", 9, "", "", api.ErrName},
		{"03 61 62 ff", 9, "", "", api.ErrName},
	}
	for _, r := range runs {
		s, rest, e := Text(hexed(t, r.b), r.most)
		if s != r.s || !bytes.Equal(rest, hexed(t, r.rest)) || e != r.e {
			t.Errorf("Text(%s, %d): %q, %x, %d", r.b, r.most, s, rest, e)
		}
	}
}

func TestP14TextRefusesItsLength(t *testing.T) {
	for s, want := range noNumbers() {
		for _, most := range []int{-1, 0, 100, math.MaxInt} {
			if text, rest, e := Text(hexed(t, s), most); text != "" || len(rest) > 0 || e != want {
				t.Errorf("Text(%s, %d): %q, %x, %d", s, most, text, rest, e)
			}
		}
	}
}

func TestP15Order(t *testing.T) {
	l := risingFloats()
	for i, a := range l {
		for k, b := range l {
			want := 0
			if i < k {
				want = -1
			} else if i > k {
				want = 1
			}
			if got := Order(a, b); got != want {
				t.Errorf("Order(%v, %v): %d, not %d", a, b, got, want)
			}
		}
	}
}

func TestP15AllNaNsAreTheSame(t *testing.T) {
	nans := []float64{math.NaN()}
	for _, bits := range []uint64{0x7ff0000000000001, 0x7ff8000000000000, oddNaN, math.MaxUint64} {
		nans = append(nans, math.Float64frombits(bits))
	}
	for _, a := range nans {
		for _, b := range nans {
			if got := Order(a, b); got != 0 {
				t.Errorf("Order(%x, %x): %d", math.Float64bits(a), math.Float64bits(b), got)
			}
		}
		if Order(a, math.Inf(1)) != 1 || Order(math.Inf(1), a) != -1 || Order(a, math.Inf(-1)) != 1 {
			t.Errorf("%x is not last", math.Float64bits(a))
		}
	}
}

func TestP16WrittenIsReadAgain(t *testing.T) {
	for _, rest := range [][]byte{nil, {0}, {0x80, 0, 3}} {
		for _, n := range edgeNumbers() {
			got, left, e := Uint(append(PutUint(nil, n), rest...))
			if got != n || !bytes.Equal(left, rest) || e != api.OK {
				t.Errorf("%d: %d, %x, %d", n, got, left, e)
			}
		}
		for _, n := range edgeInts() {
			got, left, e := Int(append(PutInt(nil, n), rest...))
			if got != n || !bytes.Equal(left, rest) || e != api.OK {
				t.Errorf("%d: %d, %x, %d", n, got, left, e)
			}
		}
		for _, f := range append(risingFloats(), math.Float64frombits(oddNaN)) {
			want := math.Float64bits(f)
			if math.IsNaN(f) {
				want = 0x7ff8000000000000
			}
			got, left, e := Float(append(PutFloat(nil, f), rest...))
			if math.Float64bits(got) != want || !bytes.Equal(left, rest) || e != api.OK {
				t.Errorf("%v: %v, %x, %d", f, got, left, e)
			}
		}
		for _, s := range []string{"", "a", "é\x00", strings.Repeat("ü", 5000)} {
			got, left, e := Text(append(PutText(nil, s), rest...), len(s))
			if got != s || !bytes.Equal(left, rest) || e != api.OK {
				t.Errorf("%q: %q, %x, %d", s, got, left, e)
			}
		}
	}
}

// readers tells for each reader what it took of b, written again, with the rest behind it; and whether an error came with nothing else.
func readers(b []byte, most int) (again [][]byte, clean bool) {
	clean = true
	took := func(written, rest []byte, zero bool, e api.Errno) {
		if e == api.OK {
			again = append(again, append(written, rest...))
		} else {
			clean = clean && zero && len(rest) == 0
		}
	}
	n, rest, e := Uint(b)
	took(PutUint(nil, n), rest, n == 0, e)
	i, rest, e := Int(b)
	took(PutInt(nil, i), rest, i == 0, e)
	f, rest, e := Float(b)
	took(PutFloat(nil, f), rest, math.Float64bits(f) == 0, e)
	s, rest, e := Text(b, most)
	took(PutText(nil, s), rest, s == "", e)
	return again, clean
}

func checkReaders(t *testing.T, b []byte) {
	t.Helper()
	for _, most := range []int{-1, 1, 100} {
		again, clean := readers(b, most)
		if !clean {
			t.Fatalf("%x, most %d: something beside an error", b, most)
		}
		for _, c := range again {
			if !bytes.Equal(b, c) {
				t.Fatalf("%x, most %d: written again it is %x", b, most, c)
			}
		}
	}
}

// Holds R1 and R3 as well: whatever the bytes are, no reader panics, and an error comes alone.
func TestP16TakenIsWhatIsWritten(t *testing.T) {
	checkReaders(t, nil)
	for i := range 256 {
		checkReaders(t, []byte{byte(i)})
		for k := range 256 {
			checkReaders(t, []byte{byte(i), byte(k)})
		}
	}
	edges := []byte{0, 1, 2, 8, 0x61, 0x7f, 0x80, 0x81, 0xc3, 0xf0, 0xf8, 0xff}
	r := rand.New(rand.NewSource(1))
	for range 50000 {
		b := make([]byte, r.Intn(14))
		for i := range b {
			b[i] = edges[r.Intn(len(edges))]
		}
		checkReaders(t, b)
	}
}

// roomy is bytes with room to spare in which nothing may be written.
func roomy(b []byte) (part, whole []byte) {
	whole = append(bytes.Clone(b), bytes.Repeat([]byte{0xa5}, 40)...)
	return whole[:len(b)], whole
}

// spoil writes over all of a list, its spare room too.
func spoil(b []byte) {
	b = b[:cap(b)]
	for i := range b {
		b[i] = ^b[i]
	}
}

func TestR2Puts(t *testing.T) {
	puts := map[string]func([]byte) []byte{
		"PutUint":       func(b []byte) []byte { return PutUint(b, 300) },
		"PutInt":        func(b []byte) []byte { return PutInt(b, -300) },
		"PutFloat":      func(b []byte) []byte { return PutFloat(b, math.NaN()) },
		"PutText":       func(b []byte) []byte { return PutText(b, "ab") },
		"PutText, \"\"": func(b []byte) []byte { return PutText(b, "") },
	}
	for name, put := range puts {
		for _, head := range [][]byte{nil, {1}, {1, 2, 3}} {
			checkMemory(t, name, head, put)
		}
	}
}

func TestR2Rests(t *testing.T) {
	rests := map[string]func([]byte) []byte{
		"Uint":  func(b []byte) []byte { _, rest, _ := Uint(b); return rest },
		"Int":   func(b []byte) []byte { _, rest, _ := Int(b); return rest },
		"Float": func(b []byte) []byte { _, rest, _ := Float(b); return rest },
		"Text":  func(b []byte) []byte { _, rest, _ := Text(b, 9); return rest },
	}
	whole := []byte{2, 0x61, 0x62, 3, 4, 5, 6, 7, 8, 9}
	for name, read := range rests {
		for _, b := range [][]byte{nil, {0}, {0x80}, whole[:3], whole[:8], whole} {
			checkMemory(t, name, b, read)
		}
	}
}

// checkMemory: call changes nothing of what it is given, and what it tells shares nothing with that, nor with what it tells another time.
func checkMemory(t *testing.T, name string, b []byte, call func([]byte) []byte) {
	t.Helper()
	part, whole := roomy(b)
	before := bytes.Clone(whole)
	first, second := call(part), call(part)
	if !bytes.Equal(whole, before) {
		t.Errorf("%s(%x) changed what it was given: %x", name, b, whole)
	}
	told := bytes.Clone(second)
	spoil(first)
	if !bytes.Equal(whole, before) {
		t.Errorf("%s(%x): the answer shares memory with the argument", name, b)
	}
	if !bytes.Equal(second, told) {
		t.Errorf("%s(%x): two answers share memory", name, b)
	}
	spare := second[len(second):cap(second)]
	fill := bytes.Clone(spare)
	spoil(first)
	spoil(whole)
	if !bytes.Equal(second, told) || !bytes.Equal(spare, fill) {
		t.Errorf("%s(%x): an answer changed with its argument", name, b)
	}
}

func TestR2TextIsNew(t *testing.T) {
	b := []byte{2, 0x61, 0x62, 7}
	s, _, _ := Text(b, 9)
	spoil(b)
	if s != "ab" {
		t.Errorf("the text changed with the bytes: %q", s)
	}
}

func TestR2NilAndEmptyAreOne(t *testing.T) {
	for _, b := range [][]byte{nil, {}, make([]byte, 0, 9)} {
		if got := PutText(b, "a"); !bytes.Equal(got, []byte{1, 0x61}) {
			t.Errorf("PutText: %x", got)
		}
		_, _, u := Uint(b)
		_, _, i := Int(b)
		_, _, f := Float(b)
		_, _, s := Text(b, 0)
		if u != api.ErrForm || i != api.ErrForm || f != api.ErrForm || s != api.ErrForm {
			t.Errorf("of no bytes: %d, %d, %d, %d", u, i, f, s)
		}
	}
}
