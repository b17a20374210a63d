package frame

import (
	"bytes"
	"encoding/binary"
	"encoding/hex"
	"math"
	"math/rand"
	"strings"
	"testing"

	"roost/api"
)

// In the tests' names stands which promise they hold.

func hexed(t *testing.T, s string) []byte {
	t.Helper()
	b, err := hex.DecodeString(strings.ReplaceAll(s, " ", ""))
	if err != nil {
		t.Fatal(err)
	}
	return b
}

// framed is the frames of payloads, one behind the other, made without Put.
func framed(payloads ...string) []byte {
	var b []byte
	for _, p := range payloads {
		b = binary.BigEndian.AppendUint32(b, uint32(len(p)))
		b = append(b, p...)
	}
	return b
}

// told is what a stream comes to.
type told struct {
	payloads []string
	e        api.Errno
	held     int
}

func (a told) same(b told) bool {
	if len(a.payloads) != len(b.payloads) || a.e != b.e || a.held != b.held {
		return false
	}
	for i, p := range a.payloads {
		if p != b.payloads[i] {
			return false
		}
	}
	return true
}

func texts(payloads [][]byte) (out []string) {
	for _, p := range payloads {
		out = append(out, string(p))
	}
	return out
}

// feeds feeds one piece, and holds what comes of it against what must.
func feeds(t *testing.T, r *Reader, b []byte, want told) {
	t.Helper()
	payloads, e := r.Feed(b)
	if got := (told{texts(payloads), e, r.Held()}); !got.same(want) {
		t.Errorf("Feed(%x): %+v, not %+v", b, got, want)
	}
}

func just(payloads ...string) told { return told{payloads: payloads} }

func holding(held int, payloads ...string) told { return told{payloads: payloads, held: held} }

func tooBig(payloads ...string) told { return told{payloads: payloads, e: api.ErrBig} }

func TestP31Put(t *testing.T) {
	runs := []struct{ b, payload, want string }{
		{"", "61 62", "00 00 00 02 61 62"},
		{"", "", "00 00 00 00"},
		{"09", "", "09 00 00 00 00"},
		{"", "00", "00 00 00 01 00"},
		{"00 00 00 02 61 62", "63", "00 00 00 02 61 62 00 00 00 01 63"},
		{"ff", "ff fe", "ff 00 00 00 02 ff fe"},
		{"", "05 07 00", "00 00 00 03 05 07 00"}, // the document's first example of the whole
	}
	for _, r := range runs {
		if got := Put(hexed(t, r.b), hexed(t, r.payload)); !bytes.Equal(got, hexed(t, r.want)) {
			t.Errorf("Put(%s, %s): %x, not %s", r.b, r.payload, got, r.want)
		}
	}
}

func TestP31PutLengths(t *testing.T) {
	for _, n := range []int{1, 127, 128, 255, 256, 257, 65535, 65536, 1<<24 - 1, 1 << 24, 0x01020304} {
		payload := bytes.Repeat([]byte{0xa5}, n)
		if got, want := Put([]byte{9, 8}, payload), framed(string(payload)); !bytes.Equal(got[:2], []byte{9, 8}) || !bytes.Equal(got[2:], want) {
			t.Errorf("Put of %d bytes: %d bytes, %x ..", n, len(got), got[:6])
		}
	}
}

func TestP32Runs(t *testing.T) {
	r := New(10)
	feeds(t, r, []byte{0, 0, 0}, holding(3))
	feeds(t, r, []byte{2, 'a'}, holding(5))
	feeds(t, r, []byte{'b', 0}, holding(1, "ab"))

	r = New(1)
	feeds(t, r, framed("a", "bc", "d"), tooBig("a"))
	feeds(t, r, framed("a", "bc", "d"), tooBig())

	feeds(t, New(0), framed(""), just(""))
}

func TestP32Examples(t *testing.T) {
	feeds(t, New(9), framed("ab", "c"), just("ab", "c"))

	r := New(9)
	feeds(t, r, []byte{0, 0, 0, 10}, tooBig())
	feeds(t, r, framed("ab"), tooBig())
}

func TestP32Feed(t *testing.T) {
	all := framed("", "a", "", "", "bc", "\x00\x00\x00\x01", "")
	feeds(t, New(4), all, just("", "a", "", "", "bc", "\x00\x00\x00\x01", ""))
	feeds(t, New(4), nil, just())

	r := New(4)
	feeds(t, r, append(framed("a"), 0, 0, 0, 3, 'x'), holding(5, "a"))
	feeds(t, r, nil, holding(5))
	feeds(t, r, append([]byte("yz"), framed("", "b")...), just("xyz", "", "b"))
	feeds(t, r, framed("1234"), just("1234"))
	feeds(t, r, append(framed("c"), 0), holding(1, "c"))
	feeds(t, r, append([]byte{0, 0, 2, 'd', 'e'}, 0, 0, 0, 5), tooBig("de"))
}

// A length of most is taken, one more is not; a most below 0 counts as 0.
func TestP32Most(t *testing.T) {
	for _, most := range []int{math.MinInt, -1 << 32, -1, 0, 1, 2, 255, 256, 65536} {
		n := max(most, 0)
		fits, over := strings.Repeat("f", n), strings.Repeat("o", n+1)
		feeds(t, New(most), framed(fits), just(fits))
		feeds(t, New(most), framed(fits, over), tooBig(fits))
		feeds(t, New(most), framed(over, fits), tooBig())
		feeds(t, New(most), framed(over)[:4], tooBig())
	}
}

// Lengths that a narrower number, or one with a sign, would not hold.
func TestP32GreatLengths(t *testing.T) {
	runs := []struct {
		most int
		head string
		want told
	}{
		{10, "7f ff ff ff", tooBig()},
		{10, "80 00 00 00", tooBig()},
		{10, "ff ff ff ff", tooBig()},
		{10, "01 00 00 00", tooBig()},
		{10, "00 01 00 00", tooBig()},
		{10, "00 00 01 00", tooBig()},
		{1<<31 - 1, "7f ff ff ff", holding(4)},
		{1<<31 - 1, "80 00 00 00", tooBig()},
		{1<<32 - 2, "ff ff ff fe", holding(4)},
		{1<<32 - 2, "ff ff ff ff", tooBig()},
		{1<<32 - 1, "ff ff ff ff", holding(4)},
		{1 << 32, "ff ff ff ff", holding(4)},
		{1 << 62, "ff ff ff ff", holding(4)},
		{math.MaxInt, "ff ff ff ff 01 02", holding(6)},
		{math.MinInt, "00 00 00 00", just("")},
		{math.MinInt, "00 00 00 01", tooBig()},
	}
	for _, r := range runs {
		feeds(t, New(r.most), hexed(t, r.head), r.want)
	}
}

// Not with its first byte, however much that says already, and not only with the payload.
func TestP32LengthIsLookedAtWithItsFourthByte(t *testing.T) {
	r := New(10)
	feeds(t, r, framed("a"), just("a"))
	for i := range 3 {
		feeds(t, r, []byte{0xff}, holding(i+1))
	}
	feeds(t, r, nil, holding(3))
	feeds(t, r, []byte{0}, tooBig())

	feeds(t, New(10), []byte{0xff, 0xff, 0xff}, holding(3))
	feeds(t, New(10), []byte{0, 0, 0, 11}, tooBig())
	feeds(t, New(10), []byte{0, 0, 0, 10}, holding(4))
}

func TestP32BigStays(t *testing.T) {
	r := New(1)
	feeds(t, r, append(framed("a", ""), 0, 0, 0, 2, 'b'), tooBig("a", ""))
	for _, b := range [][]byte{nil, {}, {0}, {'c'}, framed(""), framed("a"), framed("a", "b"), {0, 0, 0, 2}, nil} {
		feeds(t, r, b, tooBig())
	}
}

func TestP33Held(t *testing.T) {
	r := New(3)
	if r.Held() != 0 {
		t.Errorf("held ahead of the first piece: %d", r.Held())
	}
	want := []int{1, 2, 3, 4, 5, 6, 0, 1, 2, 3, 0, 1, 2, 3, 4, 0, 1}
	for i, c := range append(framed("abc", "", "d"), 0) {
		r.Feed([]byte{c})
		if r.Held() != want[i] || r.Held() != want[i] {
			t.Errorf("behind byte %d: held %d, not %d", i, r.Held(), want[i])
		}
	}
	r.Feed([]byte{0, 0, 4, 'x', 'y'})
	if r.Held() != 0 {
		t.Errorf("held behind a length that is too great: %d", r.Held())
	}
	r.Feed([]byte{1, 2})
	if r.Held() != 0 {
		t.Errorf("held by a reader that is of no use: %d", r.Held())
	}
}

// asked is what the document asks of a whole stream, by recursion over what is left of it.
func asked(stream []byte, most int) told {
	if len(stream) < 4 {
		return told{held: len(stream)}
	}
	size := int(binary.BigEndian.Uint32(stream))
	if size > max(most, 0) {
		return told{e: api.ErrBig}
	}
	if len(stream) < 4+size {
		return told{held: len(stream)}
	}
	rest := asked(stream[4+size:], most)
	rest.payloads = append([]string{string(stream[4 : 4+size])}, rest.payloads...)
	return rest
}

// fed is what the pieces come to, one behind the other; and each step is held against what the beginning up to it asks.
func fed(t *testing.T, most int, pieces [][]byte) (all told) {
	t.Helper()
	r := New(most)
	var stream []byte
	for _, piece := range pieces {
		stream = append(stream, piece...)
		payloads, e := r.Feed(piece)
		if all.e != api.OK && (len(payloads) > 0 || e != all.e) {
			t.Fatalf("%x behind an error: %x, %d", piece, payloads, e)
		}
		all = told{append(all.payloads, texts(payloads)...), e, r.Held()}
		if want := asked(stream, most); !all.same(want) {
			t.Fatalf("New(%d), fed %x of %x: %+v, not %+v", most, piece, pieces, all, want)
		}
	}
	return all
}

func cutAt(stream []byte, at ...int) (pieces [][]byte) {
	from := 0
	for _, to := range at {
		pieces = append(pieces, stream[from:to])
		from = to
	}
	return append(pieces, stream[from:])
}

func cutInSteps(stream []byte, step int) (pieces [][]byte) {
	for len(stream) > step {
		pieces = append(pieces, stream[:step])
		stream = stream[step:]
	}
	return append(pieces, stream)
}

func checkCuts(t *testing.T, stream []byte, most int) {
	t.Helper()
	want := asked(stream, most)
	check := func(pieces [][]byte) {
		if got := fed(t, most, pieces); !got.same(want) {
			t.Fatalf("New(%d), pieces %x: %+v, not %+v", most, pieces, got, want)
		}
	}
	for step := 1; step <= len(stream)+1; step++ {
		check(cutInSteps(stream, step))
	}
	for i := range len(stream) + 1 {
		for k := i; k <= len(stream); k++ {
			check(cutAt(stream, i, k))
		}
	}
}

func TestP34EveryCut(t *testing.T) {
	good := framed("", "abc", "", "d", "efghij", "\x00\x00\x00\x09")
	checkCuts(t, good, 6)
	checkCuts(t, good, 3)
	checkCuts(t, good, 0)
	checkCuts(t, good, -1)
	checkCuts(t, append(good[:len(good):len(good)], 0, 0), 6)
	checkCuts(t, append(good[:len(good):len(good)], 0, 0, 0, 5, 1, 2), 6)
	checkCuts(t, append(good[:len(good):len(good)], 0xff, 0, 0, 0, 0, 0, 0, 0), 6)
	checkCuts(t, nil, 6)
}

// Holds R1 as well: whatever the bytes are, no call panics.
func TestP34AnyBytes(t *testing.T) {
	r := rand.New(rand.NewSource(1))
	for range 20000 {
		stream := make([]byte, 0, 80)
		for len(stream) < 40 && r.Intn(8) > 0 {
			stream = append(stream, 0, 0, 0, byte(r.Intn(5)))
			for range r.Intn(6) {
				stream = append(stream, byte(r.Intn(4)))
			}
		}
		var pieces [][]byte
		for rest := stream; len(rest) > 0; {
			n := r.Intn(min(len(rest), 9) + 1)
			pieces, rest = append(pieces, rest[:n]), rest[n:]
		}
		fed(t, r.Intn(6)-1, pieces)
	}
}

func TestP34LongFramesInSmallPieces(t *testing.T) {
	long := strings.Repeat("0123456789abcdef", 1<<16)
	stream := framed(long, "x", long)
	r := New(len(long))
	var got []string
	for _, piece := range cutInSteps(stream, 3) {
		payloads, e := r.Feed(piece)
		if e != api.OK {
			t.Fatal(e)
		}
		got = append(got, texts(payloads)...)
	}
	if len(got) != 3 || got[0] != long || got[1] != "x" || got[2] != long || r.Held() != 0 {
		t.Errorf("%d payloads, held %d", len(got), r.Held())
	}
}

func TestP34PutIsFedAgain(t *testing.T) {
	var stream []byte
	var want []string
	for _, n := range []int{0, 1, 2, 0, 255, 256, 65535, 65536, 70000} {
		p := strings.Repeat("p", n)
		stream, want = Put(stream, []byte(p)), append(want, p)
	}
	feeds(t, New(70000), stream, just(want...))
}

// roomy is bytes with room to spare in which nothing may be written.
func roomy(b []byte) (part, whole []byte) {
	whole = append(bytes.Clone(b), bytes.Repeat([]byte{0xa5}, 40)...)
	return whole[:len(b)], whole
}

// spoil writes over all of a list, its spare room too.
func spoil(b []byte) {
	b = b[:cap(b)]
	for i := range b {
		b[i] = ^b[i]
	}
}

func TestR2Put(t *testing.T) {
	for _, head := range []string{"", "h", "head"} {
		for _, tail := range []string{"", "t", "tail"} {
			b, wholeB := roomy([]byte(head))
			payload, wholeP := roomy([]byte(tail))
			beforeB, beforeP := bytes.Clone(wholeB), bytes.Clone(wholeP)
			first, second := Put(b, payload), Put(b, payload)
			want := bytes.Clone(second)
			spoil(first)
			if !bytes.Equal(wholeB, beforeB) || !bytes.Equal(wholeP, beforeP) {
				t.Errorf("Put(%q, %q): an argument was changed, or is shared", head, tail)
			}
			spoil(wholeB)
			spoil(wholeP)
			if !bytes.Equal(second, want) {
				t.Errorf("Put(%q, %q): the answer is shared", head, tail)
			}
		}
	}
}

func TestR2PutOfOnesOwn(t *testing.T) {
	whole := []byte("abcdefghij")
	if got := Put(whole[:2], whole[1:4]); string(got) != "ab\x00\x00\x00\x03bcd" || string(whole) != "abcdefghij" {
		t.Errorf("%q, of %q", got, whole)
	}
}

func TestR2FeedChangesNoPiece(t *testing.T) {
	r := New(9)
	for _, b := range [][]byte{nil, framed("abc", "d"), append(framed("e"), 0, 0), {0, 2, 'f'}, {'g', 0}, {0xff, 0, 0, 0}, framed("h")} {
		piece, whole := roomy(b)
		before := bytes.Clone(whole)
		payloads, _ := r.Feed(piece)
		for _, p := range payloads {
			spoil(p)
		}
		if !bytes.Equal(whole, before) {
			t.Errorf("Feed(%x) changed what it was given: %x", b, whole)
		}
	}
}

func TestR2FeedKeepsNoPiece(t *testing.T) {
	r := New(9)
	piece, whole := roomy(append(framed("abc", "d"), 0, 0, 0))
	payloads, _ := r.Feed(piece)
	spoil(whole)
	if got := texts(payloads); len(got) != 2 || got[0] != "abc" || got[1] != "d" {
		t.Errorf("the payloads changed with the piece: %q", got)
	}
	feeds(t, r, []byte{3, 'x', 'y'}, holding(6))

	piece, whole = roomy([]byte("z\x00\x00"))
	feeds(t, r, piece, holding(2, "xyz"))
	spoil(whole)
	feeds(t, r, []byte{0, 1, 'w'}, just("w"))
}

// A beginning of a frame is held without the piece in which it came, however much is held already.
func TestR2FeedKeepsNoBeginning(t *testing.T) {
	stream := framed("abcdef", "g")
	for step := 1; step <= len(stream); step++ {
		r := New(9)
		var got []string
		for _, b := range cutInSteps(stream, step) {
			piece, whole := roomy(b)
			before := bytes.Clone(whole)
			payloads, _ := r.Feed(piece)
			r.Feed(nil)
			if !bytes.Equal(whole, before) {
				t.Fatalf("in steps of %d: Feed changed what it was given: %x", step, whole)
			}
			spoil(whole)
			got = append(got, texts(payloads)...)
		}
		if len(got) != 2 || got[0] != "abcdef" || got[1] != "g" || r.Held() != 0 {
			t.Errorf("in steps of %d: %q, held %d: a piece was kept", step, got, r.Held())
		}
	}
}

// Every answer, its payloads' spare room and its own too, may be written over with no harm to another one or to the reader.
func TestR2PayloadsAreApart(t *testing.T) {
	stream := framed("abc", "", "defg", "h", "", "ijklmno", "p", "q")
	want := []string{"abc", "", "defg", "h", "", "ijklmno", "p", "q"}
	for step := 1; step <= len(stream); step++ {
		r := New(9)
		var all [][]byte
		for _, piece := range cutInSteps(stream, step) {
			payloads, _ := r.Feed(piece)
			for i, p := range payloads {
				if string(p) != want[len(all)] {
					t.Fatalf("in steps of %d, payload %d: %q", step, len(all), p)
				}
				kept := append([][]byte(nil), payloads[i+1:]...)
				spoil(p)
				for k, later := range kept {
					if string(later) != want[len(all)+1+k] {
						t.Fatalf("in steps of %d, payload %d shares memory with one behind it", step, len(all))
					}
				}
				all = append(all, p)
			}
			clear(payloads[:cap(payloads)])
		}
		for i, p := range all {
			spoil(p)
			if string(p) != want[i] {
				t.Fatalf("in steps of %d, payload %d shares memory with one behind it, or the reader's", step, i)
			}
		}
	}
}

func TestR2NilAndEmptyAreOne(t *testing.T) {
	for _, b := range [][]byte{nil, {}, make([]byte, 0, 9)} {
		if got := Put(b, b); !bytes.Equal(got, []byte{0, 0, 0, 0}) {
			t.Errorf("Put: %x", got)
		}
		r := New(9)
		feeds(t, r, b, just())
		feeds(t, r, []byte{0, 0, 0, 1}, holding(4))
		feeds(t, r, b, holding(4))
		feeds(t, r, []byte{'a'}, just("a"))
	}
}

func TestR4ReadersAreApart(t *testing.T) {
	a, b := New(3), New(1)
	feeds(t, a, []byte{0, 0, 0, 2, 'a'}, holding(5))
	feeds(t, b, []byte{0, 0, 0, 2}, tooBig())
	feeds(t, a, []byte{'b'}, just("ab"))
	feeds(t, New(1), framed("c"), just("c"))
	feeds(t, b, framed("c"), tooBig())
}

// A long frame that was cut off leaves nothing of itself behind, nor does one that is refused.
func TestKeepsNoMoreThanItHolds(t *testing.T) {
	long := strings.Repeat("l", 1<<20)
	r := New(len(long))
	r.Feed(append(framed(long), 0, 0))
	if r.Held() != 2 || cap(r.held) > 64 {
		t.Errorf("held %d in room for %d", r.Held(), cap(r.held))
	}
	r = New(len(long))
	r.Feed(framed(long))
	if r.Held() != 0 || cap(r.held) > 64 {
		t.Errorf("held %d in room for %d", r.Held(), cap(r.held))
	}
	r.Feed(append([]byte{0xff, 0, 0, 0}, long...))
	if r.Held() != 0 || cap(r.held) > 64 {
		t.Errorf("held %d in room for %d", r.Held(), cap(r.held))
	}
}

// A range that ends early leaves the frames behind it to the next one.
func TestWholeMayBeLeft(t *testing.T) {
	r := New(9)
	r.held = framed("a", "b", "c")
	for p := range r.whole {
		if string(p) != "a" {
			t.Errorf("first: %q", p)
		}
		break
	}
	var rest []string
	for p := range r.whole {
		rest = append(rest, string(p))
	}
	if len(rest) != 2 || rest[0] != "b" || rest[1] != "c" || r.Held() != 0 {
		t.Errorf("then: %q, held %d", rest, r.Held())
	}
}
