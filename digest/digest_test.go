package digest

import (
	"bytes"
	"crypto/hmac"
	"crypto/pbkdf2"
	"crypto/sha256"
	"encoding/hex"
	"math"
	"math/big"
	"math/rand"
	"strconv"
	"strings"
	"testing"
	"time"

	"roost/api"
)

// In the tests' names stands which promise they hold.

const fox = "The quick brown fox jumps over the lazy dog"

func is(t *testing.T, what string, got [32]byte, want string) {
	t.Helper()
	if s := hex.EncodeToString(got[:]); s != want {
		t.Errorf("%s: %s, not %s", what, s, want)
	}
}

// random is n bytes, the same for every run of a test.
func random(r *rand.Rand, n int) []byte {
	b := make([]byte, n)
	r.Read(b)
	return b
}

// fillings are bytes of one length, of kinds that tell mistakes apart.
func fillings(r *rand.Rand, n int) [][]byte {
	return [][]byte{
		make([]byte, n),
		bytes.Repeat([]byte{0xff}, n),
		bytes.Repeat([]byte{0x80}, n),
		random(r, n),
	}
}

// libraryHmac and libraryHi are what the library answers.
func libraryHmac(key, b []byte) [32]byte {
	h := hmac.New(sha256.New, key)
	h.Write(b)
	return [32]byte(h.Sum(nil))
}

func libraryHi(t *testing.T, password, salt []byte, n int) [32]byte {
	t.Helper()
	key, err := pbkdf2.Key(sha256.New, string(password), salt, n, 32)
	if err != nil {
		t.Fatal(err)
	}
	return [32]byte(key)
}

func hi(t *testing.T, password, salt []byte, n int) [32]byte {
	t.Helper()
	h, e := Hi(password, salt, n)
	if e != api.OK {
		t.Fatalf("Hi of %d: %v", n, e)
	}
	return h
}

func TestP51Runs(t *testing.T) {
	is(t, "none", Sha(nil), "e3b0c44298fc1c149afbf4c8996fb92427ae41e4649b934ca495991b7852b855")
	is(t, "abc", Sha([]byte("abc")), "ba7816bf8f01cfea414140de5dae2223b00361a396177a9cb410ff61f20015ad")
}

// What FIPS 180-4's own examples come to.
func TestP51Known(t *testing.T) {
	runs := []struct{ text, want string }{
		{"abcdbcdecdefdefgefghfghighijhijkijkljklmklmnlmnomnopnopq", "248d6a61d20638b8e5c026930c3e6039a33ce45964ff2167f6ecedd419db06c1"},
		{"abcdefghbcdefghicdefghijdefghijkefghijklfghijklmghijklmnhijklmnoijklmnopjklmnopqklmnopqrlmnopqrsmnopqrstnopqrstu", "cf5b16a778af8380036ce59e7b0492370b249b11e8f07a51afac45037afee9d1"},
		{strings.Repeat("a", 1000000), "cdc76e5c9914fb9281a1c7e284d73e67f1809a48a497200e046d39ccc7112cd0"},
		{fox, "d7a8fbb307d7809469ca9abcb0082e4f8d5651e46d3cdb762d02d0bf37c9e592"},
	}
	for _, r := range runs {
		is(t, r.text[:9], Sha([]byte(r.text)), r.want)
	}
}

// fraction is the first 32 bits of the fractional part of n's root of the given degree.
func fraction(n, degree int64) uint32 {
	scaled := new(big.Int).Lsh(big.NewInt(n), uint(32*degree))
	root := new(big.Int)
	for bit := 40; bit >= 0; bit-- { // the greatest whose power is not above
		next := new(big.Int).SetBit(root, bit, 1)
		if new(big.Int).Exp(next, big.NewInt(degree), nil).Cmp(scaled) <= 0 {
			root = next
		}
	}
	return uint32(root.Uint64())
}

func TestP51WordsFollowFromPrimes(t *testing.T) {
	var primes []int64
	for n := int64(2); len(primes) < 64; n++ {
		if big.NewInt(n).ProbablyPrime(0) {
			primes = append(primes, n)
		}
	}
	for i, p := range primes {
		if i < len(firstState) && firstState[i] != fraction(p, 2) {
			t.Errorf("H[%d]: %08x, not %08x", i, firstState[i], fraction(p, 2))
		}
		if roundWords[i] != fraction(p, 3) {
			t.Errorf("K[%d]: %08x, not %08x", i, roundWords[i], fraction(p, 3))
		}
	}
}

// Every length over several blocks, so that 55, 56, 63, 64 and the like are among them.
func TestP51EveryLength(t *testing.T) {
	r := rand.New(rand.NewSource(1))
	for n := range 650 {
		for _, b := range fillings(r, n) {
			if got, want := Sha(b), sha256.Sum256(b); got != want {
				t.Fatalf("Sha of %d bytes, %x: %x, not %x", n, b, got, want)
			}
		}
	}
}

func TestP51EveryBit(t *testing.T) {
	for _, n := range []int{55, 56, 64, 119, 130} {
		b := random(rand.New(rand.NewSource(int64(n))), n)
		for i := range 8 * n {
			b[i/8] ^= 1 << (i % 8)
			if got, want := Sha(b), sha256.Sum256(b); got != want {
				t.Fatalf("%d bytes, bit %d changed: %x, not %x", n, i, got, want)
			}
			b[i/8] ^= 1 << (i % 8)
		}
	}
}

// What looks like the bytes that are put behind is data all the same.
func TestP51WhatLooksLikeTheEnd(t *testing.T) {
	block := make([]byte, 64)
	copy(block, "abc")
	block[3], block[63] = 128, 24
	for _, b := range [][]byte{block, block[:63], block[:56], block[:4], block[4:], {128}, {0}, {0, 128}, {128, 0}} {
		if got, want := Sha(b), sha256.Sum256(b); got != want {
			t.Errorf("Sha(%x): %x, not %x", b, got, want)
		}
	}
}

func TestP51LongBytes(t *testing.T) {
	r := rand.New(rand.NewSource(2))
	for _, n := range []int{1 << 12, 1<<13 - 9, 1<<13 - 8, 1 << 13, 1 << 16, 1<<16 + 1, 1<<20 + 55, 1<<21 + 56, 1<<21 - 1} {
		b := random(r, n)
		if got, want := Sha(b), sha256.Sum256(b); got != want {
			t.Errorf("Sha of %d bytes: %x, not %x", n, got, want)
		}
	}
	for range 2000 {
		b := random(r, r.Intn(3000))
		if got, want := Sha(b), sha256.Sum256(b); got != want {
			t.Fatalf("Sha of %d bytes: %x, not %x", len(b), got, want)
		}
	}
}

// So many bytes that the number of their bits has more than 32 bits.
func TestP51NumberOfBitsIsWide(t *testing.T) {
	t.Parallel()
	b := make([]byte, 1<<29+3)
	b[0], b[len(b)-1] = 1, 2
	if got, want := Sha(b), sha256.Sum256(b); got != want {
		t.Errorf("Sha of %d bytes: %x, not %x", len(b), got, want)
	}
}

func TestP52Runs(t *testing.T) {
	is(t, "the fox", Hmac([]byte("key"), []byte(fox)), "f7bc83f430538424b13298e6aa6fb143ef4d59a14946175997479dbc2d1a3cd8")
}

// RFC 4231's cases.
func TestP52Known(t *testing.T) {
	runs := []struct {
		key, text string
		want      string
	}{
		{strings.Repeat("\x0b", 20), "Hi There", "b0344c61d8db38535ca8afceaf0bf12b881dc200c9833da726e9376c2e32cff7"},
		{"Jefe", "what do ya want for nothing?", "5bdcc146bf60754e6a042426089575c75a003f089d2739839dec58b964ec3843"},
		{strings.Repeat("\xaa", 20), strings.Repeat("\xdd", 50), "773ea91e36800e46854db8ebd09181a72959098b3ef8c122d9635514ced565fe"},
		{strings.Repeat("\xaa", 131), "Test Using Larger Than Block-Size Key - Hash Key First", "60e431591ee0b67f0d8a26aacbf5b77f8e0bc6213728c5140546040f0ee37f54"},
		{strings.Repeat("\xaa", 131), "This is a test using a larger than block-size key and a larger than block-size data. The key needs to be hashed before being used by the HMAC algorithm.", "9b09ffa71b942fcb27635fbcd5b0e944bfdc63644f0713938a7f51535c3a35e2"},
		{"", "", "b613679a0814d9ec772f95d778c35fc5ff1697c493715653c6c712144292c5ad"},
	}
	for _, r := range runs {
		is(t, strconv.Quote(r.text), Hmac([]byte(r.key), []byte(r.text)), r.want)
	}
}

// Every length of a key up to beyond two blocks: 63, 64, 65 are among them.
func TestP52EveryKey(t *testing.T) {
	r := rand.New(rand.NewSource(3))
	for n := range 200 {
		for _, key := range fillings(r, n) {
			for _, size := range []int{0, 1, 55, 56, 63, 64, 65, 128, r.Intn(300)} {
				text := random(r, size)
				if got, want := Hmac(key, text), libraryHmac(key, text); got != want {
					t.Fatalf("Hmac(%x, %x): %x, not %x", key, text, got, want)
				}
			}
		}
	}
}

func TestP52EveryText(t *testing.T) {
	r := rand.New(rand.NewSource(4))
	for n := range 400 {
		for _, text := range fillings(r, n) {
			key := random(r, r.Intn(130))
			if got, want := Hmac(key, text), libraryHmac(key, text); got != want {
				t.Fatalf("Hmac(%x, %x): %x, not %x", key, text, got, want)
			}
		}
	}
}

// The promise in its own words, by Sha alone.
func TestP52InWords(t *testing.T) {
	r := rand.New(rand.NewSource(5))
	for range 500 {
		key, text := random(r, r.Intn(140)), random(r, r.Intn(200))
		k := make([]byte, 64)
		if copy(k, key); len(key) > 64 {
			short := Sha(key)
			copy(k, append(short[:], make([]byte, 32)...))
		}
		inner, outer := bytes.Repeat([]byte{0x36}, 64), bytes.Repeat([]byte{0x5c}, 64)
		for i := range k {
			inner[i] ^= k[i]
			outer[i] ^= k[i]
		}
		in := Sha(append(inner, text...))
		if got, want := Hmac(key, text), Sha(append(outer, in[:]...)); got != want {
			t.Fatalf("Hmac(%x, %x): %x, not %x", key, text, got, want)
		}
	}
}

func TestP53Runs(t *testing.T) {
	password, salt := []byte("password"), []byte("salt")
	is(t, "1", hi(t, password, salt, 1), "120fb6cffcf8b32c43e7225256c4f837a86548c92ccc35480805987cb70be17b")
	is(t, "2", hi(t, password, salt, 2), "ae4d0c95af6b46d32d0adff928f06dd02a303f8ef3c251dfd6e2d85a95474c43")
	for _, n := range []int{0, 4097} {
		if h, e := Hi(password, salt, n); e != api.ErrRange || h != [32]byte{} {
			t.Errorf("Hi of %d: %x, %v", n, h, e)
		}
	}
}

// What RFC 7677's example of SCRAM-SHA-256 has, and RFC 7914's first one.
func TestP53Known(t *testing.T) {
	salt, err := hex.DecodeString("5b6d99689d12358eeca04b141236fa81")
	if err != nil {
		t.Fatal(err)
	}
	is(t, "pencil", hi(t, []byte("pencil"), salt, 4096), "c4a49510323ab4f952cac1fa99441939e78ea74d6be81ddf7096e87513dc615d")
	is(t, "passwd", hi(t, []byte("passwd"), []byte("salt"), 1), "55ac046e56e3089fec1691c22544b605f94185216dde0465e68b9d57c20dacbc")
	is(t, "password", hi(t, []byte("password"), []byte("salt"), 4096), "c5e478d59288c841aa530db6845c4c8d962893a001ce4e11a4963873aa98134a")
}

// Holds R1 and R3 as well: also numbers that a narrower one would take for one of 1 to 4096.
func TestP53Range(t *testing.T) {
	for _, n := range []int{0, -1, -2, -4096, 4097, 4098, 8192, 1 << 16, 1<<16 + 1, 1<<31 - 1, 1 << 31, 1 << 32, 1<<32 + 1, 1<<32 + 4096, 1 - 1<<32, math.MinInt, math.MinInt + 1, math.MaxInt} {
		for _, b := range [][]byte{nil, []byte("x"), make([]byte, 100)} {
			if h, e := Hi(b, b, n); e != api.ErrRange || h != [32]byte{} {
				t.Errorf("Hi of %d: %x, %v", n, h, e)
			}
		}
	}
	for _, n := range []int{1, 2, 3, 4094, 4095, 4096} {
		if got, want := hi(t, []byte("p"), []byte("s"), n), libraryHi(t, []byte("p"), []byte("s"), n); got != want {
			t.Errorf("Hi of %d: %x, not %x", n, got, want)
		}
	}
}

func TestP53EveryLength(t *testing.T) {
	r := rand.New(rand.NewSource(6))
	for n := range 140 {
		for _, other := range []int{0, 1, 16, 64, 65, r.Intn(200)} {
			a, b, rounds := random(r, n), random(r, other), 1+r.Intn(5)
			if got, want := hi(t, a, b, rounds), libraryHi(t, a, b, rounds); got != want {
				t.Fatalf("Hi(%x, %x, %d): %x, not %x", a, b, rounds, got, want)
			}
			if got, want := hi(t, b, a, rounds), libraryHi(t, b, a, rounds); got != want {
				t.Fatalf("Hi(%x, %x, %d): %x, not %x", b, a, rounds, got, want)
			}
		}
	}
}

// A long password is made short once, not in each round: else this would not end in a time that anybody waits for.
func TestP53LongPassword(t *testing.T) {
	password := random(rand.New(rand.NewSource(7)), 1<<22)
	short := sha256.Sum256(password)
	if got, want := hi(t, password, []byte("salt"), 4096), libraryHi(t, short[:], []byte("salt"), 4096); got != want {
		t.Errorf("%x, not %x", got, want)
	}
}

// The second example: a digest that begins or ends with zeros has 32 bytes too, and no part of them is left out.
func TestP53TellsThirtyTwoBytes(t *testing.T) {
	zeroFirst, zeroLast := false, false
	for n := 1; n <= 4096 && !(zeroFirst && zeroLast); n += 3 {
		got, want := hi(t, []byte("p"), []byte("salt"), n), libraryHi(t, []byte("p"), []byte("salt"), n)
		if got != want {
			t.Fatalf("Hi of %d: %x, not %x", n, got, want)
		}
		zeroFirst, zeroLast = zeroFirst || got[0] == 0, zeroLast || got[31] == 0
	}
	if !zeroFirst || !zeroLast {
		t.Error("no digest with a zero at its ends was met")
	}
}

func equals(t *testing.T, a, b []byte, want bool) {
	t.Helper()
	if Equal(a, b) != want || Equal(b, a) != want {
		t.Errorf("Equal(%x, %x): not %v", a, b, want)
	}
}

func TestP54EqualRuns(t *testing.T) {
	equals(t, []byte("a"), []byte("a"), true)
	equals(t, []byte("a"), []byte("ab"), false)
	equals(t, nil, nil, true)
}

func TestP54EqualLengths(t *testing.T) {
	for n := range 70 {
		for m := range 70 {
			equals(t, make([]byte, n), make([]byte, m), n == m)
		}
	}
	equals(t, nil, []byte{}, true)
	equals(t, nil, make([]byte, 0, 9), true)
	equals(t, nil, []byte{0}, false)
	equals(t, make([]byte, 256), make([]byte, 0), false)
	equals(t, make([]byte, 65536+3), make([]byte, 3), false)
}

func TestP54EqualEveryBit(t *testing.T) {
	r := rand.New(rand.NewSource(8))
	for _, n := range []int{1, 2, 7, 8, 9, 32, 33, 64, 100} {
		a := random(r, n)
		b := bytes.Clone(a)
		equals(t, a, b, true)
		equals(t, a, a, true)
		for i := range 8 * n {
			b[i/8] ^= 1 << (i % 8)
			equals(t, a, b, false)
			b[i/8] ^= 1 << (i % 8)
		}
	}
}

// Two bytes that are apart, and whose differences a sum or an xor of all of them would take back.
func TestP54EqualTwoPlaces(t *testing.T) {
	equals(t, []byte("ab"), []byte("ba"), false)
	equals(t, []byte{1, 2}, []byte{2, 1}, false)
	equals(t, []byte{0, 0}, []byte{5, 5}, false)
	equals(t, []byte{0, 0}, []byte{1, 255}, false)
	equals(t, []byte{0, 0}, []byte{128, 128}, false)
	equals(t, []byte{240, 15}, []byte{15, 240}, false)
	equals(t, []byte{0, 0, 0}, []byte{1, 2, 3}, false)
}

// asked takes an answer up that is not looked at, so that the call for it is not left out.
var asked bool

// quickest is how long a call of Equal takes that nothing else holds up.
func quickest(a, b []byte) time.Duration {
	least := time.Duration(math.MaxInt64)
	for range 30 {
		begin := time.Now()
		asked = Equal(a, b)
		least = min(least, time.Since(begin))
	}
	return least
}

// The first example: one that ended at the first byte would take a millionth of the time, not a twentieth.
func TestP54EqualLooksAtEveryByte(t *testing.T) {
	const size = 1 << 20
	a := make([]byte, size)
	same := quickest(a, make([]byte, size))
	for _, at := range []int{0, 1, 32, 1000} {
		b := make([]byte, size)
		b[at] = 1
		if apart := quickest(a, b); apart < same/20 {
			t.Errorf("apart at byte %d: %v; the same: %v", at, apart, same)
		}
	}
}

func TestP54Xor(t *testing.T) {
	if x := Xor([32]byte{1, 2, 31: 255}, [32]byte{3, 31: 15}); x != [32]byte{2, 2, 31: 240} {
		t.Errorf("%x", x)
	}
	r := rand.New(rand.NewSource(9))
	for range 500 {
		a, b := [32]byte(random(r, 32)), [32]byte(random(r, 32))
		x := Xor(a, b)
		for i := range x {
			if x[i] != a[i]^b[i] {
				t.Fatalf("Xor(%x, %x): %x, at byte %d", a, b, x, i)
			}
		}
		if Xor(b, a) != x || Xor(x, b) != a || Xor(a, a) != [32]byte{} || Xor(a, [32]byte{}) != a {
			t.Fatalf("Xor(%x, %x): %x", a, b, x)
		}
	}
}

func TestP55ZerosBehindAKey(t *testing.T) {
	r := rand.New(rand.NewSource(10))
	text := []byte(fox)
	for n := range 65 {
		key := random(r, n)
		want := Hmac(key, text)
		for more := range 65 - n {
			if longer := append(bytes.Clone(key), make([]byte, more)...); Hmac(longer, text) != want {
				t.Fatalf("%x with %d zeros behind it is another key", key, more)
			}
		}
		if longer := append(bytes.Clone(key), make([]byte, 65-n)...); Hmac(longer, text) == want {
			t.Fatalf("%x with zeros behind it to 65 bytes is the same key", key)
		}
		if n > 0 && n < 64 && Hmac(append([]byte{0}, key...), text) == want {
			t.Fatalf("%x with a zero ahead of it is the same key", key)
		}
	}
}

func TestP55OneRoundMore(t *testing.T) {
	r := rand.New(rand.NewSource(11))
	for _, size := range []int{0, 1, 8, 64, 65, 200} {
		password, salt := random(r, size), random(r, 16)
		u := Hmac(password, append(bytes.Clone(salt), 0, 0, 0, 1))
		sum := u
		for n := 1; n <= 300; n++ {
			if got := hi(t, password, salt, n); got != sum {
				t.Fatalf("Hi(%x, %x, %d): %x, not %x", password, salt, n, got, sum)
			}
			u = Hmac(password, u[:])
			sum = Xor(sum, u)
		}
	}
}

// roomy is bytes with room to spare in which nothing may be written.
func roomy(b []byte) (part, whole []byte) {
	whole = append(bytes.Clone(b), bytes.Repeat([]byte{0xa5}, 100)...)
	return whole[:len(b)], whole
}

func TestR2NothingHandedInIsChanged(t *testing.T) {
	r := rand.New(rand.NewSource(12))
	for _, n := range []int{0, 1, 4, 31, 32, 55, 56, 60, 63, 64, 65, 128, 200} {
		a, wholeA := roomy(random(r, n))
		b, wholeB := roomy(random(r, 64))
		beforeA, beforeB := bytes.Clone(wholeA), bytes.Clone(wholeB)
		Sha(a)
		Hmac(a, b)
		Hmac(b, a)
		Hi(a, b, 3)
		Hi(b, a, 3)
		Hi(a, b, 0)
		Equal(a, b)
		Equal(b, a)
		if !bytes.Equal(wholeA, beforeA) || !bytes.Equal(wholeB, beforeB) {
			t.Errorf("%d bytes: an argument, or its spare room, was changed", n)
		}
	}
	x, y := [32]byte{1}, [32]byte{2}
	if Xor(x, y); x != [32]byte{1} || y != [32]byte{2} {
		t.Errorf("Xor changed %x, %x", x, y)
	}
}

// Arguments that lie in one another, and one that goes into the call twice.
func TestR2ArgumentsMayShare(t *testing.T) {
	whole := random(rand.New(rand.NewSource(13)), 200)
	for _, n := range []int{3, 64, 70, 150} {
		a, b := whole[:n], whole[n-2:]
		if got, want := Hmac(a, b), libraryHmac(a, b); got != want {
			t.Errorf("Hmac: %x, not %x", got, want)
		}
		if got, want := hi(t, a, b, 3), libraryHi(t, a, b, 3); got != want {
			t.Errorf("Hi: %x, not %x", got, want)
		}
		if got, want := hi(t, a, a, 3), libraryHi(t, a, a, 3); got != want {
			t.Errorf("Hi of one twice: %x, not %x", got, want)
		}
	}
}

func TestR2NilAndEmptyAreOne(t *testing.T) {
	key := []byte("key")
	for _, none := range [][]byte{nil, {}, make([]byte, 0, 9), key[:0]} {
		if Sha(none) != Sha(nil) || Hmac(none, key) != Hmac(nil, key) || Hmac(key, none) != Hmac(key, nil) {
			t.Error("Sha or Hmac tells them apart")
		}
		if hi(t, none, key, 2) != hi(t, nil, key, 2) || hi(t, key, none, 2) != hi(t, key, nil, 2) {
			t.Error("Hi tells them apart")
		}
	}
	if got, want := hi(t, nil, nil, 2), libraryHi(t, nil, nil, 2); got != want {
		t.Errorf("Hi of none: %x, not %x", got, want)
	}
}

// Holds R2 as well: what was handed in is not kept, so that it may be written over between calls.
func TestR4NothingIsKept(t *testing.T) {
	b := []byte("one text")
	sum, mac, key := Sha(b), Hmac(b, b), hi(t, b, b, 5)
	copy(b, "another!")
	Sha(b)
	Hmac(b, []byte(fox))
	Hi(b, []byte(fox), 7)
	Hi(b, b, 4097)
	if copy(b, "one text"); Sha(b) != sum || Hmac(b, b) != mac || hi(t, b, b, 5) != key {
		t.Error("an answer hangs on the calls ahead of it")
	}
}
