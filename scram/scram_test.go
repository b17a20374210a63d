package scram

import (
	"bytes"
	"crypto/hmac"
	"crypto/pbkdf2"
	"crypto/sha256"
	library "encoding/base64"
	"math"
	"math/rand"
	"regexp"
	"strconv"
	"strings"
	"testing"
	"unicode/utf8"
	"unsafe"

	"roost/api"
)

// In the tests' names stands which promise they hold.

// What the chapter's runs are made of.
const (
	ownNonce      = "rOprNGfwEbeRWgbNEkqO"
	serverNonce   = "%hvYDpWUa2RaTCAfuxFIlj)hNlF$k0"
	runFirst      = "n,,n=user,r=" + ownNonce
	runSalt       = "W22ZaJ0SNY7soEsUEjb6gQ=="
	runChallenge  = "r=" + ownNonce + serverNonce + ",s=" + runSalt + ",i=4096"
	runFinalBare  = "c=biws,r=" + ownNonce + serverNonce
	runProof      = "dHzbZapWIk4jUhN+Ute9ytag9zjfMHgsqmmiz7AndVQ="
	runFinal      = runFinalBare + ",p=" + runProof
	runAnswer     = "v=6rriTRBi23WpRR/wtup+mMhUZUn/dB5nLTJRsjl95G4="
	nonceBytes    = "!\"#$%&'()*+-./0123456789:;<=>?@ABCDEFGHIJKLMNOPQRSTUVWXYZ[\\]^_`abcdefghijklmnopqrstuvwxyz{|}~"
	thirtyTwoZero = "AAAAAAAAAAAAAAAAAAAAAAAAAAAAAAAAAAAAAAAAAAA="
)

// What the chapter says of the forms, as patterns; UTF-8 and base64 are asked beside them.
var (
	firstForm     = regexp.MustCompile(`(?s)\A([ny],,)(n=((?:[^,=]|=2C|=3D)+),r=([!-+\--~]{1,128}))\z`)
	finalForm     = regexp.MustCompile(`(?s)\A(c=([^,]*),r=([!-+\--~]{1,256})),p=([^,]*)\z`)
	challengeForm = regexp.MustCompile(`(?s)\Ar=([!-+\--~]{1,256}),s=([^,]*),i=(0|[1-9][0-9]{0,3})\z`)
	twoTurned     = strings.NewReplacer("=2C", ",", "=3D", "=")
)

func times(n int, s string) string { return strings.Repeat(s, n) }

// random is n bytes, the same for every run of a test.
func random(r *rand.Rand, n int) []byte {
	b := make([]byte, n)
	r.Read(b)
	return b
}

func randomNonce(r *rand.Rand, n int) string {
	b := make([]byte, n)
	for i := range b {
		b[i] = nonceBytes[r.Intn(len(nonceBytes))]
	}
	return string(b)
}

func encoded(b []byte) string { return library.StdEncoding.EncodeToString(b) }

func decoded(s string) ([]byte, bool) {
	b, err := library.StdEncoding.Strict().DecodeString(s)
	return b, err == nil && !strings.ContainsAny(s, "\r\n")
}

func salted(t *testing.T, s string) []byte {
	t.Helper()
	b, ok := decoded(s)
	if !ok {
		t.Fatal(s)
	}
	return b
}

func libraryHmac(key [32]byte, s string) [32]byte {
	h := hmac.New(sha256.New, key[:])
	h.Write([]byte(s))
	return [32]byte(h.Sum(nil))
}

// libraryKeys are P7.1's keys, the client's too, by the library.
func libraryKeys(t *testing.T, password string, salt []byte, n int) (client, stored, server [32]byte) {
	t.Helper()
	key, err := pbkdf2.Key(sha256.New, password, salt, n, 32)
	if err != nil {
		t.Fatal(err)
	}
	client = libraryHmac([32]byte(key), "Client Key")
	return client, sha256.Sum256(client[:]), libraryHmac([32]byte(key), "Server Key")
}

func record(t *testing.T, password string, salt []byte, n int) (r api.Record) {
	t.Helper()
	_, r.Stored, r.Server = libraryKeys(t, password, salt, n)
	return r
}

// proofOf is the proof that fits whatever was said, made by the library.
func proofOf(client, stored [32]byte, auth string) []byte {
	sign := libraryHmac(stored, auth)
	proof := make([]byte, 32)
	for i := range proof {
		proof[i] = client[i] ^ sign[i]
	}
	return proof
}

// wantFirst, wantFinal and wantProve are what the chapter's words come to, by the patterns.
func wantFirst(s string) (api.FirstPart, api.Errno) {
	if len(s) > 1024 {
		return api.FirstPart{}, api.ErrBig
	}
	m := firstForm.FindStringSubmatch(s)
	if m == nil || !utf8.ValidString(s) {
		return api.FirstPart{}, api.ErrForm
	}
	return api.FirstPart{Header: m[1], User: twoTurned.Replace(m[3]), Nonce: m[4], Bare: m[2]}, api.OK
}

func wantFinal(s string) (api.FinalPart, api.Errno) {
	if len(s) > 1024 {
		return api.FinalPart{}, api.ErrBig
	}
	m := finalForm.FindStringSubmatch(s)
	if m == nil {
		return api.FinalPart{}, api.ErrForm
	}
	header, ok := decoded(m[2])
	proof, fits := decoded(m[4])
	if !ok || !fits || len(proof) != 32 {
		return api.FinalPart{}, api.ErrForm
	}
	return api.FinalPart{Header: string(header), Nonce: m[3], Proof: proof, Bare: m[1]}, api.OK
}

func wantProve(t *testing.T, password string, f api.FirstPart, challenge string) (string, api.Errno) {
	t.Helper()
	m := challengeForm.FindStringSubmatch(challenge)
	if m == nil {
		return "", api.ErrForm
	}
	salt, ok := decoded(m[2])
	if !ok {
		return "", api.ErrForm
	}
	n, _ := strconv.Atoi(m[3])
	if n < 1 || n > 4096 {
		return "", api.ErrRange
	}
	client, stored, _ := libraryKeys(t, password, salt, n)
	bare := "c=" + encoded([]byte(f.Header)) + ",r=" + m[1]
	return bare + ",p=" + encoded(proofOf(client, stored, f.Bare+","+challenge+","+bare)), api.OK
}

func sameFinal(a, b api.FinalPart) bool {
	return a.Header == b.Header && a.Nonce == b.Nonce && a.Bare == b.Bare && bytes.Equal(a.Proof, b.Proof)
}

func firstAsWanted(t *testing.T, s string) {
	t.Helper()
	want, wantE := wantFirst(s)
	if f, e := First(s); f != want || e != wantE {
		t.Errorf("First(%.80q): %q, %v, not %q, %v", s, f, e, want, wantE)
	}
}

func finalAsWanted(t *testing.T, s string) {
	t.Helper()
	want, wantE := wantFinal(s)
	if f, e := Final(s); !sameFinal(f, want) || e != wantE {
		t.Errorf("Final(%.80q): %q, %v, not %q, %v", s, f, e, want, wantE)
	}
}

func proveAsWanted(t *testing.T, password string, f api.FirstPart, challenge string) {
	t.Helper()
	want, wantE := wantProve(t, password, f, challenge)
	if s, e := Prove(password, f, challenge); s != want || e != wantE {
		t.Errorf("Prove(%.20q, %.80q, %.80q): %q, %v, not %q, %v", password, f, challenge, s, e, want, wantE)
	}
}

// neighbours hands out s cut everywhere, and with each byte put in each place, between and in place of what stood there.
func neighbours(s string, do func(s string)) {
	for at := range len(s) + 1 {
		do(s[:at])
		do(s[at:])
		if at < len(s) {
			do(s[:at] + s[at+1:])
		}
		for v := range 256 {
			c := string([]byte{byte(v)})
			do(s[:at] + c + s[at:])
			if at < len(s) {
				do(s[:at] + c + s[at+1:])
			}
		}
	}
}

// mixtures hands out texts made of pieces, in every order and number up to a most.
func mixtures(pieces []string, most int, do func(s string)) {
	var fill func(s string, left int)
	fill = func(s string, left int) {
		do(s)
		if left == 0 {
			return
		}
		for _, piece := range pieces {
			fill(s+piece, left-1)
		}
	}
	fill("", most)
}

func TestP71Keys(t *testing.T) {
	r := rand.New(rand.NewSource(1))
	passwords := []string{"", "pencil", "p", "é", "\xff\x00", "with, and =", times(64, "x"), times(65, "x"), times(300, "y")}
	salts := [][]byte{nil, {0}, []byte("salt"), random(r, 16), random(r, 64), random(r, 200)}
	for _, password := range passwords {
		for _, salt := range salts {
			for _, n := range []int{1, 2, 3, 17} {
				stored, server, e := Keys(password, salt, n)
				_, wantStored, wantServer := libraryKeys(t, password, salt, n)
				if stored != wantStored || server != wantServer || e != api.OK {
					t.Errorf("Keys(%.20q, %x, %d): %x, %x, %v", password, salt, n, stored, server, e)
				}
			}
		}
	}
	for _, n := range []int{4095, 4096} {
		stored, server, e := Keys("pencil", []byte("s"), n)
		_, wantStored, wantServer := libraryKeys(t, "pencil", []byte("s"), n)
		if stored != wantStored || server != wantServer || e != api.OK {
			t.Errorf("Keys of %d rounds: %x, %x, %v", n, stored, server, e)
		}
	}
}

func TestP71KeysRefuses(t *testing.T) {
	for _, n := range []int{0, -1, 4097, 8192, 1 << 32, 1<<32 + 1, math.MinInt, math.MaxInt} {
		if stored, server, e := Keys("pencil", []byte("salt"), n); stored != [32]byte{} || server != [32]byte{} || e != api.ErrRange {
			t.Errorf("Keys of %d rounds: %x, %x, %v", n, stored, server, e)
		}
	}
}

func TestP72Runs(t *testing.T) {
	f, e := First(runFirst)
	if f != (api.FirstPart{Header: "n,,", User: "user", Nonce: ownNonce, Bare: "n=user,r=" + ownNonce}) || e != api.OK {
		t.Errorf("First(%s): %q, %v", runFirst, f, e)
	}
	for _, s := range []string{"p=x,,n=a,r=b", "n,a=z,n=a,r=b", "n,,n=a", "n,,n=,r=b", "n,,n=a=2c,r=b", "n,,n=a,r=b,x=y", "n,,m=x,n=a,r=b"} {
		if f, e := First(s); f != (api.FirstPart{}) || e != api.ErrForm {
			t.Errorf("First(%s): %q, %v", s, f, e)
		}
	}
	f, e = First("n,,n=a=2Cb=3D,r=b")
	if f != (api.FirstPart{Header: "n,,", User: "a,b=", Nonce: "b", Bare: "n=a=2Cb=3D,r=b"}) || e != api.OK {
		t.Errorf("First of a,b=: %q, %v", f, e)
	}
}

func TestP72Headers(t *testing.T) {
	if f, e := First("y,,n=a,r=b"); f != (api.FirstPart{Header: "y,,", User: "a", Nonce: "b", Bare: "n=a,r=b"}) || e != api.OK {
		t.Errorf("y,,: %q, %v", f, e)
	}
	for _, header := range []string{"", "n", "y", "n,", "y,", ",,", "N,,", "Y,,", "p,,", "p=tls-unique,,", "n,a=b,", "y,a=b,", "n,,,", " n,,", "n ,,", "n,,n,,", "\ufeffn,,", "x,,", "ny,,"} {
		if f, e := First(header + "n=a,r=b"); f != (api.FirstPart{}) || e != api.ErrForm {
			t.Errorf("header %q: %q, %v", header, f, e)
		}
	}
}

func TestP72Names(t *testing.T) {
	good := map[string]string{
		"a": "a", " ": " ", "\x00": "\x00", "\n": "\n", "é": "é", "\u2028": "\u2028", "\ufffd": "\ufffd", "\U0010ffff": "\U0010ffff",
		"=2C": ",", "=3D": "=", "=2C=3D": ",=", "=3D=2C": "=,", "=3D2C": "=2C", "=3D3D": "=3D", "=2C2C": ",2C", "=3D=3D2C": "==2C",
		"2C": "2C", "3D": "3D", "a=2C": "a,", "=2Ca": ",a", "r": "r", "n": "n", "=3Dr=3Db": "=r=b", "=3DC": "=C", "=2CC": ",C",
	}
	for form, user := range good {
		if f, e := First("n,,n=" + form + ",r=b"); f.User != user || f.Bare != "n="+form+",r=b" || e != api.OK {
			t.Errorf("name %q: %q, %v", form, f, e)
		}
	}
	wrong := []string{
		"", "=", "==", "===", "=2", "=3", "=C", "=D", "=2c", "=3d", "=2D", "=3C", "=2C=", "==2C", "=3D=", "a=", "=a", "a=b", "=2=C", "=3=D", "=20", "= 2C", "=%2C", "=00",
		"\xff", "a\xff", "\xc3", "\xc3(", "\xed\xa0\x80", "\xc0\x80", "\xf4\x90\x80\x80", "=2\xff", "=\u0662C", "=２C", ",", "a,", ",a", "a,b", "=2C,", "a,r=b",
	}
	for _, form := range wrong {
		if f, e := First("n,,n=" + form + ",r=b"); f != (api.FirstPart{}) || e != api.ErrForm {
			t.Errorf("name %q: %q, %v", form, f, e)
		}
	}
}

func TestP72EveryByteInANonce(t *testing.T) {
	taken := 0
	for v := range 256 {
		c := string([]byte{byte(v)})
		good := v >= 0x21 && v <= 0x7e && v != ','
		for _, nonce := range []string{c, c + "a", "a" + c, "a" + c + "a"} {
			f, e := First("n,,n=a,r=" + nonce)
			if (e == api.OK) != good || good && f.Nonce != nonce || !good && (f != api.FirstPart{} || e != api.ErrForm) {
				t.Errorf("First, nonce %q: %q, %v", nonce, f, e)
			}
			if s, e := Begin("a", nonce); (e == api.OK) != good || !good && (s != "" || e != api.ErrForm) {
				t.Errorf("Begin, nonce %q: %q, %v", nonce, s, e)
			}
			if s, e := Challenge(api.FirstPart{}, nonce, nil, 1); (e == api.OK) != good || !good && (s != "" || e != api.ErrForm) {
				t.Errorf("Challenge, nonce %q: %q, %v", nonce, s, e)
			}
		}
		if good {
			taken++
		}
	}
	if taken != len(nonceBytes) {
		t.Errorf("%d bytes are taken", taken)
	}
}

func TestP72LengthsOfNonces(t *testing.T) {
	for n, want := range map[int]api.Errno{0: api.ErrForm, 1: api.OK, 127: api.OK, 128: api.OK, 129: api.ErrForm, 256: api.ErrForm, 1000: api.ErrForm} {
		nonce := times(n, "~")
		if f, e := First("n,,n=a,r=" + nonce); e != want || e == api.OK && f.Nonce != nonce || e != api.OK && f != (api.FirstPart{}) {
			t.Errorf("First, a nonce of %d: %v", n, e)
		}
		if _, e := Begin("a", nonce); e != want {
			t.Errorf("Begin, a nonce of %d: %v", n, e)
		}
		if _, e := Challenge(api.FirstPart{}, nonce, nil, 1); e != want {
			t.Errorf("Challenge, a nonce of %d: %v", n, e)
		}
	}
	// Of runes, not of bytes, these would be few enough; they are none of a nonce's in any case.
	for _, nonce := range []string{times(64, "é"), times(65, "é"), "é", "\ufffd", "\xff"} {
		if _, e := Begin("a", nonce); e != api.ErrForm {
			t.Errorf("Begin, nonce %q: %v", nonce, e)
		}
	}
}

func TestP72LengthsOfTexts(t *testing.T) {
	for n, want := range map[int]api.Errno{1023: api.OK, 1024: api.OK, 1025: api.ErrBig, 5000: api.ErrBig} {
		s := "n,,n=" + times(n-9, "a") + ",r=b"
		if f, e := First(s); len(s) != n || e != want || e == api.OK && f.User != s[5:n-4] || e != api.OK && f != (api.FirstPart{}) {
			t.Errorf("First of %d bytes: %v", n, e)
		}
	}
	for n, want := range map[int]api.Errno{1024: api.ErrForm, 1025: api.ErrBig, 1 << 20: api.ErrBig} {
		for _, c := range []string{"x", "\xff", ",", "="} {
			if f, e := First(times(n, c)); f != (api.FirstPart{}) || e != want {
				t.Errorf("First of %d times %q: %v", n, c, e)
			}
		}
	}
}

func TestP72FirstNeighbours(t *testing.T) {
	for _, s := range []string{"n,,n=a,r=b", "y,,n=a=2Cb=3D,r=b=", "n,,n=é,r=~!"} {
		neighbours(s, func(s string) { firstAsWanted(t, s) })
	}
}

func TestP72FirstMixtures(t *testing.T) {
	pieces := []string{"n,,", "y,,", "n=", ",r=", ",", "=", "=2C", "=3D", "a", "\xc3", "\xa9", "r="}
	mixtures(pieces, 2, func(s string) {
		for _, around := range [][2]string{{"", ""}, {"n,,n=", ",r=b"}, {"n,,n=a", ",r=b"}, {"y,,n=a,r=", ""}, {"n,,", ""}, {"", "n=a,r=b"}, {"n,,n=a,r=b", ""}} {
			firstAsWanted(t, around[0]+s+around[1])
		}
	})
	mixtures(pieces, 5, func(s string) { firstAsWanted(t, s) })
}

func TestP72Begin(t *testing.T) {
	for user, form := range map[string]string{
		"user": "user", "a,b=": "a=2Cb=3D", ",": "=2C", "=": "=3D", "=2C": "=3D2C", ",=": "=2C=3D", "=,": "=3D=2C", "==": "=3D=3D", "é": "é", "\x00": "\x00", "\ufffd": "\ufffd", " ": " ",
	} {
		if s, e := Begin(user, "n"); s != "n,,n="+form+",r=n" || e != api.OK {
			t.Errorf("Begin(%q): %q, %v", user, s, e)
		}
	}
	if s, e := Begin("user", ownNonce); s != runFirst || e != api.OK {
		t.Errorf("Begin of the run: %q, %v", s, e)
	}
}

func TestP72BeginRefuses(t *testing.T) {
	long := times(2000, "a")
	for _, x := range []struct {
		user, nonce string
		want        api.Errno
	}{
		{"", "n", api.ErrForm}, {"\xff", "n", api.ErrForm}, {"a\xc3", "n", api.ErrForm}, {"\xed\xa0\x80", "n", api.ErrForm},
		{"a", "", api.ErrForm}, {"a", ",", api.ErrForm}, {"a", " ", api.ErrForm}, {"a", "é", api.ErrForm}, {"", "", api.ErrForm},
		// ErrForm is named ahead of ErrBig.
		{long, "", api.ErrForm}, {long, "a,", api.ErrForm}, {long, times(129, "n"), api.ErrForm}, {long + "\xff", "n", api.ErrForm},
		{long, "n", api.ErrBig}, {times(1016, "a"), "n", api.ErrBig}, {times(889, "a"), times(128, "n"), api.ErrBig},
		// The text is too long where the user is not.
		{times(339, ","), "n", api.ErrBig}, {times(339, "="), "n", api.ErrBig}, {times(508, "é"), "n", api.ErrBig},
	} {
		if s, e := Begin(x.user, x.nonce); s != "" || e != x.want {
			t.Errorf("Begin(%.20q of %d, %.20q): %.20q, %v", x.user, len(x.user), x.nonce, s, e)
		}
	}
	for _, x := range []struct{ user, nonce string }{
		{times(1015, "a"), "n"}, {times(888, "a"), times(128, "n")}, {times(338, ",") + "a", "n"}, {times(338, "=") + "a", "n"}, {times(507, "é") + "a", "n"},
	} {
		s, e := Begin(x.user, x.nonce)
		if len(s) != 1024 || e != api.OK {
			t.Errorf("Begin(%.20q of %d): %d bytes, %v", x.user, len(x.user), len(s), e)
		}
		if f, e := First(s); f.User != x.user || f.Nonce != x.nonce || e != api.OK {
			t.Errorf("First of 1024 bytes: %v", e)
		}
	}
}

func TestP72FirstReadsWhatBeginWrites(t *testing.T) {
	r := rand.New(rand.NewSource(2))
	signs := []rune{',', '=', '2', 'C', '3', 'D', 'a', 'é', 0, 0xfffd, 0x10ffff}
	for range 5000 {
		user := make([]rune, 1+r.Intn(20))
		for i := range user {
			user[i] = signs[r.Intn(len(signs))]
		}
		nonce := randomNonce(r, 1+r.Intn(128))
		s, e := Begin(string(user), nonce)
		f, g := First(s)
		if e != api.OK || g != api.OK || f != (api.FirstPart{Header: "n,,", User: string(user), Nonce: nonce, Bare: s[3:]}) {
			t.Fatalf("%q, %q: %q, %q, %v, %v", string(user), nonce, s, f, e, g)
		}
	}
}

func TestP73Runs(t *testing.T) {
	f, _ := First(runFirst)
	if s, e := Challenge(f, serverNonce, salted(t, runSalt), 4096); s != runChallenge || e != api.OK {
		t.Errorf("Challenge: %q, %v", s, e)
	}
}

func TestP73Challenge(t *testing.T) {
	for _, x := range []struct {
		first, nonce string
		salt         []byte
		n            int
		want         string
	}{
		{"abc", "def", []byte("salt"), 16, "r=abcdef,s=c2FsdA==,i=16"},
		{"a", "b", nil, 1, "r=ab,s=,i=1"},
		{"a", "b", []byte{}, 10, "r=ab,s=,i=10"},
		{"a", "b", []byte{0xff}, 999, "r=ab,s=/w==,i=999"},
		{"a", "b", []byte{0xfb, 0xff, 0xff}, 4095, "r=ab,s=+///,i=4095"},
		{"a", times(128, "~"), []byte{0}, 4096, "r=a" + times(128, "~") + ",s=AA==,i=4096"},
		// Of the first message the nonce alone is taken, and as it is.
		{"", "b", nil, 1, "r=b,s=,i=1"},
		{"any, bytes\xff", "b", nil, 1, "r=any, bytes\xffb,s=,i=1"},
		{times(3000, ","), "b", nil, 1, "r=" + times(3000, ",") + "b,s=,i=1"},
		{"a", "b", bytes.Repeat([]byte{0}, 3000), 1, "r=ab,s=" + times(4000, "A") + ",i=1"},
	} {
		for _, f := range []api.FirstPart{{Nonce: x.first}, {Header: "\xff", User: "\xff,", Nonce: x.first, Bare: times(2000, ",")}} {
			if s, e := Challenge(f, x.nonce, x.salt, x.n); s != x.want || e != api.OK {
				t.Errorf("Challenge(%.20q, %.20q, %.20x, %d): %.60q, %v", x.first, x.nonce, x.salt, x.n, s, e)
			}
		}
	}
}

func TestP73ChallengeRefuses(t *testing.T) {
	f := api.FirstPart{Header: "n,,", User: "a", Nonce: "b", Bare: "n=a,r=b"}
	for _, n := range []int{0, -1, 4097, 1 << 32, 1<<32 + 1, math.MinInt, math.MaxInt} {
		if s, e := Challenge(f, "q", []byte("salt"), n); s != "" || e != api.ErrRange {
			t.Errorf("Challenge of %d: %q, %v", n, s, e)
		}
		// ErrForm is named ahead of ErrRange.
		for _, nonce := range []string{"", ",", " ", "q\n", "\x7f", "é", "\xff", times(129, "q")} {
			if s, e := Challenge(f, nonce, []byte("salt"), n); s != "" || e != api.ErrForm {
				t.Errorf("Challenge of %d, nonce %.20q: %q, %v", n, nonce, s, e)
			}
		}
	}
}

func TestP74Final(t *testing.T) {
	f, e := Final(runFinal)
	if !sameFinal(f, api.FinalPart{Header: "n,,", Nonce: ownNonce + serverNonce, Proof: salted(t, runProof), Bare: runFinalBare}) || e != api.OK {
		t.Errorf("Final(%s): %q, %v", runFinal, f, e)
	}
	for _, x := range []struct{ form, header string }{{"", ""}, {"/w==", "\xff"}, {"AAA=", "\x00\x00"}, {"eSws", "y,,"}, {"LHI9LHA9", ",r=,p="}} {
		for _, nonce := range []string{"a", "=", "p=" + thirtyTwoZero, "c=", nonceBytes, times(256, "!")} {
			bare := "c=" + x.form + ",r=" + nonce
			f, e := Final(bare + ",p=" + thirtyTwoZero)
			if !sameFinal(f, api.FinalPart{Header: x.header, Nonce: nonce, Proof: make([]byte, 32), Bare: bare}) || e != api.OK {
				t.Errorf("Final(%.60q): %q, %v", bare, f, e)
			}
		}
	}
}

func TestP74FinalRefuses(t *testing.T) {
	const p = ",p=" + thirtyTwoZero
	for _, s := range []string{
		"", "c", "c=", "c=,r=", "c=,r=a", "c=biws", "c=biws,r=a", "c=biws" + p, p, "r=a" + p, ",r=a" + p, "c=biws,r=" + p, "c=biws,r=a,p=",
		"C=biws,r=a" + p, "d=biws,r=a" + p, "biws,r=a" + p, " c=biws,r=a" + p, "c=biws,R=a" + p, "c=biws,s=a" + p, "c=biws,r=a,P=" + thirtyTwoZero,
		"c=bi,r=a" + p, "c=biws=,r=a" + p, "c=bi ws,r=a" + p, "c=biws\n,r=a" + p, "c=Zh==,r=a" + p, "c=_w==,r=a" + p, "c=biws,,r=a" + p, "c=n,,,r=a" + p,
		"c=biws,r=a b" + p, "c=biws,r=a," + p, "c=biws,r=a,b" + p, "c=biws,r=\x7f" + p, "c=biws,r=é" + p, "c=biws,r=\xff" + p, "c=biws,r=" + times(257, "!") + p,
		"c=biws,r=a,x=y" + p, "c=biws,m=x,r=a" + p, "c=biws,r=a,r=a" + p, "c=biws,c=biws,r=a" + p, "m=x,c=biws,r=a" + p,
		"c=biws,r=a" + p + ",", "c=biws,r=a" + p + ",x=y", "c=biws,r=a" + p + p, "c=biws,r=a" + p + " ", "c=biws,r=a" + p + "\n", "c=biws,r=a" + p + ",p=",
		"c=biws,r=a,p=" + encoded(make([]byte, 31)), "c=biws,r=a,p=" + encoded(make([]byte, 33)), "c=biws,r=a,p=" + encoded(make([]byte, 64)), "c=biws,r=a,p=AA==",
		"c=biws,r=a,p=" + times(42, "A") + "B=", "c=biws,r=a,p=" + times(43, "A"), "c=biws,r=a,p=" + times(44, "A"), "c=biws,r=a,p=" + times(42, "A") + "==", "c=biws,r=a,p==" + times(43, "A"),
	} {
		if f, e := Final(s); !sameFinal(f, api.FinalPart{}) || e != api.ErrForm {
			t.Errorf("Final(%.80q): %q, %v", s, f, e)
		}
		finalAsWanted(t, s)
	}
}

func TestP74LengthsOfTexts(t *testing.T) {
	for nonce, want := range map[int]api.Errno{3: api.OK, 4: api.OK, 5: api.ErrBig, 200: api.ErrBig} {
		s := "c=" + times(968, "A") + ",r=" + times(nonce, "!") + ",p=" + thirtyTwoZero
		if f, e := Final(s); len(s) != 1020+nonce || e != want || e == api.OK && f.Header != times(726, "\x00") || e != api.OK && !sameFinal(f, api.FinalPart{}) {
			t.Errorf("Final of %d bytes: %v", len(s), e)
		}
	}
	for n, want := range map[int]api.Errno{1024: api.ErrForm, 1025: api.ErrBig, 1 << 20: api.ErrBig} {
		for _, c := range []string{"x", "\xff", ",", "="} {
			if f, e := Final(times(n, c)); !sameFinal(f, api.FinalPart{}) || e != want {
				t.Errorf("Final of %d times %q: %v", n, c, e)
			}
		}
	}
}

func TestP74FinalNeighbours(t *testing.T) {
	for _, s := range []string{"c=biws,r=ab,p=" + runProof, "c=,r=a,p=" + thirtyTwoZero, "c=/w==,r=~,p=" + runProof} {
		neighbours(s, func(s string) { finalAsWanted(t, s) })
	}
}

func TestP74FinalMixtures(t *testing.T) {
	pieces := []string{"c=", ",r=", ",p=", "p=", "biws", "a", ",", "=", runProof, "/w==", " "}
	mixtures(pieces, 3, func(s string) {
		for _, around := range [][2]string{{"c=biws,r=", ",p=" + runProof}, {"c=", ",r=a,p=" + runProof}, {"c=biws,r=a,p=", ""}, {"c=biws,r=a,p=" + runProof, ""}, {"", "r=a,p=" + runProof}} {
			finalAsWanted(t, around[0]+s+around[1])
		}
	})
	mixtures(pieces, 5, func(s string) { finalAsWanted(t, s) })
}

func TestP75Runs(t *testing.T) {
	var r api.Record
	var e api.Errno
	salt := salted(t, runSalt)
	r.Stored, r.Server, e = Keys("pencil", salt, 4096)
	f, _ := First(runFirst)
	last, _ := Final(runFinal)
	if s, g := Check(r, f, runChallenge, last); s != runAnswer || e != api.OK || g != api.OK {
		t.Errorf("Check: %q, %v, %v", s, e, g)
	}
	for bit := range 8 * 32 {
		turned := last
		turned.Proof = bytes.Clone(last.Proof)
		turned.Proof[bit/8] ^= 1 << (bit % 8)
		refusedBy(t, "a bit of the proof", r, f, runChallenge, turned)
	}
	for _, header := range []string{"y,,", "", "n,", "n,,,", "N,,"} {
		other := last
		other.Header = header
		refusedBy(t, "header "+header, r, f, runChallenge, other)
	}
}

func refusedBy(t *testing.T, what string, r api.Record, f api.FirstPart, challenge string, last api.FinalPart) {
	t.Helper()
	if s, e := Check(r, f, challenge, last); s != "" || e != api.ErrAuth {
		t.Errorf("%s: %q, %v", what, s, e)
	}
}

// said is all that Check is told; its proof fits, as the library reckons it, whatever else it holds.
type said struct {
	r         api.Record
	client    [32]byte
	f         api.FirstPart
	challenge string
	last      api.FinalPart
}

func (s *said) prove() {
	s.last.Proof = proofOf(s.client, s.r.Stored, s.f.Bare+","+s.challenge+","+s.last.Bare)
}

func (s *said) answer() string {
	b := libraryHmac(s.r.Server, s.f.Bare+","+s.challenge+","+s.last.Bare)
	return "v=" + encoded(b[:])
}

func ordinary(t *testing.T) *said {
	t.Helper()
	s := &said{
		f:         api.FirstPart{Header: "n,,", User: "ann", Nonce: "abc", Bare: "n=ann,r=abc"},
		challenge: "r=abcdef,s=c2FsdA==,i=2",
		last:      api.FinalPart{Header: "n,,", Nonce: "abcdef", Bare: "c=biws,r=abcdef"},
	}
	s.client, s.r.Stored, s.r.Server = libraryKeys(t, "secret", []byte("salt"), 2)
	s.r.User, s.r.Salt, s.r.N = "ann", []byte("salt"), 2
	s.prove()
	return s
}

// What Check refuses although the proof fits what was said.
func TestP75FittingProofsThatAreRefused(t *testing.T) {
	for what, change := range map[string]func(s *said){
		"another header last":        func(s *said) { s.last.Header, s.last.Bare = "y,,", "c=eSws,r=abcdef" },
		"another header first":       func(s *said) { s.f.Header = "y,," },
		"no header last":             func(s *said) { s.last.Header = "" },
		"no header first":            func(s *said) { s.f.Header = "" },
		"a longer header":            func(s *said) { s.last.Header = "n,,a" },
		"another nonce":              func(s *said) { s.last.Nonce, s.last.Bare = "abcdeg", "c=biws,r=abcdeg" },
		"a shorter nonce":            func(s *said) { s.last.Nonce = "abcde" },
		"the client's nonce alone":   func(s *said) { s.last.Nonce = "abc" },
		"a longer nonce":             func(s *said) { s.last.Nonce = "abcdefg" },
		"no nonce":                   func(s *said) { s.last.Nonce = "" },
		"all behind r=":              func(s *said) { s.last.Nonce = "abcdef,s=c2FsdA==,i=2" },
		"the comma too":              func(s *said) { s.last.Nonce = "abcdef," },
		"r= too":                     func(s *said) { s.last.Nonce = "r=abcdef" },
		"no r= in the challenge":     func(s *said) { s.challenge = "abcdef,s=c2FsdA==,i=2" },
		"r= not at its beginning":    func(s *said) { s.challenge = "m=x,r=abcdef,s=c2FsdA==,i=2" },
		"R= in it":                   func(s *said) { s.challenge = "R=abcdef,s=c2FsdA==,i=2" },
		"a space ahead of it":        func(s *said) { s.challenge = " r=abcdef,s=c2FsdA==,i=2" },
		"no comma in it":             func(s *said) { s.challenge = "r=abcdef" },
		"no challenge":               func(s *said) { s.challenge = "" },
		"no challenge and no nonce":  func(s *said) { s.challenge, s.last.Nonce = "", "" },
		"r= alone, no nonce":         func(s *said) { s.challenge, s.last.Nonce = "r=", "" },
		"r alone, no nonce":          func(s *said) { s.challenge, s.last.Nonce = "r", "" },
		"a comma alone, no nonce":    func(s *said) { s.challenge, s.last.Nonce = ",", "" },
		"a comma ahead of the nonce": func(s *said) { s.challenge = "r=,abcdef,s=,i=2" },
		"a nonce with a comma":       func(s *said) { s.challenge, s.last.Nonce = "r=abc,def,s=,i=2", "abc,def" },
	} {
		s := ordinary(t)
		change(s)
		s.prove()
		refusedBy(t, what, s.r, s.f, s.challenge, s.last)
	}
}

// What Check refuses because the proof does not fit any more.
func TestP75ProofsThatDoNotFit(t *testing.T) {
	for what, change := range map[string]func(s *said){
		"the stored key":               func(s *said) { s.r.Stored[0] ^= 1 },
		"the stored key's end":         func(s *said) { s.r.Stored[31] ^= 0x80 },
		"no stored key":                func(s *said) { s.r.Stored = [32]byte{} },
		"the first message":            func(s *said) { s.f.Bare += "x" },
		"no first message":             func(s *said) { s.f.Bare = "" },
		"the challenge behind a comma": func(s *said) { s.challenge += "x" },
		"fewer rounds":                 func(s *said) { s.challenge = "r=abcdef,s=c2FsdA==,i=1" },
		"the final message":            func(s *said) { s.last.Bare += "x" },
		"no final message":             func(s *said) { s.last.Bare = "" },
		"no proof":                     func(s *said) { s.last.Proof = nil },
		"an empty proof":               func(s *said) { s.last.Proof = []byte{} },
		"31 bytes":                     func(s *said) { s.last.Proof = s.last.Proof[:31] },
		"the last 31 bytes":            func(s *said) { s.last.Proof = s.last.Proof[1:] },
		"33 bytes":                     func(s *said) { s.last.Proof = append(s.last.Proof, 0) },
		"33 bytes, one ahead":          func(s *said) { s.last.Proof = append([]byte{0}, s.last.Proof...) },
		"64 bytes":                     func(s *said) { s.last.Proof = append(s.last.Proof, s.last.Proof...) },
		"a proof of zeros":             func(s *said) { s.last.Proof = make([]byte, 32) },
		"the client's key as it is":    func(s *said) { s.last.Proof = s.client[:] },
		"the stored key as a proof":    func(s *said) { s.last.Proof = bytes.Clone(s.r.Stored[:]) },
		"the server's answer as one": func(s *said) {
			b := libraryHmac(s.r.Server, s.f.Bare+","+s.challenge+","+s.last.Bare)
			s.last.Proof = b[:]
		},
		"the signature alone": func(s *said) {
			b := libraryHmac(s.r.Stored, s.f.Bare+","+s.challenge+","+s.last.Bare)
			s.last.Proof = b[:]
		},
		"the messages in another order": func(s *said) {
			s.last.Proof = proofOf(s.client, s.r.Stored, s.challenge+","+s.f.Bare+","+s.last.Bare)
		},
		"the header too": func(s *said) {
			s.last.Proof = proofOf(s.client, s.r.Stored, s.f.Header+s.f.Bare+","+s.challenge+","+s.last.Bare)
		},
	} {
		s := ordinary(t)
		change(s)
		refusedBy(t, what, s.r, s.f, s.challenge, s.last)
	}
}

// Of what the equations do not name, Check asks nothing. It holds the chapter's second example too.
func TestP75NothingElseIsAsked(t *testing.T) {
	for what, change := range map[string]func(s *said){
		"nothing":                         func(s *said) {},
		"another user's record":           func(s *said) { s.r.User = "bob" },
		"no user first":                   func(s *said) { s.f.User = "" },
		"another salt":                    func(s *said) { s.r.Salt = []byte("pepper") },
		"no salt":                         func(s *said) { s.r.Salt = nil },
		"other rounds":                    func(s *said) { s.r.N = -1 },
		"another server key":              func(s *said) { s.r.Server[5] ^= 0x10 },
		"no server key":                   func(s *said) { s.r.Server = [32]byte{} },
		"another nonce first":             func(s *said) { s.f.Nonce = "zzz" },
		"no nonce first":                  func(s *said) { s.f.Nonce = "" },
		"a first message that is none":    func(s *said) { s.f.Bare = "\xff,,," },
		"an empty first message":          func(s *said) { s.f.Bare = "" },
		"a final message that is none":    func(s *said) { s.last.Bare = "" },
		"a final message with another c=": func(s *said) { s.last.Bare = "c=eSws,r=zzz" },
		"headers that are none":           func(s *said) { s.f.Header, s.last.Header = "\xff", "\xff" },
		"empty headers":                   func(s *said) { s.f.Header, s.last.Header = "", "" },
		"an empty nonce":                  func(s *said) { s.challenge, s.last.Nonce = "r=,s=,i=1", "" },
		"an empty nonce and no more":      func(s *said) { s.challenge, s.last.Nonce = "r=,", "" },
		"a nonce that is none":            func(s *said) { s.challenge, s.last.Nonce = "r=a \xff,", "a \xff" },
		"a nonce with r= in it":           func(s *said) { s.challenge, s.last.Nonce = "r=r=a,", "r=a" },
		"a long nonce":                    func(s *said) { s.challenge, s.last.Nonce = "r="+times(5000, "a")+",", times(5000, "a") },
		"a challenge that is none behind": func(s *said) { s.challenge = "r=abcdef,\x00,,,i=0" },
		"much of all":                     func(s *said) { s.f.Bare, s.last.Bare = times(70000, "x"), times(70000, "y") },
	} {
		s := ordinary(t)
		change(s)
		s.prove()
		if got, e := Check(s.r, s.f, s.challenge, s.last); got != s.answer() || e != api.OK {
			t.Errorf("%s: %q, %v", what, got, e)
		}
	}
}

// A record whose keys are not of any password: whoever has what Stored is the Sha of is let in.
func TestP75AnyKeys(t *testing.T) {
	r := rand.New(rand.NewSource(3))
	for range 200 {
		s := ordinary(t)
		s.client = [32]byte(random(r, 32))
		s.r.Stored, s.r.Server = sha256.Sum256(s.client[:]), [32]byte(random(r, 32))
		s.prove()
		if got, e := Check(s.r, s.f, s.challenge, s.last); got != s.answer() || e != api.OK {
			t.Fatalf("%x: %q, %v", s.client, got, e)
		}
	}
}

// The chapter's first example: what c= holds must be the header that was sent first.
func TestP75Example(t *testing.T) {
	for _, headers := range [][2]string{{"n,,", "y,,"}, {"y,,", "n,,"}} {
		sent, _ := First(headers[0] + "n=ann,r=abc")
		claimed := sent
		claimed.Header = headers[1]
		challenge, _ := Challenge(sent, "def", []byte("salt"), 2)
		r := record(t, "secret", []byte("salt"), 2)
		text, _ := Prove("secret", claimed, challenge)
		last, e := Final(text)
		if e != api.OK || last.Header != headers[1] {
			t.Errorf("Final(%s): %q, %v", text, last, e)
		}
		refusedBy(t, "c= of "+headers[1], r, sent, challenge, last)
	}
}

func TestP76Runs(t *testing.T) {
	f, _ := First(runFirst)
	if s, e := Prove("pencil", f, runChallenge); s != runFinal || e != api.OK {
		t.Errorf("Prove: %q, %v", s, e)
	}
}

func TestP76Prove(t *testing.T) {
	r := rand.New(rand.NewSource(4))
	for _, password := range []string{"", "secret", "é", "\xff\x00,=", times(65, "x"), times(1000, "y")} {
		for _, f := range []api.FirstPart{
			{}, {Header: "n,,", User: "a", Nonce: "b", Bare: "n=a,r=b"}, {Header: "y,,", Bare: ",,,"}, {Header: "\xff", Bare: "\xff\x00"}, {Header: times(3000, "n"), Bare: times(3000, "x")},
		} {
			for _, challenge := range []string{
				"r=a,s=,i=1", "r=a,s=AA==,i=2", "r==,s=c2FsdA==,i=9", "r=s=,s=/w==,i=10", "r=" + times(256, "~") + ",s=,i=1", "r=" + nonceBytes + ",s=AAAA,i=16",
				"r=a,s=" + encoded(random(r, 64)) + ",i=1", "r=a,s=" + encoded(random(r, 3000)) + ",i=1",
			} {
				proveAsWanted(t, password, f, challenge)
				if s, e := Prove(password, f, challenge); e != api.OK || s == "" {
					t.Errorf("Prove(%.40q): %q, %v", challenge, s, e)
				}
			}
		}
	}
}

func TestP76Rounds(t *testing.T) {
	f := api.FirstPart{Header: "n,,", User: "a", Nonce: "b", Bare: "n=a,r=b"}
	for digits, want := range map[string]api.Errno{
		"1": api.OK, "9": api.OK, "10": api.OK, "99": api.OK, "100": api.OK, "999": api.OK, "1000": api.OK, "4095": api.OK, "4096": api.OK,
		"0": api.ErrRange, "4097": api.ErrRange, "5000": api.ErrRange, "9999": api.ErrRange,
		"": api.ErrForm, "00": api.ErrForm, "01": api.ErrForm, "0001": api.ErrForm, "0000": api.ErrForm, "04096": api.ErrForm, "10000": api.ErrForm, "40960": api.ErrForm, "99999999999999999999": api.ErrForm, "18446744073709551617": api.ErrForm,
		"+1": api.ErrForm, "-1": api.ErrForm, "-0": api.ErrForm, "+0": api.ErrForm, "-": api.ErrForm, " 1": api.ErrForm, "1 ": api.ErrForm, "1\n": api.ErrForm, "1_0": api.ErrForm, "0x1": api.ErrForm, "1.0": api.ErrForm, "1e3": api.ErrForm, "a": api.ErrForm, "1a": api.ErrForm,
		"１": api.ErrForm, "\u0661": api.ErrForm, "\xff": api.ErrForm, "1\x00": api.ErrForm, "1,": api.ErrForm, "1,x=y": api.ErrForm, "1,i=1": api.ErrForm,
	} {
		challenge := "r=a,s=AA==,i=" + digits
		s, e := Prove("secret", f, challenge)
		if e != want || (s == "") != (want != api.OK) {
			t.Errorf("Prove of i=%q: %q, %v", digits, s, e)
		}
		proveAsWanted(t, "secret", f, challenge)
		// ErrForm is named ahead of ErrRange.
		for _, wrong := range []string{"r=a,s=A,i=", "r=,s=AA==,i=", "r=a b,s=AA==,i=", "r=" + times(257, "a") + ",s=,i=", "r=a,i="} {
			if s, e := Prove("secret", f, wrong+digits); s != "" || e != api.ErrForm {
				t.Errorf("Prove(%.40q): %q, %v", wrong+digits, s, e)
			}
		}
	}
}

func TestP76ProveRefuses(t *testing.T) {
	f := api.FirstPart{Header: "n,,", User: "a", Nonce: "b", Bare: "n=a,r=b"}
	for _, s := range []string{
		"", "r", "r=", "r=a", "r=a,", "r=a,s=", "r=a,s=AA==", "r=a,s=AA==,", "r=a,s=AA==,i", "r=a,s=AA==,i=", "a,s=AA==,i=1", "s=AA==,i=1", "r=a,i=1", "r=a,i=1,s=AA==", "s=AA==,r=a,i=1", ",s=AA==,i=1",
		"R=a,s=AA==,i=1", "r=a,S=AA==,i=1", "r=a,s=AA==,I=1", " r=a,s=AA==,i=1", "m=x,r=a,s=AA==,i=1", "r=a,m=x,s=AA==,i=1", "r=a,s=AA==,m=x,i=1", "r=a,s=AA==,i=1,x=y", "r=a,s=AA==,i=1,", "r=a,,s=AA==,i=1", "r=a,s=AA==,,i=1",
		"r=,s=AA==,i=1", "r=a b,s=AA==,i=1", "r=a,b,s=AA==,i=1", "r=\x7f,s=AA==,i=1", "r=\x20,s=AA==,i=1", "r=é,s=AA==,i=1", "r=\xff,s=AA==,i=1", "r=" + times(257, "a") + ",s=AA==,i=1", "r=" + times(5000, "a") + ",s=AA==,i=1",
		"r=a,s=A,i=1", "r=a,s=AA,i=1", "r=a,s=AA=,i=1", "r=a,s=AB==,i=1", "r=a,s==,i=1", "r=a,s= AA==,i=1", "r=a,s=AA==\n,i=1", "r=a,s=_w==,i=1", "r=a,s=AA==AA==,i=1", "r=a,s=\xff\xff\xff\xff,i=1", "r=a,s=A,i=0", "e=other-error",
	} {
		if p, e := Prove("secret", f, s); p != "" || e != api.ErrForm {
			t.Errorf("Prove(%.60q): %q, %v", s, p, e)
		}
		proveAsWanted(t, "secret", f, s)
	}
}

func TestP76ProveNeighbours(t *testing.T) {
	f := api.FirstPart{Header: "n,,", User: "a", Nonce: "b", Bare: "n=a,r=b"}
	for _, s := range []string{"r=ab,s=AA==,i=1", "r=~,s=,i=10"} {
		neighbours(s, func(s string) { proveAsWanted(t, "secret", f, s) })
	}
}

func TestP76ProveMixtures(t *testing.T) {
	f := api.FirstPart{Header: "y,,", User: "a", Nonce: "b", Bare: "n=a,r=b"}
	pieces := []string{"r=", ",s=", ",i=", "a", "AA==", "0", "1", ",", "=", "i="}
	mixtures(pieces, 2, func(s string) {
		for _, around := range [][2]string{{"r=", ",s=AA==,i=1"}, {"r=a,s=", ",i=1"}, {"r=a,s=AA==,i=", ""}, {"r=a,s=AA==,i=1", ""}, {"", "s=AA==,i=1"}} {
			proveAsWanted(t, "secret", f, around[0]+s+around[1])
		}
	})
	mixtures(pieces, 5, func(s string) { proveAsWanted(t, "secret", f, s) })
}

// letIn goes the whole way, and tells what Check does.
func letIn(t *testing.T, r api.Record, password, first, nonce string) (string, api.Errno) {
	t.Helper()
	f, e := First(first)
	challenge, g := Challenge(f, nonce, r.Salt, r.N)
	text, h := Prove(password, f, challenge)
	last, i := Final(text)
	if e != api.OK || g != api.OK || h != api.OK || i != api.OK {
		t.Fatalf("%q, %q: %v, %v, %v, %v", first, nonce, e, g, h, i)
	}
	if last.Header != f.Header || last.Nonce != f.Nonce+nonce || last.Bare != text[:len(text)-47] {
		t.Fatalf("Final(%q): %q", text, last)
	}
	s, j := Check(r, f, challenge, last)
	auth := f.Bare + "," + challenge + "," + last.Bare
	if sign := libraryHmac(r.Server, auth); j == api.OK && s != "v="+encoded(sign[:]) || j != api.OK && s != "" {
		t.Fatalf("Check(%q): %q, %v", auth, s, j)
	}
	return s, j
}

func TestP77WhoProvesIsLetIn(t *testing.T) {
	r := rand.New(rand.NewSource(5))
	for range 500 {
		password := string(random(r, r.Intn(100)))
		kept := api.Record{Salt: random(r, r.Intn(40)), N: 1 + r.Intn(20)}
		var e api.Errno
		if kept.Stored, kept.Server, e = Keys(password, kept.Salt, kept.N); e != api.OK {
			t.Fatal(e)
		}
		first, _ := Begin("us=er,"+strconv.Itoa(r.Int()), randomNonce(r, 1+r.Intn(128)))
		if r.Intn(2) == 0 {
			first = "y" + first[1:]
		}
		nonce := randomNonce(r, 1+r.Intn(128))
		if s, e := letIn(t, kept, password, first, nonce); e != api.OK {
			t.Fatalf("the password %q: %q, %v", password, s, e)
		}
		for _, wrong := range []string{password + "x", "x" + password, "another"} {
			if s, e := letIn(t, kept, wrong, first, nonce); e != api.ErrAuth {
				t.Fatalf("%q, not %q: %q, %v", wrong, password, s, e)
			}
		}
	}
}

// What was proved in one conversation proves nothing in another.
func TestP77NothingIsProvedTwice(t *testing.T) {
	r := record(t, "secret", []byte("salt"), 2)
	f, _ := First("n,,n=ann,r=abc")
	challenge, _ := Challenge(f, "def", []byte("salt"), 2)
	text, _ := Prove("secret", f, challenge)
	last, _ := Final(text)
	if _, e := Check(r, f, challenge, last); e != api.OK {
		t.Fatal(e)
	}
	for _, x := range []struct {
		first, nonce, salt string
		n                  int
	}{
		{"n,,n=ann,r=abc", "deg", "salt", 2}, {"n,,n=bob,r=abc", "def", "salt", 2}, {"n,,n=ann,r=abd", "def", "salt", 2}, {"n,,n=ann,r=ab", "cdef", "salt", 2},
		{"y,,n=ann,r=abc", "def", "salt", 2}, {"n,,n=ann,r=abc", "def", "pepper", 2}, {"n,,n=ann,r=abc", "def", "salt", 3},
	} {
		g, _ := First(x.first)
		other, e := Challenge(g, x.nonce, []byte(x.salt), x.n)
		if e != api.OK {
			t.Fatal(e)
		}
		refusedBy(t, x.first+" "+other, r, g, other, last)
	}
	for what, other := range map[string]api.Record{
		"another password": record(t, "Secret", []byte("salt"), 2), "another salt": record(t, "secret", []byte("pepper"), 2), "other rounds": record(t, "secret", []byte("salt"), 3), "none": {},
	} {
		refusedBy(t, what, other, f, challenge, last)
	}
}

// Check lets in just if the equations hold, as the library reckons them, for all that random changes make.
func TestP77JustIfTheEquationsHold(t *testing.T) {
	r := rand.New(rand.NewSource(6))
	in := 0
	pick := func(texts ...string) string { return texts[r.Intn(len(texts))] }
	for range 20000 {
		s := ordinary(t)
		s.f.Header, s.last.Header = pick("n,,", "y,,"), pick("n,,", "y,,")
		s.challenge = pick("r=abcdef,s=c2FsdA==,i=2", "r=abc,def", "r=abcdef", "abcdef,", "r=,", "")
		s.last.Nonce = pick("abcdef", "abc", "", "r=abcdef")
		s.prove()
		switch r.Intn(4) {
		case 0:
			s.last.Proof[r.Intn(32)] ^= byte(r.Intn(2))
		case 1:
			s.last.Proof = s.last.Proof[:31+r.Intn(2)]
		case 2:
			s.last.Bare = pick("c=biws,r=abcdef", "c=biws,r=abcdeg")
		}
		got, e := Check(s.r, s.f, s.challenge, s.last)
		if holds := s.holds(); holds && (got != s.answer() || e != api.OK) || !holds && (got != "" || e != api.ErrAuth) {
			t.Fatalf("%+v: %q, %v", *s, got, e)
		} else if holds {
			in++
		}
	}
	if in < 200 || in > 10000 {
		t.Errorf("%d were let in", in)
	}
}

func (s *said) holds() bool {
	end := strings.Index(s.challenge, ",")
	if len(s.last.Proof) != 32 || s.f.Header != s.last.Header || end < 2 || s.challenge[:2] != "r=" || s.challenge[2:end] != s.last.Nonce {
		return false
	}
	client := proofOf([32]byte(s.last.Proof), s.r.Stored, s.f.Bare+","+s.challenge+","+s.last.Bare)
	return sha256.Sum256(client) == s.r.Stored
}

// roomy is b with spare room behind it, and a look at whether either was changed.
func roomy(b []byte) (roomed []byte, same func() bool) {
	whole := append(bytes.Clone(b), bytes.Repeat([]byte{0xa5}, 100)...)
	before := bytes.Clone(whole)
	return whole[:len(b)], func() bool { return bytes.Equal(whole, before) }
}

func TestR2NothingHandedInIsChanged(t *testing.T) {
	for _, size := range []int{0, 1, 16, 60, 64, 65, 200} {
		salt, same := roomy(bytes.Repeat([]byte{7}, size))
		Keys("secret", salt, 2)
		Challenge(api.FirstPart{Nonce: "a"}, "b", salt, 2)
		if !same() {
			t.Errorf("a salt of %d bytes was changed", size)
		}
	}
	s := ordinary(t)
	proof, sameProof := roomy(s.last.Proof)
	salt, sameSalt := roomy([]byte("salt"))
	s.last.Proof, s.r.Salt = proof, salt
	if _, e := Check(s.r, s.f, s.challenge, s.last); e != api.OK || !sameProof() || !sameSalt() {
		t.Errorf("Check: %v, or what was handed in was changed", e)
	}
}

// shares tells whether two texts stand in the same memory, in any part.
func shares(a, b string) bool {
	if a == "" || b == "" {
		return false
	}
	from, to := uintptr(unsafe.Pointer(unsafe.StringData(a))), uintptr(unsafe.Pointer(unsafe.StringData(b)))
	return from < to+uintptr(len(b)) && to < from+uintptr(len(a))
}

func TestR2AnswersShareNothing(t *testing.T) {
	first, final := strings.Clone("n,,n=user=2C,r="+ownNonce), strings.Clone(runFinal)
	f, _ := First(first)
	last, _ := Final(final)
	texts := []string{first, final, f.User, f.Nonce, f.Bare, last.Header, last.Nonce, last.Bare, string(last.Proof)}
	for i, a := range texts {
		for _, b := range texts[:i] {
			if shares(a, b) {
				t.Errorf("%q and %q stand in the same memory", a, b)
			}
		}
	}
	one, _ := Final(final)
	two, _ := Final(final)
	room := one.Proof[:cap(one.Proof)]
	for i := range room {
		room[i] = 0xee
	}
	three, e := Final(final)
	if want := salted(t, runProof); e != api.OK || !bytes.Equal(two.Proof, want) || !bytes.Equal(three.Proof, want) {
		t.Error("an answer hangs on another")
	}
}

func TestR2NilAndEmptyAreOne(t *testing.T) {
	stored, server, _ := Keys("secret", nil, 2)
	for _, none := range [][]byte{{}, make([]byte, 0, 9), []byte("salt")[:0]} {
		if s, v, e := Keys("secret", none, 2); s != stored || v != server || e != api.OK {
			t.Errorf("Keys of no salt: %x, %x, %v", s, v, e)
		}
		if s, e := Challenge(api.FirstPart{Nonce: "a"}, "b", none, 2); s != "r=ab,s=,i=2" || e != api.OK {
			t.Errorf("Challenge of no salt: %q, %v", s, e)
		}
	}
}

// A refusal leaves nothing behind for the calls that follow, nor does what was read ahead of it.
func TestR4NothingIsKept(t *testing.T) {
	f, _ := First(runFirst)
	for _, wrong := range []string{"", "n,,n=other,r=", "c=biws,r=other,p=", "r=other,s=AA==,i=0", times(2000, "x")} {
		First(wrong)
		Final(wrong)
		Prove("other", f, wrong)
		firstAsWanted(t, "y,,n=a,r=b")
		finalAsWanted(t, runFinal)
		proveAsWanted(t, "secret", f, "r=a,s=AA==,i=1")
	}
}
