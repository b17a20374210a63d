package name

import (
	"math/rand"
	"strings"
	"testing"
	"unicode/utf8"
	"unsafe"

	"roost/api"
)

// In the tests' names stands which promise they hold.

type call = func(string) (string, api.Errno)

type run struct {
	in, want string
	e        api.Errno
}

func bad(in string) run { return run{in, "", api.ErrName} }

func big(in string) run { return run{in, "", api.ErrBig} }

func good(in, want string) run { return run{in, want, api.OK} }

func runs(t *testing.T, title string, f call, all []run) {
	t.Helper()
	for _, x := range all {
		if s, e := f(x.in); s != x.want || e != x.e {
			t.Errorf("%s(%q): %q, %v; not %q, %v", title, x.in, s, e, x.want, x.e)
		}
	}
}

// letters is what the document takes in a user's name, each behind what it is folded from, or itself.
func letters() map[rune]rune {
	all := map[rune]rune{}
	for _, r := range "abcdefghijklmnopqrstuvwxyz0123456789.-_" +
		"ßàáâãäåæçèéêëìíîïðñòóôõöøùúûüýþÿ" +
		"αβγδεζηθικλμνξοπρςστυφχψω" +
		"абвгдежзийклмнопрстуфхцчшщъыьэюя" {
		all[r] = r
	}
	great := []rune("ABCDEFGHIJKLMNOPQRSTUVWXYZÀÁÂÃÄÅÆÇÈÉÊËÌÍÎÏÐÑÒÓÔÕÖØÙÚÛÜÝÞΑΒΓΔΕΖΗΘΙΚΛΜΝΞΟΠΡΣΤΥΦΧΨΩАБВГДЕЖЗИЙКЛМНОПРСТУФХЦЧШЩЪЫЬЭЮЯ")
	tiny := []rune("abcdefghijklmnopqrstuvwxyzàáâãäåæçèéêëìíîïðñòóôõöøùúûüýþαβγδεζηθικλμνξοπρστυφχψωабвгдежзийклмнопрстуфхцчшщъыьэюя")
	for i, r := range great {
		all[r] = tiny[i]
	}
	return all
}

func TestP21Runs(t *testing.T) {
	a := strings.Repeat("a", 65)
	runs(t, "Local", Local, []run{
		good("Ann", "ann"), good("ÄÖ.x", "äö.x"), good("ΣΑ", "σα"), bad(""), bad("a b"), bad("a×"), big(a),
		good("ς", "ς"), good("Ας", "ας"),
		good("-", "-"), good("..", ".."), good("_A-9.", "_a-9."),
		bad("a@b"), bad("a/b"), bad("a\x00"), bad(" a"), bad("a\n"),
	})
}

func TestP21EveryRune(t *testing.T) {
	all := letters()
	for r := rune(0); r <= utf8.MaxRune; r++ {
		if !utf8.ValidRune(r) {
			continue
		}
		want, ok := all[r]
		s, e := Local("x" + string(r) + "y")
		if ok && (e != api.OK || s != "x"+string(want)+"y") {
			t.Errorf("%U: %q, %v; not %q", r, s, e, want)
		}
		if !ok && (e != api.ErrName || s != "") {
			t.Errorf("%U: %q, %v; not ErrName", r, s, e)
		}
	}
}

func TestP21Size(t *testing.T) {
	a := strings.Repeat("A", 65)
	runs(t, "Local", Local, []run{
		good(a[1:], strings.ToLower(a[1:])),
		good(strings.Repeat("Я", 32), strings.Repeat("я", 32)),
		big(strings.Repeat("Я", 32) + "a"),
		big(strings.Repeat("Я", 33)),
		big(strings.Repeat(" ", 65)),
		big(strings.Repeat("\xff", 65)),
		bad(strings.Repeat("\xff", 64)),
		bad(strings.Repeat(" ", 64)),
		big(strings.Repeat("a", 1<<20)),
	})
}

func TestP21NotUTF8(t *testing.T) {
	for _, s := range notUTF8() {
		runs(t, "Local", Local, []run{bad(s), bad("a" + s), bad(s + "a")})
	}
}

// notUTF8 has bytes that stand alone, forms cut short, too long, of surrogates and beyond the last rune.
func notUTF8() []string {
	return []string{"\x80", "\xbf", "\xc3", "\xce", "\xd0", "\xff", "\xfe", "\xc1\xa1", "\xe0\x81\xa1", "\xe2\x82", "\xf0\x9f\x98",
		"\xed\xa0\x80", "\xed\xbf\xbf", "\xf4\x90\x80\x80", "\xc3\xc3\xa4", "\xc3\xa4\xa4"}
}

func TestP22Runs(t *testing.T) {
	runs(t, "Host", Host, []run{
		good("A.b-c", "a.b-c"), bad("a..b"), bad(".a"), bad("-a"), bad("a-"), bad("é"),
		bad(""), bad("."), bad("-"), bad("a."), bad("a.-b"), bad("a-.b"), bad("a.b-"), bad("a.b."), bad("a b"), bad("a_b"), bad("a@b"), bad("a/b"),
		good("a", "a"), good("0", "0"), good("1.2.3.4", "1.2.3.4"), good("a--b", "a--b"), good("X-1.Y-2", "x-1.y-2"),
		bad("À"), bad("ä"), bad("Σ"), bad("я"), bad("a\x00"), bad("a\n"),
	})
}

func TestP22EveryRune(t *testing.T) {
	const taken = "abcdefghijklmnopqrstuvwxyz0123456789"
	for r := rune(0); r <= utf8.MaxRune; r++ {
		if !utf8.ValidRune(r) {
			continue
		}
		want := string(r)
		if r >= 'A' && r <= 'Z' {
			want = strings.ToLower(want)
		}
		ok := strings.Contains(taken, want)
		inner := ok || r == '.' || r == '-'
		for _, x := range []struct {
			in, want string
			ok       bool
		}{{string(r), want, ok}, {"a" + string(r), "a" + want, ok}, {string(r) + "a", want + "a", ok}, {"a" + string(r) + "b", "a" + want + "b", inner}} {
			s, e := Host(x.in)
			if x.ok && (e != api.OK || s != x.want) || !x.ok && (e != api.ErrName || s != "") {
				t.Errorf("Host(%q): %q, %v", x.in, s, e)
			}
		}
	}
}

// hostFits is the document's words, label by label.
func hostFits(s string) bool {
	for _, label := range strings.Split(s, ".") {
		if label == "" || strings.Trim(label, "ab-") != "" {
			return false
		}
		if label[0] == '-' || label[len(label)-1] == '-' {
			return false
		}
	}
	return true
}

// every calls f with each text of at most n of the letters.
func every(letters string, n int, f func(string)) {
	var grow func(s string, left int)
	grow = func(s string, left int) {
		f(s)
		if left == 0 {
			return
		}
		for _, c := range letters {
			grow(s+string(c), left-1)
		}
	}
	grow("", n)
}

func TestP22EveryShort(t *testing.T) {
	every("Ab.-_", 6, func(s string) {
		want := strings.ToLower(s)
		got, e := Host(s)
		if hostFits(want) && (got != want || e != api.OK) || !hostFits(want) && (got != "" || e != api.ErrName) {
			t.Errorf("Host(%q): %q, %v", s, got, e)
		}
	})
}

func TestP22Size(t *testing.T) {
	dotted := strings.Repeat("a.", 32)
	runs(t, "Host", Host, []run{
		good(strings.Repeat("A", 64), strings.Repeat("a", 64)), big(strings.Repeat("a", 65)),
		good(dotted[:63], dotted[:63]), bad(dotted), big(dotted + "a"), big(dotted + "."),
		big(strings.Repeat("\xff", 65)), bad(strings.Repeat("\xff", 64)), big(strings.Repeat("ä", 33)),
	})
}

func TestP22NotUTF8(t *testing.T) {
	for _, s := range notUTF8() {
		runs(t, "Host", Host, []run{bad(s), bad("a" + s), bad(s + "a"), bad("a" + s + "a")})
	}
}

func TestP23Runs(t *testing.T) {
	runs(t, "Resource", Resource, []run{
		good("Desk 1", "Desk 1"), bad("a\n"), bad(""),
		good(" ", " "), good("ÄΣЯ/@", "ÄΣЯ/@"), good("\ufffd", "\ufffd"), good("a\ufffdb", "a\ufffdb"), bad("\x00"), bad("a\u0085b"),
	})
}

func TestP23EveryRune(t *testing.T) {
	for r := rune(0); r <= utf8.MaxRune; r++ {
		if !utf8.ValidRune(r) {
			continue
		}
		in := "x" + string(r) + "Y"
		x := good(in, in)
		switch {
		case r <= 0x1f, r >= 0x7f && r <= 0x9f, r == 0xfffe, r == 0xffff:
			x = bad(in)
		}
		if s, e := Resource(in); s != x.want || e != x.e {
			t.Errorf("%U: %q, %v", r, s, e)
		}
	}
}

func TestP23Size(t *testing.T) {
	smile := strings.Repeat("\U0001F600", 16)
	runs(t, "Resource", Resource, []run{
		good(smile, smile), big(smile + "a"), big(strings.Repeat("\n", 65)), big(strings.Repeat("\xff", 65)), bad(strings.Repeat("\n", 64)),
		good(strings.Repeat("a", 64), strings.Repeat("a", 64)), big(strings.Repeat("a", 65)),
	})
}

func TestP23NotUTF8(t *testing.T) {
	for _, s := range notUTF8() {
		runs(t, "Resource", Resource, []run{bad(s), bad("a" + s), bad(s + "a")})
	}
}

type parsing struct {
	in   string
	want api.Jid
	e    api.Errno
}

func parsings(t *testing.T, all []parsing) {
	t.Helper()
	for _, x := range all {
		if j, e := Parse(x.in); j != x.want || e != x.e {
			t.Errorf("Parse(%q): %q, %v; not %q, %v", x.in, j, e, x.want, x.e)
		}
	}
}

func TestP24ParseRuns(t *testing.T) {
	none := api.Jid{}
	parsings(t, []parsing{
		{"Ann@X.org/Desk/2", api.Jid{Local: "ann", Host: "x.org", Resource: "Desk/2"}, api.OK},
		{"x.org", api.Jid{Host: "x.org"}, api.OK},
		{"@x", none, api.ErrName}, {"ann@", none, api.ErrName}, {"x/", none, api.ErrName}, {"a@b@c", none, api.ErrName}, {"ann@x/", none, api.ErrName},
		{"Ann@X", api.Jid{Local: "ann", Host: "x"}, api.OK},
		{"X/R", api.Jid{Host: "x", Resource: "R"}, api.OK},
		{"x/a@b", api.Jid{Host: "x", Resource: "a@b"}, api.OK},
		{"x//", api.Jid{Host: "x", Resource: "/"}, api.OK},
		{"a@x/b@y/c", api.Jid{Local: "a", Host: "x", Resource: "b@y/c"}, api.OK},
		{"", none, api.ErrName}, {"/", none, api.ErrName}, {"@", none, api.ErrName}, {"/r", none, api.ErrName}, {"a@/r", none, api.ErrName}, {"a/b@c", api.Jid{Host: "a", Resource: "b@c"}, api.OK},
		{"\xff@x", none, api.ErrName}, {"a@\xff", none, api.ErrName}, {"a@x/\xff", none, api.ErrName}, {"a@x/\n", none, api.ErrName},
	})
}

func TestP24ParseFirstRefusal(t *testing.T) {
	none, long := api.Jid{}, strings.Repeat("a", 65)
	parsings(t, []parsing{
		{long + "@ /\n", none, api.ErrBig}, {" @" + long + "/" + long, none, api.ErrName}, {"@" + long, none, api.ErrName},
		{"a@" + long + "/", none, api.ErrBig}, {"a@-/" + long, none, api.ErrName}, {long + "/", none, api.ErrBig},
		{"a@x/" + long, none, api.ErrBig}, {"/" + long, none, api.ErrName},
		{long[1:] + "@" + long[1:] + "/" + long[1:], api.Jid{Local: long[1:], Host: long[1:], Resource: long[1:]}, api.OK},
	})
}

// parsedByHand is the document's words on an address, byte by byte.
func parsedByHand(s string) (j api.Jid, e api.Errno) {
	var has [2]bool
	for i := 0; i < len(s) && !has[1]; i++ {
		if s[i] == '/' {
			has[1], j.Resource, s = true, s[i+1:], s[:i]
		}
	}
	for i := 0; i < len(s) && !has[0]; i++ {
		if s[i] == '@' {
			has[0], j.Local, s = true, s[:i], s[i+1:]
		}
	}
	if has[0] {
		if j.Local, e = Local(j.Local); e != api.OK {
			return api.Jid{}, e
		}
	}
	if j.Host, e = Host(s); e != api.OK {
		return api.Jid{}, e
	}
	if has[1] {
		if j.Resource, e = Resource(j.Resource); e != api.OK {
			return api.Jid{}, e
		}
	}
	return j, api.OK
}

func TestP24ParseEveryShort(t *testing.T) {
	every("A@/. ", 7, func(s string) {
		j, e := Parse(s)
		if want, f := parsedByHand(s); j != want || e != f {
			t.Errorf("Parse(%q): %q, %v; not %q, %v", s, j, e, want, f)
		}
	})
}

func TestP24TextRuns(t *testing.T) {
	long := strings.Repeat("a", 65)
	for _, x := range []struct {
		j    api.Jid
		want string
		e    api.Errno
	}{
		{api.Jid{Host: "x", Resource: "r"}, "x/r", api.OK},
		{api.Jid{Local: "a"}, "", api.ErrName},
		{api.Jid{}, "", api.ErrName}, {api.Jid{Resource: "r"}, "", api.ErrName},
		{api.Jid{Host: "X.Org"}, "x.org", api.OK},
		{api.Jid{Local: "Ann", Host: "X"}, "ann@x", api.OK},
		{api.Jid{Local: "ΣΑ", Host: "X", Resource: "Desk/@ 2"}, "σα@x/Desk/@ 2", api.OK},
		{api.Jid{Local: "a@b", Host: "x"}, "", api.ErrName}, {api.Jid{Host: "x/y"}, "", api.ErrName}, {api.Jid{Host: "a@x"}, "", api.ErrName},
		{api.Jid{Local: "a", Host: "x", Resource: "\n"}, "", api.ErrName}, {api.Jid{Local: "a", Host: "x", Resource: "\xff"}, "", api.ErrName},
		{api.Jid{Local: " ", Host: long, Resource: "\n"}, "", api.ErrBig}, {api.Jid{Local: long, Host: " ", Resource: long}, "", api.ErrName},
		{api.Jid{Local: long, Host: "x", Resource: "\n"}, "", api.ErrBig}, {api.Jid{Local: " ", Host: "x", Resource: long}, "", api.ErrName},
		{api.Jid{Local: "a", Host: "x", Resource: long}, "", api.ErrBig},
		{api.Jid{Local: long[1:], Host: long[1:], Resource: long[1:]}, long[1:] + "@" + long[1:] + "/" + long[1:], api.OK},
	} {
		if s, e := Text(x.j); s != x.want || e != x.e {
			t.Errorf("Text(%q): %q, %v; not %q, %v", x.j, s, e, x.want, x.e)
		}
	}
}

func TestP25Spread(t *testing.T) {
	for _, x := range []struct {
		host, local string
		want        uint64
	}{
		{"", "", 12638153115695167455},
		// FNV-1a's own numbers, of "\x00" behind and ahead of known texts.
		{"a", "", step(0xaf63dc4c8601ec8c, 0)},
		{"foobar", "", step(0x85944171f73967e8, 0)},
		{"x.org", "ann", stepped("x.org\x00ann")},
		{"\xff\x80", "\x00ß", stepped("\xff\x80\x00\x00ß")},
	} {
		if n := Spread(x.host, x.local); n != x.want {
			t.Errorf("Spread(%q, %q): %d; not %d", x.host, x.local, n, x.want)
		}
	}
	if Spread("ab", "c") == Spread("a", "bc") || Spread("ann", "x") == Spread("x", "ann") || Spread("X", "a") == Spread("x", "a") {
		t.Error("others have one number")
	}
}

// step goes without the language's wrap-round of products: by halves of 32 bits.
func step(n, c uint64) uint64 {
	const times, low = 1099511628211, 1<<32 - 1
	n ^= c
	high := (n>>32)*(times&low) + (n&low)*(times>>32)
	return n&low*(times&low) + high<<32
}

func stepped(s string) uint64 {
	n := uint64(14695981039346656037)
	for i := range len(s) {
		n = step(n, uint64(s[i]))
	}
	return n
}

func TestP26PreparedStays(t *testing.T) {
	source := rand.New(rand.NewSource(26))
	runes := []rune("aZ09.-_ÀÞßÿ×÷ΑΣΩςαωАЯаяЁ /@\n\u0080\ufffd")
	for range 20000 {
		s := ""
		for range source.Intn(5) {
			s += string(runes[source.Intn(len(runes))])
		}
		for _, f := range []call{Local, Host, Resource} {
			once, e := f(s)
			if e != api.OK {
				continue
			}
			if twice, e := f(once); twice != once || e != api.OK {
				t.Errorf("%q prepared twice: %q, %v", once, twice, e)
			}
		}
	}
}

func TestP26ParseOfText(t *testing.T) {
	for _, local := range []string{"", "A", "ÄΣЯ.-_", strings.Repeat("Ω", 32)} {
		for _, host := range []string{"X", "A.b-C.1", strings.Repeat("H", 64)} {
			for _, resource := range []string{"", "R", "/", "@", "a@b/c", "@/", strings.Repeat("/", 64)} {
				text, e := Text(api.Jid{Local: local, Host: host, Resource: resource})
				if e != api.OK {
					t.Fatal(local, host, resource, e)
				}
				var want api.Jid
				want.Local, _ = Local(local)
				want.Host, _ = Host(host)
				want.Resource, _ = Resource(resource)
				if j, e := Parse(text); j != want || e != api.OK {
					t.Errorf("Parse(%q): %q, %v; not %q", text, j, e, want)
				}
				if again, e := Text(want); again != text || e != api.OK {
					t.Errorf("Text(%q): %q, %v; not %q", want, again, e, text)
				}
			}
		}
	}
}

func shares(a, b string) bool {
	if a == "" || b == "" {
		return false
	}
	from, to := uintptr(unsafe.Pointer(unsafe.StringData(a))), uintptr(unsafe.Pointer(unsafe.StringData(b)))
	return from < to+uintptr(len(b)) && to < from+uintptr(len(a))
}

func TestR2NewMemory(t *testing.T) {
	s := string([]byte("ann"))
	for _, f := range []call{Local, Host, Resource} {
		if out, _ := f(s); shares(out, s) {
			t.Error("an answer shares memory with what was handed in")
		}
	}
	s = string([]byte("ann@x.org/desk"))
	j, _ := Parse(s)
	for _, part := range []string{j.Local, j.Host, j.Resource} {
		if shares(part, s) {
			t.Errorf("%q shares memory with the address", part)
		}
	}
	h := string([]byte("x.org"))
	if out, _ := Text(api.Jid{Host: h}); shares(out, h) {
		t.Error("a text shares memory with the host")
	}
}

func TestR1EveryBytes(t *testing.T) {
	source := rand.New(rand.NewSource(1))
	for range 50000 {
		b := make([]byte, source.Intn(70))
		for i := range b {
			b[i] = byte(source.Intn(256))
			if source.Intn(2) == 0 {
				b[i] = "aA.-@/ "[source.Intn(7)]
			}
		}
		s := string(b)
		j, e := Parse(s)
		if want, f := parsedByHand(s); j != want || e != f {
			t.Errorf("Parse(%q): %q, %v; not %q, %v", s, j, e, want, f)
		}
		for _, f := range []call{Local, Host, Resource} {
			if out, e := f(s); (out == "") == (e == api.OK) {
				t.Errorf("%q: %q beside %v", s, out, e)
			}
		}
	}
}
