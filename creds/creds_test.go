package creds

import (
	"bytes"
	"crypto/hmac"
	"crypto/pbkdf2"
	"crypto/sha256"
	"encoding/binary"
	"math"
	"math/rand"
	"reflect"
	"strings"
	"testing"
	"unicode/utf8"
	"unsafe"

	"roost/api"
	"roost/name"
)

// In the tests' names stands which promise they hold.

var (
	inf       = math.Inf(1)
	nan       = math.NaN()
	minusZero = math.Copysign(0, -1)
)

func times(n int, s string) string { return strings.Repeat(s, n) }

// random is n bytes, the same for every run of a test.
func random(r *rand.Rand, n int) []byte {
	b := make([]byte, n)
	r.Read(b)
	return b
}

func isZero(r api.Record) bool { return reflect.DeepEqual(r, api.Record{}) }

// same takes nil and empty lists for one.
func same(a, b api.Record) bool {
	return a.User == b.User && bytes.Equal(a.Salt, b.Salt) && a.N == b.N && a.Stored == b.Stored && a.Server == b.Server
}

func libraryKeys(t *testing.T, password string, salt []byte, n int) (stored, server [32]byte) {
	t.Helper()
	salted, err := pbkdf2.Key(sha256.New, password, salt, n, 32)
	if err != nil {
		t.Fatal(err)
	}
	sign := func(text string) []byte {
		h := hmac.New(sha256.New, salted)
		h.Write([]byte(text))
		return h.Sum(nil)
	}
	return sha256.Sum256(sign("Client Key")), [32]byte(sign("Server Key"))
}

func TestP81MakeRuns(t *testing.T) {
	one := []byte{7}
	r, e := Make("Ann", "p", one, 1)
	if r.User != "ann" || e != api.OK {
		t.Errorf("Ann: %q, %v", r.User, e)
	}
	for _, x := range []struct {
		user, password string
		salt           []byte
		n              int
		e              api.Errno
	}{
		{"a b", "p", one, 1, api.ErrName},
		{"a", "", one, 1, api.ErrName},
		{"a", "p", nil, 1, api.ErrArg},
		{"a", "p", []byte{}, 1, api.ErrArg},
		{"a", "p", one, 0, api.ErrRange},
	} {
		if r, e := Make(x.user, x.password, x.salt, x.n); e != x.e || !isZero(r) {
			t.Errorf("Make(%q, %q, %x, %d): %v, %v", x.user, x.password, x.salt, x.n, r, e)
		}
	}
}

func TestP81MakeKeys(t *testing.T) {
	r := rand.New(rand.NewSource(81))
	users := []string{"Ann", "bob", "ÄÖ.x", "ΣΑ", "a-_.9", times(64, "Z"), times(32, "Ж")}
	for _, size := range []int{1, 2, 31, 32} {
		for _, password := range []string{"p", "\x00", " pass word ", "Пароль", times(128, "x"), times(64, "ä"), "\ufffd"} {
			for _, n := range []int{1, 2, 17, 4096} {
				if n == 4096 && size != 32 {
					continue
				}
				user, salt := users[r.Intn(len(users))], random(r, size)
				got, e := Make(user, password, salt, n)
				stored, server := libraryKeys(t, password, salt, n)
				prepared, _ := name.Local(user)
				if e != api.OK || !same(got, api.Record{User: prepared, Salt: salt, N: n, Stored: stored, Server: server}) {
					t.Errorf("Make(%q, %q, %x, %d): %v, %v", user, password, salt, n, got, e)
				}
			}
		}
	}
}

// TestP81MakeOrder mixes what is right and what is wrong of each argument: the fault that stands first must be told.
func TestP81MakeOrder(t *testing.T) {
	type fault struct {
		value string
		e     api.Errno
	}
	users := []fault{{"Ann", 0}, {times(64, "a"), 0}, {times(65, "a"), api.ErrBig}, {times(33, "ä"), api.ErrBig}, {times(65, "\xff"), api.ErrBig}, {"", api.ErrName}, {"a@b", api.ErrName}, {"\xff", api.ErrName}, {"a×", api.ErrName}}
	passwords := []fault{{"p", 0}, {times(128, "p"), 0}, {times(129, "p"), api.ErrBig}, {times(65, "ä"), api.ErrBig}, {times(129, "\xff"), api.ErrBig}, {"", api.ErrName}, {"\xff", api.ErrName}, {"ok\xc3", api.ErrName}, {"\xed\xa0\x80", api.ErrName}, {times(128, "\xff"), api.ErrName}}
	salts := []fault{{"s", 0}, {times(32, "s"), 0}, {"", api.ErrArg}, {times(33, "s"), api.ErrArg}, {times(5000, "s"), api.ErrArg}}
	rounds := []struct {
		n int
		e api.Errno
	}{{1, 0}, {3, 0}, {0, api.ErrRange}, {-1, api.ErrRange}, {4097, api.ErrRange}, {math.MaxInt, api.ErrRange}, {math.MinInt, api.ErrRange}}
	for _, u := range users {
		for _, p := range passwords {
			for _, s := range salts {
				for _, n := range rounds {
					want := api.OK
					for _, e := range []api.Errno{n.e, s.e, p.e, u.e} {
						if e != api.OK {
							want = e
						}
					}
					r, e := Make(u.value, p.value, []byte(s.value), n.n)
					if e != want || isZero(r) != (want != api.OK) {
						t.Errorf("Make(%.9q, %.9q, %.9q, %d): %v, not %v", u.value, p.value, s.value, n.n, e, want)
					}
				}
			}
		}
	}
}

// formOf writes a record by the library's means, whatever is wrong with it.
func formOf(r api.Record) []byte {
	b := binary.AppendUvarint(nil, uint64(len(r.User)))
	b = append(b, r.User...)
	b = binary.AppendUvarint(b, uint64(len(r.Salt)))
	b = append(b, r.Salt...)
	b = binary.AppendUvarint(b, uint64(r.N))
	b = append(b, r.Stored[:]...)
	return append(b, r.Server[:]...)
}

// randomRecord is one that can be written.
func randomRecord(r *rand.Rand) api.Record {
	users := []string{"a", "ann", "äö.x", "σα", "a-_.9", times(64, "z"), times(32, "ж"), times(63, "0")}
	rounds := []int{1, 2, 127, 128, 300, 4095, 4096, 1 + r.Intn(4096)}
	sizes := []int{1, 2, 31, 32, 1 + r.Intn(32)}
	return api.Record{
		User:   users[r.Intn(len(users))],
		Salt:   random(r, sizes[r.Intn(len(sizes))]),
		N:      rounds[r.Intn(len(rounds))],
		Stored: [32]byte(random(r, 32)),
		Server: [32]byte(random(r, 32)),
	}
}

func TestP82WriteForm(t *testing.T) {
	r := api.Record{User: "ann", Salt: []byte("salt"), N: 300}
	for i := range 32 {
		r.Stored[i], r.Server[i] = byte(i), byte(200+i)
	}
	want := "\x03ann\x04salt\xac\x02" + string(r.Stored[:]) + string(r.Server[:])
	if b, e := Write(r); string(b) != want || e != api.OK {
		t.Errorf("Write: %x, %v", b, e)
	}
	if got, e := Read([]byte(want)); !same(got, r) || e != api.OK {
		t.Errorf("Read: %v, %v", got, e)
	}
	long := api.Record{User: times(64, "a"), Salt: make([]byte, 32), N: 4096}
	b, e := Write(long)
	if want := "\x40" + times(64, "a") + "\x20" + times(32, "\x00") + "\x80\x20" + times(64, "\x00"); string(b) != want || e != api.OK {
		t.Errorf("the longest: %x, %v", b, e)
	}
	if got, e := Read(b); !same(got, long) || e != api.OK {
		t.Errorf("the longest: %v, %v", got, e)
	}
}

// wrongs are ways in which a record can't be written.
func wrongs() []func(r *api.Record) {
	var all []func(r *api.Record)
	for _, user := range []string{"", "Ann", "annA", "Ä", "a b", "a@b", "\xff", "a\xc3", times(65, "a"), times(128, "a"), times(33, "ä"), times(3000, "a")} {
		all = append(all, func(r *api.Record) { r.User = user })
	}
	for _, size := range []int{0, 33, 127, 128, 300} {
		all = append(all, func(r *api.Record) { r.Salt = make([]byte, size) })
	}
	for _, n := range []int{0, -1, 4097, 1 << 32, 1<<32 + 1, 1<<62 + 1, math.MaxInt, math.MinInt, math.MinInt + 1} {
		all = append(all, func(r *api.Record) { r.N = n })
	}
	return all
}

func TestP82WriteWrong(t *testing.T) {
	r := rand.New(rand.NewSource(82))
	all := wrongs()
	for i, wrong := range all {
		record := randomRecord(r)
		wrong(&record)
		if b, e := Write(record); len(b) > 0 || e != api.ErrArg {
			t.Errorf("wrong %d: %x, %v", i, b, e)
		}
		all[r.Intn(len(all))](&record)
		if b, e := Write(record); len(b) > 0 || e != api.ErrArg {
			t.Errorf("wrong %d and another: %x, %v", i, b, e)
		}
	}
	if b, e := Write(api.Record{}); len(b) > 0 || e != api.ErrArg {
		t.Errorf("none: %x, %v", b, e)
	}
}

func TestP82ExampleNotPrepared(t *testing.T) {
	if b, e := Write(api.Record{User: "Ann", Salt: []byte{1}, N: 1}); len(b) > 0 || e != api.ErrArg {
		t.Errorf("Ann: %x, %v", b, e)
	}
}

func TestP82ReadWrong(t *testing.T) {
	r := rand.New(rand.NewSource(83))
	for i, wrong := range wrongs() {
		record := randomRecord(r)
		wrong(&record)
		if got, e := Read(formOf(record)); e != api.ErrForm || !isZero(got) {
			t.Errorf("wrong %d: %v, %v", i, got, e)
		}
	}
	keys := times(64, "\x05")
	if got, e := Read([]byte("\x01a\x01s\x01" + keys)); e != api.OK || got.User != "a" || string(got.Salt) != "s" || got.N != 1 {
		t.Errorf("a plain one: %v, %v", got, e)
	}
	nine := times(9, "\xff")
	for _, x := range []string{
		"", "\x00",
		"\x01a\x01s\x01" + keys + "\x00",                 // a byte behind
		"\x01a\x01s\x01" + keys + keys + keys + keys,     // many behind
		"\x81\x00a\x01s\x01" + keys,                      // numbers with a group too many
		"\x01a\x81\x00s\x01" + keys,                      //
		"\x01a\x01s\x81\x00" + keys,                      //
		"\x01a\x01s\x81\x80\x00" + keys,                  //
		nine + "\x01a\x01s\x01" + keys,                   // numbers that are too great
		nine + "\x02a\x01s\x01" + keys,                   //
		"\x01a" + nine + "\x01s\x01" + keys,              //
		"\x01a" + nine + "\x02s\x01" + keys,              //
		"\x01a\x01s" + nine + "\x01" + keys,              //
		"\x01a\x01s" + nine + "\x02" + keys,              //
		"\x01a\x01s\x81\x80\x80\x80\x10" + keys,          // 2^32 + 1 rounds
		"\x01a\x81\x80\x80\x80\x10s\x01" + keys,          // 2^32 + 1 bytes of salt
		"\x01a\x01s\x01" + keys[1:],                      // a key that is cut off
		"\x02a\x01s\x01" + keys,                          // lengths that reach into what follows
		"\x01a\x02s\x01" + keys,                          //
		"\x20a",                                          //
		"\x01a\x20s",                                     //
		"\x01a\x01s\x80",                                 //
		"\x02\xc3\x28\x01s\x01" + keys,                   // not UTF-8
		"\x03\xed\xa0\x80\x01s\x01" + keys,               //
		"\x41" + times(65, "a") + "\x01s\x01" + keys,     // a name too long
		"\x01A\x01s\x01" + keys, "\x01@\x01s\x01" + keys, // a name not prepared, no name
		"\x01a\x00\x01" + keys,                               // no salt
		"\x01a\x21" + times(33, "s") + "\x01" + keys,         // too much
		"\x01a\x01s\x00" + keys, "\x01a\x01s\x81\x20" + keys, // no rounds, 4097
	} {
		if got, e := Read([]byte(x)); e != api.ErrForm || !isZero(got) {
			t.Errorf("Read(%x): %v, %v", x, got, e)
		}
	}
	if got, e := Read(nil); e != api.ErrForm || !isZero(got) {
		t.Errorf("Read(nil): %v, %v", got, e)
	}
}

// TestP82ReadCut takes forms at every length.
func TestP82ReadCut(t *testing.T) {
	r := rand.New(rand.NewSource(84))
	for range 30 {
		b := formOf(randomRecord(r))
		for k := range b {
			if got, e := Read(b[:k]); e != api.ErrForm || !isZero(got) {
				t.Errorf("%d bytes of %x: %v, %v", k, b, got, e)
			}
		}
		if got, e := Read(append(b, byte(r.Intn(256)))); e != api.ErrForm || !isZero(got) {
			t.Errorf("a byte behind %x: %v, %v", b, got, e)
		}
	}
}

// known tells whether b is some record's form, by the library's means.
func known(b []byte) bool {
	form := func(most uint64) (uint64, bool) {
		n, size := binary.Uvarint(b)
		if size <= 0 || len(binary.AppendUvarint(nil, n)) != size || n < 1 || n > most {
			return 0, false
		}
		b = b[size:]
		return n, true
	}
	n, ok := form(64)
	if !ok || n > uint64(len(b)) || !utf8.Valid(b[:n]) {
		return false
	}
	if prepared, e := name.Local(string(b[:n])); e != api.OK || prepared != string(b[:n]) {
		return false
	}
	b = b[n:]
	if n, ok = form(32); !ok || n > uint64(len(b)) {
		return false
	}
	b = b[n:]
	_, ok = form(4096)
	return ok && len(b) == 64
}

// TestP82ReadEveryByte puts every byte into every place of forms: what is read must be what is written so.
func TestP82ReadEveryByte(t *testing.T) {
	r := rand.New(rand.NewSource(85))
	records := []api.Record{
		{User: "a", Salt: []byte("s"), N: 1},
		{User: "äσ", Salt: []byte("\x01\x01"), N: 300},
		{User: times(64, "a"), Salt: random(r, 32), N: 4096},
	}
	taken := 0
	for _, record := range records {
		b := formOf(record)
		for i := range b {
			was := b[i]
			for c := range 256 {
				b[i] = byte(c)
				got, e := Read(b)
				if known(b) {
					taken++
					if e != api.OK || !bytes.Equal(formOf(got), b) {
						t.Errorf("Read(%x): %v, %v", b, got, e)
					}
				} else if e != api.ErrForm || !isZero(got) {
					t.Errorf("Read(%x): %v, %v", b, got, e)
				}
			}
			b[i] = was
		}
	}
	if taken < 1000 {
		t.Error("few were forms:", taken)
	}
}

func TestP83NewRuns(t *testing.T) {
	for _, x := range []struct {
		most    int
		seconds float64
		e       api.Errno
	}{
		{0, 1, api.ErrArg}, {1, nan, api.ErrArg}, {1, -1, api.ErrArg}, {1, minusZero, api.OK},
		{-1, 1, api.ErrArg}, {math.MinInt, 1, api.ErrArg}, {0, nan, api.ErrArg}, {1, -inf, api.ErrArg},
		{1, -math.SmallestNonzeroFloat64, api.ErrArg}, {1, -nan, api.ErrArg}, {1, math.Float64frombits(0xfff8000000000001), api.ErrArg},
		{1, 0, api.OK}, {1, inf, api.OK}, {math.MaxInt, math.MaxFloat64, api.OK}, {1, math.SmallestNonzeroFloat64, api.OK},
	} {
		if d, e := New(x.most, x.seconds); e != x.e || (d == nil) != (e != api.OK) {
			t.Errorf("New(%d, %v): %v", x.most, x.seconds, e)
		}
	}
}

// step is a call of a door, and what it must answer.
type step struct {
	do   string
	user string
	now  float64
	e    api.Errno
}

func (s step) done(d *Door) api.Errno {
	switch s.do {
	case "ask":
		return d.Ask(s.user, s.now)
	case "fail":
		return d.Fail(s.user, s.now)
	}
	d.Pass(s.user)
	return api.OK
}

func walk(t *testing.T, what string, most int, seconds float64, steps []step) {
	t.Helper()
	d, e := New(most, seconds)
	if e != api.OK {
		t.Fatal(what, e)
	}
	for i, s := range steps {
		if e := s.done(d); e != s.e {
			t.Errorf("%s, step %d, %s %q at %v: %v, not %v", what, i, s.do, s.user, s.now, e, s.e)
		}
	}
}

func TestP83DoorRuns(t *testing.T) {
	walk(t, "two", 2, 10, []step{
		{"fail", "a", 5, 0}, {"ask", "a", 5, 0}, {"fail", "a", 6, 0},
		{"ask", "a", 15.5, api.ErrLock}, {"ask", "a", 16, 0}, {"ask", "b", 6, 0},
	})
	walk(t, "for ever", 1, inf, []step{
		{"fail", "a", 0, 0}, {"ask", "a", 1e300, api.ErrLock}, {"ask", "a", inf, 0}, {"ask", "a", nan, api.ErrArg},
	})
	walk(t, "no time", 1, 0, []step{{"fail", "a", 3, 0}, {"ask", "a", 3, 0}})
}

func TestP83ExampleNaN(t *testing.T) {
	walk(t, "NaN", 1, inf, []step{
		{"fail", "a", -inf, 0}, {"ask", "a", -inf, 0}, {"ask", "a", 0, 0}, {"ask", "a", inf, 0},
		{"fail", "a", -inf, 0}, {"ask", "a", -inf, 0}, {"fail", "a", 1, 0}, {"ask", "a", 5, api.ErrLock},
	})
}

func TestP83DoorEdges(t *testing.T) {
	walk(t, "what is refused is not counted", 2, 10, []step{
		{"fail", "a", nan, api.ErrArg}, {"fail", "a", nan, api.ErrArg}, {"ask", "a", 0, 0},
		{"fail", "a", 0, 0}, {"fail", "a", nan, api.ErrArg}, {"ask", "a", 0, 0}, {"fail", "a", 0, 0},
		{"fail", "a", 9, api.ErrLock}, {"fail", "a", 9, api.ErrLock}, {"fail", "a", nan, api.ErrArg},
		{"ask", "a", 10, 0}, {"ask", "a", 9, api.ErrLock}, {"fail", "a", 10, 0}, {"ask", "a", 10, 0},
		{"fail", "a", 10, 0}, {"ask", "a", 19.9, api.ErrLock}, {"ask", "a", 20, 0},
	})
	walk(t, "a lock clears the count", 3, 1, []step{
		{"fail", "a", 0, 0}, {"fail", "a", 0, 0}, {"fail", "a", 0, 0}, {"ask", "a", 0, api.ErrLock},
		{"fail", "a", 1, 0}, {"fail", "a", 1, 0}, {"ask", "a", 1, 0}, {"fail", "a", 1, 0}, {"ask", "a", 1.5, api.ErrLock},
	})
	walk(t, "a pass clears the count alone", 2, 10, []step{
		{"pass", "a", 0, 0}, {"fail", "a", 0, 0}, {"pass", "a", 0, 0}, {"fail", "a", 0, 0}, {"ask", "a", 0, 0},
		{"fail", "a", 0, 0}, {"pass", "a", 0, 0}, {"ask", "a", 9, api.ErrLock}, {"pass", "b", 0, 0}, {"ask", "a", 9, api.ErrLock},
		{"ask", "a", 10, 0}, {"fail", "a", 10, 0}, {"pass", "a", 0, 0}, {"ask", "a", 9, api.ErrLock}, {"fail", "a", 10, 0}, {"ask", "a", 10, 0},
	})
	walk(t, "a pass of another", 2, 10, []step{
		{"fail", "a", 0, 0}, {"pass", "b", 0, 0}, {"fail", "a", 0, 0}, {"ask", "a", 0, api.ErrLock}, {"ask", "b", 0, 0},
	})
	walk(t, "time may go back", 1, 10, []step{
		{"fail", "a", 100, 0}, {"ask", "a", 110, 0}, {"ask", "a", -inf, api.ErrLock}, {"fail", "a", 0, api.ErrLock}, {"ask", "a", 109, api.ErrLock},
	})
	walk(t, "users are not prepared", 1, 10, []step{
		{"fail", "a", 0, 0}, {"ask", "A", 0, 0}, {"ask", "a ", 0, 0}, {"ask", "", 0, 0}, {"fail", "", 0, 0}, {"ask", "", 0, api.ErrLock},
		{"fail", "\xff", 0, 0}, {"ask", "\xff", 0, api.ErrLock}, {"ask", "\xfe", 0, 0}, {"ask", "\ufffd", 0, 0}, {"ask", times(5000, "x"), 0, 0},
		{"fail", times(5000, "x"), 0, 0}, {"ask", times(5000, "x"), 0, api.ErrLock}, {"ask", times(5001, "x"), 0, 0},
	})
	walk(t, "-0", 1, minusZero, []step{
		{"fail", "a", 0, 0}, {"ask", "a", minusZero, 0}, {"ask", "a", 0, 0}, {"ask", "a", -math.SmallestNonzeroFloat64, api.ErrLock}, {"fail", "b", minusZero, 0}, {"ask", "b", minusZero, 0},
	})
	walk(t, "a sum that is rounded", 1, 1, []step{
		{"fail", "a", 1e17, 0}, {"ask", "a", 1e17, 0}, {"fail", "b", 0.1, 0}, {"ask", "b", 1.1, 0}, {"ask", "b", math.Nextafter(1.1, 0), api.ErrLock},
	})
	walk(t, "a sum too great", 1, math.MaxFloat64, []step{
		{"fail", "a", math.MaxFloat64, 0}, {"ask", "a", math.MaxFloat64, api.ErrLock}, {"ask", "a", inf, 0},
	})
	walk(t, "at the ends", 1, 1, []step{
		{"fail", "a", -inf, 0}, {"ask", "a", -inf, 0}, {"fail", "a", inf, 0}, {"ask", "a", inf, 0}, {"ask", "a", math.MaxFloat64, api.ErrLock}, {"ask", "a", -inf, api.ErrLock},
	})
	walk(t, "never", math.MaxInt, inf, []step{{"fail", "a", 0, 0}, {"fail", "a", 0, 0}, {"fail", "a", 0, 0}, {"ask", "a", 0, 0}})
}

// plain is a door as the chapter tells it: two maps, of which nothing goes.
type plain struct {
	most    int
	seconds float64
	count   map[string]int
	until   map[string]float64
}

func (p *plain) ask(user string, now float64) api.Errno {
	until, there := p.until[user]
	if !there {
		until = -inf
	}
	switch {
	case now != now:
		return api.ErrArg
	case now < until:
		return api.ErrLock
	}
	return api.OK
}

func (p *plain) done(s step) api.Errno {
	if s.do == "pass" {
		p.count[s.user] = 0
		return api.OK
	}
	e := p.ask(s.user, s.now)
	if s.do == "ask" || e != api.OK {
		return e
	}
	p.count[s.user]++
	if p.count[s.user] == p.most {
		p.count[s.user] = 0
		p.until[s.user] = s.now + p.seconds
	}
	return api.OK
}

// TestP83DoorWalks goes at random, with time that goes back and forth, beside a plain door.
func TestP83DoorWalks(t *testing.T) {
	r := rand.New(rand.NewSource(86))
	times := []float64{0, minusZero, 1, 1.5, 2, 2.5, 3, 4, 7, -1, inf, -inf, nan, 1e300, math.MaxFloat64}
	calls := []string{"ask", "ask", "fail", "fail", "fail", "pass"}
	seen := map[api.Errno]int{}
	for range 2000 {
		most, seconds := 1+r.Intn(4), []float64{0, minusZero, 1, 1.5, 3, inf, math.MaxFloat64}[r.Intn(7)]
		d, e := New(most, seconds)
		if e != api.OK {
			t.Fatal(e)
		}
		p := plain{most, seconds, map[string]int{}, map[string]float64{}}
		for range 60 {
			s := step{calls[r.Intn(len(calls))], []string{"a", "b", "A", ""}[r.Intn(4)], times[r.Intn(len(times))], 0}
			got, want := s.done(d), p.done(s)
			seen[want]++
			if got != want {
				t.Fatalf("New(%d, %v): %s %q at %v: %v, not %v", most, seconds, s.do, s.user, s.now, got, want)
			}
		}
	}
	if seen[api.ErrLock] < 1000 || seen[api.ErrArg] < 1000 || seen[api.OK] < 1000 {
		t.Error("one-sided:", seen)
	}
}

// TestP83DoorForgets: what no call can tell any more is not kept.
func TestP83DoorForgets(t *testing.T) {
	d, _ := New(2, inf)
	for i := range 100 {
		user := times(i, "x")
		d.Pass(user)
		d.Ask(user, 1)
		d.Fail(user, nan)
		d.Fail(user, 1)
		d.Pass(user)
		d.Fail(user, -inf)
		d.Fail(user, -inf)
	}
	if len(d.users) != 0 {
		t.Error("kept:", len(d.users))
	}
}

func TestP84ReadOfWrite(t *testing.T) {
	r := rand.New(rand.NewSource(87))
	for range 2000 {
		record := randomRecord(r)
		b, e := Write(record)
		if e != api.OK || !bytes.Equal(b, formOf(record)) {
			t.Fatalf("Write(%v): %x, %v", record, b, e)
		}
		if got, e := Read(b); e != api.OK || !same(got, record) {
			t.Fatalf("Read(%x): %v, %v", b, got, e)
		}
	}
	made, e := Make("Ann", "pencil", []byte("salt"), 4096)
	if e != api.OK {
		t.Fatal(e)
	}
	b, _ := Write(made)
	if got, e := Read(b); e != api.OK || !same(got, made) {
		t.Errorf("made: %v, %v", got, e)
	}
}

// TestP84LockedWhateverOthersDo: the others' calls stand between one user's failures.
func TestP84LockedWhateverOthersDo(t *testing.T) {
	r := rand.New(rand.NewSource(88))
	for range 500 {
		most, seconds, now := 1+r.Intn(6), r.ExpFloat64()*100+0.001, r.NormFloat64()*1000
		d, _ := New(most, seconds)
		others := func() {
			for range r.Intn(20) {
				s := step{[]string{"ask", "fail", "pass"}[r.Intn(3)], []string{"b", "A", "", "aa"}[r.Intn(4)], r.NormFloat64() * 1000, 0}
				s.done(d)
			}
		}
		for range most {
			others()
			if e := d.Ask("a", now); e != api.OK {
				t.Fatal("locked too soon:", e)
			}
			if e := d.Fail("a", now); e != api.OK {
				t.Fatal(e)
			}
		}
		others()
		until := now + seconds
		for _, x := range []struct {
			now float64
			e   api.Errno
		}{{now, api.ErrLock}, {math.Nextafter(until, -inf), api.ErrLock}, {until, api.OK}, {math.Nextafter(until, inf), api.OK}} {
			if e := d.Ask("a", x.now); e != x.e {
				t.Errorf("%d fails at %v, %v seconds: at %v %v", most, now, seconds, x.now, e)
			}
		}
	}
}

func TestR2MemoryIsNew(t *testing.T) {
	room := []byte("salt....")
	salt := room[:4]
	user, password := []byte("ann"), []byte("pencil")
	r, e := Make(unsafe.String(&user[0], 3), unsafe.String(&password[0], 6), salt, 2)
	if e != api.OK || string(room) != "salt...." {
		t.Fatal(e, room)
	}
	b, e := Write(r)
	if e != api.OK {
		t.Fatal(e)
	}
	want := bytes.Clone(b)
	copy(room, "XXXXXXXX")
	copy(user, "bob")
	if r.User != "ann" || string(r.Salt) != "salt" {
		t.Error("a record shares memory:", r)
	}
	clear(r.Salt[:cap(r.Salt)])
	if !bytes.Equal(b, want) {
		t.Error("a form shares memory with its record")
	}
	space := append(bytes.Clone(b), "behind"...)
	form := space[:len(b)]
	first, e := Read(form)
	second, f := Read(form)
	if e != api.OK || f != api.OK || !bytes.Equal(space[:len(b)], want) || string(space[len(b):]) != "behind" {
		t.Fatal("Read changed what it was given:", e, f)
	}
	clear(first.Salt[:cap(first.Salt)])
	clear(space)
	if second.User != "ann" || string(second.Salt) != "salt" || first.User != "ann" {
		t.Error("what was read shares memory:", first, second)
	}
}

func TestR2DoorKeepsNoArgument(t *testing.T) {
	d, _ := New(2, 10)
	user := []byte("ann")
	text := unsafe.String(&user[0], 3)
	d.Fail(text, 0)
	d.Fail(text, 0)
	copy(user, "bob")
	if e := d.Ask("ann", 5); e != api.ErrLock {
		t.Error("ann:", e)
	}
	if e := d.Ask("bob", 5); e != api.OK {
		t.Error("bob:", e)
	}
}

func TestR4DoorsAreApart(t *testing.T) {
	a, _ := New(1, 10)
	b, _ := New(1, 10)
	a.Fail("ann", 0)
	if e := b.Ask("ann", 0); e != api.OK {
		t.Error("another door:", e)
	}
	b.Pass("ann")
	if e := a.Ask("ann", 0); e != api.ErrLock {
		t.Error("the same door:", e)
	}
}
