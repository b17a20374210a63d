package roster

import (
	"fmt"
	"math"
	"slices"
	"strings"
	"testing"

	"roost/api"
	"roost/name"
	"roost/subs"
)

// In the tests' names stands which promise they hold.

const (
	most    = 10000
	tooHigh = 1 << 62
)

func long(n int) string { return strings.Repeat("x", n) }

func made(t testing.TB, items, asks int) *Roster {
	t.Helper()
	r, e := New(items, asks)
	if r == nil || e != api.OK {
		t.Fatalf("New(%d, %d): %v", items, asks, e)
	}
	return r
}

func opened(t testing.TB, b api.Book) *Roster {
	t.Helper()
	r, e := Load(b)
	if r == nil || e != api.OK {
		t.Fatalf("Load(%s): %v", bookText(b), e)
	}
	return r
}

// entryText is an entry as a text, in which a list that is nil is an empty one.
func entryText(x api.Entry) string {
	return fmt.Sprintf("%q %v %q %q %v", x.Contact, x.Kept, x.Name, x.Groups, x.Half)
}

func entriesText(l []api.Entry) string {
	var texts []string
	for _, x := range l {
		texts = append(texts, entryText(x))
	}
	return strings.Join(texts, "; ")
}

func bookText(b api.Book) string {
	return fmt.Sprintf("bounds %d %d, Ver %d, Next %d: %s", b.Items, b.Asks, b.Ver, b.Next, entriesText(b.Entries))
}

func copyOf(b api.Book) api.Book {
	b.Entries = slices.Clone(b.Entries)
	for i, x := range b.Entries {
		b.Entries[i].Groups = slices.Clone(x.Groups)
	}
	return b
}

func contactsOf(b api.Book, so func(api.Half) bool) []string {
	var l []string
	for _, x := range b.Entries {
		if so(x.Half) {
			l = append(l, x.Contact)
		}
	}
	return l
}

// is asks that all that a roster tells is what this book says.
func is(t testing.TB, r *Roster, b api.Book) {
	t.Helper()
	if got, want := bookText(r.Book()), bookText(b); got != want {
		t.Fatalf("the book: %s\nnot %s", got, want)
	}
	if r.Ver() != b.Ver {
		t.Fatalf("Ver: %d, not %d", r.Ver(), b.Ver)
	}
	var items []api.Entry
	for _, x := range b.Entries {
		gets(t, r, x.Contact, x, true)
		if x.Kept {
			items = append(items, x)
		}
	}
	if got, want := entriesText(r.Items()), entriesText(items); got != want {
		t.Fatalf("Items: %s\nnot %s", got, want)
	}
	tells(t, "Waiting", r.Waiting(), contactsOf(b, func(h api.Half) bool { return h.In == api.Open }))
	tells(t, "Seeing", r.Seeing(), contactsOf(b, func(h api.Half) bool { return h.In == api.Whole }))
	tells(t, "Seen", r.Seen(), contactsOf(b, func(h api.Half) bool { return h.Out == api.Whole }))
}

func tells(t testing.TB, what string, got, want []string) {
	t.Helper()
	if !slices.Equal(got, want) {
		t.Fatalf("%s: %q, not %q", what, got, want)
	}
}

func gets(t testing.TB, r *Roster, contact string, want api.Entry, there bool) {
	t.Helper()
	got, ok := r.Get(contact)
	if entryText(got) != entryText(want) || ok != there {
		t.Fatalf("Get(%.70q): %s, %v, not %s, %v", contact, entryText(got), ok, entryText(want), there)
	}
}

func puts(t testing.TB, r *Roster, contact, name string, groups []string, want api.Entry, e api.Errno) {
	t.Helper()
	got, f := r.Put(contact, name, groups)
	if entryText(got) != entryText(want) || f != e {
		t.Fatalf("Put(%.70q, %.70q, %.70q): %s, %v, not %s, %v", contact, name, groups, entryText(got), f, entryText(want), e)
	}
}

// refuses asks that a Put is refused.
func refuses(t testing.TB, r *Roster, contact, name string, groups []string, e api.Errno) {
	t.Helper()
	puts(t, r, contact, name, groups, api.Entry{}, e)
}

func drops(t testing.TB, r *Roster, contact string, want api.Entry, e api.Errno) {
	t.Helper()
	got, f := r.Drop(contact)
	if entryText(got) != entryText(want) || f != e {
		t.Fatalf("Drop(%.70q): %s, %v, not %s, %v", contact, entryText(got), f, entryText(want), e)
	}
}

func acts(t testing.TB, r *Roster, contact string, kind, mail int, n uint64, changed bool, e api.Errno) {
	t.Helper()
	gotMail, gotN, gotChanged, f := r.Act(contact, kind)
	if gotMail != mail || gotN != n || gotChanged != changed || f != e {
		t.Fatalf("Act(%.70q, %d): %d, %d, %v, %v, not %d, %d, %v, %v", contact, kind, gotMail, gotN, gotChanged, f, mail, n, changed, e)
	}
}

func hears(t testing.TB, r *Roster, contact string, mail int, n uint64, want api.Heard, e api.Errno) {
	t.Helper()
	got, f := r.Hear(contact, mail, n)
	if got != want || f != e {
		t.Fatalf("Hear(%.70q, %d, %d): %v, %v, not %v, %v", contact, mail, n, got, f, want, e)
	}
}

func item(contact, name string, half api.Half, groups ...string) api.Entry {
	return api.Entry{Contact: contact, Kept: true, Name: name, Groups: groups, Half: half}
}

func request(contact string, n uint64) api.Entry {
	return api.Entry{Contact: contact, Half: api.Half{In: api.Open, M: n}}
}

func TestRuns(t *testing.T) {
	r := made(t, 1, 1)
	puts(t, r, "Bob", "B", []string{"y", "x", "y"}, item("bob", "B", api.Half{}, "x", "y"), api.OK)
	is(t, r, api.Book{Items: 1, Asks: 1, Ver: 1, Entries: []api.Entry{item("bob", "B", api.Half{}, "x", "y")}})
	refuses(t, r, "cyd", "", nil, api.ErrFull)
	refuses(t, r, "a b", "", nil, api.ErrName)
	refuses(t, r, "bob", long(65), nil, api.ErrBig)

	r = made(t, 2, 1)
	acts(t, r, "bob", api.Ask, api.MailAsk, 1, true, api.OK)
	acts(t, r, "bob", api.Ask, 0, 0, false, api.OK)
	hears(t, r, "bob", api.MailGrant, 1, api.Heard{Tell: api.Granted, Changed: true}, api.OK)
	tells(t, "Seen", r.Seen(), []string{"bob"})

	r = made(t, 0, 1)
	hears(t, r, "bob", api.MailAsk, 7, api.Heard{Tell: api.Asked}, api.OK)
	hears(t, r, "cyd", api.MailAsk, 8, api.Heard{Deny: true}, api.OK)
	acts(t, r, "bob", api.Grant, 0, 0, false, api.ErrFull)
	tells(t, "Waiting", r.Waiting(), []string{"bob"})
	acts(t, r, "bob", api.Deny, api.MailDeny, 7, false, api.OK)
	gets(t, r, "bob", api.Entry{}, false)
	drops(t, r, "bob", api.Entry{}, api.ErrNone)
	is(t, r, api.Book{Asks: 1})
}

func TestExamplesRequestIsNoItem(t *testing.T) {
	r := made(t, 1, 1)
	hears(t, r, "bob", api.MailAsk, 7, api.Heard{Tell: api.Asked}, api.OK)
	is(t, r, api.Book{Items: 1, Asks: 1, Entries: []api.Entry{request("bob", 7)}})
	acts(t, r, "bob", api.Grant, api.MailGrant, 7, true, api.OK)
	bob := item("bob", "", api.Half{In: api.Whole, M: 7})
	is(t, r, api.Book{Items: 1, Asks: 1, Ver: 1, Entries: []api.Entry{bob}})
}

// What is dropped is not there any more, so that nothing that comes later sends the mails that Drop did not send.
func TestExamplesDropSendsNothing(t *testing.T) {
	both := api.Half{Out: api.Whole, N: 3, In: api.Whole, M: 9}
	r := opened(t, api.Book{Items: 1, Ver: 5, Next: 4, Entries: []api.Entry{item("bob", "B", both, "x")}})
	drops(t, r, "bob", item("bob", "B", both, "x"), api.OK)
	acts(t, r, "bob", api.Leave, 0, 0, false, api.OK)
	acts(t, r, "bob", api.Deny, 0, 0, false, api.OK)
	is(t, r, api.Book{Items: 1, Ver: 6, Next: 4})
}

func TestP161New(t *testing.T) {
	edges := []int{math.MinInt, -1, 0, 1, most - 1, most, most + 1, math.MaxInt}
	for _, items := range edges {
		for _, asks := range edges {
			r, e := New(items, asks)
			if items < 0 || items > most || asks < 0 || asks > most {
				if r != nil || e != api.ErrArg {
					t.Errorf("New(%d, %d): %v, %v", items, asks, r, e)
				}
				if r, e := Load(api.Book{Items: items, Asks: asks}); r != nil || e != api.ErrArg {
					t.Errorf("Load of bounds %d, %d: %v, %v", items, asks, r, e)
				}
				continue
			}
			if e != api.OK {
				t.Fatalf("New(%d, %d): %v", items, asks, e)
			}
			is(t, r, api.Book{Items: items, Asks: asks})
			is(t, opened(t, api.Book{Items: items, Asks: asks}), api.Book{Items: items, Asks: asks})
		}
	}
}

// loads asks whether a book is taken, and, if it is, that it is told again.
func loads(t testing.TB, what string, b api.Book, ok bool) {
	t.Helper()
	before := bookText(b)
	r, e := Load(b)
	if bookText(b) != before {
		t.Fatalf("%s: the book was changed", what)
	}
	if !ok {
		if r != nil || e != api.ErrArg {
			t.Errorf("%s: %v, not ErrArg: %s", what, e, bookText(b))
		}
		return
	}
	if r == nil || e != api.OK {
		t.Fatalf("%s: %v: %s", what, e, bookText(b))
	}
	is(t, r, b)
}

func TestP161LoadNumbers(t *testing.T) {
	for _, n := range []uint64{0, 1, 1 << 31, tooHigh - 1, tooHigh, tooHigh + 1, 1 << 63, math.MaxUint64} {
		loads(t, fmt.Sprint("Ver ", n), api.Book{Ver: n}, n < tooHigh)
		loads(t, fmt.Sprint("Next ", n), api.Book{Next: n}, n < tooHigh)
	}
	for _, next := range []uint64{0, 1, 5, tooHigh - 1} {
		for _, n := range []uint64{1, 4, 5, 6, tooHigh - 1, tooHigh, math.MaxUint64} {
			for out := api.Open; out <= api.Whole; out++ {
				b := api.Book{Items: 1, Next: next, Entries: []api.Entry{item("bob", "", api.Half{Out: out, N: n})}}
				loads(t, fmt.Sprintf("N %d, Next %d", n, next), b, n <= next)
			}
		}
	}
	// The number of what the other asked is theirs.
	for _, m := range []uint64{1, tooHigh, math.MaxUint64} {
		loads(t, fmt.Sprint("M ", m), api.Book{Asks: 1, Entries: []api.Entry{request("bob", m)}}, true)
		loads(t, fmt.Sprint("M ", m), api.Book{Items: 1, Entries: []api.Entry{item("bob", "", api.Half{In: api.Whole, M: m})}}, true)
	}
}

func TestP161LoadHalves(t *testing.T) {
	right := func(state int, n uint64) bool {
		return 0 <= state && state <= 2 && (state == 0) == (n == 0)
	}
	states := []int{math.MinInt, -1, 0, 1, 2, 3, math.MaxInt}
	for _, out := range states {
		for _, in := range states {
			for bits := range 4 {
				h := api.Half{Out: out, N: uint64(bits % 2), In: in, M: uint64(bits / 2)}
				ok := right(h.Out, h.N) && right(h.In, h.M)
				kept := api.Book{Items: 1, Next: 1, Entries: []api.Entry{item("bob", "", h)}}
				loads(t, "a half of an item", kept, ok)
				other := api.Book{Asks: 1, Next: 1, Entries: []api.Entry{{Contact: "bob", Half: h}}}
				loads(t, "a half of a request", other, ok && h.Out == api.None && h.In != api.None)
			}
		}
	}
}

func TestP161LoadOrder(t *testing.T) {
	for _, x := range []struct {
		contacts []string
		ok       bool
	}{
		{nil, true},
		{[]string{"a"}, true},
		{[]string{"-", ".", "0", "_", "a", "a.b", "ab", "b", "z", "ß", "ä", "σ", "я"}, true},
		{[]string{"a", "a"}, false},
		{[]string{"b", "a"}, false},
		{[]string{"a", "c", "b"}, false},
		{[]string{"a", "b", "a"}, false},
		{[]string{"ab", "a"}, false},
		{[]string{"ä", "z"}, false},
		{[]string{""}, false},
		{[]string{"", "a"}, false},
		{[]string{"A"}, false},
		{[]string{"Ä"}, false},
		{[]string{"a", "B"}, false},
		{[]string{"a b"}, false},
		{[]string{"a@x"}, false},
		{[]string{"\xff"}, false},
		{[]string{"a", "b\xc3"}, false},
		{[]string{long(64)}, true},
		{[]string{long(65)}, false},
	} {
		items, asks := api.Book{Items: 20}, api.Book{Asks: 20}
		for _, c := range x.contacts {
			items.Entries = append(items.Entries, item(c, "", api.Half{}))
			asks.Entries = append(asks.Entries, request(c, 1))
		}
		loads(t, "items", items, x.ok)
		loads(t, "requests", asks, x.ok)
	}
}

func TestP161LoadTexts(t *testing.T) {
	eight := []string{"1", "2", "3", "4", "5", "6", "7", "8"}
	for _, x := range []struct {
		name   string
		groups []string
		ok     bool
	}{
		{"", nil, true},
		{"", []string{}, true},
		{"B", nil, true},
		{"", []string{"x"}, true},
		{long(64), []string{long(64)}, true},
		{long(65), nil, false},
		{strings.Repeat("ä", 32), []string{strings.Repeat("ä", 32)}, true},
		{strings.Repeat("ä", 33), nil, false},
		{"", []string{strings.Repeat("ä", 33)}, false},
		{"\xff", nil, false},
		{"a\xed\xa0\x80", nil, false},
		{"a\x00\n�", []string{"\x00", "�"}, true},
		{"", eight, true},
		{"", append(slices.Clone(eight), "9"), false},
		{"", []string{long(65)}, false},
		{"", []string{""}, false},
		{"", []string{"a", ""}, false},
		{"", []string{"", "a"}, false},
		{"", []string{"a", "\xff"}, false},
		{"", []string{"a", "b", "a"}, false},
		{"", []string{"b", "a"}, false},
		{"", []string{"a", "a"}, false},
		{"", []string{"ab", "a"}, false},
		{"", []string{"B", "a", "ab", "z", "ä"}, true},
	} {
		b := api.Book{Items: 1, Asks: 1, Entries: []api.Entry{item("bob", x.name, api.Half{In: api.Open, M: 1}, x.groups...)}}
		loads(t, "an item's texts", b, x.ok)
		b.Entries[0].Kept = false
		loads(t, "a request's texts", b, x.ok && x.name == "" && len(x.groups) == 0)
	}
}

func TestP161LoadBounds(t *testing.T) {
	entries := []api.Entry{item("a", "", api.Half{}), request("b", 2), item("c", "C", api.Half{In: api.Open, M: 1}), request("d", 3), request("e", 1)}
	for items := range 4 {
		for asks := range 5 {
			b := api.Book{Items: items, Asks: asks, Entries: entries}
			loads(t, "bounds", b, items >= 2 && asks >= 3)
		}
	}
	// One entry that is wrong is enough, wherever it stands.
	for i := range entries {
		b := copyOf(api.Book{Items: 5, Asks: 5, Entries: entries})
		b.Entries[i].Half.M++
		if b.Entries[i].Half.In == api.None {
			loads(t, "one wrong", b, false)
		}
		b.Entries[i].Half = api.Half{Out: 3}
		loads(t, "one wrong", b, false)
	}
}

func TestP161LoadMany(t *testing.T) {
	b := api.Book{Items: most, Asks: most}
	for i := range most {
		b.Entries = append(b.Entries, item(fmt.Sprintf("a%05d", i), "", api.Half{}))
	}
	for i := range most {
		b.Entries = append(b.Entries, request(fmt.Sprintf("b%05d", i), 1))
	}
	r := opened(t, b)
	is(t, r, b)
	refuses(t, r, "c", "", nil, api.ErrFull)
	hears(t, r, "c", api.MailAsk, 1, api.Heard{Deny: true}, api.OK)
	full := b
	for _, more := range []api.Entry{item("c", "", api.Half{}), request("c", 1)} {
		full.Entries = append(slices.Clone(b.Entries), more)
		loads(t, "one too many", full, false)
	}
}

func TestP162Order(t *testing.T) {
	contacts := []struct {
		text string
		e    api.Errno
	}{{"bob", api.OK}, {"a b", api.ErrName}, {"", api.ErrName}, {"\xff", api.ErrName}, {long(65), api.ErrBig}, {strings.Repeat("\xff", 65), api.ErrBig}}
	names := []struct {
		text string
		e    api.Errno
	}{{"", api.OK}, {long(64), api.OK}, {long(65), api.ErrBig}, {"\xff", api.ErrName}, {strings.Repeat("\xff", 65), api.ErrBig}}
	lists := []struct {
		groups []string
		e      api.Errno
	}{
		{nil, api.OK},
		{[]string{"b", long(64), "a"}, api.OK},
		{make([]string, 8), api.ErrName},
		{make([]string, 9), api.ErrBig},
		{slices.Repeat([]string{"a"}, 8), api.OK},
		{slices.Repeat([]string{"a"}, 9), api.ErrBig},
		{slices.Repeat([]string{"\xff"}, 9), api.ErrBig},
		{[]string{long(65)}, api.ErrBig},
		{[]string{strings.Repeat("\xff", 65)}, api.ErrBig},
		{[]string{"a", long(65), ""}, api.ErrBig},
		{[]string{"a", "", long(65)}, api.ErrName},
		{[]string{"\xff", long(65)}, api.ErrName},
		{[]string{"a", "b", "c\xc3"}, api.ErrName},
	}
	for _, full := range []bool{false, true} {
		for _, c := range contacts {
			for _, n := range names {
				for _, l := range lists {
					e := api.OK
					if full {
						e = api.ErrFull
					}
					for _, first := range []api.Errno{l.e, n.e, c.e} {
						if first != api.OK {
							e = first
						}
					}
					r := made(t, 1, 0)
					if full {
						puts(t, r, "cyd", "", nil, item("cyd", "", api.Half{}), api.OK)
					}
					before := r.Book()
					if e != api.OK {
						refuses(t, r, c.text, n.text, l.groups, e)
						is(t, r, before)
						continue
					}
					groups := slices.Compact(slices.Sorted(slices.Values(l.groups)))
					want := item(c.text, n.text, api.Half{}, groups...)
					puts(t, r, c.text, n.text, l.groups, want, api.OK)
					is(t, r, api.Book{Items: 1, Ver: 1, Entries: []api.Entry{want}})
				}
			}
		}
	}
}

func TestP162Texts(t *testing.T) {
	r := made(t, 1, 0)
	for i, x := range []struct {
		name         string
		groups, want []string
		e            api.Errno
	}{
		{strings.Repeat("ä", 32), nil, nil, api.OK},
		{strings.Repeat("ä", 33), nil, nil, api.ErrBig},
		{"", []string{strings.Repeat("ä", 32)}, []string{strings.Repeat("ä", 32)}, api.OK},
		{"", []string{strings.Repeat("ä", 33)}, nil, api.ErrBig},
		{"A b\x00�", []string{"B", "ä", "b", "z", "ab", "a"}, []string{"B", "a", "ab", "b", "z", "ä"}, api.OK},
		{"", []string{"8", "7", "6", "5", "4", "3", "2", "1"}, []string{"1", "2", "3", "4", "5", "6", "7", "8"}, api.OK},
		{"", []string{"y", "x", "y", "x", "x"}, []string{"x", "y"}, api.OK},
		{"", []string{}, nil, api.OK},
	} {
		ver := r.Ver()
		if x.e != api.OK {
			refuses(t, r, "bob", x.name, x.groups, x.e)
		} else {
			puts(t, r, "bob", x.name, x.groups, item("bob", x.name, api.Half{}, x.want...), api.OK)
			ver++
		}
		if r.Ver() != ver {
			t.Errorf("row %d: Ver %d, not %d", i, r.Ver(), ver)
		}
	}
}

// A Put that changes nothing raises Ver too; the half stays as it was, of an item and of a request.
func TestP162Again(t *testing.T) {
	half := api.Half{Out: api.Whole, N: 2, In: api.Open, M: 8}
	r := opened(t, api.Book{Items: 2, Asks: 2, Ver: 4, Next: 3, Entries: []api.Entry{item("bob", "B", half, "x"), request("cyd", 7)}})
	puts(t, r, "BOB", "B", []string{"x"}, item("bob", "B", half, "x"), api.OK)
	puts(t, r, "Bob", "", nil, item("bob", "", half), api.OK)
	puts(t, r, "Cyd", "C", []string{"y"}, item("cyd", "C", api.Half{In: api.Open, M: 7}, "y"), api.OK)
	want := []api.Entry{item("bob", "", half), item("cyd", "C", api.Half{In: api.Open, M: 7}, "y")}
	is(t, r, api.Book{Items: 2, Asks: 2, Ver: 7, Next: 3, Entries: want})
	// An item needs no room, though there is none.
	puts(t, r, "cyd", "", nil, item("cyd", "", api.Half{In: api.Open, M: 7}), api.OK)
	refuses(t, r, "dan", "", nil, api.ErrFull)
}

// A request that becomes an item makes room for another one.
func TestP162RoomOfRequests(t *testing.T) {
	r := made(t, 1, 1)
	hears(t, r, "bob", api.MailAsk, 1, api.Heard{Tell: api.Asked}, api.OK)
	hears(t, r, "cyd", api.MailAsk, 1, api.Heard{Deny: true}, api.OK)
	puts(t, r, "bob", "", nil, item("bob", "", api.Half{In: api.Open, M: 1}), api.OK)
	hears(t, r, "cyd", api.MailAsk, 2, api.Heard{Tell: api.Asked}, api.OK)
	refuses(t, r, "cyd", "", nil, api.ErrFull)
	is(t, r, api.Book{Items: 1, Asks: 1, Ver: 1, Entries: []api.Entry{item("bob", "", api.Half{In: api.Open, M: 1}), request("cyd", 2)}})
}

func TestP163Drop(t *testing.T) {
	half := api.Half{Out: api.Open, N: 2, In: api.Whole, M: 8}
	b := api.Book{Items: 2, Asks: 1, Ver: 4, Next: 2, Entries: []api.Entry{item("ann", "A", half, "x", "y"), item("bob", "", api.Half{}), request("cyd", 7)}}
	r := opened(t, b)
	for _, x := range []struct {
		contact string
		e       api.Errno
	}{{"", api.ErrName}, {"a b", api.ErrName}, {"\xff", api.ErrName}, {long(65), api.ErrBig}, {"dan", api.ErrNone}, {"cyd", api.ErrNone}} {
		drops(t, r, x.contact, api.Entry{}, x.e)
		is(t, r, b)
	}
	drops(t, r, "ANN", item("ann", "A", half, "x", "y"), api.OK)
	is(t, r, api.Book{Items: 2, Asks: 1, Ver: 5, Next: 2, Entries: b.Entries[1:]})
	drops(t, r, "ann", api.Entry{}, api.ErrNone)
	drops(t, r, "bob", item("bob", "", api.Half{}), api.OK)
	is(t, r, api.Book{Items: 2, Asks: 1, Ver: 6, Next: 2, Entries: b.Entries[2:]})
	// There is room again, and nothing of what was is left.
	puts(t, r, "ann", "", nil, item("ann", "", api.Half{}), api.OK)
	acts(t, r, "bob", api.Ask, api.MailAsk, 3, true, api.OK)
	refuses(t, r, "dan", "", nil, api.ErrFull)
}

func TestP163Get(t *testing.T) {
	r := opened(t, api.Book{Items: 1, Asks: 1, Entries: []api.Entry{item("äb", "A", api.Half{}, "x"), request("σα", 7)}})
	gets(t, r, "ÄB", item("äb", "A", api.Half{}, "x"), true)
	gets(t, r, "ΣΑ", request("σα", 7), true)
	for _, contact := range []string{"", "a b", "\xff", long(65), "b", "äb "} {
		gets(t, r, contact, api.Entry{}, false)
	}
}

// plain is a roster as a book alone, to which the chapter's words are done by going through its entries one by one.
type plain struct{ api.Book }

func (p *plain) of(contact string) (entry api.Entry, there bool) {
	for _, x := range p.Entries {
		if x.Contact == contact {
			return x, true
		}
	}
	return api.Entry{Contact: contact}, false
}

func (p *plain) count(kept bool) (n int) {
	for _, x := range p.Entries {
		if x.Kept == kept {
			n++
		}
	}
	return n
}

func (p *plain) without(contact string) {
	var left []api.Entry
	for _, x := range p.Entries {
		if x.Contact != contact {
			left = append(left, x)
		}
	}
	p.Entries = left
}

func (p *plain) with(entry api.Entry) {
	p.without(entry.Contact)
	p.Entries = append(p.Entries, entry)
	slices.SortFunc(p.Entries, func(a, b api.Entry) int { return strings.Compare(a.Contact, b.Contact) })
}

func (p *plain) put(contact, text string, groups []string) (api.Entry, api.Errno) {
	contact, e := name.Local(contact)
	if e != api.OK {
		return api.Entry{}, e
	}
	x, _ := p.of(contact)
	if !x.Kept && p.count(true) == p.Items {
		return api.Entry{}, api.ErrFull
	}
	x.Kept, x.Name, x.Groups = true, text, slices.Compact(slices.Sorted(slices.Values(groups)))
	p.with(x)
	p.Ver++
	return x, api.OK
}

func (p *plain) drop(contact string) (api.Entry, api.Errno) {
	contact, e := name.Local(contact)
	if e != api.OK {
		return api.Entry{}, e
	}
	x, _ := p.of(contact)
	if !x.Kept {
		return api.Entry{}, api.ErrNone
	}
	p.without(contact)
	p.Ver++
	return x, api.OK
}

func (p *plain) act(contact string, kind int) (mail int, n uint64, changed bool, e api.Errno) {
	contact, e = name.Local(contact)
	if e != api.OK {
		return 0, 0, false, e
	}
	if kind != api.Ask && kind != api.Grant && kind != api.Leave && kind != api.Deny {
		return 0, 0, false, api.ErrArg
	}
	x, _ := p.of(contact)
	half, mail, n, _ := subs.Act(x.Half, kind, p.Next+1)
	if mail == 0 {
		return 0, 0, false, api.OK
	}
	x.Half = half
	switch kind {
	case api.Ask, api.Grant:
		if !x.Kept && p.count(true) == p.Items {
			return 0, 0, false, api.ErrFull
		}
		x.Kept = true
		p.with(x)
		if kind == api.Ask {
			p.Next++
		}
	default:
		p.with(x)
		if !x.Kept && half.In == api.None {
			p.without(contact)
		}
	}
	if x.Kept {
		p.Ver++
	}
	return mail, n, x.Kept, api.OK
}

func (p *plain) hear(contact string, mail int, n uint64) (heard api.Heard, e api.Errno) {
	contact, e = name.Local(contact)
	if e != api.OK {
		return api.Heard{}, e
	}
	if mail < api.MailAsk || mail > api.MailDeny || n == 0 {
		return api.Heard{}, api.ErrArg
	}
	x, there := p.of(contact)
	if mail == api.MailAsk && !there && p.count(false) == p.Asks {
		return api.Heard{Deny: true}, api.OK
	}
	half, tell, _ := subs.Hear(x.Half, mail, n)
	heard.Tell = tell
	if x.Kept && half != x.Half {
		heard.Changed = true
		p.Ver++
	}
	x.Half = half
	if x.Kept || half.In != api.None {
		p.with(x)
	} else {
		p.without(contact)
	}
	return heard, api.OK
}

// everyBook calls do with each book in which bob is in each state there is, or not there, and others take some of the room or all of it.
func everyBook(do func(b api.Book)) {
	bobs := [][]api.Entry{nil, {request("bob", 7)}, {{Contact: "bob", Half: api.Half{In: api.Whole, M: 7}}}}
	for out := range 3 {
		for in := range 3 {
			h := api.Half{Out: out, In: in}
			if out != api.None {
				h.N = 5
			}
			if in != api.None {
				h.M = 7
			}
			bobs = append(bobs, []api.Entry{item("bob", "B", h, "x", "y")})
		}
	}
	for _, bob := range bobs {
		for others := range 4 {
			for room := range 4 {
				var entries []api.Entry
				if others%2 == 1 {
					entries = append(entries, item("ann", "A", api.Half{Out: api.Whole, N: 4, In: api.Open, M: 7}, "z"))
				}
				entries = append(entries, bob...)
				if others/2 == 1 {
					entries = append(entries, request("cyd", 7))
				}
				p := plain{api.Book{Ver: 20, Next: 6, Entries: entries}}
				p.Items, p.Asks = p.count(true)+room%2, p.count(false)+room/2
				do(p.Book)
			}
		}
	}
}

func TestP164EveryState(t *testing.T) {
	kinds := []int{api.Ask, api.Grant, api.Leave, api.Deny, api.Drop, api.Rules, 0, -1, api.Asked, math.MinInt, math.MaxInt}
	everyBook(func(b api.Book) {
		for _, contact := range []string{"bob", "BOB", "b b", "", long(65)} {
			for _, kind := range kinds {
				r, p := opened(t, b), plain{copyOf(b)}
				mail, n, changed, e := p.act(contact, kind)
				acts(t, r, contact, kind, mail, n, changed, e)
				is(t, r, p.Book)
			}
		}
	})
}

// The numbers of requests rise over all contacts, and only by an Ask that is sent.
func TestP164Numbers(t *testing.T) {
	r := made(t, 3, 3)
	acts(t, r, "ann", api.Ask, api.MailAsk, 1, true, api.OK)
	acts(t, r, "bob", api.Ask, api.MailAsk, 2, true, api.OK)
	acts(t, r, "bob", api.Ask, 0, 0, false, api.OK)
	acts(t, r, "bob", api.Leave, api.MailLeave, 2, true, api.OK)
	acts(t, r, "bob", api.Leave, 0, 0, false, api.OK)
	hears(t, r, "cyd", api.MailAsk, 50, api.Heard{Tell: api.Asked}, api.OK)
	acts(t, r, "cyd", api.Grant, api.MailGrant, 50, true, api.OK)
	acts(t, r, "dan", api.Ask, 0, 0, false, api.ErrFull)
	acts(t, r, "bob", api.Ask, api.MailAsk, 3, true, api.OK)
	hears(t, r, "bob", api.MailGrant, 2, api.Heard{}, api.OK)
	hears(t, r, "bob", api.MailGrant, 3, api.Heard{Tell: api.Granted, Changed: true}, api.OK)
	drops(t, r, "bob", item("bob", "", api.Half{Out: api.Whole, N: 3}), api.OK)
	acts(t, r, "bob", api.Ask, api.MailAsk, 4, true, api.OK)
	is(t, r, api.Book{Items: 3, Asks: 3, Ver: 8, Next: 4, Entries: []api.Entry{
		item("ann", "", api.Half{Out: api.Open, N: 1}),
		item("bob", "", api.Half{Out: api.Open, N: 4}),
		item("cyd", "", api.Half{In: api.Whole, M: 50}),
	}})
}

// Who is asked first and asks then is an item already: it takes none of the requests' room.
func TestP164AskOfARequest(t *testing.T) {
	r := made(t, 1, 1)
	hears(t, r, "bob", api.MailAsk, 9, api.Heard{Tell: api.Asked}, api.OK)
	acts(t, r, "bob", api.Ask, api.MailAsk, 1, true, api.OK)
	hears(t, r, "cyd", api.MailAsk, 9, api.Heard{Tell: api.Asked}, api.OK)
	acts(t, r, "cyd", api.Ask, 0, 0, false, api.ErrFull)
	acts(t, r, "bob", api.Deny, api.MailDeny, 9, true, api.OK)
	acts(t, r, "bob", api.Leave, api.MailLeave, 1, true, api.OK)
	is(t, r, api.Book{Items: 1, Asks: 1, Ver: 3, Next: 1, Entries: []api.Entry{item("bob", "", api.Half{}), request("cyd", 9)}})
}

func TestP164HighestNumber(t *testing.T) {
	r := opened(t, api.Book{Items: 1, Ver: tooHigh - 1, Next: tooHigh - 1})
	acts(t, r, "bob", api.Ask, api.MailAsk, tooHigh, true, api.OK)
	b := api.Book{Items: 1, Ver: tooHigh, Next: tooHigh, Entries: []api.Entry{item("bob", "", api.Half{Out: api.Open, N: tooHigh})}}
	is(t, r, b)
	loads(t, "numbers that are too high", b, false)
}

func TestP165EveryState(t *testing.T) {
	everyBook(func(b api.Book) {
		for _, contact := range []string{"bob", "BOB", "b b", "", long(65)} {
			for _, mail := range []int{api.MailAsk, api.MailLeave, api.MailGrant, api.MailDeny, 0, -1, api.MailHere, api.MailShare, math.MinInt, math.MaxInt} {
				for _, n := range []uint64{0, 1, 5, 7, 8, math.MaxUint64} {
					r, p := opened(t, b), plain{copyOf(b)}
					heard, e := p.hear(contact, mail, n)
					hears(t, r, contact, mail, n, heard, e)
					is(t, r, p.Book)
				}
			}
		}
	})
}

func TestP165Deny(t *testing.T) {
	r := made(t, 1, 0)
	hears(t, r, "bob", api.MailAsk, 1, api.Heard{Deny: true}, api.OK)
	hears(t, r, "bob", api.MailAsk, 0, api.Heard{}, api.ErrArg)
	hears(t, r, "b b", api.MailAsk, 1, api.Heard{}, api.ErrName)
	hears(t, r, long(65), api.MailAsk, 0, api.Heard{}, api.ErrBig)
	for _, mail := range []int{api.MailLeave, api.MailGrant, api.MailDeny} {
		hears(t, r, "bob", mail, 1, api.Heard{}, api.OK)
	}
	is(t, r, api.Book{Items: 1})
	// An item may ask, whatever room there is for requests.
	puts(t, r, "bob", "", nil, item("bob", "", api.Half{}), api.OK)
	hears(t, r, "bob", api.MailAsk, 1, api.Heard{Tell: api.Asked, Changed: true}, api.OK)
	is(t, r, api.Book{Items: 1, Ver: 2, Entries: []api.Entry{item("bob", "", api.Half{In: api.Open, M: 1})}})
}

// The same request again is told again, but it changes nothing; another number does.
func TestP165AskAgain(t *testing.T) {
	r := made(t, 1, 1)
	puts(t, r, "ann", "", nil, item("ann", "", api.Half{}), api.OK)
	hears(t, r, "ann", api.MailAsk, 5, api.Heard{Tell: api.Asked, Changed: true}, api.OK)
	hears(t, r, "ann", api.MailAsk, 5, api.Heard{Tell: api.Asked}, api.OK)
	hears(t, r, "ann", api.MailAsk, 6, api.Heard{Tell: api.Asked, Changed: true}, api.OK)
	hears(t, r, "bob", api.MailAsk, 5, api.Heard{Tell: api.Asked}, api.OK)
	hears(t, r, "bob", api.MailAsk, 6, api.Heard{Tell: api.Asked}, api.OK)
	is(t, r, api.Book{Items: 1, Asks: 1, Ver: 3, Entries: []api.Entry{item("ann", "", api.Half{In: api.Open, M: 6}), request("bob", 6)}})
}

// A request that is taken back is gone, and makes room; an item stays.
func TestP165Leave(t *testing.T) {
	r := made(t, 1, 1)
	puts(t, r, "ann", "A", nil, item("ann", "A", api.Half{}), api.OK)
	hears(t, r, "ann", api.MailAsk, 5, api.Heard{Tell: api.Asked, Changed: true}, api.OK)
	hears(t, r, "bob", api.MailAsk, 5, api.Heard{Tell: api.Asked}, api.OK)
	hears(t, r, "bob", api.MailLeave, 4, api.Heard{}, api.OK)
	hears(t, r, "cyd", api.MailAsk, 5, api.Heard{Deny: true}, api.OK)
	hears(t, r, "bob", api.MailLeave, 5, api.Heard{Tell: api.Left}, api.OK)
	gets(t, r, "bob", api.Entry{}, false)
	hears(t, r, "cyd", api.MailAsk, 5, api.Heard{Tell: api.Asked}, api.OK)
	hears(t, r, "ann", api.MailLeave, 5, api.Heard{Tell: api.Left, Changed: true}, api.OK)
	is(t, r, api.Book{Items: 1, Asks: 1, Ver: 3, Entries: []api.Entry{item("ann", "A", api.Half{}), request("cyd", 5)}})
}

func TestP166Lists(t *testing.T) {
	b := api.Book{Items: 30, Asks: 30, Next: 30}
	r := opened(t, b)
	is(t, r, b)
	contacts := []string{"-", "0", "a", "a.b", "ab", "b", "z", "ß", "ä", "σ", "я"}
	for i, contact := range contacts {
		h := api.Half{Out: i % 3, In: i / 3 % 3}
		if h.Out != api.None {
			h.N = uint64(i) + 1
		}
		if h.In != api.None {
			h.M = uint64(i) + 100
		}
		b.Entries = append(b.Entries, item(contact, "N", h, "g"))
		if h.In != api.None {
			b.Entries = append(b.Entries, api.Entry{Contact: contact + "1", Half: api.Half{In: h.In, M: h.M}})
		}
	}
	slices.SortFunc(b.Entries, func(a, b api.Entry) int { return strings.Compare(a.Contact, b.Contact) })
	r = opened(t, b)
	is(t, r, b)
	tells(t, "Waiting", r.Waiting(), []string{"a.b", "a.b1", "ab", "ab1", "b", "b1"})
	tells(t, "Seeing", r.Seeing(), []string{"z", "z1", "ß", "ß1", "ä", "ä1"})
	tells(t, "Seen", r.Seen(), []string{"a", "b", "ä"})
	if got := len(r.Items()); got != len(contacts) {
		t.Errorf("Items: %d, not %d", got, len(contacts))
	}
}
