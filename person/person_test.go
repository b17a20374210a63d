package person

import (
	"fmt"
	"math"
	"slices"
	"strings"
	"testing"

	"roost/api"
	"roost/privacy"
	"roost/roster"
)

// In the tests' names stands which promise they hold.

const tooHigh = 1 << 61

// annBounds are those of the chapter's runs.
var annBounds = api.Bounds{Items: 5, Asks: 2, Lists: 2, Rules: 5, Sessions: 2}

// wide are bounds that no test comes to by chance.
var wide = api.Bounds{Items: 50, Asks: 50, Lists: 50, Rules: 50, Sessions: 50}

func long(n int) string { return strings.Repeat("x", n) }

var stanzaNames = map[int]string{
	api.Did: "Did", api.Item: "Item", api.Removed: "Removed", api.Same: "Same", api.Seen: "Seen", api.Away: "Away",
	api.Asked: "Asked", api.Granted: "Granted", api.Left: "Left", api.Denied: "Denied", api.Closed: "Closed",
}

var mailNames = map[int]string{
	api.MailAsk: "Ask", api.MailLeave: "Leave", api.MailGrant: "Grant", api.MailDeny: "Deny",
	api.MailHere: "Here", api.MailAway: "Away", api.MailProbe: "Probe", api.MailShare: "Share",
}

// parts are labels and values that follow each other, as a text without the values that are zero.
func parts(all ...any) string {
	text := ""
	for i := 0; i < len(all); i += 2 {
		if value := fmt.Sprint(all[i+1]); value != "" && value != "0" {
			text += fmt.Sprintf(" %s=%s", all[i], value)
		}
	}
	return text
}

// listText is a list as a text, in which one that has an empty text is not like one that has none.
func listText(l []string) string {
	if slices.Contains(l, "") {
		return fmt.Sprintf("%q", l)
	}
	return strings.Join(l, "+")
}

func outText(o api.Out) string {
	s := o.S
	return fmt.Sprintf("%d:%s", o.Conn, stanzaNames[s.Kind]) +
		parts("Id", s.Id, "A", s.A, "B", s.B, "Text", s.Text, "List", listText(s.List), "N", s.N, "F", math.Float64bits(s.F))
}

// mailText leaves out From where it is ann, as it is in nearly all tests.
func mailText(m api.Mail) string {
	return fmt.Sprintf("%s to %s", mailNames[m.Kind], m.To) +
		parts("From", strings.TrimPrefix(m.From, "ann"), "N", m.N, "Resource", m.Resource, "Priority", m.Priority,
			"Show", m.Show, "Status", m.Status, "Target", m.Target, "List", listText(m.List))
}

// said is a reply as a text: its stanzas, and then its mails.
func said(r api.Reply) string {
	var l []string
	for _, o := range r.Outs {
		l = append(l, outText(o))
	}
	for _, m := range r.Mails {
		l = append(l, mailText(m))
	}
	return strings.Join(l, "; ")
}

// imageText is an image as a text, in which a list that is nil is an empty one.
func imageText(m api.Image) string {
	b, s := m.Book, m.Shelf
	text := fmt.Sprintf("%q %d %d; bounds %d %d, Ver %d, Next %d:", m.Name, m.Sessions, m.Shifts, b.Items, b.Asks, b.Ver, b.Next)
	for _, x := range b.Entries {
		text += fmt.Sprintf(" %q %v %q %q %v", x.Contact, x.Kept, x.Name, x.Groups, x.Half)
	}
	text += fmt.Sprintf("; bounds %d %d, %q, %q", s.Lists, s.Rules, s.Default, s.Names)
	for _, l := range s.Texts {
		text += fmt.Sprintf(" %q", l)
	}
	text += fmt.Sprintf("; %q", m.Groups)
	for _, l := range m.Members {
		text += fmt.Sprintf(" %q", l)
	}
	return text
}

// state is all that a person is, sessions too.
func state(p *Person) string {
	text := fmt.Sprintf("%s; %d", imageText(p.Image()), p.Ver())
	for _, seat := range p.Seats() {
		text += fmt.Sprintf("; %#v %q %q", seat, p.sessions[seat.Conn].show, p.sessions[seat.Conn].status)
	}
	return text
}

// user is a person in a test.
type user struct {
	t testing.TB
	*Person
}

func made(t testing.TB, name string, b api.Bounds) user {
	t.Helper()
	p, e := New(name, b)
	if p == nil || e != api.OK {
		t.Fatalf("New(%q, %v): %v", name, b, e)
	}
	return user{t, p}
}

func opened(t testing.TB, m api.Image) user {
	t.Helper()
	p, e := Load(m)
	if p == nil || e != api.OK {
		t.Fatalf("Load(%s): %v", imageText(m), e)
	}
	return user{t, p}
}

func (u user) is(what string, r api.Reply, e api.Errno, want string, f api.Errno) {
	u.t.Helper()
	if got := said(r); got != want || e != f {
		u.t.Errorf("%s:\n%s, %v; not\n%s, %v", what, got, e, want, f)
	}
}

// does asks what a client's stanza is answered with.
func (u user) does(conn int, s api.Stanza, want string) {
	u.t.Helper()
	r, e := u.Do(conn, s)
	u.is(fmt.Sprintf("Do(%d, %v)", conn, s), r, e, want, api.OK)
}

// unchanged asks that a call is refused, tells nothing, and leaves all as it was.
func (u user) unchanged(what string, e api.Errno, call func() (api.Reply, api.Errno)) {
	u.t.Helper()
	before := state(u.Person)
	r, f := call()
	u.is(what, r, f, "", e)
	if after := state(u.Person); after != before {
		u.t.Errorf("%s was refused, and changed\n%s\nto\n%s", what, before, after)
	}
}

func (u user) refuses(conn int, s api.Stanza, e api.Errno) {
	u.t.Helper()
	u.unchanged(fmt.Sprintf("Do(%d, %.200v)", conn, s), e, func() (api.Reply, api.Errno) { return u.Do(conn, s) })
}

// hears asks what a mail to this user is answered with.
func (u user) hears(m api.Mail, want string) {
	u.t.Helper()
	m.To = u.name
	r, e := u.Hear(m)
	u.is(fmt.Sprintf("Hear(%v)", m), r, e, want, api.OK)
}

// deaf asks that a mail is refused.
func (u user) deaf(m api.Mail, e api.Errno) {
	u.t.Helper()
	u.unchanged(fmt.Sprintf("Hear(%.200v)", m), e, func() (api.Reply, api.Errno) { return u.Hear(m) })
}

func (u user) binds(conn int, resource, want string) {
	u.t.Helper()
	r, e := u.Bind(conn, resource)
	u.is(fmt.Sprintf("Bind(%d, %q)", conn, resource), r, e, want, api.OK)
}

func (u user) unbound(conn int, resource string, e api.Errno) {
	u.t.Helper()
	u.unchanged(fmt.Sprintf("Bind(%d, %.70q)", conn, resource), e, func() (api.Reply, api.Errno) { return u.Bind(conn, resource) })
}

func (u user) ends(conn int, why api.Errno, want string) {
	u.t.Helper()
	r, ok := u.End(conn, why)
	if got := said(r); got != want || !ok {
		u.t.Errorf("End(%d, %v): %s, %v; not %s", conn, why, got, ok, want)
	}
}

func (u user) seats(want ...api.Seat) {
	u.t.Helper()
	if got := u.Seats(); !slices.Equal(got, want) {
		u.t.Errorf("Seats: %v, not %v", got, want)
	}
}

// share lets ann hear of a group, whatever that tells.
func (u user) share(group string, members ...string) {
	u.t.Helper()
	if _, e := u.Hear(api.Mail{Kind: api.MailShare, To: u.name, Resource: group, List: members}); e != api.OK {
		u.t.Fatalf("share of %q, %q: %v", group, members, e)
	}
}

// must lets a client say something, whatever that tells.
func (u user) must(conn int, s api.Stanza) {
	u.t.Helper()
	if _, e := u.Do(conn, s); e != api.OK {
		u.t.Fatalf("Do(%d, %v): %v", conn, s, e)
	}
}

func item(contact, name string, half api.Half, groups ...string) api.Entry {
	return api.Entry{Contact: contact, Kept: true, Name: name, Groups: groups, Half: half}
}

func request(contact string, n uint64) api.Entry {
	return api.Entry{Contact: contact, Half: api.Half{In: api.Open, M: n}}
}

// imageOf is ann, with wide bounds and these entries.
func imageOf(entries ...api.Entry) api.Image {
	return api.Image{
		Name:     "ann",
		Sessions: wide.Sessions,
		Book:     api.Book{Items: wide.Items, Asks: wide.Asks, Next: 1000, Entries: entries},
		Shelf:    api.Shelf{Lists: wide.Lists, Rules: wide.Rules},
	}
}

func here() api.Stanza { return api.Stanza{Kind: api.Here} }

func about(kind int, contact string) api.Stanza { return api.Stanza{Kind: kind, A: contact} }

func from(kind int, contact string, n uint64) api.Mail {
	return api.Mail{Kind: kind, From: contact, N: n}
}

func TestRuns(t *testing.T) {
	u := made(t, "ann", annBounds)
	u.refuses(1, here(), api.ErrState)
	u.binds(1, "d", "")
	u.unbound(1, "e", api.ErrTwice)
	u.binds(2, "d", "1:Closed N=6")

	u = made(t, "ann", annBounds)
	u.binds(1, "d", "")
	u.does(1, api.Stanza{Kind: api.Fetch}, "1:Did")
	u.does(1, about(api.Put, "bob"), "1:Item A=bob Text=none N=1; 1:Did N=1")
	u.does(1, about(api.Ask, "bob"), "1:Item A=bob Text=none,ask N=2; 1:Did N=2; Ask to bob N=1")
	u.does(1, here(), "1:Did N=2")
	u.hears(from(api.MailGrant, "bob", 1), "1:Granted A=bob; 1:Item A=bob Text=to N=3")
	u.hears(api.Mail{Kind: api.MailHere, From: "bob", Resource: "x", Priority: 3}, "1:Seen A=bob B=x N=3")
	u.hears(from(api.MailAsk, "cyd", 7), "1:Asked A=cyd")
	u.does(1, about(api.Grant, "cyd"), "1:Item A=cyd Text=from N=4; 1:Did N=4; Grant to cyd N=7; Here to cyd Resource=d")

	u = made(t, "ann", annBounds)
	u.binds(1, "d", "")
	u.binds(2, "e", "")
	u.must(1, api.Stanza{Kind: api.Fetch})
	u.must(1, api.Stanza{Kind: api.Here, N: 2})
	u.must(2, api.Stanza{Kind: api.Here, A: "xa", Text: "hm"})
	u.hears(api.Mail{Kind: api.MailShare, Resource: "team", List: []string{"ann", "bob"}},
		"1:Item A=bob Text=both List=team N=1; Here to bob Resource=d Priority=2; Here to bob Resource=e Show=xa Status=hm")
}

func TestExamples(t *testing.T) {
	u := made(t, "ann", annBounds)
	u.binds(1, "d", "")
	u.refuses(1, about(api.Put, "ann"), api.ErrState)

	// One who is asking and not here, beside one who is here and not asking.
	u = opened(t, imageOf(item("bob", "", api.Half{Out: api.Whole, N: 5, In: api.Whole, M: 6})))
	u.binds(1, "d", "")
	u.binds(2, "e", "")
	u.must(1, api.Stanza{Kind: api.Fetch})
	u.must(2, here())
	u.hears(api.Mail{Kind: api.MailHere, From: "bob", Resource: "x"}, "2:Seen A=bob B=x")
	u.hears(api.Mail{Kind: api.MailAway, From: "bob", Resource: "x"}, "2:Away A=bob B=x")
	u.hears(from(api.MailAsk, "cyd", 7), "2:Asked A=cyd")
	u.hears(from(api.MailLeave, "bob", 6), "2:Left A=bob; 1:Item A=bob Text=to N=1; Away to bob Resource=e")
	u.hears(from(api.MailDeny, "bob", 5), "2:Denied A=bob; 1:Item A=bob Text=none N=2")
	u.hears(api.Mail{Kind: api.MailHere, From: "bob", Resource: "x"}, "")
}

func TestP181New(t *testing.T) {
	for _, name := range []string{"ann", "a", "a.b-c_9", "äß", "я", long(64)} {
		u := made(t, name, api.Bounds{})
		if got, want := imageText(u.Image()), imageText(api.Image{Name: name}); got != want || u.Ver() != 0 || len(u.Seats()) > 0 {
			t.Errorf("New(%q): %s", name, got)
		}
	}
	for _, name := range []string{"", "Ann", "Ä", "a b", "a@b", "a\xff", "\x00", long(65), long(70000)} {
		for _, b := range []api.Bounds{{}, {Items: -1}, {Sessions: -1}} {
			if p, e := New(name, b); p != nil || e != api.ErrName {
				t.Errorf("New(%.70q, %v): %v, %v", name, b, p, e)
			}
			if p, e := Load(api.Image{Name: name, Sessions: b.Sessions, Shifts: math.MaxUint64}); p != nil || e != api.ErrName {
				t.Errorf("Load of %.70q: %v, %v", name, p, e)
			}
		}
	}
}

func TestP181NewBounds(t *testing.T) {
	edges := []int{math.MinInt, -1, 0, 1, 999, 1000, 1001, 9999, 10000, 10001, math.MaxInt}
	news := func(b api.Bounds) {
		_, e := roster.New(b.Items, b.Asks)
		_, f := privacy.New(b.Lists, b.Rules)
		ok := e == api.OK && f == api.OK && 0 <= b.Sessions && b.Sessions <= 1000
		p, g := New("ann", b)
		if !ok {
			if p != nil || g != api.ErrArg {
				t.Errorf("New of %v: %v, %v", b, p, g)
			}
			return
		}
		if p == nil || g != api.OK {
			t.Fatalf("New of %v: %v", b, g)
		}
		want := api.Image{Name: "ann", Sessions: b.Sessions, Book: api.Book{Items: b.Items, Asks: b.Asks}, Shelf: api.Shelf{Lists: b.Lists, Rules: b.Rules}}
		if got := imageText(p.Image()); got != imageText(want) {
			t.Errorf("New of %v: %s", b, got)
		}
	}
	for _, n := range edges {
		for _, b := range []api.Bounds{{Items: n}, {Asks: n}, {Lists: n}, {Rules: n}, {Sessions: n}, {Items: n, Asks: n, Lists: n, Rules: n, Sessions: n}} {
			news(b)
		}
	}
}

// full is an image that has something of everything.
func full() api.Image {
	m := imageOf(
		item("bob", "B", api.Half{Out: api.Whole, N: 5, In: api.Whole, M: 6}, "g", "x"),
		request("cyd", 9),
		item("eve", "", api.Half{}),
	)
	m.Book.Ver, m.Shifts = 7, 4
	m.Shelf.Default, m.Shelf.Names, m.Shelf.Texts = "a", []string{"a", "b"}, [][]string{{"deny in jid bob", "allow both all"}, nil}
	m.Groups, m.Members = []string{"more", "team"}, [][]string{{"bob", "dan"}, {"fay"}}
	return m
}

func TestP181LoadAndImage(t *testing.T) {
	for _, m := range []api.Image{full(), imageOf(), {Name: "ann"}} {
		u := opened(t, m)
		if got := imageText(u.Image()); got != imageText(m) {
			t.Errorf("Image: %s, not %s", got, imageText(m))
		}
		if u.Ver() != int(m.Book.Ver+m.Shifts) || len(u.Seats()) > 0 {
			t.Errorf("Ver %d, Seats %v", u.Ver(), u.Seats())
		}
	}
}

// An image, one thing of which is turned to something else.
func TestP181LoadFaults(t *testing.T) {
	names := func(n int) (l []string) {
		for i := range n {
			l = append(l, fmt.Sprintf("g%04d", i))
		}
		return l
	}
	groups := func(l ...string) func(m *api.Image) {
		return func(m *api.Image) {
			m.Groups, m.Members = l, nil
			for range l {
				m.Members = append(m.Members, []string{"bob"})
			}
		}
	}
	members := func(l ...string) func(m *api.Image) {
		return func(m *api.Image) { m.Members[1] = l }
	}
	for i, x := range []struct {
		turn func(m *api.Image)
		e    api.Errno
	}{
		{func(m *api.Image) {}, api.OK},
		{func(m *api.Image) { m.Sessions = -1 }, api.ErrArg},
		{func(m *api.Image) { m.Sessions = 0 }, api.OK},
		{func(m *api.Image) { m.Sessions = 1000 }, api.OK},
		{func(m *api.Image) { m.Sessions = 1001 }, api.ErrArg},
		{func(m *api.Image) { m.Shifts = tooHigh - 1 }, api.OK},
		{func(m *api.Image) { m.Shifts = tooHigh }, api.ErrArg},
		{func(m *api.Image) { m.Shifts = math.MaxUint64 }, api.ErrArg},
		{func(m *api.Image) { m.Book.Ver = tooHigh - 1 }, api.OK},
		{func(m *api.Image) { m.Book.Ver = tooHigh }, api.ErrArg},
		{func(m *api.Image) { m.Book.Ver = math.MaxUint64 }, api.ErrArg},
		{func(m *api.Image) { m.Shifts, m.Book.Ver = tooHigh-1, tooHigh-1 }, api.OK},
		{func(m *api.Image) { m.Book.Next = tooHigh }, api.OK},
		{func(m *api.Image) { m.Book.Next = 2 * tooHigh }, api.ErrArg},
		{func(m *api.Image) { m.Book.Items = 1 }, api.ErrArg},
		{func(m *api.Image) { m.Book.Asks = 0 }, api.ErrArg},
		{func(m *api.Image) { m.Book.Entries[1].Contact = "Cyd" }, api.ErrArg},
		{func(m *api.Image) { m.Book.Entries[0].Contact = long(65) }, api.ErrArg},
		{func(m *api.Image) { m.Book.Entries[0].Name = "\xff" }, api.ErrArg},
		{func(m *api.Image) { m.Shelf.Lists = 1 }, api.ErrArg},
		{func(m *api.Image) { m.Shelf.Rules = 1 }, api.ErrArg},
		{func(m *api.Image) { m.Shelf.Default = "c" }, api.ErrArg},
		{func(m *api.Image) { m.Shelf.Texts[0][0] = "deny in jid Bob" }, api.ErrArg},
		{func(m *api.Image) { m.Name = "eve" }, api.ErrArg},
		{func(m *api.Image) { m.Name = "cyd" }, api.ErrArg},
		{func(m *api.Image) { m.Name = "bob" }, api.ErrArg},
		{func(m *api.Image) { m.Name = "fay" }, api.ErrArg},
		{func(m *api.Image) { m.Name = "dan" }, api.ErrArg},
		{func(m *api.Image) { m.Name = "zed" }, api.OK},
		{groups(), api.OK},
		{groups("a"), api.OK},
		{groups("B", "a", "ab", "ä"), api.OK},
		{groups("a", "a"), api.ErrArg},
		{groups("b", "a"), api.ErrArg},
		{groups("ab", "a"), api.ErrArg},
		{groups("a", "c", "b"), api.ErrArg},
		{groups(""), api.ErrArg},
		{groups("", "a"), api.ErrArg},
		{groups("a", "b\xff"), api.ErrArg},
		{groups("\x00", " "), api.OK},
		{groups(long(64)), api.OK},
		{groups(long(65)), api.ErrArg},
		{groups(strings.Repeat("ä", 32)), api.OK},
		{groups(strings.Repeat("ä", 33)), api.ErrArg},
		{groups(names(32)...), api.OK},
		{groups(names(33)...), api.ErrArg},
		{func(m *api.Image) { m.Members = m.Members[:1] }, api.ErrArg},
		{func(m *api.Image) { m.Members = append(m.Members, []string{"bob"}) }, api.ErrArg},
		{func(m *api.Image) { m.Groups = m.Groups[:1] }, api.ErrArg},
		{func(m *api.Image) { m.Groups = nil }, api.ErrArg},
		{func(m *api.Image) { m.Members = nil }, api.ErrArg},
		{members(), api.ErrArg},
		{members([]string{}...), api.ErrArg},
		{members("-", "a", "ab", "b", "ß", "я"), api.OK},
		{members("a", "a"), api.ErrArg},
		{members("b", "a"), api.ErrArg},
		{members("ab", "a"), api.ErrArg},
		{members("a", "c", "b"), api.ErrArg},
		{members(""), api.ErrArg},
		{members("A"), api.ErrArg},
		{members("a", "b c"), api.ErrArg},
		{members("a", "b\xff"), api.ErrArg},
		{members(long(64)), api.OK},
		{members(long(65)), api.ErrArg},
		{members("ann"), api.ErrArg},
		{members("abe", "ann"), api.ErrArg},
		{members("ann", "bob"), api.ErrArg},
		{members("abe", "ann", "bob"), api.ErrArg},
		{members("anna"), api.OK},
		{members(names(2000)...), api.OK},
	} {
		m := full()
		x.turn(&m)
		before := imageText(m)
		p, e := Load(m)
		if e != x.e || (p == nil) != (e != api.OK) {
			t.Errorf("row %d: %v, not %v", i, e, x.e)
		}
		if imageText(m) != before {
			t.Errorf("row %d: the image was changed", i)
		}
		if e == api.OK && imageText(p.Image()) != before {
			t.Errorf("row %d: Image: %s, not %s", i, imageText(p.Image()), before)
		}
	}
}

func TestP182Bind(t *testing.T) {
	b := annBounds
	b.Sessions = 3
	u := made(t, "ann", b)
	u.binds(math.MaxInt, "d", "")
	u.binds(-1, "D", "")
	u.seats(api.Seat{Conn: -1, Resource: "D"}, api.Seat{Conn: math.MaxInt, Resource: "d"})

	// The connection is asked for ahead of the resource, that ahead of the room.
	for _, resource := range []string{"", "d", "new", "a\n", long(65)} {
		u.unbound(-1, resource, api.ErrTwice)
	}
	u.binds(0, " \u00e9/", "")
	u.unbound(7, "", api.ErrName)
	u.unbound(7, "a\n", api.ErrName)
	u.unbound(7, "a\xff", api.ErrName)
	u.unbound(7, long(65), api.ErrBig)
	u.unbound(7, "new", api.ErrFull)
	u.unbound(7, long(64), api.ErrFull)

	// Who has the resource makes room.
	u.binds(7, "d", fmt.Sprintf("%d:Closed N=6", math.MaxInt))
	u.seats(api.Seat{Conn: -1, Resource: "D"}, api.Seat{Conn: 0, Resource: " \u00e9/"}, api.Seat{Conn: 7, Resource: "d"})
	u.refuses(math.MaxInt, here(), api.ErrState)

	b.Sessions = 0
	u = made(t, "ann", b)
	u.unbound(1, "d", api.ErrFull)
}

// A session begins as nothing, whatever the one was that it takes the place of.
func TestP182BindAnew(t *testing.T) {
	u := opened(t, imageOf(item("bob", "", api.Half{In: api.Whole, M: 6}), item("cyd", "", api.Half{In: api.Whole, M: 7})))
	u.binds(1, "d", "")
	u.must(1, api.Stanza{Kind: api.Rules, A: "l", List: []string{"deny out jid bob"}})
	u.must(1, about(api.Active, "l"))
	u.must(1, api.Stanza{Kind: api.Fetch})
	u.must(1, api.Stanza{Kind: api.Here, A: "dnd", Text: "hm", N: 5})
	u.seats(api.Seat{Conn: 1, Resource: "d", Priority: 5, Here: true, Asking: true, Active: "l"})
	u.binds(2, "d", "1:Closed N=6; Away to cyd Resource=d")
	u.seats(api.Seat{Conn: 2, Resource: "d"})
	u.binds(1, "e", "")
	u.does(1, here(), "1:Did; Here to bob Resource=e; Here to cyd Resource=e")
}

func TestP183End(t *testing.T) {
	u := opened(t, imageOf(item("bob", "", api.Half{In: api.Whole, M: 6}), item("cyd", "", api.Half{Out: api.Whole, N: 7}), request("dan", 8)))
	u.share("team", "ann", "fay")
	for conn, why := range []api.Errno{api.ErrLease, api.ErrNone, api.ErrTwice, api.OK} {
		u.binds(conn, "d", "")
		closed := ""
		if why != api.OK {
			closed = fmt.Sprintf("%d:Closed N=%d", conn, why)
		}
		u.ends(conn, why, closed)
		u.binds(conn, "d", "")
		u.binds(9, "e", "")
		u.must(9, api.Stanza{Kind: api.Fetch})
		u.must(9, here())
		u.must(conn, api.Stanza{Kind: api.Here, A: "xa", Text: "status", N: 3})
		if closed != "" {
			closed += "; "
		}
		u.ends(conn, why, closed+"Away to bob Resource=d; Away to fay Resource=d")
		u.seats(api.Seat{Conn: 9, Resource: "e", Here: true, Asking: true})
		before := state(u.Person)
		for _, none := range []int{conn, conn + 1, -1} {
			if r, ok := u.End(none, why); ok || said(r) != "" || state(u.Person) != before {
				t.Errorf("End of no session: %v, %v", r, ok)
			}
		}
		u.ends(9, api.OK, "Away to bob Resource=e; Away to fay Resource=e")
	}
}

// An End's Away goes by the list that the session had.
func TestP183EndByList(t *testing.T) {
	u := opened(t, imageOf(item("bob", "", api.Half{In: api.Whole, M: 6}), item("cyd", "", api.Half{In: api.Whole, M: 7})))
	u.binds(1, "d", "")
	u.binds(2, "e", "")
	u.must(1, api.Stanza{Kind: api.Rules, A: "l", List: []string{"deny out jid bob"}})
	u.must(1, api.Stanza{Kind: api.Rules, A: "m", List: []string{"deny out jid cyd"}})
	u.must(1, about(api.Default, "m"))
	u.must(1, about(api.Active, "l"))
	u.must(1, here())
	u.must(2, here())
	u.ends(1, api.OK, "Away to cyd Resource=d")
	u.ends(2, api.OK, "Away to bob Resource=e")
}

// What Do refuses ahead of what a kind refuses.
func TestP184Faults(t *testing.T) {
	u := made(t, "ann", annBounds)
	u.binds(1, "d", "")
	for kind := -1; kind <= 50; kind++ {
		s := api.Stanza{Kind: kind}
		u.refuses(2, s, api.ErrState)
		switch {
		case kind < api.Hello || api.Renew < kind && kind < api.Features || kind > api.Closed:
			u.refuses(1, s, api.ErrRange)
		case kind < api.Here || kind > api.Default:
			u.refuses(1, s, api.ErrArg)
			s.A, s.B, s.Text, s.N, s.F, s.List = "x", "x", "x", 1, 1, []string{"x"}
			u.refuses(1, s, api.ErrForm)
		default:
			// No kind of these has all parts.
			s.A, s.B, s.Text, s.N, s.F, s.List = "ann", "x", "x", -1000, 1, []string{"x"}
			u.refuses(1, s, api.ErrForm)
		}
	}
	u.refuses(1, api.Stanza{Kind: api.Hello, A: long(1025)}, api.ErrBig)
	u.refuses(1, api.Stanza{Kind: api.Hello, A: "\xff"}, api.ErrName)
	u.refuses(1, api.Stanza{Kind: api.Here, A: long(1025), N: 1000}, api.ErrBig)
	u.refuses(1, api.Stanza{Kind: api.Here, Text: "\xff", N: 1000}, api.ErrName)
	u.refuses(1, api.Stanza{Kind: api.Gone, Text: long(1025)}, api.ErrBig)
	u.refuses(1, api.Stanza{Kind: api.Put, A: "a b", List: make([]string, 65)}, api.ErrBig)
	u.refuses(1, api.Stanza{Kind: api.Put, A: "a b", List: []string{"\xff"}}, api.ErrName)
}

func TestP184HereFaults(t *testing.T) {
	u := made(t, "ann", annBounds)
	u.binds(1, "d", "")
	for _, n := range []int{math.MinInt, -129, 128, math.MaxInt} {
		u.refuses(1, api.Stanza{Kind: api.Here, N: n}, api.ErrRange)
		u.refuses(1, api.Stanza{Kind: api.Here, N: n, A: "none"}, api.ErrRange)
	}
	for _, show := range []string{"Away", "away ", "here", "x", "xaa", "dn", "dnd\x00", "online"} {
		u.refuses(1, api.Stanza{Kind: api.Here, A: show}, api.ErrForm)
	}
	for _, n := range []int{-128, -1, 0, 1, 127} {
		for _, show := range []string{"", "away", "chat", "dnd", "xa"} {
			u.does(1, api.Stanza{Kind: api.Here, N: n, A: show, Id: 9}, "1:Did Id=9")
			u.seats(api.Seat{Conn: 1, Resource: "d", Priority: n, Here: true})
		}
	}
}

// half is a half by its states, with numbers where there must be some.
func half(out, in int) (h api.Half) {
	h.Out, h.In = out, in
	if out != api.None {
		h.N = 100
	}
	if in != api.None {
		h.M = 200
	}
	return h
}

var states = []int{api.None, api.Open, api.Whole}

// eachHalf is bob, of every half there is, item or not, shared or not; there is no such entry where the zero half is no item.
func eachHalf(t *testing.T, look func(t *testing.T, u user, x api.Entry, shared bool)) {
	for _, out := range states {
		for _, in := range states {
			for _, kept := range []bool{true, false} {
				if !kept && out != api.None {
					continue
				}
				for _, shared := range []bool{true, false} {
					x := api.Entry{Contact: "bob", Kept: kept, Half: half(out, in)}
					m := imageOf()
					if kept || in != api.None {
						m.Book.Entries = []api.Entry{x}
					}
					if shared {
						m.Groups, m.Members = []string{"team"}, [][]string{{"bob"}}
					}
					u := opened(t, m)
					t.Run(fmt.Sprintf("Out %d, In %d, Kept %v, shared %v", out, in, kept, shared), func(t *testing.T) {
						u.t = t
						look(t, u, x, shared)
					})
				}
			}
		}
	}
}

// join joins what is told, of which some is not.
func join(texts ...string) string {
	return strings.Join(slices.DeleteFunc(texts, func(s string) bool { return s == "" }), "; ")
}

// where is a text, if it is so.
func where(so bool, text string) string {
	if so {
		return text
	}
	return ""
}

func subOf(x api.Entry, shared bool) string {
	if shared {
		return "both"
	}
	text := [3]string{"none", "to", "from"}
	switch {
	case x.Half.Out == api.Whole && x.Half.In == api.Whole:
		return "both"
	case x.Half.Out == api.Whole:
		return text[1]
	case x.Half.In == api.Whole:
		return text[2] + where(x.Half.Out == api.Open, ",ask")
	}
	return text[0] + where(x.Half.Out == api.Open, ",ask")
}

// toldAs is what is pushed of bob to connection 1.
func toldAs(x api.Entry, shared bool, ver int) string {
	if !x.Kept && !shared {
		return fmt.Sprintf("1:Removed A=bob N=%d", ver)
	}
	return "1:Item A=bob" + parts("B", x.Name) + " Text=" + subOf(x, shared) + where(shared, " List=team") + parts("N", ver)
}

func TestP184Here(t *testing.T) {
	eachHalf(t, func(t *testing.T, u user, x api.Entry, shared bool) {
		u.binds(1, "d", "")
		asked := where(x.Half.In == api.Open, "1:Asked A=bob")
		seen := x.Half.In == api.Whole || shared
		probe := where(x.Half.Out == api.Whole || shared, "Probe to bob Target=d")
		u.does(1, api.Stanza{Kind: api.Here, Id: 3, N: -7, A: "chat", Text: "hi"}, join(asked, "1:Did Id=3",
			where(seen, "Here to bob Resource=d Priority=-7 Show=chat Status=hi"), probe))
		u.does(1, api.Stanza{Kind: api.Here, Id: 4}, join("1:Did Id=4", where(seen, "Here to bob Resource=d")))
		u.does(1, api.Stanza{Kind: api.Gone, Id: 5, Text: "bye"}, join("1:Did Id=5", where(seen, "Away to bob Resource=d Status=bye")))
		u.does(1, api.Stanza{Kind: api.Here, Id: 6}, join(asked, "1:Did Id=6", where(seen, "Here to bob Resource=d"), probe))
	})
}

func TestP184HereOrder(t *testing.T) {
	whole := half(api.Whole, api.Whole)
	u := opened(t, imageOf(item("bob", "", whole), request("cyd", 4), item("dan", "", half(api.None, api.Open)), item("fay", "", whole), item("gil", "", whole)))
	u.share("a", "ann", "zed")
	u.share("b", "abe", "ann", "eve", "fay")
	u.binds(7, "z", "")
	u.binds(3, "d", "")
	u.must(7, here())
	u.does(3, here(), "3:Asked A=cyd; 3:Asked A=dan; 3:Did N=2; Here to abe Resource=d; Here to bob Resource=d; Here to eve Resource=d; Here to fay Resource=d; Here to gil Resource=d; Here to zed Resource=d; "+
		"Probe to abe Target=d; Probe to bob Target=d; Probe to eve Target=d; Probe to fay Target=d; Probe to gil Target=d; Probe to zed Target=d")
}

func TestP184Gone(t *testing.T) {
	u := opened(t, imageOf(item("bob", "", half(api.None, api.Whole)), item("cyd", "", half(api.None, api.Whole))))
	u.binds(1, "d", "")
	u.refuses(1, api.Stanza{Kind: api.Gone, Text: "x"}, api.ErrState)
	u.must(1, api.Stanza{Kind: api.Fetch})
	u.must(1, api.Stanza{Kind: api.Rules, A: "l", List: []string{"deny out jid cyd"}})
	u.must(1, about(api.Active, "l"))
	u.must(1, api.Stanza{Kind: api.Here, N: 5, A: "xa", Text: "hm"})
	u.does(1, api.Stanza{Kind: api.Gone, Text: "bye"}, "1:Did; Away to bob Resource=d Status=bye")
	// What it was told to be is gone, and nothing else of the session.
	u.seats(api.Seat{Conn: 1, Resource: "d", Asking: true, Active: "l"})
	if at := u.sessions[1]; at.show != "" || at.status != "" {
		t.Errorf("show %q, status %q", at.show, at.status)
	}
	u.refuses(1, api.Stanza{Kind: api.Gone}, api.ErrState)
	u.hears(from(api.MailProbe, "bob", 0), "")
}

func TestP184Fetch(t *testing.T) {
	u := opened(t, imageOf(
		item("bob", "B", half(api.Whole, api.Open), "x", "y"),
		request("cyd", 4),
		item("dan", "", half(api.None, api.None)),
		item("eve", "E", half(api.Open, api.None), "b", "c"),
	))
	u.binds(1, "d", "")
	u.binds(2, "e", "")
	u.does(1, api.Stanza{Kind: api.Fetch, Id: 5}, "1:Item Id=5 A=bob B=B Text=to List=x+y; 1:Item Id=5 A=dan Text=none; 1:Item Id=5 A=eve B=E Text=none,ask List=b+c; 1:Did Id=5")
	u.seats(api.Seat{Conn: 1, Resource: "d", Asking: true}, api.Seat{Conn: 2, Resource: "e"})
	u.share("z", "ann", "cyd", "eve")
	u.share("b", "abe", "ann", "eve")
	all := "; %[1]d:Item%[2]s A=cyd Text=both List=z N=2; %[1]d:Item%[2]s A=dan Text=none N=2; %[1]d:Item%[2]s A=eve B=E Text=both List=b+c+z N=2; %[1]d:Did%[2]s N=2"
	all = "%[1]d:Item%[2]s A=abe Text=both List=b N=2; %[1]d:Item%[2]s A=bob B=B Text=to List=x+y N=2" + all
	u.does(1, api.Stanza{Kind: api.Fetch, N: 1}, fmt.Sprintf(all, 1, ""))
	u.does(1, api.Stanza{Kind: api.Fetch, N: 3, Id: 7}, fmt.Sprintf(all, 1, " Id=7"))
	u.refuses(2, api.Stanza{Kind: api.Fetch, N: -1}, api.ErrRange)
	u.refuses(2, api.Stanza{Kind: api.Fetch, N: math.MinInt}, api.ErrRange)
	u.does(2, api.Stanza{Kind: api.Fetch, N: 2, Id: 8}, "2:Same Id=8 N=2")
	u.seats(api.Seat{Conn: 1, Resource: "d", Asking: true}, api.Seat{Conn: 2, Resource: "e", Asking: true})
	u.does(2, api.Stanza{Kind: api.Fetch}, fmt.Sprintf(all, 2, ""))
	u.does(2, api.Stanza{Kind: api.Fetch, N: math.MaxInt}, fmt.Sprintf(all, 2, ""))

	// Of a roster that never changed 0 is the version, and is not the Same.
	u = made(t, "ann", annBounds)
	u.binds(1, "d", "")
	u.does(1, api.Stanza{Kind: api.Fetch, Id: 1}, "1:Did Id=1")
	// A great version is the roster's and the groups' together.
	m := imageOf()
	m.Book.Ver, m.Shifts = tooHigh-1, tooHigh-1
	u = opened(t, m)
	u.binds(1, "d", "")
	u.does(1, api.Stanza{Kind: api.Fetch, N: 2*tooHigh - 2}, fmt.Sprintf("1:Same N=%d", 2*tooHigh-2))
}

// The six kinds that are about a contact, and whom they refuse.
func TestP184Contacts(t *testing.T) {
	u := opened(t, imageOf(item("bob", "", half(api.Whole, api.Whole))))
	u.binds(1, "d", "")
	u.must(1, api.Stanza{Kind: api.Fetch})
	u.must(1, here())
	for _, kind := range []int{api.Put, api.Drop, api.Ask, api.Grant, api.Leave, api.Deny} {
		for _, own := range []string{"ann", "ANN", "aNn"} {
			u.refuses(1, about(kind, own), api.ErrState)
		}
		for _, none := range []string{"", "a b", "ann@x", "ann/d", "bob "} {
			u.refuses(1, about(kind, none), api.ErrName)
		}
		u.refuses(1, about(kind, long(65)), api.ErrBig)
	}
	u.refuses(1, api.Stanza{Kind: api.Put, A: "ann", B: long(65)}, api.ErrState)
	u.refuses(1, api.Stanza{Kind: api.Put, A: "cyd", B: long(65)}, api.ErrBig)
	u.refuses(1, api.Stanza{Kind: api.Put, A: "cyd", List: []string{"a", ""}}, api.ErrName)
	u.refuses(1, api.Stanza{Kind: api.Put, A: "cyd", List: make([]string, 9)}, api.ErrBig)
	u.refuses(1, about(api.Drop, "cyd"), api.ErrNone)
	u.does(1, api.Stanza{Kind: api.Put, A: "BOB", B: "B", List: []string{"y", "x", "y"}, Id: 4}, "1:Item A=bob B=B Text=both List=x+y N=1; 1:Did Id=4 N=1")
	u.does(1, api.Stanza{Kind: api.Ask, A: "CYD", Id: 5}, "1:Item A=cyd Text=none,ask N=2; 1:Did Id=5 N=2; Ask to cyd N=1001")
	u.does(1, api.Stanza{Kind: api.Drop, A: "Cyd", Id: 6}, "1:Removed A=cyd N=3; 1:Did Id=6 N=3; Leave to cyd N=1001")
}

func TestP184Full(t *testing.T) {
	u := made(t, "ann", api.Bounds{Items: 1, Asks: 5, Sessions: 1})
	u.binds(1, "d", "")
	u.must(1, about(api.Put, "bob"))
	u.hears(from(api.MailAsk, "cyd", 7), "")
	u.refuses(1, about(api.Put, "cyd"), api.ErrFull)
	u.refuses(1, about(api.Ask, "cyd"), api.ErrFull)
	u.refuses(1, about(api.Grant, "cyd"), api.ErrFull)
	u.does(1, about(api.Grant, "dan"), "1:Did N=1")
	u.does(1, about(api.Leave, "dan"), "1:Did N=1")
	u.does(1, about(api.Deny, "cyd"), "1:Did N=1; Deny to cyd N=7")
}

func TestP184Put(t *testing.T) {
	eachHalf(t, func(t *testing.T, u user, x api.Entry, shared bool) {
		u.binds(1, "d", "")
		u.must(1, api.Stanza{Kind: api.Fetch})
		u.must(1, here())
		x.Kept, x.Name = true, "B"
		u.does(1, api.Stanza{Kind: api.Put, Id: 2, A: "bob", B: "B"}, toldAs(x, shared, 1)+"; 1:Did Id=2 N=1")
	})
}

// withBob lets two sessions be here and one not; the first one is asking.
func (u user) withBob() {
	u.t.Helper()
	u.binds(2, "e", "")
	u.binds(1, "d", "")
	u.binds(3, "f", "")
	u.must(1, api.Stanza{Kind: api.Fetch})
	u.must(2, api.Stanza{Kind: api.Here, N: 9, A: "dnd", Text: "st"})
	u.must(1, here())
}

const (
	allHere = "Here to bob Resource=d; Here to bob Resource=e Priority=9 Show=dnd Status=st"
	allAway = "Away to bob Resource=d; Away to bob Resource=e"
)

func TestP184Drop(t *testing.T) {
	eachHalf(t, func(t *testing.T, u user, x api.Entry, shared bool) {
		u.withBob()
		if !x.Kept {
			u.refuses(1, about(api.Drop, "bob"), api.ErrNone)
			return
		}
		u.does(1, about(api.Drop, "bob"), join(toldAs(api.Entry{}, shared, 1), "1:Did N=1",
			where(x.Half.In == api.Whole && !shared, allAway),
			where(x.Half.Out != api.None, "Leave to bob N=100"), where(x.Half.In != api.None, "Deny to bob N=200")))
		u.refuses(1, about(api.Drop, "bob"), api.ErrNone)
	})
}

func TestP184Ask(t *testing.T) {
	eachHalf(t, func(t *testing.T, u user, x api.Entry, shared bool) {
		u.withBob()
		if x.Half.Out != api.None {
			u.does(1, about(api.Ask, "bob"), "1:Did")
			return
		}
		x.Kept, x.Half.Out = true, api.Open
		u.does(1, about(api.Ask, "bob"), join(toldAs(x, shared, 1), "1:Did N=1; Ask to bob N=1001"))
		u.does(2, about(api.Ask, "bob"), "2:Did N=1")
	})
}

func TestP184Grant(t *testing.T) {
	eachHalf(t, func(t *testing.T, u user, x api.Entry, shared bool) {
		u.withBob()
		if x.Half.In != api.Open {
			u.does(1, about(api.Grant, "bob"), "1:Did")
			return
		}
		x.Kept, x.Half.In = true, api.Whole
		u.does(1, about(api.Grant, "bob"), join(toldAs(x, shared, 1), "1:Did N=1; Grant to bob N=200", allHere))
	})
}

func TestP184Leave(t *testing.T) {
	eachHalf(t, func(t *testing.T, u user, x api.Entry, shared bool) {
		u.withBob()
		if x.Half.Out == api.None {
			u.does(1, about(api.Leave, "bob"), "1:Did")
			return
		}
		x.Half.Out = api.None
		u.does(1, about(api.Leave, "bob"), join(toldAs(x, shared, 1), "1:Did N=1; Leave to bob N=100"))
	})
}

func TestP184Deny(t *testing.T) {
	eachHalf(t, func(t *testing.T, u user, x api.Entry, shared bool) {
		u.withBob()
		if x.Half.In == api.None {
			u.does(1, about(api.Deny, "bob"), "1:Did")
			return
		}
		away := where(x.Half.In == api.Whole && !shared, allAway)
		x.Half.In = api.None
		ver := 0
		if x.Kept {
			ver = 1
		}
		u.does(1, about(api.Deny, "bob"), join(where(x.Kept, toldAs(x, shared, 1)), "1:Did"+parts("N", ver), away, "Deny to bob N=200"))
	})
}

// The list of a Drop and of a Deny is asked of the contact as they were, that of a Grant and of a Left as they are.
func TestP184ListIsAsked(t *testing.T) {
	begin := func(x api.Entry, rule string) user {
		m := imageOf(x)
		m.Shelf.Names, m.Shelf.Texts, m.Shelf.Default = []string{"l"}, [][]string{{rule}}, "l"
		u := opened(t, m)
		u.binds(1, "d", "")
		u.must(1, here())
		return u
	}
	sees, waits := item("bob", "", half(api.None, api.Whole), "g"), item("bob", "", half(api.None, api.Open), "g")
	away, toldHere := "; Away to bob Resource=d", "; Here to bob Resource=d"
	for _, x := range []struct {
		rule                      string
		dropped, denied, granted  string
		left                      string
		whenPresenceOfWholeIsTold bool
	}{
		{"allow both all", away, away, toldHere, "; Away to bob Resource=d", true},
		{"deny out sub from", "", "", "", away, false},
		{"deny out sub none", away, away, toldHere, "", true},
		{"deny out group g", "", "", "", "", false},
		{"deny out jid bob", "", "", "", "", false},
		{"deny in all", away, away, toldHere, away, true},
		{"deny out sub to", away, away, toldHere, away, true},
	} {
		u := begin(sees, x.rule)
		u.does(1, about(api.Drop, "bob"), "1:Did N=1"+x.dropped+"; Deny to bob N=200")
		u = begin(sees, x.rule)
		u.does(1, about(api.Deny, "bob"), "1:Did N=1"+x.denied+"; Deny to bob N=200")
		u = begin(waits, x.rule)
		u.does(1, about(api.Grant, "bob"), "1:Did N=1; Grant to bob N=200"+x.granted)
		u = begin(sees, x.rule)
		u.hears(from(api.MailLeave, "bob", 200), "1:Left A=bob"+x.left)
		u = begin(sees, x.rule)
		u.hears(from(api.MailProbe, "bob", 0), strings.TrimPrefix(where(x.whenPresenceOfWholeIsTold, toldHere), "; "))
	}
}

func TestP184Rules(t *testing.T) {
	u := made(t, "ann", api.Bounds{Lists: 2, Rules: 2, Sessions: 5})
	u.binds(1, "d", "")
	u.binds(2, "e", "")
	u.refuses(1, about(api.Rules, ""), api.ErrName)
	u.refuses(1, about(api.Rules, long(65)), api.ErrBig)
	u.refuses(1, api.Stanza{Kind: api.Rules, A: "l", List: []string{"deny in all", "x"}}, api.ErrForm)
	u.refuses(1, api.Stanza{Kind: api.Rules, A: "l", List: []string{"deny in jid a b"}}, api.ErrName)
	u.refuses(1, api.Stanza{Kind: api.Rules, A: "l", List: slices.Repeat([]string{"deny in all"}, 3)}, api.ErrFull)
	u.does(1, api.Stanza{Kind: api.Rules, Id: 5, A: "l", List: []string{"deny in jid Bob"}}, "1:Did Id=5")
	u.does(1, about(api.Rules, "m"), "1:Did")
	u.refuses(1, about(api.Rules, "n"), api.ErrFull)
	if s := u.Image().Shelf; fmt.Sprint(s) != "{2 2  [l m] [[deny in jid bob] []]}" {
		t.Error(s)
	}

	u.refuses(1, about(api.Active, "n"), api.ErrNone)
	u.refuses(1, about(api.Active, "L"), api.ErrNone)
	u.does(2, api.Stanza{Kind: api.Active, A: "l", Id: 6}, "2:Did Id=6")
	u.seats(api.Seat{Conn: 1, Resource: "d"}, api.Seat{Conn: 2, Resource: "e", Active: "l"})
	u.refuses(1, about(api.NoRules, "l"), api.ErrState)
	u.refuses(2, about(api.NoRules, "l"), api.ErrState)
	u.refuses(2, about(api.NoRules, ""), api.ErrNone)
	u.refuses(2, about(api.NoRules, "n"), api.ErrNone)

	u.refuses(1, about(api.Default, "n"), api.ErrNone)
	u.does(1, api.Stanza{Kind: api.Default, A: "m", Id: 7}, "1:Did Id=7")
	u.refuses(1, about(api.NoRules, "m"), api.ErrState)
	u.does(1, about(api.Default, "l"), "1:Did")
	u.does(1, api.Stanza{Kind: api.NoRules, A: "m", Id: 8}, "1:Did Id=8")
	u.does(2, about(api.Active, ""), "2:Did")
	u.refuses(1, about(api.NoRules, "l"), api.ErrState)
	u.does(1, about(api.Default, ""), "1:Did")
	u.does(1, about(api.NoRules, "l"), "1:Did")
	u.refuses(1, about(api.NoRules, "l"), api.ErrNone)
	u.does(1, about(api.Active, ""), "1:Did")
	if s := u.Image().Shelf; len(s.Names) > 0 || s.Default != "" {
		t.Error(s)
	}

	// Who has a list no more lets it go.
	u.must(1, about(api.Rules, "l"))
	u.must(2, about(api.Active, "l"))
	u.ends(2, api.OK, "")
	u.does(1, about(api.NoRules, "l"), "1:Did")
}

// What a list is asked of a contact: roster groups, shared groups, and a sub that is both of who is shared.
func TestWhatAListIsAsked(t *testing.T) {
	m := imageOf(
		item("bob", "", half(api.Whole, api.Whole), "g"),
		item("cyd", "", half(api.Open, api.Whole)),
		item("dan", "", half(api.Open, api.None), "g"),
	)
	m.Groups, m.Members = []string{"team"}, [][]string{{"dan", "eve"}}
	for _, x := range []struct {
		rule, told string
	}{
		{"allow out all", "bob cyd dan eve"},
		{"deny out all", ""},
		{"deny in all", "bob cyd dan eve"},
		{"deny both jid cyd", "bob dan eve"},
		{"deny out group g", "cyd eve"},
		{"deny out group team", "bob cyd"},
		{"deny out sub both", "cyd"},
		{"deny out sub from", "bob dan eve"},
		{"deny out sub none", "bob cyd dan eve"},
		{"deny out sub to", "bob cyd dan eve"},
	} {
		m.Shelf.Names, m.Shelf.Texts = []string{"l"}, [][]string{{x.rule}}
		for _, byDefault := range []bool{true, false} {
			m.Shelf.Default = where(byDefault, "l")
			u := opened(t, m)
			u.binds(1, "d", "")
			if !byDefault {
				u.must(1, about(api.Active, "l"))
			}
			u.must(1, here())
			r, _ := u.Do(1, here())
			var told []string
			for _, mail := range r.Mails {
				told = append(told, mail.To)
			}
			if got := strings.Join(told, " "); got != x.told {
				t.Errorf("%s: told to %s, not %s", x.rule, got, x.told)
			}
		}
	}
	for _, x := range []struct {
		rule, told string
	}{
		{"deny in all", ""},
		{"deny out all", "bob dan eve"},
		{"deny in jid bob", "dan eve"},
		{"deny in group g", "eve"},
		{"deny both group team", "bob"},
		{"deny in sub both", ""},
		{"deny in sub none", "bob dan eve"},
	} {
		m.Shelf.Default, m.Shelf.Names, m.Shelf.Texts = "l", []string{"l"}, [][]string{{x.rule}}
		u := opened(t, m)
		u.binds(1, "d", "")
		u.must(1, here())
		var told []string
		for _, contact := range []string{"bob", "cyd", "dan", "eve", "fay"} {
			for _, kind := range []int{api.MailHere, api.MailAway} {
				r, _ := u.Hear(api.Mail{Kind: kind, From: contact, To: "ann", Resource: "x"})
				if len(r.Outs) > 0 && kind == api.MailHere {
					told = append(told, contact)
				}
				if (len(r.Outs) > 0) != slices.Contains(told, contact) {
					t.Errorf("%s: %s is seen and not away, or otherwise", x.rule, contact)
				}
			}
		}
		if got := strings.Join(told, " "); got != x.told {
			t.Errorf("%s: seen are %s, not %s", x.rule, got, x.told)
		}
	}
}

func TestP185Faults(t *testing.T) {
	u := opened(t, imageOf(item("bob", "", half(api.Whole, api.Whole))))
	u.binds(1, "d", "")
	u.must(1, here())
	for kind := -1; kind <= 10; kind++ {
		is := api.MailAsk <= kind && kind <= api.MailShare
		for _, sender := range []string{"", "ann", "Bob", "b b", "bob\xff", long(65), "bob", "cyd"} {
			for _, to := range []string{"ann", "Ann", "bob", "", "ANN "} {
				m := api.Mail{Kind: kind, From: sender, To: to, N: 1, Resource: "g"}
				good := is && to == "ann" && (sender == "bob" || sender == "cyd")
				if kind == api.MailShare {
					good = to == "ann" && sender == ""
				}
				if !good {
					u.deaf(m, api.ErrArg)
					m.Resource, m.N = "", 0
					u.deaf(m, api.ErrArg)
					continue
				}
				if kind <= api.MailDeny {
					m.N = 0
					u.deaf(m, api.ErrArg)
				}
				m.N = 1
				if _, e := u.Hear(m); e != api.OK {
					t.Errorf("Hear(%v): %v", m, e)
				}
			}
		}
	}
	// A number is asked of requests alone.
	for _, kind := range []int{api.MailHere, api.MailAway, api.MailProbe} {
		if _, e := u.Hear(api.Mail{Kind: kind, From: "bob", To: "ann"}); e != api.OK {
			t.Errorf("mail %d without a number: %v", kind, e)
		}
	}
}

func TestP185Requests(t *testing.T) {
	eachHalf(t, func(t *testing.T, u user, x api.Entry, shared bool) {
		for _, kind := range []int{api.MailAsk, api.MailLeave, api.MailGrant, api.MailDeny} {
			for _, n := range []uint64{100, 200, 300} {
				u := opened(t, u.Image())
				u.withBob()
				told, is := 0, x
				switch {
				case kind == api.MailAsk:
					told, is.Half.In, is.Half.M = api.Asked, api.Open, n
				case kind == api.MailLeave && x.Half.In != api.None && n == 200:
					told, is.Half.In, is.Half.M = api.Left, api.None, 0
				case kind == api.MailGrant && x.Half.Out == api.Open && n == 100:
					told, is.Half.Out = api.Granted, api.Whole
				case kind == api.MailDeny && x.Half.Out != api.None && n == 100:
					told, is.Half.Out, is.Half.N = api.Denied, api.None, 0
				}
				if told == 0 {
					u.hears(from(kind, "bob", n), "")
					continue
				}
				says := fmt.Sprintf("1:%[1]s A=bob; 2:%[1]s A=bob", stanzaNames[told])
				changed := x.Kept && x.Half != is.Half
				away := kind == api.MailLeave && x.Half.In == api.Whole && !shared
				u.hears(from(kind, "bob", n), join(says, where(changed, toldAs(is, shared, 1)), where(away, allAway)))
			}
		}
	})
}

func TestP185DenyGoesBack(t *testing.T) {
	u := made(t, "ann", annBounds)
	u.binds(1, "d", "")
	u.must(1, api.Stanza{Kind: api.Fetch})
	u.must(1, here())
	u.hears(from(api.MailAsk, "bob", 3), "1:Asked A=bob")
	u.hears(from(api.MailAsk, "cyd", math.MaxUint64), "1:Asked A=cyd")
	before := state(u.Person)
	u.hears(from(api.MailAsk, "dan", 5), "Deny to dan N=5")
	u.hears(from(api.MailAsk, "eve", math.MaxUint64), "Deny to eve N=18446744073709551615")
	if state(u.Person) != before {
		t.Error("who is denied is not forgotten")
	}
	// Who is shared is no item for that.
	u.share("team", "ann", "dan")
	u.hears(from(api.MailAsk, "dan", 6), "Deny to dan N=6")
	u.must(1, about(api.Put, "dan"))
	u.hears(from(api.MailAsk, "dan", 7), "1:Asked A=dan; 1:Item A=dan Text=both List=team N=3")
}

func TestP185Presence(t *testing.T) {
	eachHalf(t, func(t *testing.T, u user, x api.Entry, shared bool) {
		u.withBob()
		seen := x.Half.Out == api.Whole || shared
		hears := func(m api.Mail, want string) {
			t.Helper()
			m.From = "bob"
			u.hears(m, where(seen, want))
		}
		hears(api.Mail{Kind: api.MailHere}, "1:Seen A=bob; 2:Seen A=bob")
		hears(api.Mail{Kind: api.MailHere, Resource: "x", Priority: -3, Show: "xa", Status: "st", N: 9, List: []string{"l"}},
			"1:Seen A=bob B=x Text=st List=xa N=-3; 2:Seen A=bob B=x Text=st List=xa N=-3")
		hears(api.Mail{Kind: api.MailAway, Resource: "x", Priority: -3, Show: "xa", Status: "st", N: 9}, "1:Away A=bob B=x Text=st; 2:Away A=bob B=x Text=st")
		for _, kind := range []int{api.MailHere, api.MailAway} {
			name := map[int]string{api.MailHere: "Seen", api.MailAway: "Away"}[kind]
			hears(api.Mail{Kind: kind, Resource: "x", Target: "d"}, fmt.Sprintf("1:%s A=bob B=x", name))
			hears(api.Mail{Kind: kind, Resource: "x", Target: "e"}, fmt.Sprintf("2:%s A=bob B=x", name))
			hears(api.Mail{Kind: kind, Resource: "x", Target: "f"}, "")
			hears(api.Mail{Kind: kind, Resource: "x", Target: "D"}, "")
			hears(api.Mail{Kind: kind, Resource: "x", Target: "none"}, "")
		}
		// They are told as they are, though no stanza could be so.
		hears(api.Mail{Kind: api.MailHere, Resource: "\n", Status: "\xff", Show: "?", Priority: 1000, Target: "e"}, "2:Seen A=bob B=\n Text=\xff List=? N=1000")
	})
}

func TestP185Probe(t *testing.T) {
	eachHalf(t, func(t *testing.T, u user, x api.Entry, shared bool) {
		u.withBob()
		sees := x.Half.In == api.Whole || shared
		u.hears(api.Mail{Kind: api.MailProbe, From: "bob", Resource: "r", Show: "xa", Status: "no", Priority: 4, N: 4, Target: "q"},
			where(sees, "Here to bob Resource=d Target=q; Here to bob Resource=e Priority=9 Show=dnd Status=st Target=q"))
		u.hears(api.Mail{Kind: api.MailProbe, From: "bob"}, where(sees, allHere))
		u.hears(api.Mail{Kind: api.MailProbe, From: "dan", Target: "q"}, "")
	})
}

func TestP185ShareFaults(t *testing.T) {
	u := made(t, "ann", annBounds)
	for _, group := range []string{"", "a\xff", long(65), strings.Repeat("ä", 33)} {
		u.deaf(api.Mail{Kind: api.MailShare, To: "ann", Resource: group, List: []string{"ann", "bob"}}, api.ErrName)
	}
	for _, list := range [][]string{{""}, {"Ann"}, {"ann", "a b"}, {"bob", "ann"}, {"ann", "ann"}, {"ann", "bob", "bob"}, {"ann", "c", "bob"}, {"ann", "\xff"}, {long(65)}} {
		u.deaf(api.Mail{Kind: api.MailShare, To: "ann", Resource: "g", List: list}, api.ErrName)
	}
	for i := range 32 {
		u.share(fmt.Sprint("g", i), "ann", "bob")
	}
	u.deaf(api.Mail{Kind: api.MailShare, To: "ann", Resource: "h", List: []string{"ann", "bob"}}, api.ErrFull)
	u.deaf(api.Mail{Kind: api.MailShare, To: "ann", Resource: "h", List: []string{"abe", "ann"}}, api.ErrFull)
	u.deaf(api.Mail{Kind: api.MailShare, To: "ann", Resource: "h", List: []string{"ann", "ann"}}, api.ErrName)
	// There is room for what is no group of this user's, and for one that is there.
	for _, list := range [][]string{nil, {"ann"}, {"bob"}, {"abe", "bob"}} {
		u.share("h", list...)
	}
	u.share("g7", "ann", "cyd")
	if m := u.Image(); len(m.Groups) != 32 || m.Shifts != 37 || u.Ver() != 37 {
		t.Error(imageText(m))
	}
	u.share("g8", "bob")
	u.share(long(64), "abe", "ann", "bob")
	if m := u.Image(); len(m.Groups) != 32 || !slices.Equal(m.Members[31], []string{"abe", "bob"}) {
		t.Error(imageText(m))
	}
}

// What there is of a group behind a mail, whatever there was.
func TestP185ShareGroups(t *testing.T) {
	lists := [][]string{nil, {"ann"}, {"bob"}, {"bob", "cyd"}, {"ann", "bob"}, {"abe", "ann"}, {"abe", "ann", "bob"}, {"abe", "ann", "cyd"}}
	of := func(list []string) []string {
		if !slices.Contains(list, "ann") || len(list) == 1 {
			return nil
		}
		return slices.DeleteFunc(slices.Clone(list), func(s string) bool { return s == "ann" })
	}
	for _, first := range lists {
		for _, second := range lists {
			u := made(t, "ann", annBounds)
			u.binds(1, "d", "")
			u.binds(2, "e", "")
			u.must(1, api.Stanza{Kind: api.Fetch})
			u.share("g", first...)
			u.must(2, here())
			was, is := of(first), of(second)
			var pushes, mails []string
			for _, c := range []string{"abe", "bob", "cyd"} {
				before, after := slices.Contains(was, c), slices.Contains(is, c)
				switch {
				case after:
					pushes = append(pushes, fmt.Sprintf("1:Item A=%s Text=both List=g N=2", c))
				case before:
					pushes = append(pushes, fmt.Sprintf("1:Removed A=%s N=2", c))
				}
				switch {
				case after && !before:
					mails = append(mails, fmt.Sprintf("Here to %s Resource=e", c))
				case before && !after:
					mails = append(mails, fmt.Sprintf("Away to %s Resource=e", c))
				}
			}
			u.hears(api.Mail{Kind: api.MailShare, Resource: "g", List: second}, join(append(pushes, mails...)...))
			want := imageText(api.Image{Name: "ann", Sessions: 2, Book: api.Book{Items: 5, Asks: 2}, Shelf: api.Shelf{Lists: 2, Rules: 5}, Shifts: 2})
			if len(is) > 0 {
				want = imageText(api.Image{Name: "ann", Sessions: 2, Book: api.Book{Items: 5, Asks: 2}, Shelf: api.Shelf{Lists: 2, Rules: 5}, Shifts: 2, Groups: []string{"g"}, Members: [][]string{is}})
			}
			if got := imageText(u.Image()); got != want {
				t.Errorf("%q, then %q: %s, not %s", first, second, got, want)
			}
		}
	}
}

// Of every half: who comes to be shared, stays so by another group, or is shared no more.
func TestP185ShareHalves(t *testing.T) {
	eachHalf(t, func(t *testing.T, u user, x api.Entry, shared bool) {
		if !shared {
			u.withBob()
			u.hears(api.Mail{Kind: api.MailShare, Resource: "team", List: []string{"ann", "bob"}}, join(toldAs(x, true, 1), allHere))
			return
		}
		v := opened(t, u.Image())
		u.withBob()
		u.hears(api.Mail{Kind: api.MailShare, Resource: "team"}, join(toldAs(x, false, 1), where(x.Half.In != api.Whole, allAway)))
		v.t = t
		v.withBob()
		v.hears(api.Mail{Kind: api.MailShare, Resource: "team", List: []string{"ann", "bob"}}, toldAs(x, true, 1))
		v.hears(api.Mail{Kind: api.MailShare, Resource: "more", List: []string{"ann", "bob"}}, strings.Replace(toldAs(x, true, 2), "List=team", "List=more+team", 1))
		v.hears(api.Mail{Kind: api.MailShare, Resource: "more"}, toldAs(x, true, 3))
	})
}

// The list of a contact that is not shared any more is asked of them as they are now; that of one who is, too.
func TestP185ShareByList(t *testing.T) {
	for _, x := range []struct {
		rule              string
		toldHere, toldOff bool
	}{
		{"allow both all", true, true},
		{"deny out group team", false, true},
		{"deny out sub both", false, true},
		{"deny out sub none", true, false},
		{"deny out jid bob", false, false},
		{"deny in all", true, true},
	} {
		m := imageOf()
		m.Shelf.Names, m.Shelf.Texts, m.Shelf.Default = []string{"l"}, [][]string{{x.rule}}, "l"
		u := opened(t, m)
		u.binds(1, "d", "")
		u.must(1, here())
		u.hears(api.Mail{Kind: api.MailShare, Resource: "team", List: []string{"ann", "bob"}}, where(x.toldHere, "Here to bob Resource=d"))
		u.hears(api.Mail{Kind: api.MailShare, Resource: "team"}, where(x.toldOff, "Away to bob Resource=d"))
	}
}

func TestP186Seats(t *testing.T) {
	u := made(t, "ann", wide)
	for _, conn := range []int{5, -7, 0, 300, 12, math.MinInt, math.MaxInt} {
		u.binds(conn, fmt.Sprint("r", conn), "")
	}
	u.must(12, api.Stanza{Kind: api.Fetch})
	u.must(0, api.Stanza{Kind: api.Here, N: 127})
	u.must(0, about(api.Rules, "l"))
	u.must(300, about(api.Active, "l"))
	u.seats(
		api.Seat{Conn: math.MinInt, Resource: fmt.Sprint("r", math.MinInt)}, api.Seat{Conn: -7, Resource: "r-7"},
		api.Seat{Conn: 0, Resource: "r0", Priority: 127, Here: true}, api.Seat{Conn: 5, Resource: "r5"},
		api.Seat{Conn: 12, Resource: "r12", Asking: true}, api.Seat{Conn: 300, Resource: "r300", Active: "l"},
		api.Seat{Conn: math.MaxInt, Resource: fmt.Sprint("r", math.MaxInt)},
	)
}

func TestP186Ver(t *testing.T) {
	u := made(t, "ann", annBounds)
	u.binds(1, "d", "")
	for i, step := range []func(){
		func() { u.must(1, about(api.Put, "bob")) },
		func() { u.share("g") },
		func() { u.share("g", "ann", "bob") },
		func() { u.must(1, about(api.Put, "bob")) },
		func() { u.must(1, about(api.Ask, "bob")) },
		func() { u.must(1, about(api.Drop, "bob")) },
	} {
		step()
		if u.Ver() != i+1 {
			t.Errorf("Ver: %d, not %d", u.Ver(), i+1)
		}
	}
	for _, step := range []func(){
		func() { u.must(1, here()) },
		func() { u.must(1, about(api.Rules, "l")) },
		func() { u.must(1, about(api.Leave, "bob")) },
		func() { u.hears(from(api.MailAsk, "cyd", 3), "1:Asked A=cyd") },
		func() { u.ends(1, api.OK, "Away to bob Resource=d") },
	} {
		step()
		if u.Ver() != 6 {
			t.Errorf("Ver: %d, not 6", u.Ver())
		}
	}
}
