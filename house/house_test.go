package house

import (
	"fmt"
	"math"
	"slices"
	"strings"
	"testing"

	"roost/api"
	"roost/person"
)

// In the tests' names stands which promise they hold.

// wide is a plan whose bounds no test comes to by chance.
func wide() api.Plan {
	return api.Plan{
		Host:   "x.org",
		Bounds: api.Bounds{Items: 50, Asks: 50, Lists: 50, Rules: 50, Sessions: 50},
		Users:  50,
		Groups: 30,
	}
}

func long(n int) string { return strings.Repeat("x", n) }

var stanzaNames = map[int]string{
	api.Did: "Did", api.Item: "Item", api.Removed: "Removed", api.Same: "Same", api.Seen: "Seen", api.Away: "Away",
	api.Asked: "Asked", api.Granted: "Granted", api.Left: "Left", api.Denied: "Denied", api.Closed: "Closed",
}

// outText is a stanza for a connection as a text, without the parts that are zero.
func outText(o api.Out) string {
	s := o.S
	text := fmt.Sprintf("%d:%s", o.Conn, stanzaNames[s.Kind])
	parts := []any{"Id", s.Id, "A", s.A, "B", s.B, "Text", s.Text, "List", strings.Join(s.List, "+"), "N", s.N, "F", math.Float64bits(s.F)}
	for i := 0; i < len(parts); i += 2 {
		if value := fmt.Sprint(parts[i+1]); value != "" && value != "0" {
			text += fmt.Sprintf(" %s=%s", parts[i], value)
		}
	}
	return text
}

func said(outs []api.Out) string {
	var l []string
	for _, o := range outs {
		l = append(l, outText(o))
	}
	return strings.Join(l, "; ")
}

// imageText is an image as a text, in which a list that is nil is an empty one.
func imageText(m api.Image) string {
	b, s := m.Book, m.Shelf
	text := fmt.Sprintf("%q %d %d; bounds %d %d, Ver %d, Next %d:", m.Name, m.Sessions, m.Shifts, b.Items, b.Asks, b.Ver, b.Next)
	for _, x := range b.Entries {
		text += fmt.Sprintf(" %q %v %q %q %v", x.Contact, x.Kept, x.Name, x.Groups, x.Half)
	}
	text += fmt.Sprintf("; bounds %d %d, %q, %q", s.Lists, s.Rules, s.Default, s.Names)
	for _, l := range s.Texts {
		text += fmt.Sprintf(" %q", l)
	}
	text += fmt.Sprintf("; %q", m.Groups)
	for _, l := range m.Members {
		text += fmt.Sprintf(" %q", l)
	}
	return text
}

// personText is a user's image and sessions as a text.
func personText(m api.Image, seats []api.Seat) string {
	text := imageText(m)
	for _, seat := range seats {
		text += fmt.Sprintf("; %#v", seat)
	}
	return text
}

// state is all that a house tells of itself.
func state(h *House) string {
	var l []string
	for _, user := range h.Users() {
		m, _ := h.Image(user)
		l = append(l, personText(m, h.Seats(user)))
	}
	for _, group := range h.Groups() {
		l = append(l, fmt.Sprintf("%q: %q", group, h.Members(group)))
	}
	return strings.Join(l, "\n")
}

// tenant is a house in a test.
type tenant struct {
	t testing.TB
	*House
}

func made(t testing.TB, p api.Plan, users ...string) tenant {
	t.Helper()
	h, e := New(p)
	if h == nil || e != api.OK {
		t.Fatalf("New(%v): %v", p, e)
	}
	u := tenant{t, h}
	for _, user := range users {
		u.adds(user)
	}
	return u
}

func (h tenant) adds(user string) {
	h.t.Helper()
	if e := h.AddUser(user); e != api.OK {
		h.t.Fatalf("AddUser(%q): %v", user, e)
	}
}

func (h tenant) is(what string, outs []api.Out, e api.Errno, want string, f api.Errno) {
	h.t.Helper()
	if got := said(outs); got != want || e != f {
		h.t.Errorf("%.300s:\n%s, %v; not\n%s, %v", what, got, e, want, f)
	}
}

// does asks what a client's stanza leads to.
func (h tenant) does(conn int, s api.Stanza, want string) {
	h.t.Helper()
	outs, e := h.Do(conn, s)
	h.is(fmt.Sprintf("Do(%d, %v)", conn, s), outs, e, want, api.OK)
}

func (h tenant) binds(conn int, user, resource, want string) {
	h.t.Helper()
	outs, e := h.Bind(conn, user, resource)
	h.is(fmt.Sprintf("Bind(%d, %q, %q)", conn, user, resource), outs, e, want, api.OK)
}

func (h tenant) ends(conn int, why api.Errno, want string) {
	h.t.Helper()
	outs, ok := h.End(conn, why)
	if got := said(outs); got != want || !ok {
		h.t.Errorf("End(%d, %v): %s, %v; not %s", conn, why, got, ok, want)
	}
}

func (h tenant) drops(user, want string) {
	h.t.Helper()
	outs, e := h.DropUser(user)
	h.is(fmt.Sprintf("DropUser(%q)", user), outs, e, want, api.OK)
}

func (h tenant) sets(group string, members []string, want string) {
	h.t.Helper()
	outs, e := h.SetGroup(group, members)
	h.is(fmt.Sprintf("SetGroup(%q, %q)", group, members), outs, e, want, api.OK)
}

// must lets a client say something, whatever that tells.
func (h tenant) must(conn int, s api.Stanza) {
	h.t.Helper()
	if _, e := h.Do(conn, s); e != api.OK {
		h.t.Fatalf("Do(%d, %v): %v", conn, s, e)
	}
}

// share makes a group, whatever that tells.
func (h tenant) share(group string, members ...string) {
	h.t.Helper()
	if _, e := h.SetGroup(group, members); e != api.OK {
		h.t.Fatalf("SetGroup(%q, %q): %v", group, members, e)
	}
}

// comes lets a user be here on a connection, whatever that tells.
func (h tenant) comes(conn int, user, resource string) {
	h.t.Helper()
	if _, e := h.Bind(conn, user, resource); e != api.OK {
		h.t.Fatalf("Bind(%d, %q, %q): %v", conn, user, resource, e)
	}
	h.must(conn, here())
}

// sees lets one at a connection see the user of another one, whatever that tells.
func (h tenant) sees(conn int, user string, other int, whom string) {
	h.t.Helper()
	h.must(conn, about(api.Ask, whom))
	h.must(other, about(api.Grant, user))
}

// unchanged asks that a call is refused, tells nothing, and leaves all as it was.
func (h tenant) unchanged(what string, e api.Errno, call func() ([]api.Out, api.Errno)) {
	h.t.Helper()
	before := state(h.House)
	outs, f := call()
	h.is(what, outs, f, "", e)
	if outs != nil {
		h.t.Errorf("%.300s: a list beside an error", what)
	}
	if after := state(h.House); after != before {
		h.t.Errorf("%.300s was refused, and changed\n%s\nto\n%s", what, before, after)
	}
}

func (h tenant) notAdded(user string, e api.Errno) {
	h.t.Helper()
	h.unchanged(fmt.Sprintf("AddUser(%q)", user), e, func() ([]api.Out, api.Errno) { return nil, h.AddUser(user) })
}

func (h tenant) notDropped(user string, e api.Errno) {
	h.t.Helper()
	h.unchanged(fmt.Sprintf("DropUser(%q)", user), e, func() ([]api.Out, api.Errno) { return h.DropUser(user) })
}

func (h tenant) notSet(group string, members []string, e api.Errno) {
	h.t.Helper()
	h.unchanged(fmt.Sprintf("SetGroup(%q, %q)", group, members), e, func() ([]api.Out, api.Errno) { return h.SetGroup(group, members) })
}

func (h tenant) unbound(conn int, user, resource string, e api.Errno) {
	h.t.Helper()
	h.unchanged(fmt.Sprintf("Bind(%d, %q, %q)", conn, user, resource), e, func() ([]api.Out, api.Errno) { return h.Bind(conn, user, resource) })
}

func (h tenant) refuses(conn int, s api.Stanza, e api.Errno) {
	h.t.Helper()
	h.unchanged(fmt.Sprintf("Do(%d, %v)", conn, s), e, func() ([]api.Out, api.Errno) { return h.Do(conn, s) })
}

// isFree asks that a connection has no session.
func (h tenant) isFree(conn int) {
	h.t.Helper()
	h.refuses(conn, here(), api.ErrState)
	h.unchanged(fmt.Sprintf("End(%d)", conn), api.ErrState, func() ([]api.Out, api.Errno) {
		outs, ok := h.End(conn, api.ErrLease)
		if ok {
			return outs, api.OK
		}
		return outs, api.ErrState
	})
}

func (h tenant) hasUsers(want ...string) {
	h.t.Helper()
	if got := h.Users(); !slices.Equal(got, want) {
		h.t.Errorf("Users: %q, not %q", got, want)
	}
}

func (h tenant) hasGroups(want ...string) {
	h.t.Helper()
	if got := h.Groups(); !slices.Equal(got, want) {
		h.t.Errorf("Groups: %q, not %q", got, want)
	}
}

func (h tenant) hasMembers(group string, want ...string) {
	h.t.Helper()
	if got := h.Members(group); !slices.Equal(got, want) {
		h.t.Errorf("Members(%q): %q, not %q", group, got, want)
	}
}

// hasHalf asks what a user has of another one.
func (h tenant) hasHalf(user, contact string, want api.Half) {
	h.t.Helper()
	m, _ := h.Image(user)
	for _, entry := range m.Book.Entries {
		if entry.Contact == contact {
			if entry.Half != want {
				h.t.Errorf("%s has %v of %s, not %v", user, entry.Half, contact, want)
			}
			return
		}
	}
	if want != (api.Half{}) {
		h.t.Errorf("%s has nothing of %s", user, contact)
	}
}

func here() api.Stanza { return api.Stanza{Kind: api.Here} }

func fetch() api.Stanza { return api.Stanza{Kind: api.Fetch} }

func about(kind int, contact string) api.Stanza { return api.Stanza{Kind: kind, A: contact} }

func TestRuns(t *testing.T) {
	for _, x := range []struct {
		turn func(p *api.Plan)
		e    api.Errno
	}{
		{func(p *api.Plan) { p.Host = "X" }, api.ErrName},
		{func(p *api.Plan) { p.Groups = 33 }, api.ErrArg},
	} {
		p := wide()
		x.turn(&p)
		if h, e := New(p); h != nil || e != x.e {
			t.Errorf("New(%v): %v, not %v", p, e, x.e)
		}
	}

	// One who is not asking, and one who is.
	h := made(t, wide(), "ann", "bob")
	h.comes(1, "ann", "d")
	h.comes(2, "bob", "d")
	h.does(1, about(api.Ask, "bob"), "1:Did N=1; 2:Asked A=ann")
	h.does(2, about(api.Grant, "ann"), "2:Did N=1; 1:Granted A=bob; 1:Seen A=bob B=d")
	h.does(1, about(api.Ask, "zed"), "1:Did N=3; 1:Denied A=zed")
	h.must(2, fetch())
	h.does(2, about(api.Ask, "ann"), "2:Item A=ann Text=from,ask N=2; 2:Did N=2; 1:Asked A=bob")

	h = made(t, wide(), "ann", "bob")
	h.comes(1, "ann", "d")
	h.comes(2, "bob", "e")
	h.sets("team", []string{"ann", "bob"}, "2:Seen A=ann B=d; 1:Seen A=bob B=e")

	h = made(t, wide(), "ann", "bob")
	h.comes(1, "ann", "d")
	h.comes(2, "bob", "d")
	h.binds(3, "bob", "e", "")
	h.sees(1, "ann", 2, "bob")
	h.drops("bob", "2:Closed N=7; 3:Closed N=7; 1:Away A=bob B=d; 1:Denied A=bob")
	h.unbound(1, "ann", "e", api.ErrTwice)
}

func TestExampleLetInAgain(t *testing.T) {
	h := made(t, wide(), "ann", "bob")
	fresh, _ := h.Image("bob")
	h.comes(1, "ann", "d")
	h.comes(2, "bob", "d")
	h.sees(1, "ann", 2, "bob")
	h.sees(2, "bob", 1, "ann")
	h.must(2, api.Stanza{Kind: api.Rules, A: "l", List: []string{"deny both all"}})
	h.share("team", "ann", "bob")
	h.drops("bob", "2:Closed N=7; 1:Away A=bob B=d; 1:Left A=bob; 1:Denied A=bob")
	h.adds("bob")
	if m, _ := h.Image("bob"); imageText(m) != imageText(fresh) || len(h.Seats("bob")) > 0 {
		t.Error("one who was let in again has", personText(m, h.Seats("bob")))
	}
	h.isFree(2)
	h.hasMembers("team", "ann")
	h.comes(2, "bob", "d")
	h.does(2, about(api.Ask, "ann"), "2:Did N=1; 1:Asked A=bob")
	h.hasHalf("ann", "bob", api.Half{In: api.Open, M: 1})
}

func TestExampleAskedWhileAway(t *testing.T) {
	h := made(t, wide(), "ann", "bob")
	h.comes(1, "ann", "d")
	h.does(1, about(api.Ask, "bob"), "1:Did N=1")
	h.binds(2, "bob", "d", "")
	h.does(2, here(), "2:Asked A=ann; 2:Did")
}

func TestP201New(t *testing.T) {
	bounds := func(turn func(b *api.Bounds, n int)) func(p *api.Plan, n int) {
		return func(p *api.Plan, n int) { turn(&p.Bounds, n) }
	}
	for i, x := range []struct {
		set  func(p *api.Plan, n int)
		most int
	}{
		{func(p *api.Plan, n int) { p.Users = n }, 10000},
		{func(p *api.Plan, n int) { p.Groups = n }, 32},
		{bounds(func(b *api.Bounds, n int) { b.Sessions = n }), 1000},
		{bounds(func(b *api.Bounds, n int) { b.Items = n }), 10000},
		{bounds(func(b *api.Bounds, n int) { b.Asks = n }), 10000},
		{bounds(func(b *api.Bounds, n int) { b.Lists = n }), math.MaxInt},
		{bounds(func(b *api.Bounds, n int) { b.Rules = n }), math.MaxInt},
	} {
		for _, n := range []int{math.MinInt, -1, 0, 1, 31, 32, 33, 999, 1000, 1001, 9999, 10000, 10001, math.MaxInt} {
			p := wide()
			x.set(&p, n)
			want := api.OK
			if _, e := person.New("ann", p.Bounds); e != api.OK || n < 0 || n > x.most {
				want = api.ErrArg
			}
			if h, e := New(p); (h == nil) != (want != api.OK) || e != want {
				t.Errorf("New, bound %d of %d: %v, not %v", i, n, e, want)
			}
			p.Host = "X.org"
			if h, e := New(p); h != nil || e != api.ErrName {
				t.Errorf("New of another host's name, bound %d of %d: %v", i, n, e)
			}
		}
	}
}

func TestP201NewHosts(t *testing.T) {
	for _, host := range []string{"x", "x.org", "a-b.c9", "0", long(64), "a." + long(62)} {
		p := wide()
		p.Host = host
		if h := made(t, p); len(h.Users()) > 0 || len(h.Groups()) > 0 {
			t.Errorf("New of %q: %s", host, state(h.House))
		}
	}
	for _, host := range []string{"", "X", "x.Org", "a..b", ".a", "a.", "-a", "a-", "ä", "x/y", "x\xff", "a_b", long(65), long(70000)} {
		p := wide()
		p.Host = host
		if h, e := New(p); h != nil || e != api.ErrName {
			t.Errorf("New of %.80q: %v", host, e)
		}
	}
}

func TestP201AddUser(t *testing.T) {
	p := wide()
	p.Users = 4
	h := made(t, p)
	for _, user := range []string{"Bob", "ann", "ÄRN", "x"} {
		h.adds(user)
	}
	h.hasUsers("ann", "bob", "x", "ärn")
	for user, prepared := range map[string]string{"ann": "ann", "ANN": "ann", "bob": "bob", "Ärn": "ärn"} {
		fresh, _ := person.New(prepared, p.Bounds)
		if m, ok := h.Image(user); !ok || imageText(m) != imageText(fresh.Image()) || len(h.Seats(user)) > 0 {
			t.Errorf("AddUser: %q is %s", user, imageText(m))
		}
	}
	// A name comes ahead of one that is there twice, and this ahead of there being no room.
	for user, e := range map[string]api.Errno{
		"": api.ErrName, "a b": api.ErrName, "a@b": api.ErrName, "\xff": api.ErrName, long(65): api.ErrBig, strings.Repeat("\xff", 65): api.ErrBig,
		"ann": api.ErrTwice, "Ann": api.ErrTwice, "BOB": api.ErrTwice, "ärn": api.ErrTwice,
		"cyd": api.ErrFull, "CYD": api.ErrFull, long(64): api.ErrFull,
	} {
		h.notAdded(user, e)
	}
	h.drops("ANN", "")
	h.adds("cyd")
	h.notAdded("ann", api.ErrFull)
	h.hasUsers("bob", "cyd", "x", "ärn")
}

func TestP201NoRoom(t *testing.T) {
	p := wide()
	p.Users, p.Groups = 0, 0
	h := made(t, p)
	h.notAdded("ann", api.ErrFull)
	h.notAdded("a b", api.ErrName)
	h.hasUsers()
	h.sets("g", nil, "")
	p.Users = 1
	h = made(t, p, "ann")
	h.notSet("g", []string{"ann"}, api.ErrFull)
	h.hasGroups()
}

func TestP201ManyUsers(t *testing.T) {
	p := wide()
	p.Users = 10000
	h := made(t, p)
	for i := range p.Users {
		if e := h.AddUser(fmt.Sprintf("u%05d", p.Users-i)); e != api.OK {
			t.Fatal(i, e)
		}
	}
	if e := h.AddUser("ann"); e != api.ErrFull {
		t.Error("one more:", e)
	}
	if users := h.Users(); len(users) != p.Users || !slices.IsSorted(users) {
		t.Errorf("%d users, sorted: %v", len(users), slices.IsSorted(users))
	}
}

func TestP202Faults(t *testing.T) {
	h := made(t, wide(), "ann", "bob")
	h.comes(1, "ann", "d")
	h.comes(2, "bob", "d")
	h.sees(1, "ann", 2, "bob")
	h.share("team", "ann", "bob")
	for user, e := range map[string]api.Errno{"": api.ErrName, "a b": api.ErrName, "\xff": api.ErrName, long(65): api.ErrBig, "zed": api.ErrNone, long(64): api.ErrNone} {
		h.notDropped(user, e)
	}
	if _, e := h.DropUser("Bob"); e != api.OK {
		t.Error(e)
	}
	h.notDropped("bob", api.ErrNone)
	h.hasUsers("ann")
}

// Sessions end rising by connection, and all that they say comes ahead of what others are told.
func TestP202Sessions(t *testing.T) {
	h := made(t, wide(), "ann", "bob")
	h.comes(1, "ann", "d")
	for _, conn := range []int{7, -3, 30, 5, math.MinInt, math.MaxInt} {
		h.comes(conn, "bob", fmt.Sprint("r", conn))
	}
	h.must(5, api.Stanza{Kind: api.Gone})
	h.sees(1, "ann", 7, "bob")
	least, most := fmt.Sprint(math.MinInt), fmt.Sprint(math.MaxInt)
	h.drops("bob", least+":Closed N=7; -3:Closed N=7; 5:Closed N=7; 7:Closed N=7; 30:Closed N=7; "+most+":Closed N=7; "+
		"1:Away A=bob B=r"+least+"; 1:Away A=bob B=r-3; 1:Away A=bob B=r7; 1:Away A=bob B=r30; 1:Away A=bob B=r"+most+"; 1:Denied A=bob")
	for _, conn := range []int{7, -3, 30, 5, math.MinInt, math.MaxInt} {
		h.isFree(conn)
		h.comes(conn, "ann", fmt.Sprint("s", conn))
	}
}

// Halves of all kinds end, rising by contact, a Leave ahead of a Deny.
func TestP202Halves(t *testing.T) {
	users := []string{"bob", "open", "whole", "asks", "seeing", "both", "crossed", "item"}
	h := made(t, wide(), users...)
	for i, user := range users {
		h.comes(i, user, "r")
		h.must(i, fetch())
	}
	const bob, open, whole, asks, seeing, both, crossed = 0, 1, 2, 3, 4, 5, 6
	h.must(bob, about(api.Put, "item"))
	h.must(bob, about(api.Put, "zed"))
	h.must(bob, about(api.Ask, "open"))
	h.sees(bob, "bob", whole, "whole")
	h.must(asks, about(api.Ask, "bob"))
	h.sees(seeing, "seeing", bob, "bob")
	h.sees(bob, "bob", both, "both")
	h.sees(both, "both", bob, "bob")
	h.must(bob, about(api.Ask, "crossed"))
	h.must(crossed, about(api.Ask, "bob"))
	h.drops("bob", strings.Join([]string{
		"0:Closed N=7",
		// What its session said goes ahead: those who see are told Away.
		"5:Away A=bob B=r", "4:Away A=bob B=r",
		"3:Denied A=bob", "3:Item A=bob Text=none N=2",
		"5:Left A=bob", "5:Item A=bob Text=to N=4", "5:Denied A=bob", "5:Item A=bob Text=none N=5",
		"6:Left A=bob", "6:Item A=bob Text=none,ask N=2", "6:Denied A=bob", "6:Item A=bob Text=none N=3",
		"1:Left A=bob",
		"4:Denied A=bob", "4:Item A=bob Text=none N=3",
		"2:Left A=bob", "2:Item A=bob Text=none N=2",
	}, "; "))
	for _, user := range users[1:] {
		h.hasHalf(user, "bob", api.Half{})
	}
}

// The mails that end halves have the numbers of those halves: an old one would do nothing.
func TestP202Numbers(t *testing.T) {
	h := made(t, wide(), "ann", "bob", "cyd")
	h.comes(1, "ann", "r")
	h.comes(2, "bob", "r")
	for range 3 {
		h.must(1, about(api.Ask, "cyd"))
		h.must(2, about(api.Ask, "ann"))
		h.must(2, about(api.Leave, "ann"))
	}
	h.sees(1, "ann", 2, "bob")
	h.sees(2, "bob", 1, "ann")
	h.hasHalf("ann", "bob", api.Half{Out: api.Whole, N: 2, In: api.Whole, M: 4})
	h.drops("bob", "2:Closed N=7; 1:Away A=bob B=r; 1:Left A=bob; 1:Denied A=bob")
	h.hasHalf("ann", "bob", api.Half{})
}

func TestP202Groups(t *testing.T) {
	h := made(t, wide(), "ann", "bob", "cyd", "dan")
	for i, user := range h.Users() {
		h.comes(i, user, "r")
	}
	h.share("z", "ann", "bob", "cyd")
	h.share("a", "bob", "dan")
	h.share("m", "bob")
	h.share("other", "ann", "dan")
	for i := range 4 {
		h.must(i, fetch())
	}
	h.drops("BOB", strings.Join([]string{
		"1:Closed N=7",
		// Those who shared a group with the one who goes see that, while they still do.
		"0:Away A=bob B=r", "2:Away A=bob B=r", "3:Away A=bob B=r",
		// Then group by group, member by member.
		"3:Removed A=bob N=3",
		"0:Removed A=bob N=3", "0:Item A=cyd Text=both List=z N=3", "2:Item A=ann Text=both List=z N=2", "2:Removed A=bob N=2",
	}, "; "))
	h.hasGroups("a", "other", "z")
	h.hasMembers("a", "dan")
	h.hasMembers("other", "ann", "dan")
	h.hasMembers("z", "ann", "cyd")
	h.hasMembers("m")
	// Who was in none of the groups hears nothing of them, the others once for each.
	for user, shifts := range map[string]uint64{"ann": 3, "cyd": 2, "dan": 3} {
		if m, _ := h.Image(user); m.Shifts != shifts {
			t.Errorf("%s heard %d times of groups, not %d", user, m.Shifts, shifts)
		}
	}
	// There is room for another group then.
	h.share("m", "ann")
	h.drops("dan", "3:Closed N=7; 0:Away A=dan B=r; 0:Removed A=dan N=5")
	h.hasGroups("m", "other", "z")
}

// All mails stand in one row: those of sessions, of halves, and of groups, each in the order in which they came.
func TestP202Row(t *testing.T) {
	h := made(t, wide(), "ann", "bob", "cyd")
	for i, user := range h.Users() {
		h.comes(i, user, "r")
		h.must(i, fetch())
	}
	h.sees(0, "ann", 1, "bob")
	h.sees(1, "bob", 0, "ann")
	h.share("g", "ann", "bob", "cyd")
	h.drops("bob", strings.Join([]string{
		"1:Closed N=7",
		"0:Away A=bob B=r", "2:Away A=bob B=r",
		"0:Left A=bob", "0:Item A=bob Text=both List=g N=6", "0:Denied A=bob", "0:Item A=bob Text=both List=g N=7",
		"0:Item A=bob Text=none N=8", "0:Item A=cyd Text=both List=g N=8", "2:Item A=ann Text=both List=g N=2", "2:Removed A=bob N=2",
	}, "; "))
}

func TestP203Faults(t *testing.T) {
	p := wide()
	p.Groups = 2
	h := made(t, p, "ann", "bob", "cyd")
	h.comes(1, "ann", "r")
	h.share("g", "ann")
	h.share("h", "ann", "bob")
	for _, x := range []struct {
		group   string
		members []string
		e       api.Errno
	}{
		// A group's name comes first.
		{"", nil, api.ErrName}, {"", []string{"a b"}, api.ErrName}, {long(65), nil, api.ErrName}, {long(65), []string{"zed"}, api.ErrName},
		{"\xff", nil, api.ErrName}, {"g\xc3", []string{long(65)}, api.ErrName}, {long(70000), []string{"ann"}, api.ErrName},
		// Then member by member: first the name, then whether that is a user.
		{"g", []string{"a b"}, api.ErrName}, {"g", []string{""}, api.ErrName}, {"g", []string{long(65)}, api.ErrBig}, {"g", []string{"zed"}, api.ErrNone},
		{"g", []string{"ann", "bob", "zed", "a b", long(65)}, api.ErrNone}, {"g", []string{"ann", "a b", "zed", long(65)}, api.ErrName},
		{"g", []string{"ann", long(65), "zed", "a b"}, api.ErrBig}, {"i", []string{"ann", "zed"}, api.ErrNone},
		// Then whether there is room.
		{"i", []string{"ann"}, api.ErrFull}, {"G", []string{"ann", "bob", "ann"}, api.ErrFull}, {long(64), []string{"ann"}, api.ErrFull},
	} {
		h.notSet(x.group, x.members, x.e)
	}
	// What there is can be changed, and what there is not can be no group, while there is no room.
	h.sets("i", nil, "")
	h.sets("g", []string{"cyd", "bob"}, "")
	h.hasMembers("g", "bob", "cyd")
	h.sets("h", []string{}, "")
	h.hasGroups("g")
	h.share("i", "ann")
	h.hasGroups("g", "i")
	h.notSet("h", []string{"ann"}, api.ErrFull)
}

func TestP203Names(t *testing.T) {
	h := made(t, wide(), "ann", "bob")
	names := []string{"\x00", " ", "ann", "G", "g", long(64), "two words", "Ä/@", "日本", "\U0010ffff"}
	for _, group := range names {
		h.share(group, "ann")
		h.hasMembers(group, "ann")
	}
	slices.Sort(names)
	h.hasGroups(names...)
}

func TestP203Members(t *testing.T) {
	h := made(t, wide(), "ann", "bob", "cyd", "ärn")
	for _, x := range []struct{ members, want string }{
		{"ann", "ann"}, {"bob ann", "ann bob"}, {"ärn CYD ann Bob", "ann bob cyd ärn"}, {"bob Bob BOB ann bob", "ann bob"}, {"Ärn ärn", "ärn"},
	} {
		h.share("g", strings.Fields(x.members)...)
		h.hasMembers("g", strings.Fields(x.want)...)
		for _, user := range h.Users() {
			m, _ := h.Image(user)
			var want []string
			if slices.Contains(strings.Fields(x.want), user) {
				want = slices.DeleteFunc(strings.Fields(x.want), func(member string) bool { return member == user })
			}
			if got := slices.Concat(m.Members...); !slices.Equal(got, want) {
				t.Errorf("%s has %q of the group %q, not %q", user, got, x.want, want)
			}
		}
	}
	h.sets("g", nil, "")
	h.hasGroups()
	h.hasMembers("g")
}

// All that were or are members hear of it, rising, and nobody else does: those that stay, too.
func TestP203WhoHears(t *testing.T) {
	h := made(t, wide(), "ann", "bob", "cyd", "dan", "eve")
	shifts := map[string]uint64{}
	was := []string(nil)
	for _, is := range [][]string{{"bob", "cyd"}, {"bob", "cyd"}, {"cyd", "dan"}, {"ann"}, {"ann"}, nil, nil, {"dan", "ann", "dan"}, nil} {
		h.share("g", is...)
		for _, user := range h.Users() {
			if slices.Contains(was, user) || slices.Contains(is, user) {
				shifts[user]++
			}
			if m, _ := h.Image(user); m.Shifts != shifts[user] {
				t.Errorf("from %q to %q: %s heard %d times of it, not %d", was, is, user, m.Shifts, shifts[user])
			}
		}
		was = is
	}
}

// The first to hear tells those that have not heard yet: they hear that behind all the group's own mails.
func TestP203Row(t *testing.T) {
	h := made(t, wide(), "ann", "bob", "cyd")
	for i, user := range h.Users() {
		h.comes(i, user, "r")
		h.must(i, fetch())
	}
	h.sets("g", []string{"cyd", "ann", "bob"}, strings.Join([]string{
		"0:Item A=bob Text=both List=g N=1", "0:Item A=cyd Text=both List=g N=1",
		"1:Item A=ann Text=both List=g N=1", "1:Item A=cyd Text=both List=g N=1",
		"2:Item A=ann Text=both List=g N=1", "2:Item A=bob Text=both List=g N=1",
		"1:Seen A=ann B=r", "2:Seen A=ann B=r", "0:Seen A=bob B=r", "2:Seen A=bob B=r", "0:Seen A=cyd B=r", "1:Seen A=cyd B=r",
	}, "; "))
	h.sets("g", []string{"ann", "cyd"}, "0:Removed A=bob N=2; 0:Item A=cyd Text=both List=g N=2; 1:Removed A=ann N=2; 1:Removed A=cyd N=2; 2:Item A=ann Text=both List=g N=2; 2:Removed A=bob N=2")
	h.sets("g", nil, "0:Removed A=cyd N=3; 2:Removed A=ann N=3")
}

func TestP204BindFaults(t *testing.T) {
	p := wide()
	p.Bounds.Sessions = 2
	h := made(t, p, "ann", "bob")
	h.binds(1, "Ann", "r", "")
	// That the connection has a session comes first, then who is meant, then what a person refuses.
	for _, x := range []struct {
		conn           int
		user, resource string
		e              api.Errno
	}{
		{1, "a b", "", api.ErrTwice}, {1, "zed", "", api.ErrTwice}, {1, "ann", "", api.ErrTwice}, {1, "bob", "r", api.ErrTwice}, {1, "ann", "r", api.ErrTwice},
		{2, "", "", api.ErrName}, {2, "a b", "r", api.ErrName}, {2, long(65), "", api.ErrBig}, {2, "\xff", "r", api.ErrName},
		{2, "zed", "", api.ErrNone}, {2, "zed", "r", api.ErrNone}, {2, long(64), "r", api.ErrNone},
		{2, "bob", "", api.ErrName}, {2, "BOB", "a\n", api.ErrName}, {2, "bob", long(65), api.ErrBig},
	} {
		h.unbound(x.conn, x.user, x.resource, x.e)
	}
	h.binds(2, "ann", "s", "")
	h.unbound(3, "ann", "t", api.ErrFull)
	h.isFree(3)
	h.binds(3, "bob", "t", "")
	// One more of a resource that is there takes its place.
	h.binds(4, "ann", "s", "2:Closed N=6")
	h.isFree(2)
	h.unbound(5, "ann", "t", api.ErrFull)
}

func TestP204NoSessions(t *testing.T) {
	p := wide()
	p.Bounds.Sessions = 0
	h := made(t, p, "ann")
	h.unbound(1, "ann", "r", api.ErrFull)
	h.unbound(1, "ann", "", api.ErrName)
	h.isFree(1)
}

// What is told of a session that had the resource runs, as if it had ended.
func TestP204BindOfAResource(t *testing.T) {
	h := made(t, wide(), "ann", "bob")
	h.comes(1, "ann", "d")
	h.comes(2, "bob", "d")
	h.sees(2, "bob", 1, "ann")
	h.binds(3, "ANN", "d", "1:Closed N=6; 2:Away A=ann B=d")
	h.isFree(1)
	h.binds(4, "ann", "D", "")
	h.binds(1, "bob", "e", "")
	// Another one is not touched, whatever its resource.
	h.does(2, here(), "2:Did N=2")
	if got := fmt.Sprint(h.Seats("ann")); got != "[{3 d 0 false false } {4 D 0 false false }]" {
		t.Error("Seats:", got)
	}
}

func TestP204End(t *testing.T) {
	h := made(t, wide(), "ann", "bob")
	h.isFree(1)
	for _, conn := range []int{0, -1, math.MinInt, math.MaxInt} {
		h.binds(conn, "ann", "r", "")
		h.ends(conn, api.OK, "")
		h.isFree(conn)
		h.binds(conn, "bob", "r", "")
		h.ends(conn, api.ErrLease, fmt.Sprint(conn, ":Closed N=17"))
		h.isFree(conn)
	}
	h.comes(1, "ann", "d")
	h.comes(2, "bob", "d")
	h.comes(3, "ann", "e")
	h.sees(2, "bob", 1, "ann")
	h.ends(1, api.ErrSlow, "1:Closed N=16; 2:Away A=ann B=d")
	h.ends(3, api.OK, "2:Away A=ann B=e")
	h.ends(2, api.OK, "")
	h.isFree(1)
	h.comes(1, "bob", "d")
	h.ends(1, api.Errno(-7), "1:Closed N=-7")
}

func TestP204DoFaults(t *testing.T) {
	h := made(t, wide(), "ann", "bob")
	h.binds(1, "ann", "r", "")
	for _, x := range []struct {
		conn int
		s    api.Stanza
		e    api.Errno
	}{
		{2, here(), api.ErrState}, {2, api.Stanza{}, api.ErrState}, {-1, about(api.Ask, "bob"), api.ErrState}, {2, about(api.Ask, "a b"), api.ErrState},
		{1, api.Stanza{Kind: api.Here, N: 128}, api.ErrRange}, {1, api.Stanza{Kind: api.Gone}, api.ErrState}, {1, about(api.Ask, "Ann"), api.ErrState},
		{1, about(api.Ask, "a b"), api.ErrName}, {1, about(api.Ask, long(65)), api.ErrBig}, {1, about(api.Drop, "bob"), api.ErrNone},
		{1, api.Stanza{Kind: api.Here, A: "nowhere"}, api.ErrForm}, {1, api.Stanza{Kind: api.Did}, api.ErrArg}, {1, api.Stanza{Kind: api.Bind, A: "r"}, api.ErrArg},
	} {
		h.refuses(x.conn, x.s, x.e)
	}
}

func TestP204Do(t *testing.T) {
	h := made(t, wide(), "ann", "bob")
	h.comes(1, "ann", "d")
	h.comes(2, "bob", "e")
	h.does(1, api.Stanza{Kind: api.Fetch, Id: 7}, "1:Did Id=7")
	h.does(1, api.Stanza{Kind: api.Put, Id: 8, A: "Bob", B: "Bobby", List: []string{"w", "v"}}, "1:Item A=bob B=Bobby Text=none List=v+w N=1; 1:Did Id=8 N=1")
	h.does(1, api.Stanza{Kind: api.Ask, Id: 9, A: "BOB"}, "1:Item A=bob B=Bobby Text=none,ask List=v+w N=2; 1:Did Id=9 N=2; 2:Asked A=ann")
	h.does(2, api.Stanza{Kind: api.Grant, Id: 1 << 63, A: "ann"}, "2:Did Id=9223372036854775808 N=1; 1:Granted A=bob; 1:Item A=bob B=Bobby Text=to List=v+w N=3; 1:Seen A=bob B=e")
	h.does(2, api.Stanza{Kind: api.Here, A: "dnd", Text: "st", N: -128}, "2:Did N=1; 1:Seen A=bob B=e Text=st List=dnd N=-128")
	h.does(2, api.Stanza{Kind: api.Gone, Text: "bye"}, "2:Did N=1; 1:Away A=bob B=e Text=bye")
	// Who comes asks who is here: those who are seen tell that session alone.
	h.must(2, api.Stanza{Kind: api.Here, N: 4})
	h.binds(3, "bob", "f", "")
	h.must(3, api.Stanza{Kind: api.Here, N: 5})
	h.binds(4, "ann", "g", "")
	h.does(4, here(), "4:Did N=3; 4:Seen A=bob B=e N=4; 4:Seen A=bob B=f N=5")
	h.does(1, api.Stanza{Kind: api.Leave, A: "bob"}, "1:Item A=bob B=Bobby Text=none List=v+w N=4; 1:Did N=4; 2:Left A=ann; 3:Left A=ann")
	h.does(1, api.Stanza{Kind: api.Fetch, N: 4}, "1:Same N=4")
	h.must(1, about(api.Ask, "bob"))
	h.does(2, about(api.Deny, "ann"), "2:Did N=4; 1:Denied A=bob; 4:Denied A=bob; 1:Item A=bob B=Bobby Text=none List=v+w N=6")
	h.sees(1, "ann", 2, "bob")
	h.does(2, about(api.Drop, "ann"), "2:Did N=7; 1:Away A=bob B=e; 4:Away A=bob B=e; 1:Away A=bob B=f; 4:Away A=bob B=f; 1:Denied A=bob; 4:Denied A=bob; 1:Item A=bob B=Bobby Text=none List=v+w N=9")
}

// Who asks one who is no user is denied by that name; what else goes there is dropped.
func TestP204MailsToNobody(t *testing.T) {
	h := made(t, wide(), "ann", "bob")
	h.comes(1, "ann", "d")
	h.must(1, fetch())
	h.does(1, about(api.Ask, "ZED"), "1:Item A=zed Text=none,ask N=1; 1:Did N=1; 1:Denied A=zed; 1:Item A=zed Text=none N=2")
	h.hasHalf("ann", "zed", api.Half{})
	h.hasUsers("ann", "bob")
	h.does(1, about(api.Ask, "zed"), "1:Item A=zed Text=none,ask N=3; 1:Did N=3; 1:Denied A=zed; 1:Item A=zed Text=none N=4")
	h.does(1, about(api.Drop, "zed"), "1:Removed A=zed N=5; 1:Did N=5")
	// One who was here once leaves nothing behind that a later one of that name would hear.
	h.comes(2, "bob", "d")
	h.sees(1, "ann", 2, "bob")
	h.sees(2, "bob", 1, "ann")
	h.drops("bob", "2:Closed N=7; 1:Away A=bob B=d; 1:Left A=bob; 1:Item A=bob Text=to N=10; 1:Denied A=bob; 1:Item A=bob Text=none N=11")
	h.does(1, about(api.Leave, "bob"), "1:Did N=11")
	h.does(1, about(api.Deny, "bob"), "1:Did N=11")
	h.adds("bob")
	h.comes(2, "bob", "d")
	h.does(1, about(api.Ask, "bob"), "1:Item A=bob Text=none,ask N=12; 1:Did N=12; 2:Asked A=ann")
}

// Who has no room for requests denies them at once.
func TestP204NoRoomForRequests(t *testing.T) {
	p := wide()
	p.Bounds.Asks = 1
	h := made(t, p, "ann", "bob", "cyd")
	h.comes(1, "ann", "d")
	h.comes(2, "bob", "d")
	h.comes(3, "cyd", "d")
	h.does(1, about(api.Ask, "cyd"), "1:Did N=1; 3:Asked A=ann")
	h.does(2, about(api.Ask, "cyd"), "2:Did N=1; 2:Denied A=cyd")
	h.hasHalf("bob", "cyd", api.Half{})
	h.hasHalf("cyd", "bob", api.Half{})
}

func TestP205Names(t *testing.T) {
	h := made(t, wide())
	h.hasUsers()
	h.hasGroups()
	for _, user := range []string{"cyd", "ann", "я", "bob", "ä", "z", "bo", "b.b", "0"} {
		h.adds(user)
	}
	h.hasUsers("0", "ann", "b.b", "bo", "bob", "cyd", "z", "ä", "я")
	for _, group := range []string{"h", "G", "ä", "gg", "g", "\x00", "日"} {
		h.share(group, "я", "ann")
	}
	h.hasGroups("\x00", "G", "g", "gg", "h", "ä", "日")
	h.hasMembers("gg", "ann", "я")
	h.drops("bob", "")
	h.hasUsers("0", "ann", "b.b", "bo", "cyd", "z", "ä", "я")
}

func TestP205OfNone(t *testing.T) {
	h := made(t, wide(), "ann", "bob")
	h.comes(1, "ann", "r")
	h.share("team", "ann", "bob")
	h.drops("bob", "")
	for _, user := range []string{"bob", "zed", "", "a b", "\xff", long(65), "team"} {
		if m, ok := h.Image(user); ok || imageText(m) != imageText(api.Image{}) {
			t.Errorf("Image(%q): %s, %v", user, imageText(m), ok)
		}
		if seats := h.Seats(user); seats != nil {
			t.Errorf("Seats(%q): %v", user, seats)
		}
	}
	for _, group := range []string{"", "Team", "TEAM", "ann", "\xff", long(65)} {
		if l := h.Members(group); l != nil {
			t.Errorf("Members(%q): %q", group, l)
		}
	}
	if seats := h.Seats("ANN"); len(seats) != 1 || seats[0] != (api.Seat{Conn: 1, Resource: "r", Here: true}) {
		t.Errorf("Seats(ANN): %v", seats)
	}
	if m, ok := h.Image("Ann"); !ok || m.Name != "ann" || m.Shifts != 2 {
		t.Errorf("Image(Ann): %s, %v", imageText(m), ok)
	}
}

func TestP205Seats(t *testing.T) {
	h := made(t, wide(), "ann", "bob")
	h.comes(3, "ann", "c")
	h.comes(-1, "ann", "a")
	h.comes(2, "bob", "b")
	h.must(2, fetch())
	h.must(-1, api.Stanza{Kind: api.Here, N: -9})
	h.must(3, api.Stanza{Kind: api.Rules, A: "l"})
	h.must(3, about(api.Active, "l"))
	want := []api.Seat{{Conn: -1, Resource: "a", Priority: -9, Here: true}, {Conn: 3, Resource: "c", Here: true, Active: "l"}}
	if got := h.Seats("ann"); !slices.Equal(got, want) {
		t.Errorf("Seats: %v, not %v", got, want)
	}
	if got := h.Seats("bob"); !slices.Equal(got, []api.Seat{{Conn: 2, Resource: "b", Here: true, Asking: true}}) {
		t.Errorf("Seats: %v", got)
	}
}

// Who sees, is here, and is not denied by either's list is told once of each session that ends, and nobody else is.
func TestP207ByLists(t *testing.T) {
	build := func() tenant {
		h := made(t, wide(), "ann", "bob", "cyd", "dan", "eve", "fay")
		for i, user := range h.Users() {
			h.comes(i, user, "r")
		}
		h.comes(10, "ann", "s")
		h.comes(11, "bob", "s")
		h.binds(12, "bob", "t", "")
		h.sees(1, "bob", 0, "ann")       // twice here
		h.sees(2, "cyd", 0, "ann")       // whom ann's list denies
		h.sees(3, "dan", 0, "ann")       // whose own list denies ann
		h.share("team", "ann", "eve")    // whom a group shows her
		h.must(5, about(api.Ask, "ann")) // who only asked
		h.must(0, api.Stanza{Kind: api.Rules, A: "l", List: []string{"deny out jid cyd"}})
		h.must(0, about(api.Active, "l"))
		h.must(3, api.Stanza{Kind: api.Rules, A: "l", List: []string{"deny in jid ann"}})
		h.must(3, about(api.Default, "l"))
		return h
	}
	const away = "1:Away A=ann B=r; 11:Away A=ann B=r"
	h := build()
	h.ends(0, api.OK, away+"; 4:Away A=ann B=r")
	h.ends(10, api.ErrLease, "10:Closed N=17; 1:Away A=ann B=s; 11:Away A=ann B=s; 2:Away A=ann B=s; 4:Away A=ann B=s")
	h = build()
	h.binds(20, "ann", "r", "0:Closed N=6; "+away+"; 4:Away A=ann B=r")
	h.does(10, api.Stanza{Kind: api.Gone}, "10:Did N=4; 1:Away A=ann B=s; 11:Away A=ann B=s; 2:Away A=ann B=s; 4:Away A=ann B=s")
	h.ends(10, api.OK, "")
	h = build()
	h.drops("ann", strings.Join([]string{
		"0:Closed N=7", "10:Closed N=7", away, "4:Away A=ann B=r",
		"1:Away A=ann B=s", "11:Away A=ann B=s", "2:Away A=ann B=s", "4:Away A=ann B=s",
		"1:Denied A=ann", "11:Denied A=ann", "2:Denied A=ann", "3:Denied A=ann", "5:Denied A=ann",
	}, "; "))
}
