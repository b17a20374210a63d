package house

import (
	"fmt"
	"math/rand"
	"slices"
	"strings"
	"testing"

	"roost/api"
	"roost/privacy"
	"roost/subs"
)

// walk does steps by chance to a house and to the plain one.
type walk struct {
	draw *rand.Rand
	h    *House
	q    *plain
	step string
	was  map[string]scene // each user, as they were ahead of the last step
	outs []api.Out        // of the last step
	e    api.Errno
	ends bool // whether the last step may end sessions, and do nothing else to them
}

// scene is what may be looked at of a user.
type scene struct {
	m     api.Image
	seats []api.Seat
}

var people = []string{"abe", "bob", "cyd", "dan", "ärn"}

func (w *walk) one(texts ...string) string { return texts[w.draw.Intn(len(texts))] }

func (w *walk) user() string {
	if w.draw.Intn(25) == 0 {
		return w.one("ABE", "Ärn", "a b", "", "zed", long(65))
	}
	return w.one(people...)
}

func (w *walk) conn() int { return w.draw.Intn(9) - 1 }

func (w *walk) resource() string {
	if w.draw.Intn(20) == 0 {
		return w.one("", "\n", long(65))
	}
	return w.one("d", "e", "f")
}

func (w *walk) group() string {
	if w.draw.Intn(20) == 0 {
		return w.one("", "\xff", long(65))
	}
	return w.one("g", "h", "i")
}

func (w *walk) members() (l []string) {
	for range w.draw.Intn(5) {
		l = append(l, w.user())
	}
	return l
}

func (w *walk) rules() (l []string) {
	for range w.draw.Intn(4) {
		whom := w.one("all", "jid bob", "jid Cyd", "jid ärn", "group x", "group g", "group h", "sub none", "sub to", "sub from", "sub both")
		l = append(l, w.one("allow", "deny", "deny")+" "+w.one("in", "out", "both")+" "+whom)
	}
	return l
}

func (w *walk) stanza() api.Stanza {
	s := api.Stanza{Kind: api.Here + w.draw.Intn(api.Default-api.Here+1), Id: uint64(w.draw.Intn(3))}
	if w.draw.Intn(2) == 0 {
		s.Kind = api.Ask + w.draw.Intn(api.Deny-api.Ask+1)
	}
	if w.draw.Intn(40) == 0 {
		s.Kind = w.draw.Intn(50)
	}
	switch s.Kind {
	case api.Here:
		s.N, s.A, s.Text = w.draw.Intn(300)-150, w.one("", "away", "chat", "dnd", "xa"), w.one("", "hm")
	case api.Gone:
		s.Text = w.one("", "bye")
	case api.Fetch:
		s.N = w.draw.Intn(6)
	case api.Put:
		s.A, s.B, s.List = w.user(), w.one("", "B"), strings.Fields(w.one("", "x", "g x"))
	case api.Rules:
		s.A, s.List = w.one("l", "m"), w.rules()
	case api.NoRules, api.Active, api.Default:
		s.A = w.one("l", "m", "")
	default:
		s.A = w.user()
	}
	return s
}

// bound is a connection that has a session, if there is one.
func (w *walk) bound() int {
	var conns []int
	for _, u := range w.q.people {
		for _, seat := range u.Seats() {
			conns = append(conns, seat.Conn)
		}
	}
	if len(conns) == 0 || w.draw.Intn(10) == 0 {
		return w.conn()
	}
	return conns[w.draw.Intn(len(conns))]
}

// next does a step to both, and asks that they answer the same, and are the same behind it.
func (w *walk) next(t *testing.T) {
	t.Helper()
	w.was = scenes(w.h)
	w.ends = false
	var want []api.Out
	var f api.Errno
	switch w.draw.Intn(16) {
	case 0, 1:
		user := w.user()
		w.step = fmt.Sprintf("AddUser(%q)", user)
		w.outs, w.e = nil, w.h.AddUser(user)
		f = w.q.addUser(user)
	case 2:
		if w.draw.Intn(2) == 0 {
			return
		}
		user := w.user()
		w.step, w.ends = fmt.Sprintf("DropUser(%q)", user), true
		w.outs, w.e = w.h.DropUser(user)
		want, f = w.q.dropUser(user)
	case 3:
		group, members := w.group(), w.members()
		w.step = fmt.Sprintf("SetGroup(%q, %q)", group, members)
		w.outs, w.e = w.h.SetGroup(group, members)
		want, f = w.q.setGroup(group, members)
	case 4, 5:
		conn, user, resource := w.conn(), w.user(), w.resource()
		w.step, w.ends = fmt.Sprintf("Bind(%d, %q, %q)", conn, user, resource), true
		w.outs, w.e = w.h.Bind(conn, user, resource)
		want, f = w.q.bind(conn, user, resource)
	case 6:
		conn, why := w.bound(), api.Errno(w.draw.Intn(3))
		w.step, w.ends = fmt.Sprintf("End(%d, %d)", conn, why), true
		var is, ok bool
		w.outs, is = w.h.End(conn, why)
		want, ok = w.q.end(conn, why)
		w.e = api.OK
		if is != ok {
			t.Fatalf("%s: %v", w.step, is)
		}
	default:
		conn, s := w.bound(), w.stanza()
		w.step = fmt.Sprintf("Do(%d, %v)", conn, s)
		w.outs, w.e = w.h.Do(conn, s)
		want, f = w.q.do(conn, s)
	}
	if got, want := said(w.outs), said(want); got != want || w.e != f {
		t.Fatalf("%s:\n%s, %v; not\n%s, %v", w.step, got, w.e, want, f)
	}
	if got, want := state(w.h), plainState(w.q); got != want {
		t.Fatalf("%s:\n%s, not\n%s", w.step, got, want)
	}
}

func plainState(q *plain) string {
	var l []string
	for _, u := range q.people {
		l = append(l, personText(u.Image(), u.Seats()))
	}
	for _, g := range q.groups {
		l = append(l, fmt.Sprintf("%q: %q", g.name, g.members))
	}
	return strings.Join(l, "\n")
}

func scenes(h *House) map[string]scene {
	all := map[string]scene{}
	for _, user := range h.Users() {
		m, _ := h.Image(user)
		all[user] = scene{m, h.Seats(user)}
	}
	return all
}

func walks(t *testing.T, times, steps int, behind func(w *walk)) {
	for i := range times {
		draw := rand.New(rand.NewSource(int64(i)))
		p := api.Plan{
			Host:   "x.org",
			Bounds: api.Bounds{Items: 1 + draw.Intn(6), Asks: draw.Intn(4), Lists: draw.Intn(3), Rules: draw.Intn(5), Sessions: 1 + draw.Intn(4)},
			Users:  3 + draw.Intn(4),
			Groups: draw.Intn(4),
		}
		w := &walk{draw: draw, h: made(t, p).House, q: &plain{p: p}}
		for range steps {
			w.next(t)
			behind(w)
		}
	}
}

// Whatever is done, a house does what the chapter's words say, one behind the other.
func TestWalks(t *testing.T) {
	told, refused := map[string]int{}, map[api.Errno]int{}
	walks(t, 60, 300, func(w *walk) {
		for _, o := range w.outs {
			told[stanzaNames[o.S.Kind]]++
		}
		refused[w.e]++
	})
	for kind, name := range stanzaNames {
		if told[name] == 0 {
			t.Errorf("no walk told a %s, %d", name, kind)
		}
	}
	for _, e := range []api.Errno{api.OK, api.ErrArg, api.ErrRange, api.ErrName, api.ErrBig, api.ErrTwice, api.ErrNone, api.ErrFull, api.ErrState} {
		if refused[e] == 0 {
			t.Errorf("no walk came to the error %d", e)
		}
	}
}

func (s scene) half(contact string) api.Half {
	for _, x := range s.m.Book.Entries {
		if x.Contact == contact {
			return x.Half
		}
	}
	return api.Half{}
}

// shares are the groups that a user shares with another one.
func (s scene) shares(contact string) (l []string) {
	for i, group := range s.m.Groups {
		if slices.Contains(s.m.Members[i], contact) {
			l = append(l, group)
		}
	}
	return l
}

// sees says whether a user sees another one.
func (s scene) sees(contact string) bool {
	return s.half(contact).Out == api.Whole || len(s.shares(contact)) > 0
}

// allows says whether the list of a session lets presence in from a contact, or out to them.
func (s scene) allows(t *testing.T, seat api.Seat, in bool, contact string) bool {
	lists, e := privacy.Load(s.m.Shelf)
	if e != api.OK {
		t.Fatal(e)
	}
	sub, groups := subs.Sub(s.half(contact)), s.shares(contact)
	if len(groups) > 0 {
		sub = "both"
	}
	for _, x := range s.m.Book.Entries {
		if x.Contact == contact {
			groups = append(groups, x.Groups...)
		}
	}
	return lists.Allows(seat.Active, in, contact, groups, sub)
}

// Between two things that are done, both ends agree, and nobody has a half of one who is no user.
func TestP206BothEndsAgree(t *testing.T) {
	pairs, strangers, gone := 0, 0, 0
	walks(t, 60, 300, func(w *walk) {
		all := scenes(w.h)
		for user, s := range all {
			for _, x := range s.m.Book.Entries {
				other, there := all[x.Contact]
				if !there {
					strangers++
					if x.Half != (api.Half{}) {
						t.Fatalf("%s: %s has %v of %s, who is no user", w.step, user, x.Half, x.Contact)
					}
					continue
				}
				y := other.half(user)
				if x.Half.Out != y.In || x.Half.N != y.M || x.Half.In != y.Out || x.Half.M != y.N {
					t.Fatalf("%s: %s has %v of %s, who has %v", w.step, user, x.Half, x.Contact, y)
				}
				if x.Half != (api.Half{}) {
					pairs++
				}
			}
			// What a user has of groups is what the house has of them.
			var groups, members []string
			for _, group := range w.h.Groups() {
				if l := w.h.Members(group); len(l) > 1 && slices.Contains(l, user) {
					groups = append(groups, group)
					members = append(members, strings.Join(slices.DeleteFunc(l, func(member string) bool { return member == user }), " "))
				}
			}
			var has []string
			for _, l := range s.m.Members {
				has = append(has, strings.Join(l, " "))
			}
			if !slices.Equal(groups, s.m.Groups) || !slices.Equal(members, has) {
				t.Fatalf("%s: %s has %q %q, not %q %q", w.step, user, s.m.Groups, has, groups, members)
			}
		}
		for user, s := range w.was {
			if _, there := all[user]; !there && len(s.m.Book.Entries) > 0 {
				gone++
			}
		}
	})
	if pairs == 0 || strangers == 0 || gone == 0 {
		t.Error("no walk had a pair, an item of one who is no user, or one who went with entries:", pairs, strangers, gone)
	}
}

// ended are the sessions that were here and are there no more, by user.
func (w *walk) ended() map[string][]api.Seat {
	ended := map[string][]api.Seat{}
	for user, s := range w.was {
		is := w.h.Seats(user)
		for _, seat := range s.seats {
			if seat.Here && !slices.ContainsFunc(is, func(other api.Seat) bool { return other.Conn == seat.Conn }) {
				ended[user] = append(ended[user], seat)
			}
		}
	}
	return ended
}

// away is who is to be told of a session's end: by connection, user and resource.
func (w *walk) away(t *testing.T, user string, seat api.Seat) (l []string) {
	for other, s := range w.was {
		if other == user || !s.sees(user) || !w.was[user].allows(t, seat, false, other) {
			continue
		}
		for _, to := range s.seats {
			if to.Here && s.allows(t, to, true, user) {
				l = append(l, fmt.Sprintf("%d: %s/%s", to.Conn, user, seat.Resource))
			}
		}
	}
	return l
}

func TestP207AwayOnce(t *testing.T) {
	ends, tells, kept := 0, 0, 0
	walks(t, 70, 300, func(w *walk) {
		if !w.ends {
			return
		}
		var want, got []string
		for user, seats := range w.ended() {
			for _, seat := range seats {
				ends++
				want = append(want, w.away(t, user, seat)...)
			}
		}
		for _, o := range w.outs {
			if o.S.Kind == api.Away {
				got = append(got, fmt.Sprintf("%d: %s/%s", o.Conn, o.S.A, o.S.B))
			}
		}
		slices.Sort(want)
		slices.Sort(got)
		if !slices.Equal(got, want) {
			t.Fatalf("%s told %q, not %q", w.step, got, want)
		}
		tells += len(want)
		for user := range w.ended() {
			for other, s := range w.was {
				if other != user && s.sees(user) && len(want) == 0 {
					kept++
				}
			}
		}
	})
	if ends == 0 || tells == 0 || kept == 0 {
		t.Error("no walk ended a session, told of one, or kept one from those who see:", ends, tells, kept)
	}
}

// Who is here knows of all whom they see, whatever was done ahead, where no lists stand between.
func TestWhoIsHereKnows(t *testing.T) {
	type seen map[string]bool // by user and resource
	known := 0
	for i := range 60 {
		draw := rand.New(rand.NewSource(int64(i)))
		p := api.Plan{Host: "x.org", Bounds: api.Bounds{Items: 1 + draw.Intn(6), Asks: draw.Intn(4), Sessions: 1 + draw.Intn(3)}, Users: 5, Groups: 3}
		w := &walk{draw: draw, h: made(t, p).House, q: &plain{p: p}}
		by := map[int]seen{}
		for range 300 {
			w.next(t)
			all := scenes(w.h)
			for _, o := range w.outs {
				if by[o.Conn] == nil {
					by[o.Conn] = seen{}
				}
				switch who := o.S.A + "/" + o.S.B; o.S.Kind {
				case api.Seen:
					by[o.Conn][who] = true
				case api.Away:
					delete(by[o.Conn], who)
				}
			}
			here := map[int]bool{}
			for user, s := range all {
				want := seen{}
				for other, o := range all {
					for _, seat := range o.seats {
						if other != user && seat.Here && s.sees(other) {
							want[other+"/"+seat.Resource] = true
						}
					}
				}
				for _, seat := range s.seats {
					here[seat.Conn] = seat.Here
					if !seat.Here {
						continue
					}
					// Who took back what they asked is told nothing more of it, and forgets it.
					for who := range by[seat.Conn] {
						if other, _, _ := strings.Cut(who, "/"); !s.sees(other) {
							delete(by[seat.Conn], who)
						}
					}
					if got := by[seat.Conn]; len(got)+len(want) > 0 && fmt.Sprint(got) != fmt.Sprint(want) {
						t.Fatalf("house %d, %s: %s at %d knows of %v, not of %v", i, w.step, user, seat.Conn, got, want)
					}
					known += len(want)
				}
			}
			for conn := range by {
				if !here[conn] {
					delete(by, conn)
				}
			}
		}
	}
	if known == 0 {
		t.Error("no walk had one who sees another one")
	}
}
