package house

import (
	"fmt"
	"math"
	"slices"
	"strings"
	"testing"
	"unsafe"

	"roost/api"
)

// rooms are texts that were handed in, and may be spoilt.
type rooms [][]byte

// text is a text whose bytes may be changed behind a call's back.
func (r *rooms) text(s string) string {
	room := []byte(s + " ")
	*r = append(*r, room)
	return unsafe.String(&room[0], len(s))
}

func (r *rooms) texts(l ...string) []string {
	var texts []string
	for _, s := range l {
		texts = append(texts, r.text(s))
	}
	return texts
}

func (r *rooms) spoil() {
	for _, room := range *r {
		for i := range room {
			room[i] = '?'
		}
	}
	*r = nil
}

// spoil changes all of a list, and the room behind it.
func spoil[T any](l []T, with T) {
	l = l[:cap(l)]
	for i := range l {
		l[i] = with
	}
}

func spoilOuts(outs []api.Out) {
	for _, o := range outs[:cap(outs)] {
		spoil(o.S.List, "spoilt")
	}
	spoil(outs, api.Out{Conn: -1})
}

func spoilImage(m api.Image) {
	for _, x := range m.Book.Entries[:cap(m.Book.Entries)] {
		spoil(x.Groups, "spoilt")
	}
	for _, l := range slices.Concat(m.Shelf.Texts, m.Members, [][]string{m.Shelf.Names, m.Groups}) {
		spoil(l, "spoilt")
	}
	spoil(m.Book.Entries, api.Entry{Contact: "spoilt"})
	spoil(m.Shelf.Texts, []string{"spoilt"})
	spoil(m.Members, []string{"spoilt"})
}

func TestR2NothingIsKept(t *testing.T) {
	var r rooms
	p := wide()
	p.Host = r.text(p.Host)
	h := made(t, p)
	same := func(what string, outs []api.Out, e api.Errno) {
		t.Helper()
		if e != api.OK {
			t.Fatal(what, e)
		}
		told, before := said(outs), state(h.House)
		r.spoil()
		if got := said(outs); got != told {
			t.Errorf("%s: what is told shares memory with what was handed in: %s, then %s", what, told, got)
		}
		if after := state(h.House); after != before {
			t.Errorf("%s is kept: %s, then %s", what, before, after)
		}
	}
	same("a plan", nil, api.OK)
	for _, user := range []string{"ann", "bob", "cyd"} {
		same("a user", nil, h.AddUser(r.text(user)))
	}
	for conn, user := range h.Users() {
		outs, e := h.Bind(conn, r.text(user), r.text("desk"))
		same("a resource", outs, e)
		outs, e = h.Do(conn, api.Stanza{Kind: api.Fetch})
		same("a fetch", outs, e)
		outs, e = h.Do(conn, api.Stanza{Kind: api.Here, A: r.text("away"), Text: r.text("status")})
		same("presence", outs, e)
	}
	members := r.texts("cyd", "ann", "bob", "spare")
	before := slices.Clone(members)
	outs, e := h.SetGroup(r.text("team"), members[:3])
	if !slices.Equal(members, before) {
		t.Errorf("SetGroup changed its members to %q", members)
	}
	spoil(members, "spoilt")
	same("a group", outs, e)
	h.hasMembers("team", "ann", "bob", "cyd")
	outs, e = h.SetGroup(r.text("team"), r.texts("ann", "bob"))
	same("a group that changed", outs, e)
	for _, s := range []api.Stanza{
		{Kind: api.Put, A: "bob", B: "Bobby", List: []string{"work", "home"}},
		about(api.Ask, "bob"), about(api.Ask, "zed"), about(api.Ask, "cyd"),
		{Kind: api.Rules, A: "list", List: []string{"deny in jid zed"}},
		about(api.Active, "list"), about(api.Default, "list"),
	} {
		s.A, s.B, s.List = r.text(s.A), r.text(s.B), r.texts(s.List...)
		list := slices.Clone(s.List)
		outs, e := h.Do(0, s)
		if !slices.Equal(s.List, list) {
			t.Errorf("Do changed its list to %q", s.List)
		}
		spoil(s.List, "spoilt")
		same(fmt.Sprint("what is said by kind ", s.Kind), outs, e)
	}
	outs, e = h.Bind(7, r.text("ANN"), r.text("desk"))
	same("a resource that was there", outs, e)
	outs, e = h.DropUser(r.text("bob"))
	same("one who is dropped", outs, e)
	// All are still found.
	h.hasUsers("ann", "cyd")
	h.hasGroups("team")
	h.notAdded("ann", api.ErrTwice)
	h.ends(7, api.OK, "")
	h.sets("team", nil, "")
	h.hasGroups()
}

// full is a house in which there is something of all.
func full(t testing.TB) tenant {
	h := made(t, wide(), "ann", "bob", "cyd", "dan")
	for i, user := range h.Users() {
		for j := range 2 {
			conn := i + 10*j
			if _, e := h.Bind(conn, user, fmt.Sprint("desk", j)); e != api.OK {
				t.Fatal(e)
			}
			h.must(conn, fetch())
			h.must(conn, api.Stanza{Kind: api.Here, A: "away", Text: "status"})
		}
	}
	h.sees(0, "ann", 1, "bob")
	h.sees(1, "bob", 0, "ann")
	h.sees(2, "cyd", 0, "ann")
	h.must(3, about(api.Ask, "ann"))
	h.must(0, api.Stanza{Kind: api.Put, A: "bob", B: "Bobby", List: []string{"work", "home"}})
	h.must(0, api.Stanza{Kind: api.Rules, A: "list", List: []string{"allow both all", "deny in jid zed"}})
	h.must(0, about(api.Active, "list"))
	h.must(0, about(api.Default, "list"))
	h.share("more", "ann", "bob")
	h.share("team", "ann", "bob", "dan")
	return h
}

// tells are calls that each tell something, and may be made in any order, again and again.
func tells(h tenant) map[string]func() []api.Out {
	do := func(conn int, s api.Stanza) func() []api.Out {
		return func() []api.Out {
			outs, e := h.Do(conn, s)
			if e != api.OK {
				h.t.Fatal(s, e)
			}
			return outs
		}
	}
	return map[string]func() []api.Out{
		"Fetch": do(0, fetch()),
		"Here":  do(0, api.Stanza{Kind: api.Here, A: "xa", Text: "status"}),
		"Put":   do(1, api.Stanza{Kind: api.Put, A: "ann", B: "Anna", List: []string{"work"}}),
		"Ask":   do(3, about(api.Ask, "zed")),
		"SetGroup": func() []api.Out {
			outs, _ := h.SetGroup("team", []string{"dan", "bob", "ann"})
			return outs
		},
	}
}

func TestR2ToldIsNew(t *testing.T) {
	h := full(t)
	before := state(h.House)
	spoil(h.Users(), "spoilt")
	spoil(h.Groups(), "spoilt")
	spoil(h.Members("team"), "spoilt")
	spoil(h.Seats("ann"), api.Seat{Conn: -1})
	m, _ := h.Image("ann")
	spoilImage(m)
	if after := state(h.House); after != before {
		t.Errorf("what is told is kept: %s, then %s", before, after)
	}
	for what, tell := range tells(h) {
		one := tell()
		two := tell()
		want, before := said(two), state(h.House)
		spoilOuts(one)
		if got := said(two); got != want || want == "" {
			t.Errorf("%s: two answers share memory: %s, then %s", what, want, got)
		}
		for i := range two {
			var rest []string
			for _, o := range two[i+1:] {
				rest = append(rest, outText(o))
			}
			spoil(two[i].S.List, "spoilt")
			for j, o := range two[i+1:] {
				if outText(o) != rest[j] {
					t.Errorf("%s: lists %d and %d of one answer share memory", what, i, i+1+j)
				}
			}
		}
		spoilOuts(two)
		if after := state(h.House); after != before {
			t.Errorf("%s: what is told is kept: %s, then %s", what, before, after)
		}
	}
	// Who goes, and who lost a group, have what was told of them before in no memory of theirs.
	outs, _ := h.DropUser("bob")
	before = state(h.House)
	spoilOuts(outs)
	if after := state(h.House); after != before {
		t.Errorf("what a DropUser tells is kept: %s, then %s", before, after)
	}
}

// Texts are told as copies, too: no two answers share one, and none is what a house keeps.
func TestR2ToldTexts(t *testing.T) {
	h := full(t)
	var all []string
	take := func(outs []api.Out) {
		for _, o := range outs {
			all = append(append(all, o.S.A, o.S.B, o.S.Text), o.S.List...)
		}
	}
	for range 2 {
		for _, tell := range tells(h) {
			take(tell())
		}
		all = append(append(all, h.Users()...), h.Groups()...)
		for _, group := range h.Groups() {
			all = append(all, h.Members(group)...)
		}
		for _, user := range h.Users() {
			m, _ := h.Image(user)
			all = append(append(append(all, m.Name), m.Groups...), slices.Concat(m.Members...)...)
			for _, seat := range h.Seats(user) {
				all = append(all, seat.Resource, seat.Active)
			}
		}
	}
	outs, _ := h.Bind(30, "bob", "desk0")
	take(outs)
	outs, _ = h.DropUser("bob")
	take(outs)
	outs, _ = h.End(0, api.ErrLease)
	take(outs)
	places := map[*byte]int{}
	for i, text := range all {
		if len(text) < 2 {
			continue
		}
		place := unsafe.StringData(text)
		if other, shared := places[place]; shared {
			t.Errorf("texts %d and %d share %q", other, i, text)
		}
		places[place] = i
	}
}

func TestR2NilAndEmpty(t *testing.T) {
	a, b := full(t), full(t)
	x, e := a.SetGroup("team", nil)
	y, f := b.SetGroup("team", []string{})
	if said(x) != said(y) || e != f || state(a.House) != state(b.House) {
		t.Errorf("SetGroup of nil and of an empty list: %s, %s", said(x), said(y))
	}
	x, _ = a.Do(0, api.Stanza{Kind: api.Put, A: "bob"})
	y, _ = b.Do(0, api.Stanza{Kind: api.Put, A: "bob", List: []string{}})
	if said(x) != said(y) || state(a.House) != state(b.House) {
		t.Errorf("Put of nil and of an empty list: %s, %s", said(x), said(y))
	}
}

// Nothing of what is gone is left in the maps.
func TestNothingOfTheGoneIsKept(t *testing.T) {
	h := made(t, wide())
	for i := range 100 {
		user := fmt.Sprint("u", i)
		h.adds(user)
		h.adds("ann")
		h.comes(i, user, "r")
		h.comes(i+1000, user, "s")
		h.comes(i+2000, user, "t")
		h.share(fmt.Sprint("g", i), user, "ann")
		h.share(fmt.Sprint("h", i), user)
		h.share(fmt.Sprint("g", i))
		h.ends(i, api.OK, "")
		h.binds(i+3000, user, "s", fmt.Sprint(i+1000, ":Closed N=6"))
		h.drops(user, fmt.Sprintf("%d:Closed N=7; %d:Closed N=7", i+2000, i+3000))
		h.drops("ann", "")
	}
	if len(h.users)+len(h.groups)+len(h.owners) != 0 {
		t.Errorf("%d users, %d groups and %d connections are left", len(h.users), len(h.groups), len(h.owners))
	}
}

func TestR4Apart(t *testing.T) {
	a, b := full(t), full(t)
	before := state(b.House)
	a.must(0, about(api.Drop, "bob"))
	a.share("team")
	a.share("other", "ann", "cyd")
	a.comes(20, "ann", "desk")
	if _, e := a.DropUser("bob"); e != api.OK {
		t.Fatal(e)
	}
	if _, ok := a.End(0, api.ErrLease); !ok {
		t.Fatal("no session")
	}
	if got := state(b.House); got != before {
		t.Errorf("what is done to one is seen at another one: %s, then %s", before, got)
	}
	b.unbound(0, "ann", "d", api.ErrTwice)
}

// The same calls are answered the same each time, whatever the maps' order.
func TestR4SameAgain(t *testing.T) {
	run := func() string {
		h := made(t, wide())
		var l []string
		take := func(outs []api.Out, e api.Errno) { l = append(l, said(outs), fmt.Sprint(e)) }
		for i := range 20 {
			take(nil, h.AddUser(fmt.Sprintf("u%02d", i*7%20)))
			for j := range 2 {
				take(h.Bind(i+20*j, fmt.Sprintf("u%02d", i*7%20), fmt.Sprint("r", j)))
				take(h.Do(i+20*j, fetch()))
				take(h.Do(i+20*j, here()))
			}
		}
		for i := range 10 {
			var members []string
			for j := range 8 {
				members = append(members, fmt.Sprintf("u%02d", (i+1)*(j+1)%20))
			}
			take(h.SetGroup(fmt.Sprint("g", i), members))
		}
		for i := range 60 {
			take(h.Do(i%20, about(api.Ask, fmt.Sprintf("u%02d", i*3%20))))
			take(h.Do(i*3%20, about(api.Grant, fmt.Sprintf("u%02d", i*7%20))))
		}
		for i := range 5 {
			take(h.Bind(100+i, fmt.Sprintf("u%02d", i), "r0"))
			take(h.DropUser(fmt.Sprintf("u%02d", i*3)))
		}
		return strings.Join(append(l, state(h.House)), "\n")
	}
	want := run()
	for range 3 {
		if run() != want {
			t.Fatal("answered otherwise")
		}
	}
}

func TestR1NothingPanics(t *testing.T) {
	words := []string{"", "ann", "Ann", "bob", "a b", "\xff", "\x00", "ß", long(64), long(65), strings.Repeat("\xff", 70000)}
	numbers := []int{math.MinInt, -1, 0, 1, 2, 33, 10001, math.MaxInt}
	h := full(t)
	for i, a := range words {
		for j, b := range words {
			h.AddUser(a)
			h.Bind(i, a, b)
			h.SetGroup(a, []string{b})
			h.SetGroup(b, words[:j])
			h.SetGroup(b, words[i:])
			h.Image(a)
			h.Seats(a)
			h.Members(a)
			for kind := -1; kind <= 50; kind++ {
				h.Do(i, api.Stanza{Kind: kind, A: b, N: kind})
				h.Do(j, api.Stanza{Kind: kind, Id: math.MaxUint64, A: a, B: b, Text: b, List: words, N: kind, F: math.NaN()})
				h.Do(i, api.Stanza{Kind: kind, A: b, B: a, List: []string{a, b}})
			}
			if j%3 == 0 {
				h.DropUser(b)
			}
		}
		for _, n := range numbers {
			h.End(n, api.Errno(n))
			h.Bind(n, a, a)
			h.Do(n, here())
			New(api.Plan{Host: a, Bounds: api.Bounds{Items: n, Asks: n, Lists: n, Rules: n, Sessions: n}, Users: n, Groups: n})
			New(api.Plan{Host: "x", Users: n, Groups: 1})
			New(api.Plan{Host: "x", Users: 1, Groups: n})
		}
	}
	for _, user := range h.Users() {
		h.DropUser(user)
	}
	h.hasUsers()
	h.hasGroups()
}
