package person

import (
	"fmt"
	"math"
	"math/rand"
	"slices"
	"strings"
	"testing"
	"unsafe"

	"roost/api"
)

// walk does steps by chance to a person and to the plain one.
type walk struct {
	draw   *rand.Rand
	p      *Person
	q, was plain // the plain one, and as it was ahead of the last step
	step   string
	reply  api.Reply // of the last step
}

func (w *walk) one(texts ...string) string { return texts[w.draw.Intn(len(texts))] }

func (w *walk) contact() string {
	if w.draw.Intn(25) == 0 {
		return w.one("ANN", "Bob", "a b", "", "ann")
	}
	return w.one("abe", "bob", "cyd", "dan", "ärn")
}

func (w *walk) conn() int { return w.draw.Intn(5) }

func (w *walk) resource() string {
	if w.draw.Intn(20) == 0 {
		return w.one("", "\n", long(65))
	}
	return w.one("d", "e", "f", "D", "g")
}

func (w *walk) list() string { return w.one("l", "m", "n", "l", "m", "") }

func (w *walk) rules() (l []string) {
	for range w.draw.Intn(4) {
		whom := w.one("all", "jid bob", "jid Cyd", "jid ärn", "group x", "group team", "group more", "sub none", "sub to", "sub from", "sub both")
		l = append(l, w.one("allow", "deny", "deny")+" "+w.one("in", "out", "both")+" "+whom)
	}
	return l
}

// number is one that the contact's half has, or any low one.
func (w *walk) number(contact string) uint64 {
	half := w.q.entry(contact).Half
	switch w.draw.Intn(5) {
	case 0, 1:
		return half.N
	case 2, 3:
		return half.M
	}
	return uint64(w.draw.Intn(12))
}

func (w *walk) stanza() api.Stanza {
	s := api.Stanza{Kind: api.Here + w.draw.Intn(api.Default-api.Here+1), Id: uint64(w.draw.Intn(3))}
	if w.draw.Intn(3) == 0 {
		s.Kind = api.Ask + w.draw.Intn(api.Deny-api.Ask+1)
	}
	switch s.Kind {
	case api.Here:
		s.N, s.A, s.Text = w.draw.Intn(300)-150, w.one("", "away", "chat", "dnd", "xa", "XA"), w.one("", "hm", "st")
	case api.Gone:
		s.Text = w.one("", "bye")
	case api.Fetch:
		s.N = []int{0, w.q.ver(), w.q.ver() - 1, -1, 1}[w.draw.Intn(5)]
	case api.Put:
		s.A, s.B, s.List = w.contact(), w.one("", "B", "C"), strings.Fields(w.one("", "x", "x y", "team", "y x x"))
	case api.Rules:
		s.A, s.List = w.list(), w.rules()
	case api.NoRules, api.Active, api.Default:
		s.A = w.list()
	default:
		s.A = w.contact()
	}
	if w.draw.Intn(50) == 0 {
		s.Kind = w.draw.Intn(50)
	}
	return s
}

func (w *walk) mail() api.Mail {
	m := api.Mail{Kind: api.MailAsk + w.draw.Intn(api.MailShare), From: w.contact(), To: "ann"}
	m.N = w.number(m.From)
	m.Resource, m.Target = w.one("x", "y", ""), w.one("", "", "d", "e", "q")
	m.Priority, m.Show, m.Status = w.draw.Intn(7)-3, w.one("", "xa", "dnd"), w.one("", "away", "there")
	if m.Kind == api.MailShare {
		m.From, m.Resource = "", w.one("team", "more", "x", "x")
		for _, member := range []string{"abe", "ann", "bob", "cyd", "dan", "zed", "ärn"} {
			if w.draw.Intn(7) > 3 || member == "ann" && w.draw.Intn(3) > 0 {
				m.List = append(m.List, member)
			}
		}
	}
	if w.draw.Intn(50) == 0 {
		m.To = w.one("bob", "Ann", "")
	}
	return m
}

// next does a step to both, and asks that they answer the same, and are the same behind it.
func (w *walk) next(t *testing.T) {
	t.Helper()
	w.was = w.q
	var want api.Reply
	var e, f api.Errno
	switch w.draw.Intn(12) {
	case 0, 1:
		conn, resource := w.conn(), w.resource()
		w.step = fmt.Sprintf("Bind(%d, %q)", conn, resource)
		w.reply, e = w.p.Bind(conn, resource)
		w.q, want, f = w.q.bind(conn, resource)
	case 2:
		conn, why := w.conn(), []api.Errno{api.OK, api.ErrLease, api.ErrNone}[w.draw.Intn(3)]
		var is, ok bool
		w.step = fmt.Sprintf("End(%d, %d)", conn, why)
		w.reply, is = w.p.End(conn, why)
		w.q, want, ok = w.q.end(conn, why)
		if is != ok {
			t.Fatalf("%s: %v", w.step, is)
		}
	case 3, 4, 5, 6:
		m := w.mail()
		w.step = fmt.Sprintf("Hear(%v)", m)
		w.reply, e = w.p.Hear(m)
		w.q, want, f = w.q.hear(m)
	default:
		conn, s := w.conn(), w.stanza()
		if w.draw.Intn(4) > 0 && len(w.q.sessions) > 0 {
			conn = w.q.sessions[w.draw.Intn(len(w.q.sessions))].Conn
		}
		w.step = fmt.Sprintf("Do(%d, %v)", conn, s)
		w.reply, e = w.p.Do(conn, s)
		w.q, want, f = w.q.do(conn, s)
	}
	if got, want := said(w.reply), said(want); got != want || e != f {
		t.Fatalf("%s:\n%s, %v; not\n%s, %v\nof %s", w.step, got, e, want, f, plainText(w.was))
	}
	if got, want := state(w.p), plainText(w.q); got != want {
		t.Fatalf("%s:\n%s, not\n%s", w.step, got, want)
	}
}

// plainText is what state says of a person that is like the plain one.
func plainText(q plain) string {
	text := fmt.Sprintf("%s; %d", imageText(q.m), q.ver())
	for _, s := range q.sessions {
		text += fmt.Sprintf("; %#v %q %q", s.Seat, s.show, s.status)
	}
	return text
}

func walks(t *testing.T, times, steps int, behind func(w *walk)) {
	for i := range times {
		draw := rand.New(rand.NewSource(int64(i)))
		b := api.Bounds{Items: draw.Intn(7), Asks: draw.Intn(4), Lists: draw.Intn(4), Rules: draw.Intn(5), Sessions: draw.Intn(5)}
		u := made(t, "ann", b)
		w := &walk{draw: draw, p: u.Person, q: plain{m: u.Image()}}
		for range steps {
			w.next(t)
			behind(w)
		}
	}
}

// Whatever is done, a person does what the chapter's words say, one behind the other.
func TestWalks(t *testing.T) {
	told, most := map[string]int{}, 0
	walks(t, 200, 300, func(w *walk) {
		for _, o := range w.reply.Outs {
			told[stanzaNames[o.S.Kind]]++
		}
		for _, m := range w.reply.Mails {
			told["Mail"+mailNames[m.Kind]]++
		}
		most = max(most, len(w.q.sessions))
	})
	for kind, name := range stanzaNames {
		if told[name] == 0 {
			t.Errorf("no walk told a %s, %d", name, kind)
		}
	}
	for kind, name := range mailNames {
		if told["Mail"+name] == 0 && kind != api.MailShare {
			t.Errorf("no walk sent a Mail%s, %d", name, kind)
		}
	}
	if most < 4 {
		t.Errorf("no walk had more than %d sessions", most)
	}
}

// Behind each step the person's image is loaded: it is the same person without sessions, who answers what one does whose sessions ended.
func TestP187LoadOfImage(t *testing.T) {
	walks(t, 60, 200, func(w *walk) {
		m := w.p.Image()
		again := opened(t, m)
		if got := imageText(again.Image()); got != imageText(m) || len(again.Seats()) > 0 || again.Ver() != w.p.Ver() {
			t.Fatalf("%s: Load(Image()): %s, not %s", w.step, got, imageText(m))
		}
		if w.draw.Intn(10) == 0 {
			w.p, w.q.sessions = again.Person, nil
		}
	})
}

// Presence goes only to who sees this user, and who saw them is told that it ends; to nobody whom the session's list denies.
func TestP187WhoIsTold(t *testing.T) {
	heres, aways, denied := 0, 0, 0
	walks(t, 80, 300, func(w *walk) {
		asked := w.q
		if strings.HasPrefix(w.step, "Do(") && w.dropsOrDenies() {
			asked = w.was
		}
		for _, m := range w.reply.Mails {
			if m.Kind != api.MailHere && m.Kind != api.MailAway {
				continue
			}
			if m.Kind == api.MailHere {
				heres++
				if !w.q.sees(m.To) {
					t.Fatalf("%s: %s does not see this user: %s", w.step, m.To, mailText(m))
				}
			} else {
				aways++
				if !w.was.sees(m.To) {
					t.Fatalf("%s: %s did not see this user: %s", w.step, m.To, mailText(m))
				}
			}
			if !asked.allows(w.speaker(m.Resource), false, m.To) {
				t.Fatalf("%s: the list denies %s: %s", w.step, m.To, mailText(m))
			}
		}
		for _, s := range w.q.sessions {
			for _, contact := range w.q.contacts(w.q.sees) {
				if s.Here && !w.q.allows(s, false, contact) {
					denied++
				}
			}
		}
	})
	if heres == 0 || aways == 0 || denied == 0 {
		t.Error("nobody was told, or denied:", heres, aways, denied)
	}
}

func (w *walk) dropsOrDenies() bool {
	return strings.Contains(w.step, fmt.Sprintf("{%d ", api.Drop)) || strings.Contains(w.step, fmt.Sprintf("{%d ", api.Deny))
}

// speaker is the session that told something: one that is here, or was.
func (w *walk) speaker(resource string) plainSession {
	for _, s := range slices.Concat(w.q.sessions, w.was.sessions) {
		if s.Resource == resource {
			if was, ok := w.was.session(s.Conn); s.Here || ok && was.Here {
				return s
			}
		}
	}
	panic("nobody told it")
}

// What is told of another's presence, and of what others ask, is told to sessions that are here, and to them alone.
func TestP187HereAlone(t *testing.T) {
	notHere := 0
	walks(t, 80, 300, func(w *walk) {
		for _, o := range w.reply.Outs {
			switch o.S.Kind {
			case api.Seen, api.Away, api.Asked, api.Granted, api.Left, api.Denied:
				if s, ok := w.q.session(o.Conn); !ok || !s.Here {
					t.Fatalf("%s: %s", w.step, outText(o))
				}
				if o.S.Kind <= api.Away && (!w.q.seen(o.S.A) || !w.q.allows(mustSession(w.q, o.Conn), true, o.S.A)) {
					t.Fatalf("%s: %s", w.step, outText(o))
				}
				if slices.ContainsFunc(w.q.sessions, func(s plainSession) bool { return !s.Here }) {
					notHere++
				}
			}
		}
	})
	if notHere == 0 {
		t.Error("no session was left out")
	}
}

func mustSession(q plain, conn int) plainSession {
	s, _ := q.session(conn)
	return s
}

// town is persons whose mails reach each other; each has a row of them.
type town struct {
	t       *testing.T
	draw    *rand.Rand
	names   []string
	persons map[string]*Person
	rows    map[string][]api.Mail
	seen    map[string]map[int]map[string]int // of each user and session: who is there, as they were told
}

func (w *town) post(who string, r api.Reply) {
	for _, o := range r.Outs {
		there := w.seen[who][o.Conn]
		switch o.S.Kind {
		case api.Seen:
			there[o.S.A+"/"+o.S.B] = o.S.N
		case api.Away:
			delete(there, o.S.A+"/"+o.S.B)
		}
	}
	for _, m := range r.Mails {
		w.rows[m.To] = append(w.rows[m.To], m)
	}
	w.forget(who)
}

// forget lets those go of whom this user sees nothing any more.
func (w *town) forget(who string) {
	q := plain{m: w.persons[who].Image()}
	for _, there := range w.seen[who] {
		for key := range there {
			if contact, _, _ := strings.Cut(key, "/"); !q.seen(contact) {
				delete(there, key)
			}
		}
	}
}

func (w *town) hear(who string) {
	m := w.rows[who][0]
	w.rows[who] = w.rows[who][1:]
	r, e := w.persons[who].Hear(m)
	if e != api.OK {
		w.t.Fatalf("%s hears %v: %v", who, m, e)
	}
	w.post(who, r)
}

func (w *town) act(who string) {
	conn, other, p := w.draw.Intn(3), w.names[w.draw.Intn(len(w.names))], w.persons[who]
	switch w.draw.Intn(12) {
	case 0:
		if r, e := p.Bind(conn, fmt.Sprint("r", conn)); e == api.OK {
			w.seen[who][conn] = map[string]int{}
			w.post(who, r)
		}
	case 1:
		if r, ok := p.End(conn, api.OK); ok {
			delete(w.seen[who], conn)
			w.post(who, r)
		}
	case 2, 3:
		if r, e := p.Do(conn, api.Stanza{Kind: api.Here, N: w.draw.Intn(9)}); e == api.OK {
			w.post(who, r)
		}
	case 4:
		if r, e := p.Do(conn, api.Stanza{Kind: api.Gone}); e == api.OK {
			w.seen[who][conn] = map[string]int{}
			w.post(who, r)
		}
	case 5:
		group := fmt.Sprint("g", w.draw.Intn(2))
		members := slices.DeleteFunc(slices.Clone(w.names), func(string) bool { return w.draw.Intn(2) == 0 })
		for _, name := range w.names {
			w.rows[name] = append(w.rows[name], api.Mail{Kind: api.MailShare, To: name, Resource: group, List: members})
		}
	default:
		kind := []int{api.Drop, api.Ask, api.Ask, api.Grant, api.Grant, api.Grant, api.Leave, api.Deny}[w.draw.Intn(8)]
		if r, e := p.Do(conn, about(kind, other)); e == api.OK {
			w.post(who, r)
		}
	}
}

func (w *town) settle() {
	for again := true; again; {
		again = false
		for _, who := range w.names {
			for len(w.rows[who]) > 0 {
				w.hear(who)
				again = true
			}
		}
	}
}

// Persons whose mails come in order agree on what they asked each other, and who is here knows who else is, when nothing is on its way.
func TestPersonsAgree(t *testing.T) {
	pairs, known := 0, 0
	for i := range 300 {
		w := &town{t: t, draw: rand.New(rand.NewSource(int64(i))), names: []string{"ann", "bob", "cyd"}, persons: map[string]*Person{}, rows: map[string][]api.Mail{}, seen: map[string]map[int]map[string]int{}}
		for _, name := range w.names {
			w.persons[name] = made(t, name, api.Bounds{Items: 1 + w.draw.Intn(3), Asks: w.draw.Intn(3), Sessions: 3}).Person
			w.seen[name] = map[int]map[string]int{}
		}
		for range 300 {
			if who := w.names[w.draw.Intn(3)]; len(w.rows[who]) > 0 && w.draw.Intn(2) == 0 {
				w.hear(who)
			} else {
				w.act(who)
			}
		}
		w.settle()
		for _, one := range w.names {
			a := plain{m: w.persons[one].Image()}
			want := map[string]int{}
			for _, other := range w.names {
				b := plain{m: w.persons[other].Image()}
				x, y := a.entry(other).Half, b.entry(one).Half
				if x.Out != y.In || x.N != y.M || a.shared(other) != b.shared(one) {
					t.Fatalf("town %d: %s and %s do not agree: %v, %v", i, one, other, x, y)
				}
				if x.Out != api.None {
					pairs++
				}
				for _, seat := range w.persons[other].Seats() {
					if seat.Here && one != other && a.seen(other) {
						want[other+"/"+seat.Resource] = seat.Priority
					}
				}
			}
			for _, seat := range w.persons[one].Seats() {
				if got := w.seen[one][seat.Conn]; seat.Here && fmt.Sprint(got) != fmt.Sprint(want) {
					t.Fatalf("town %d: %s at %d was told %v, not %v", i, one, seat.Conn, got, want)
				}
				known += len(want)
			}
		}
	}
	if pairs == 0 || known == 0 {
		t.Error("no town ended with a pair, or with one who sees another one:", pairs, known)
	}
}

// loose is a text whose bytes may be changed behind a call's back.
func loose(room []byte) string { return unsafe.String(&room[0], len(room)) }

// rooms are texts that were handed in, and may be spoilt.
type rooms [][]byte

func (r *rooms) text(s string) string {
	room := []byte(s)
	*r = append(*r, room)
	return loose(room)
}

func (r *rooms) texts(l ...string) []string {
	var texts []string
	for _, s := range l {
		texts = append(texts, r.text(s))
	}
	return texts
}

func (r *rooms) spoil() {
	for _, room := range *r {
		for i := range room {
			room[i] = '?'
		}
	}
	*r = nil
}

func TestR2NothingIsKept(t *testing.T) {
	var r rooms
	u := made(t, r.text("ann"), annBounds)
	steps := func() (said []string) {
		said = append(said, state(u.Person))
		r.spoil()
		return append(said, state(u.Person))
	}
	same := func(what string) {
		t.Helper()
		if l := steps(); l[0] != l[1] {
			t.Errorf("%s is kept: %s, then %s", what, l[0], l[1])
		}
	}
	same("the name")
	if _, e := u.Bind(1, r.text("desk")); e != api.OK {
		t.Fatal(e)
	}
	same("a resource")
	do := func(s api.Stanza) {
		t.Helper()
		s.A, s.B, s.Text, s.List = r.text(s.A + " ")[:len(s.A)], r.text(s.B + " ")[:len(s.B)], r.text(s.Text + " ")[:len(s.Text)], r.texts(s.List...)
		list := append(s.List, "behind")
		reply, e := u.Do(1, s)
		if e != api.OK || len(s.List) > 0 && list[len(s.List)] != "behind" {
			t.Fatal(s, e)
		}
		before := said(reply)
		for i := range s.List {
			s.List[i] = "spoilt"
		}
		same(fmt.Sprint("what is said by kind ", s.Kind))
		if said(reply) != before {
			t.Errorf("what is answered to kind %d shares memory with it", s.Kind)
		}
	}
	do(api.Stanza{Kind: api.Fetch})
	do(api.Stanza{Kind: api.Put, A: "bob", B: "Bobby", List: []string{"work", "home"}})
	do(api.Stanza{Kind: api.Ask, A: "bob"})
	do(api.Stanza{Kind: api.Ask, A: "cyd"})
	do(api.Stanza{Kind: api.Here, A: "away", Text: "status"})
	do(api.Stanza{Kind: api.Rules, A: "list", List: []string{"deny in jid zed"}})
	do(api.Stanza{Kind: api.Active, A: "list"})
	do(api.Stanza{Kind: api.Default, A: "list"})
	hear := func(m api.Mail) {
		t.Helper()
		m.To, m.From, m.Resource = r.text("ann"), r.text(m.From + " ")[:len(m.From)], r.text("resource")
		m.Show, m.Status = r.text("show"), r.text("status")
		m.List = r.texts(m.List...)
		reply, e := u.Hear(m)
		if e != api.OK {
			t.Fatal(m, e)
		}
		before := said(reply)
		for i := range m.List {
			m.List[i] = "spoilt"
		}
		same(fmt.Sprint("what is heard by kind ", m.Kind))
		if said(reply) != before {
			t.Errorf("what is answered to mail %d shares memory with it", m.Kind)
		}
	}
	hear(api.Mail{Kind: api.MailGrant, From: "bob", N: 1})
	hear(api.Mail{Kind: api.MailAsk, From: "dan", N: 1})
	hear(api.Mail{Kind: api.MailAsk, From: "eve", N: 1})
	hear(api.Mail{Kind: api.MailAsk, From: "fay", N: 1})
	hear(api.Mail{Kind: api.MailHere, From: "bob"})
	hear(api.Mail{Kind: api.MailAway, From: "bob"})
	hear(api.Mail{Kind: api.MailShare, List: []string{"abe", "ann", "bob", "gil"}})
	hear(api.Mail{Kind: api.MailProbe, From: "bob"})
	hear(api.Mail{Kind: api.MailShare, List: []string{"abe", "ann"}})
}

func TestR2LoadKeepsNothing(t *testing.T) {
	var r rooms
	m := full()
	want := imageText(m)
	m.Name, m.Groups = r.text(m.Name), r.texts(m.Groups...)
	for i, l := range m.Members {
		m.Members[i] = r.texts(l...)
	}
	for i, x := range m.Book.Entries {
		m.Book.Entries[i].Contact, m.Book.Entries[i].Groups = r.text(x.Contact), r.texts(x.Groups...)
	}
	m.Shelf.Names, m.Shelf.Default = r.texts(m.Shelf.Names...), r.text(m.Shelf.Default)
	u := opened(t, m)
	if got := imageText(m); got != want {
		t.Fatal("Load changed what it was given:", got)
	}
	r.spoil()
	spoilImage(m)
	if got := imageText(u.Image()); got != want {
		t.Error("Load keeps what it was given:", got)
	}
	if u.share("more"); u.Ver() != 12 || len(u.Image().Groups) != 1 {
		t.Error("a group is not found any more")
	}
}

// spoil changes all of a list, and the room behind it.
func spoil(l []string) {
	l = l[:cap(l)]
	for i := range l {
		l[i] = "spoilt"
	}
}

func spoilImage(m api.Image) {
	spoil(m.Groups)
	spoil(m.Shelf.Names)
	for _, lists := range [][][]string{m.Members[:cap(m.Members)], m.Shelf.Texts[:cap(m.Shelf.Texts)]} {
		for i := range lists {
			spoil(lists[i])
			lists[i] = nil
		}
	}
	entries := m.Book.Entries[:cap(m.Book.Entries)]
	for i := range entries {
		spoil(entries[i].Groups)
		entries[i] = api.Entry{Contact: "spoilt"}
	}
}

func spoilReply(r api.Reply) {
	outs, mails := r.Outs[:cap(r.Outs)], r.Mails[:cap(r.Mails)]
	for i := range outs {
		spoil(outs[i].S.List)
		outs[i] = api.Out{Conn: -1}
	}
	for i := range mails {
		spoil(mails[i].List)
		mails[i] = api.Mail{From: "spoilt"}
	}
}

func TestR2ToldIsNew(t *testing.T) {
	u := opened(t, full())
	for conn := range 3 {
		u.binds(conn, fmt.Sprint("r", conn), "")
		u.must(conn, api.Stanza{Kind: api.Fetch})
		u.must(conn, api.Stanza{Kind: api.Here, A: "xa", Text: "st"})
	}
	before := state(u.Person)
	spoilImage(u.Image())
	seats := u.Seats()
	for i := range seats[:cap(seats)] {
		seats[:cap(seats)][i] = api.Seat{Conn: -1}
	}
	fetch := func() api.Reply {
		r, _ := u.Do(1, api.Stanza{Kind: api.Fetch})
		return r
	}
	one, two := fetch(), fetch()
	want := said(two)
	spoilReply(one)
	if got := said(two); got != want {
		t.Error("two answers share memory:", got)
	}
	// No two lists of one answer share any, the room behind them included.
	last := outText(two.Outs[2])
	spoil(two.Outs[0].S.List)
	spoil(two.Outs[1].S.List)
	if got := outText(two.Outs[2]); got != last {
		t.Error("two lists of one answer share memory:", got)
	}
	r, _ := u.Hear(api.Mail{Kind: api.MailHere, From: "dan", To: "ann", Show: "dnd"})
	want = outText(r.Outs[2])
	spoil(r.Outs[0].S.List)
	spoil(r.Outs[1].S.List)
	if got := outText(r.Outs[2]); got != want {
		t.Error("two lists of one answer share memory:", got)
	}
	if after := state(u.Person); after != before {
		t.Errorf("what is told is kept: %s, then %s", before, after)
	}
	r, _ = u.Do(1, api.Stanza{Kind: api.Put, A: "bob", B: "B", List: []string{"g", "x"}})
	want = outText(r.Outs[1])
	spoil(r.Outs[0].S.List)
	if got := outText(r.Outs[1]); got != want {
		t.Error("two pushes share memory:", got)
	}
}

// texts are all texts of a reply.
func texts(r api.Reply) (l []string) {
	for _, o := range r.Outs {
		l = append(append(l, o.S.A, o.S.B, o.S.Text), o.S.List...)
	}
	for _, m := range r.Mails {
		l = append(append(l, m.From, m.To, m.Resource, m.Show, m.Status, m.Target), m.List...)
	}
	return l
}

func imageTexts(m api.Image) (l []string) {
	l = append(append(l, m.Name, m.Shelf.Default), m.Groups...)
	for _, x := range slices.Concat(m.Members, m.Shelf.Texts, [][]string{m.Shelf.Names}) {
		l = append(l, x...)
	}
	for _, x := range m.Book.Entries {
		l = append(append(l, x.Contact, x.Name), x.Groups...)
	}
	return l
}

// Texts are told as copies, too: no two answers share one, and none is what a person keeps.
func TestR2ToldTexts(t *testing.T) {
	u := opened(t, full())
	var all []string
	take := func(r api.Reply, e api.Errno) {
		t.Helper()
		if e != api.OK {
			t.Fatal(e)
		}
		all = append(all, texts(r)...)
	}
	for conn := range 2 {
		take(u.Bind(conn, fmt.Sprint("desk", conn)))
		take(u.Do(conn, api.Stanza{Kind: api.Fetch}))
		take(u.Do(conn, about(api.Active, "b")))
		take(u.Do(conn, api.Stanza{Kind: api.Here, A: "away", Text: "status"}))
		take(u.Do(conn, api.Stanza{Kind: api.Here, A: "away", Text: "status"}))
	}
	for range 2 {
		take(u.Do(0, api.Stanza{Kind: api.Put, A: "bob", B: "Bobby", List: []string{"work", "home"}}))
		take(u.Do(0, api.Stanza{Kind: api.Fetch}))
		take(u.Hear(api.Mail{Kind: api.MailProbe, From: "bob", To: "ann", Target: "desk"}))
		take(u.Hear(api.Mail{Kind: api.MailHere, From: "bob", To: "ann", Resource: "there", Show: "dnd", Status: "says"}))
		take(u.Hear(api.Mail{Kind: api.MailAway, From: "bob", To: "ann", Resource: "there", Status: "says"}))
		take(u.Hear(api.Mail{Kind: api.MailShare, To: "ann", Resource: "group", List: []string{"abe", "ann", "zed"}}))
		take(u.Hear(api.Mail{Kind: api.MailShare, To: "ann", Resource: "group", List: []string{"abe"}}))
		take(u.Hear(api.Mail{Kind: api.MailAsk, From: "gil", To: "ann", N: 5}))
		take(u.Do(1, about(api.Grant, "gil")))
		take(u.Do(1, about(api.Ask, "gil")))
		take(u.Do(1, about(api.Drop, "gil")))
		take(u.Do(1, api.Stanza{Kind: api.Gone, Text: "status"}))
		take(u.Do(1, here()))
		all = append(all, imageTexts(u.Image())...)
		for _, seat := range u.Seats() {
			all = append(all, seat.Resource, seat.Active)
		}
	}
	r, _ := u.End(0, api.ErrLease)
	take(r, api.OK)
	seen := map[*byte]int{}
	for i, text := range all {
		if text == "" {
			continue
		}
		at := unsafe.StringData(text)
		if other, shared := seen[at]; shared {
			t.Errorf("texts %d and %d share %q", other, i, text)
		}
		seen[at] = i
	}
}

func TestR2NilAndEmpty(t *testing.T) {
	a, b := made(t, "ann", annBounds), made(t, "ann", annBounds)
	for _, u := range []user{a, b} {
		u.binds(1, "d", "")
		u.must(1, api.Stanza{Kind: api.Fetch})
		u.share("g", "ann", "bob")
	}
	x, _ := a.Do(1, api.Stanza{Kind: api.Put, A: "bob"})
	y, _ := b.Do(1, api.Stanza{Kind: api.Put, A: "bob", List: []string{}})
	if said(x) != said(y) {
		t.Error(said(x), said(y))
	}
	x, _ = a.Hear(api.Mail{Kind: api.MailShare, To: "ann", Resource: "g"})
	y, _ = b.Hear(api.Mail{Kind: api.MailShare, To: "ann", Resource: "g", List: []string{}})
	if said(x) != said(y) || state(a.Person) != state(b.Person) {
		t.Error(said(x), said(y))
	}
	m := api.Image{Name: "ann", Book: api.Book{Entries: []api.Entry{}}, Shelf: api.Shelf{Names: []string{}, Texts: [][]string{}}, Groups: []string{}, Members: [][]string{}}
	opened(t, m)
}

// Nothing of what is gone is left in the maps.
func TestNothingOfTheGoneIsKept(t *testing.T) {
	u := made(t, "ann", annBounds)
	for i := range 200 {
		u.binds(i, "d", "")
		u.must(i, here())
		u.share(fmt.Sprint("g", i), "ann", "bob")
		u.share(fmt.Sprint("g", i), "bob")
		u.ends(i, api.OK, "")
	}
	if len(u.sessions) != 0 || len(u.groups) != 0 {
		t.Errorf("%d sessions and %d groups are left", len(u.sessions), len(u.groups))
	}
}

func TestR4Apart(t *testing.T) {
	m := full()
	a, b := opened(t, m), opened(t, m)
	before := state(b.Person)
	a.binds(1, "d", "")
	a.must(1, here())
	a.must(1, about(api.Drop, "bob"))
	a.must(1, about(api.NoRules, "b"))
	a.share("team", "ann", "zed")
	if got := state(b.Person); got != before || imageText(m) != imageText(full()) {
		t.Error("what is done to one is seen at another one:", got)
	}
}

// The same calls are answered the same each time, whatever the maps' order.
func TestR4SameAgain(t *testing.T) {
	run := func() string {
		u := made(t, "ann", api.Bounds{Items: 100, Asks: 100, Sessions: 40})
		var l []string
		take := func(r api.Reply, e api.Errno) { l = append(l, said(r), fmt.Sprint(e)) }
		for conn := range 30 {
			take(u.Bind(conn, fmt.Sprint("r", conn)))
			take(u.Do(conn, api.Stanza{Kind: api.Fetch}))
			take(u.Do(conn, here()))
		}
		for i := range 20 {
			var list []string
			for j := range 20 {
				list = append(list, fmt.Sprintf("u%03d", (i+1)*j))
			}
			slices.Sort(list)
			take(u.Hear(api.Mail{Kind: api.MailShare, To: "ann", Resource: fmt.Sprint("g", i), List: slices.Compact(append([]string{"ann"}, list...))}))
		}
		for i := range 60 {
			take(u.Do(i%30, about(api.Ask, fmt.Sprintf("u%03d", i))))
			take(u.Hear(api.Mail{Kind: api.MailAsk, To: "ann", From: fmt.Sprintf("u%03d", i), N: 5}))
			take(u.Do(i%30, about(api.Grant, fmt.Sprintf("u%03d", i))))
		}
		take(u.Do(0, api.Stanza{Kind: api.Fetch}))
		take(u.Do(0, here()))
		take(u.Do(0, api.Stanza{Kind: api.Gone}))
		return strings.Join(append(l, state(u.Person)), "\n")
	}
	want := run()
	for range 3 {
		if run() != want {
			t.Fatal("answered otherwise")
		}
	}
}

func TestR1NothingPanics(t *testing.T) {
	words := []string{"", "ann", "Ann", "bob", "a b", "\xff", "\x00", "ß", long(64), long(65), strings.Repeat("\xff", 70000)}
	numbers := []int{math.MinInt, -129, -1, 0, 1, 2, 127, 128, math.MaxInt}
	u := opened(t, full())
	for i, a := range words {
		u.Bind(i%3, a)
		for kind := -1; kind <= 50; kind++ {
			for j, n := range numbers {
				b := words[(i+j)%len(words)]
				for _, list := range [][]string{nil, {a}, {b, a}, words, make([]string, 65)} {
					u.Do(i%3, api.Stanza{Kind: kind, A: a, N: n})
					u.Do(i%3, api.Stanza{Kind: kind, A: a, Text: b, N: n})
					u.Do(i%3, api.Stanza{Kind: kind, A: a, B: b, List: list})
					u.Do(n, api.Stanza{Kind: kind, Id: uint64(n), A: a, B: b, Text: b, List: list, N: n, F: math.NaN()})
					u.Hear(api.Mail{Kind: kind, From: a, To: "ann", N: uint64(n), Resource: b, Priority: n, Show: b, Status: a, Target: b, List: list})
				}
			}
		}
		u.End(i%3, api.Errno(i-1))
		for _, n := range numbers {
			New(a, api.Bounds{Items: n, Asks: n, Lists: n, Rules: n, Sessions: n})
			Load(api.Image{Name: a, Sessions: n, Shifts: uint64(n), Groups: words, Members: [][]string{words, nil}})
			Load(api.Image{Name: a, Groups: []string{a}, Members: [][]string{{a}}})
			u.End(n, api.Errno(n))
		}
	}
}
