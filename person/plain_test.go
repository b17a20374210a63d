package person

import (
	"slices"

	"roost/api"
	"roost/name"
	"roost/privacy"
	"roost/roster"
	"roost/stanza"
	"roost/subs"
)

// plain is a person written down from the chapter's words: an image, in which rosters and lists are loaded for each thing that is done, and a row of sessions. What is done makes a new one of it, so that the one ahead is still there to be asked.
type plain struct {
	m        api.Image
	sessions []plainSession // rising by connection
}

type plainSession struct {
	api.Seat
	show, status string
}

func (p plain) book() *roster.Roster {
	r, e := roster.Load(p.m.Book)
	if e != api.OK {
		panic("no book")
	}
	return r
}

func (p plain) shelf() *privacy.Lists {
	l, e := privacy.Load(p.m.Shelf)
	if e != api.OK {
		panic("no shelf")
	}
	return l
}

// with is the person with another session in the place of that of its connection.
func (p plain) with(s plainSession) plain {
	p = p.without(s.Conn)
	p.sessions = append(p.sessions, s)
	slices.SortFunc(p.sessions, func(a, b plainSession) int {
		if a.Conn < b.Conn {
			return -1
		}
		return 1
	})
	return p
}

func (p plain) without(conn int) plain {
	p.sessions = slices.DeleteFunc(slices.Clone(p.sessions), func(s plainSession) bool { return s.Conn == conn })
	return p
}

func (p plain) session(conn int) (plainSession, bool) {
	for _, s := range p.sessions {
		if s.Conn == conn {
			return s, true
		}
	}
	return plainSession{}, false
}

func (p plain) entry(contact string) api.Entry {
	for _, x := range p.m.Book.Entries {
		if x.Contact == contact {
			return x
		}
	}
	return api.Entry{}
}

func (p plain) groupsOf(contact string) (l []string) {
	for i, group := range p.m.Groups {
		if slices.Contains(p.m.Members[i], contact) {
			l = append(l, group)
		}
	}
	return l
}

func (p plain) shared(contact string) bool { return len(p.groupsOf(contact)) > 0 }

func (p plain) sees(contact string) bool {
	return p.entry(contact).Half.In == api.Whole || p.shared(contact)
}

func (p plain) seen(contact string) bool {
	return p.entry(contact).Half.Out == api.Whole || p.shared(contact)
}

// contacts are all that this user has anything of, rising, and of whom it is so.
func (p plain) contacts(so func(contact string) bool) (l []string) {
	for _, x := range p.m.Book.Entries {
		l = append(l, x.Contact)
	}
	for _, members := range p.m.Members {
		l = append(l, members...)
	}
	slices.Sort(l)
	return slices.DeleteFunc(slices.Compact(l), func(contact string) bool { return !so(contact) })
}

func (p plain) sub(contact string) string {
	if p.shared(contact) {
		return "both"
	}
	return subs.Sub(p.entry(contact).Half)
}

func (p plain) allGroups(contact string) []string {
	l := append(slices.Clone(p.entry(contact).Groups), p.groupsOf(contact)...)
	slices.Sort(l)
	return slices.Compact(l)
}

func (p plain) allows(s plainSession, in bool, contact string) bool {
	return p.shelf().Allows(s.Active, in, contact, p.allGroups(contact), p.sub(contact))
}

func (p plain) ver() int { return int(p.m.Book.Ver) + int(p.m.Shifts) }

func (p plain) item(contact string) api.Stanza {
	x := p.entry(contact)
	if !x.Kept && !p.shared(contact) {
		return api.Stanza{Kind: api.Removed, A: contact, N: p.ver()}
	}
	return api.Stanza{Kind: api.Item, A: contact, B: x.Name, Text: p.sub(contact), List: p.allGroups(contact), N: p.ver()}
}

func (p plain) push(contact string) (r api.Reply) {
	for _, s := range p.sessions {
		if s.Asking {
			r.Outs = append(r.Outs, api.Out{Conn: s.Conn, S: p.item(contact)})
		}
	}
	return r
}

func both(all ...api.Reply) (r api.Reply) {
	for _, x := range all {
		r.Outs = append(r.Outs, x.Outs...)
		r.Mails = append(r.Mails, x.Mails...)
	}
	return r
}

func (p plain) mail(kind int, to string, n uint64) api.Reply {
	return api.Reply{Mails: []api.Mail{{Kind: kind, From: p.m.Name, To: to, N: n}}}
}

func (p plain) telling(s plainSession, contact string, m api.Mail) api.Reply {
	if !p.allows(s, false, contact) {
		return api.Reply{}
	}
	m.From, m.To, m.Resource = p.m.Name, contact, s.Resource
	if m.Kind == api.MailHere {
		m.Priority, m.Show, m.Status = s.Priority, s.show, s.status
	}
	return api.Reply{Mails: []api.Mail{m}}
}

func (p plain) broadcast(s plainSession, m api.Mail) (r api.Reply) {
	for _, contact := range p.contacts(p.sees) {
		r = both(r, p.telling(s, contact, m))
	}
	return r
}

// eachTells lets each session that is here tell a contact, by the lists as they are asked of p.
func (p plain) eachTells(contact string, m api.Mail) (r api.Reply) {
	for _, s := range p.sessions {
		if s.Here {
			r = both(r, p.telling(s, contact, m))
		}
	}
	return r
}

func (p plain) end(conn int, why api.Errno) (q plain, r api.Reply, ok bool) {
	s, ok := p.session(conn)
	if !ok {
		return p, r, false
	}
	q = p.without(conn)
	if why != api.OK {
		r.Outs = []api.Out{{Conn: conn, S: api.Stanza{Kind: api.Closed, N: int(why)}}}
	}
	if s.Here {
		r = both(r, q.broadcast(s, api.Mail{Kind: api.MailAway}))
	}
	return q, r, true
}

func (p plain) bind(conn int, resource string) (q plain, r api.Reply, e api.Errno) {
	if _, ok := p.session(conn); ok {
		return p, r, api.ErrTwice
	}
	if _, e := name.Resource(resource); e != api.OK {
		return p, r, e
	}
	q = p
	for _, s := range p.sessions {
		if s.Resource == resource {
			q, r, _ = p.end(s.Conn, api.ErrTwice)
		}
	}
	if len(q.sessions) >= q.m.Sessions {
		return q, r, api.ErrFull
	}
	return q.with(plainSession{Seat: api.Seat{Conn: conn, Resource: resource}}), r, api.OK
}

func (p plain) do(conn int, x api.Stanza) (q plain, r api.Reply, e api.Errno) {
	s, ok := p.session(conn)
	if !ok {
		return p, r, api.ErrState
	}
	if e := stanza.Check(x); e != api.OK {
		return p, r, e
	}
	if x.Kind < api.Here || x.Kind > api.Default {
		return p, r, api.ErrArg
	}
	switch x.Kind {
	case api.Here, api.Gone, api.Fetch, api.Active:
		q, r, e = p.doOfSession(s, x)
	case api.Rules, api.NoRules, api.Default:
		q, e = p.doOfLists(x)
	default:
		q, r, e = p.doOfContact(x)
	}
	if e != api.OK {
		return p, api.Reply{}, e
	}
	if x.Kind == api.Fetch && x.N != 0 && x.N == q.ver() {
		return q, api.Reply{Outs: []api.Out{{Conn: conn, S: api.Stanza{Kind: api.Same, Id: x.Id, N: x.N}}}}, api.OK
	}
	return q, both(r, api.Reply{Outs: []api.Out{{Conn: conn, S: api.Stanza{Kind: api.Did, Id: x.Id, N: q.ver()}}}}), api.OK
}

func (p plain) doOfSession(s plainSession, x api.Stanza) (q plain, r api.Reply, e api.Errno) {
	was := s.Here
	switch x.Kind {
	case api.Here:
		if x.N < -128 || x.N > 127 {
			return p, r, api.ErrRange
		}
		if !slices.Contains([]string{"", "away", "chat", "dnd", "xa"}, x.A) {
			return p, r, api.ErrForm
		}
		s.Here, s.Priority, s.show, s.status = true, x.N, x.A, x.Text
		q = p.with(s)
		r = q.broadcast(s, api.Mail{Kind: api.MailHere})
		if was {
			return q, r, api.OK
		}
		for _, contact := range p.contacts(func(c string) bool { return p.entry(c).Half.In == api.Open }) {
			r.Outs = append(r.Outs, api.Out{Conn: s.Conn, S: api.Stanza{Kind: api.Asked, A: contact}})
		}
		for _, contact := range p.contacts(p.seen) {
			r.Mails = append(r.Mails, api.Mail{Kind: api.MailProbe, From: p.m.Name, To: contact, Target: s.Resource})
		}
		return q, r, api.OK
	case api.Gone:
		if !was {
			return p, r, api.ErrState
		}
		s.Here, s.Priority, s.show, s.status = false, 0, "", ""
		q = p.with(s)
		return q, q.broadcast(s, api.Mail{Kind: api.MailAway, Status: x.Text}), api.OK
	case api.Fetch:
		if x.N < 0 {
			return p, r, api.ErrRange
		}
		s.Asking = true
		for _, contact := range p.contacts(func(c string) bool { return p.entry(c).Kept || p.shared(c) }) {
			item := p.item(contact)
			item.Id = x.Id
			r.Outs = append(r.Outs, api.Out{Conn: s.Conn, S: item})
		}
		return p.with(s), r, api.OK
	}
	if x.A != "" && !slices.Contains(p.m.Shelf.Names, x.A) {
		return p, r, api.ErrNone
	}
	s.Active = x.A
	return p.with(s), r, api.OK
}

func (p plain) doOfLists(x api.Stanza) (q plain, e api.Errno) {
	l := p.shelf()
	switch x.Kind {
	case api.Rules:
		e = l.Set(x.A, x.List)
	case api.Default:
		e = l.Default(x.A)
	case api.NoRules:
		for _, s := range p.sessions {
			if x.A != "" && s.Active == x.A {
				return p, api.ErrState
			}
		}
		e = l.Drop(x.A)
	}
	p.m.Shelf = l.Shelf()
	return p, e
}

func (p plain) doOfContact(x api.Stanza) (q plain, r api.Reply, e api.Errno) {
	contact, e := name.Local(x.A)
	if e != api.OK {
		return p, r, e
	}
	if contact == p.m.Name {
		return p, r, api.ErrState
	}
	book, was := p.book(), p.entry(contact)
	mail, n, changed := 0, uint64(0), true
	switch x.Kind {
	case api.Put:
		_, e = book.Put(contact, x.B, x.List)
	case api.Drop:
		_, e = book.Drop(contact)
	default:
		mail, n, changed, e = book.Act(contact, x.Kind)
	}
	if e != api.OK {
		return p, r, e
	}
	q = p
	q.m.Book = book.Book()
	if (x.Kind == api.Drop || x.Kind == api.Deny) && was.Half.In == api.Whole && !p.shared(contact) {
		r = p.eachTells(contact, api.Mail{Kind: api.MailAway})
	}
	if mail != 0 {
		r = both(r, q.mail(mail, contact, n))
	}
	if x.Kind == api.Drop && was.Half.Out != api.None {
		r = both(r, q.mail(api.MailLeave, contact, was.Half.N))
	}
	if x.Kind == api.Drop && was.Half.In != api.None {
		r = both(r, q.mail(api.MailDeny, contact, was.Half.M))
	}
	if x.Kind == api.Grant && mail != 0 {
		r = both(r, q.eachTells(contact, api.Mail{Kind: api.MailHere}))
	}
	if changed {
		r = both(r, q.push(contact))
	}
	return q, r, api.OK
}

func (p plain) hear(m api.Mail) (q plain, r api.Reply, e api.Errno) {
	sender, f := name.Local(m.From)
	good := f == api.OK && sender == m.From && m.From != p.m.Name
	if m.Kind == api.MailShare {
		good = m.From == ""
	}
	request := m.Kind == api.MailAsk || m.Kind == api.MailLeave || m.Kind == api.MailGrant || m.Kind == api.MailDeny
	if m.To != p.m.Name || m.Kind < 1 || m.Kind > 8 || !good || request && m.N == 0 {
		return p, r, api.ErrArg
	}
	switch {
	case request:
		q, r = p.hearRequest(m)
		return q, r, api.OK
	case m.Kind == api.MailShare:
		return p.hearShare(m)
	case m.Kind == api.MailProbe:
		if p.sees(m.From) {
			r = p.eachTells(m.From, api.Mail{Kind: api.MailHere, Target: m.Target})
		}
		return p, r, api.OK
	}
	for _, s := range p.sessions {
		if !p.seen(m.From) || !s.Here || m.Target != "" && m.Target != s.Resource || !p.allows(s, true, m.From) {
			continue
		}
		x := api.Stanza{Kind: api.Away, A: m.From, B: m.Resource, Text: m.Status}
		if m.Kind == api.MailHere {
			x.Kind, x.N = api.Seen, m.Priority
			if m.Show != "" {
				x.List = []string{m.Show}
			}
		}
		r.Outs = append(r.Outs, api.Out{Conn: s.Conn, S: x})
	}
	return p, r, api.OK
}

func (p plain) hearRequest(m api.Mail) (q plain, r api.Reply) {
	book := p.book()
	heard, e := book.Hear(m.From, m.Kind, m.N)
	if e != api.OK {
		panic("not heard")
	}
	if heard.Deny {
		return p, p.mail(api.MailDeny, m.From, m.N)
	}
	q = p
	q.m.Book = book.Book()
	for _, s := range q.sessions {
		if heard.Tell != 0 && s.Here {
			r.Outs = append(r.Outs, api.Out{Conn: s.Conn, S: api.Stanza{Kind: heard.Tell, A: m.From}})
		}
	}
	if m.Kind == api.MailLeave && heard.Tell != 0 && p.entry(m.From).Half.In == api.Whole && !p.shared(m.From) {
		r = both(r, q.eachTells(m.From, api.Mail{Kind: api.MailAway}))
	}
	if heard.Changed {
		r = both(r, q.push(m.From))
	}
	return q, r
}

func (p plain) hearShare(m api.Mail) (q plain, r api.Reply, e api.Errno) {
	if _, e := privacyName(m.Resource); e != api.OK {
		return p, r, api.ErrName
	}
	for i, member := range m.List {
		prepared, e := name.Local(member)
		if e != api.OK || prepared != member || i > 0 && m.List[i-1] >= member {
			return p, r, api.ErrName
		}
	}
	in := slices.Contains(m.List, p.m.Name) && len(m.List) > 1
	at, there := slices.BinarySearch(p.m.Groups, m.Resource)
	if in && !there && len(p.m.Groups) == 32 {
		return p, r, api.ErrFull
	}
	var was, is []string
	q = p
	q.m.Shifts++
	q.m.Groups, q.m.Members = slices.Clone(p.m.Groups), slices.Clone(p.m.Members)
	if there {
		was = p.m.Members[at]
		q.m.Groups, q.m.Members = slices.Delete(q.m.Groups, at, at+1), slices.Delete(q.m.Members, at, at+1)
	}
	if in {
		is = slices.DeleteFunc(slices.Clone(m.List), func(member string) bool { return member == p.m.Name })
		q.m.Groups, q.m.Members = slices.Insert(q.m.Groups, at, m.Resource), slices.Insert(q.m.Members, at, is)
	}
	contacts := append(slices.Clone(was), is...)
	slices.Sort(contacts)
	for _, contact := range slices.Compact(contacts) {
		r = both(r, q.push(contact))
		if !p.shared(contact) && q.shared(contact) {
			r = both(r, q.eachTells(contact, api.Mail{Kind: api.MailHere}))
		}
		if p.shared(contact) && !q.shared(contact) && q.entry(contact).Half.In != api.Whole {
			r = both(r, q.eachTells(contact, api.Mail{Kind: api.MailAway}))
		}
	}
	return q, r, api.OK
}

// privacyName asks layer 17 for what both chapters say of a list's and of a group's name.
func privacyName(text string) (string, api.Errno) {
	l, _ := privacy.New(1, 0)
	return text, l.Set(text, nil)
}
