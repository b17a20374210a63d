package person

import (
	"strings"

	"roost/api"
	"roost/name"
)

// deed is something that a person does, and what they say by it.
type deed struct {
	*Person
	api.Reply
}

// done does something, and tells what was said. Who gives up does so ahead of the first change and the first word, but for a Bind, which gives up behind what it ended.
func (p *Person) done(do func(d *deed)) (api.Reply, api.Errno) {
	d := &deed{Person: p}
	e := attempt(func() { do(d) })
	return d.Reply, e
}

func (d *deed) bind(conn int, resource string) {
	_, bound := d.sessions[conn]
	demand(!bound, api.ErrTwice)
	resource, e := name.Resource(resource)
	accept(e)
	for _, other := range d.sessionsThat(func(at session) bool { return at.Resource == resource }) {
		d.end(other, api.ErrTwice)
	}
	demand(len(d.sessions) < d.most, api.ErrFull)
	d.seat(session{Seat: api.Seat{Conn: conn, Resource: resource}})
}

func (d *deed) end(at session, why api.Errno) {
	delete(d.sessions, at.Conn)
	if why != api.OK {
		d.say(at, api.Stanza{Kind: api.Closed, N: int(why)})
	}
	if at.Here {
		d.broadcast(at, api.Mail{Kind: api.MailAway})
	}
}

// session is that of a connection; it gives up, if there is none.
func (d *deed) session(conn int) session {
	at, bound := d.sessions[conn]
	demand(bound, api.ErrState)
	return at
}

// seat lets a session be as it is given.
func (d *deed) seat(at session) { d.sessions[at.Conn] = at }

// say lays a stanza for a session, in memory of its own.
func (d *deed) say(to session, s api.Stanza) {
	s.A, s.B, s.Text = strings.Clone(s.A), strings.Clone(s.B), strings.Clone(s.Text)
	s.List = copied(s.List)
	d.Outs = append(d.Outs, api.Out{Conn: to.Conn, S: s})
}

// send lays a mail from this user, in memory of its own.
func (d *deed) send(m api.Mail) {
	m.From, m.To = strings.Clone(d.name), strings.Clone(m.To)
	m.Resource, m.Target = strings.Clone(m.Resource), strings.Clone(m.Target)
	m.Show, m.Status = strings.Clone(m.Show), strings.Clone(m.Status)
	d.Mails = append(d.Mails, m)
}

// sayHere says something to each session that is here.
func (d *deed) sayHere(s api.Stanza) {
	for _, at := range d.sessionsThat(isHere) {
		d.say(at, s)
	}
}

// push says to each session that is asking what there is now of a contact.
func (d *deed) push(other string) {
	change := d.item(other)
	for _, at := range d.sessionsThat(isAsking) {
		d.say(at, change)
	}
}

// item is a contact as the roster that is told has them, or that it does not.
func (d *deed) item(other string) api.Stanza {
	c := d.of(other)
	if !c.isTold() {
		return api.Stanza{Kind: api.Removed, A: other, N: d.Ver()}
	}
	return api.Stanza{Kind: api.Item, A: other, B: c.Name, Text: c.sub(), List: c.groups(), N: d.Ver()}
}

// allows says whether a session's list lets presence in from a contact, or out to them.
func (d *deed) allows(at session, in bool, c contact) bool {
	return d.lists.Allows(at.Active, in, c.Contact, c.groups(), c.sub())
}

// tell lets a session tell a contact how it is, if its list lets that out. The contact is handed over as what the list is asked of them, which is not always what they are now.
func (d *deed) tell(at session, c contact, m api.Mail) {
	if !d.allows(at, false, c) {
		return
	}
	m.To, m.Resource = c.Contact, at.Resource
	if m.Kind == api.MailHere {
		m.Priority, m.Show, m.Status = at.Priority, at.show, at.status
	}
	d.send(m)
}

// broadcast lets a session tell all that see this user.
func (d *deed) broadcast(at session, m api.Mail) {
	for _, other := range d.seeing() {
		d.tell(at, d.of(other), m)
	}
}

// tellOne lets each session that is here tell a contact.
func (d *deed) tellOne(c contact, m api.Mail) {
	for _, at := range d.sessionsThat(isHere) {
		d.tell(at, c, m)
	}
}
