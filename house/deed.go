package house

import (
	"slices"
	"strings"

	"roost/api"
	"roost/person"
)

// deed is a thing that is done in a house: what was told by it, and the row of mails that are not heard yet.
type deed struct {
	*House
	api.Reply
}

// done does a thing, and lets all mails that follow from it be heard. Who gives up does so ahead of the first change and the first word, but for a Bind, which gives up behind what the person told.
func (h *House) done(do func(d *deed)) ([]api.Out, api.Errno) {
	d := &deed{House: h}
	e := attempt(func() { do(d) })
	d.run()
	return d.Outs, e
}

// run lets the first mail of the row be heard, till there is none.
func (d *deed) run() {
	for len(d.Mails) > 0 {
		first := d.Mails[0]
		d.Mails = d.Mails[1:]
		d.deliver(first)
	}
}

// deliver lets a mail be heard. Of those to nobody, a request alone has one who waits for an answer.
func (d *deed) deliver(m api.Mail) {
	if to, there := d.users[m.To]; there {
		// What a person refuses to hear has said nothing.
		reply, _ := to.Hear(m)
		d.take(reply)
		return
	}
	if m.Kind == api.MailAsk {
		d.send(api.Mail{Kind: api.MailDeny, From: m.To, To: m.From, N: m.N})
	}
}

// take tells what a person said, and puts the mails behind the row.
func (d *deed) take(reply api.Reply) {
	d.Outs = append(d.Outs, reply.Outs...)
	d.send(reply.Mails...)
}

// send puts mails behind the row.
func (d *deed) send(mails ...api.Mail) { d.Mails = append(d.Mails, mails...) }

func (d *deed) addUser(user string) {
	_, there := d.users[user]
	demand(!there, api.ErrTwice)
	demand(len(d.users) < d.maxUsers, api.ErrFull)
	p, e := person.New(user, d.bounds)
	accept(e)
	d.users[user] = p
}

func (d *deed) dropUser(user string) {
	p := d.person(user)
	for _, seat := range p.Seats() {
		d.end(seat.Conn, api.ErrNone)
	}
	for _, entry := range p.Image().Book.Entries {
		d.part(user, entry)
	}
	delete(d.users, user)
	for _, group := range d.groupsOf(user) {
		left := slices.DeleteFunc(d.Members(group), func(member string) bool { return member == user })
		d.lay(group, left)
		d.share(group, left)
	}
}

// part sends what ends both halves that a user who goes has of a contact.
func (d *deed) part(user string, entry api.Entry) {
	if entry.Half.Out != api.None {
		d.send(api.Mail{Kind: api.MailLeave, From: user, To: entry.Contact, N: entry.Half.N})
	}
	if entry.Half.In != api.None {
		d.send(api.Mail{Kind: api.MailDeny, From: user, To: entry.Contact, N: entry.Half.M})
	}
}

func (d *deed) setGroup(group string, members []string) {
	demand(isGroup(group), api.ErrName)
	is := d.members(members)
	was, there := d.groups[group]
	demand(there || len(is) == 0 || len(d.groups) < d.maxGroups, api.ErrFull)
	d.lay(group, is)
	d.share(group, rising(was, is))
}

// members are users as a group has them: prepared, rising, none twice. It gives up at the first who is none.
func (d *deed) members(users []string) []string {
	var prepared []string
	for _, user := range users {
		member := local(user)
		d.person(member)
		prepared = append(prepared, member)
	}
	return rising(prepared)
}

// lay lets a group have these members; one of none is gone.
func (d *deed) lay(group string, members []string) {
	if len(members) == 0 {
		delete(d.groups, group)
		return
	}
	d.groups[strings.Clone(group)] = members
}

// share sends users what a group is now.
func (d *deed) share(group string, users []string) {
	for _, user := range users {
		d.send(api.Mail{Kind: api.MailShare, To: user, Resource: group, List: d.groups[group]})
	}
}

// groupsOf are the names of those that a user is in, rising.
func (d *deed) groupsOf(user string) []string {
	return slices.DeleteFunc(d.Groups(), func(group string) bool { return !slices.Contains(d.groups[group], user) })
}

func (d *deed) bind(conn int, user, resource string) {
	_, bound := d.owners[conn]
	demand(!bound, api.ErrTwice)
	p := d.person(local(user))
	reply, e := p.Bind(conn, resource)
	d.forget(reply.Outs)
	d.take(reply)
	accept(e)
	d.owners[conn] = p
}

// forget lets connections have no session any more that were told so.
func (d *deed) forget(outs []api.Out) {
	for _, out := range outs {
		if out.S.Kind == api.Closed {
			delete(d.owners, out.Conn)
		}
	}
}

func (d *deed) end(conn int, why api.Errno) {
	reply, _ := d.owner(conn).End(conn, why)
	delete(d.owners, conn)
	d.take(reply)
}

func (d *deed) say(conn int, s api.Stanza) {
	reply, e := d.owner(conn).Do(conn, s)
	accept(e)
	d.take(reply)
}
