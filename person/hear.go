package person

import (
	"slices"
	"strings"

	"roost/api"
)

func (d *deed) hear(m api.Mail) {
	demand(d.isFor(m), api.ErrArg)
	switch m.Kind {
	case api.MailAsk, api.MailLeave, api.MailGrant, api.MailDeny:
		d.hearRequest(m)
	case api.MailHere, api.MailAway:
		d.hearPresence(m)
	case api.MailProbe:
		d.hearProbe(m)
	case api.MailShare:
		d.share(m.Resource, m.List)
	default:
		panic(refusal{api.ErrArg})
	}
}

// isFor says whether a mail is one for this user, if its kind is one. That a request has a number, the roster asks.
func (d *deed) isFor(m api.Mail) bool {
	if m.To != d.name {
		return false
	}
	if m.Kind == api.MailShare {
		return m.From == ""
	}
	return isLocal(m.From) && m.From != d.name
}

func (d *deed) hearRequest(m api.Mail) {
	was := d.of(m.From)
	heard, e := d.book.Hear(m.From, m.Kind, m.N)
	accept(e)
	if heard.Deny {
		d.send(api.Mail{Kind: api.MailDeny, To: m.From, N: m.N})
		return
	}
	if heard.Tell != 0 {
		d.sayHere(api.Stanza{Kind: heard.Tell, A: m.From})
	}
	if heard.Tell == api.Left && was.seesByHalf() {
		d.tellOne(d.of(m.From), api.Mail{Kind: api.MailAway})
	}
	if heard.Changed {
		d.push(m.From)
	}
}

// hearPresence tells each session that is meant, if its list lets in what comes from there.
func (d *deed) hearPresence(m api.Mail) {
	from := d.of(m.From)
	if !from.isSeen() {
		return
	}
	told := presence(m)
	for _, at := range d.sessionsThat(isHere) {
		if (m.Target == "" || m.Target == at.Resource) && d.allows(at, true, from) {
			d.say(at, told)
		}
	}
}

// presence is what is said of another one who is here, or went.
func presence(m api.Mail) api.Stanza {
	s := api.Stanza{Kind: api.Away, A: m.From, B: m.Resource, Text: m.Status}
	if m.Kind == api.MailAway {
		return s
	}
	s.Kind, s.N = api.Seen, m.Priority
	if m.Show != "" {
		s.List = []string{m.Show}
	}
	return s
}

func (d *deed) hearProbe(m api.Mail) {
	if from := d.of(m.From); from.sees() {
		d.tellOne(from, api.Mail{Kind: api.MailHere, Target: m.Target})
	}
}

// share lets a group be what an operator made of it.
func (d *deed) share(group string, list []string) {
	demand(isGroup(group) && areLocal(list), api.ErrName)
	members := d.beside(list)
	_, there := d.groups[group]
	demand(len(members) == 0 || there || len(d.groups) < mostGroups, api.ErrFull)
	var touched []contact // as they were
	for _, other := range rising(d.groups[group], members) {
		touched = append(touched, d.of(other))
	}
	d.lay(group, members)
	d.shifts++
	for _, was := range touched {
		d.push(was.Contact)
		d.tellShift(was, d.of(was.Contact))
	}
}

// beside are the members that this user has in a group of these; none, if they are not in it.
func (d *deed) beside(list []string) []string {
	at, in := slices.BinarySearch(list, d.name)
	if !in {
		return nil
	}
	return copied(slices.Concat(list[:at], list[at+1:]))
}

// lay lets a group have these members; one of none is gone.
func (d *deed) lay(group string, members []string) {
	if len(members) == 0 {
		delete(d.groups, group)
		return
	}
	d.groups[strings.Clone(group)] = members
}

// tellShift tells a contact of whom groups made another one. Who sees this user by their half too is not told that all are away.
func (d *deed) tellShift(was, is contact) {
	switch {
	case !was.isShared() && is.isShared():
		d.tellOne(is, api.Mail{Kind: api.MailHere})
	case was.isShared() && !is.sees():
		d.tellOne(is, api.Mail{Kind: api.MailAway})
	}
}
