package house

import (
	"slices"
	"unicode/utf8"

	"roost/api"
	"roost/name"
	"roost/person"
)

// plain is a house written down from the chapter's words: rows of people and of groups, in order, which are gone through for each thing that is asked.
type plain struct {
	p      api.Plan
	people []plainUser  // rising by name
	groups []plainGroup // rising by name
	outs   []api.Out    // told by what is being done
}

type plainUser struct {
	name string
	*person.Person
}

type plainGroup struct {
	name    string
	members []string // rising
}

func (q *plain) user(name string) *person.Person {
	for _, u := range q.people {
		if u.name == name {
			return u.Person
		}
	}
	return nil
}

// session is who has a connection's session.
func (q *plain) session(conn int) *person.Person {
	for _, u := range q.people {
		for _, seat := range u.Seats() {
			if seat.Conn == conn {
				return u.Person
			}
		}
	}
	return nil
}

func (q *plain) members(group string) []string {
	for _, g := range q.groups {
		if g.name == group {
			return g.members
		}
	}
	return nil
}

// running lets the first of a row be heard, and puts behind it what is answered.
func (q *plain) running(row []api.Mail) {
	for i := 0; i < len(row); i++ {
		m := row[i]
		u := q.user(m.To)
		switch {
		case u != nil:
			r, e := u.Hear(m)
			if e != api.OK {
				panic("a mail of a house was refused")
			}
			q.outs = append(q.outs, r.Outs...)
			row = append(row, r.Mails...)
		case m.Kind == api.MailAsk:
			row = append(row, api.Mail{Kind: api.MailDeny, From: m.To, To: m.From, N: m.N})
		}
	}
}

// told is what was told by what was done.
func (q *plain) told() []api.Out {
	outs := q.outs
	q.outs = nil
	return outs
}

// replied tells what one of the people said, and runs it.
func (q *plain) replied(r api.Reply) {
	q.outs = append(q.outs, r.Outs...)
	q.running(r.Mails)
}

func (q *plain) addUser(user string) api.Errno {
	user, e := name.Local(user)
	switch {
	case e != api.OK:
		return e
	case q.user(user) != nil:
		return api.ErrTwice
	case len(q.people) == q.p.Users:
		return api.ErrFull
	}
	u, _ := person.New(user, q.p.Bounds)
	q.people = append(q.people, plainUser{user, u})
	slices.SortFunc(q.people, func(a, b plainUser) int {
		if a.name < b.name {
			return -1
		}
		return 1
	})
	return api.OK
}

func (q *plain) dropUser(user string) ([]api.Out, api.Errno) {
	user, e := name.Local(user)
	if e != api.OK {
		return nil, e
	}
	u := q.user(user)
	if u == nil {
		return nil, api.ErrNone
	}
	var row []api.Mail
	for _, seat := range u.Seats() {
		r, _ := u.End(seat.Conn, api.ErrNone)
		q.outs = append(q.outs, r.Outs...)
		row = append(row, r.Mails...)
	}
	for _, x := range u.Image().Book.Entries {
		if x.Half.Out != api.None {
			row = append(row, api.Mail{Kind: api.MailLeave, From: user, To: x.Contact, N: x.Half.N})
		}
		if x.Half.In != api.None {
			row = append(row, api.Mail{Kind: api.MailDeny, From: user, To: x.Contact, N: x.Half.M})
		}
	}
	q.people = slices.DeleteFunc(q.people, func(u plainUser) bool { return u.name == user })
	var groups []plainGroup
	for _, g := range q.groups {
		left := slices.DeleteFunc(slices.Clone(g.members), func(member string) bool { return member == user })
		if len(left) < len(g.members) {
			for _, member := range left {
				row = append(row, api.Mail{Kind: api.MailShare, To: member, Resource: g.name, List: left})
			}
		}
		if len(left) > 0 {
			groups = append(groups, plainGroup{g.name, left})
		}
	}
	q.groups = groups
	q.running(row)
	return q.told(), api.OK
}

func (q *plain) setGroup(group string, members []string) ([]api.Out, api.Errno) {
	if len(group) < 1 || len(group) > 64 || !utf8.ValidString(group) {
		return nil, api.ErrName
	}
	var is []string
	for _, member := range members {
		member, e := name.Local(member)
		if e != api.OK {
			return nil, e
		}
		if q.user(member) == nil {
			return nil, api.ErrNone
		}
		if !slices.Contains(is, member) {
			is = append(is, member)
		}
	}
	slices.Sort(is)
	was := q.members(group)
	if was == nil && len(members) > 0 && len(q.groups) == q.p.Groups {
		return nil, api.ErrFull
	}
	q.groups = slices.DeleteFunc(q.groups, func(g plainGroup) bool { return g.name == group })
	if len(is) > 0 {
		q.groups = append(q.groups, plainGroup{group, is})
	}
	slices.SortFunc(q.groups, func(a, b plainGroup) int {
		if a.name < b.name {
			return -1
		}
		return 1
	})
	var row []api.Mail
	for _, u := range q.people {
		if slices.Contains(was, u.name) || slices.Contains(is, u.name) {
			row = append(row, api.Mail{Kind: api.MailShare, To: u.name, Resource: group, List: is})
		}
	}
	q.running(row)
	return q.told(), api.OK
}

func (q *plain) bind(conn int, user, resource string) ([]api.Out, api.Errno) {
	if q.session(conn) != nil {
		return nil, api.ErrTwice
	}
	user, e := name.Local(user)
	if e != api.OK {
		return nil, e
	}
	u := q.user(user)
	if u == nil {
		return nil, api.ErrNone
	}
	r, e := u.Bind(conn, resource)
	q.replied(r)
	return q.told(), e
}

func (q *plain) end(conn int, why api.Errno) ([]api.Out, bool) {
	u := q.session(conn)
	if u == nil {
		return nil, false
	}
	r, _ := u.End(conn, why)
	q.replied(r)
	return q.told(), true
}

func (q *plain) do(conn int, s api.Stanza) ([]api.Out, api.Errno) {
	u := q.session(conn)
	if u == nil {
		return nil, api.ErrState
	}
	r, e := u.Do(conn, s)
	q.replied(r)
	return q.told(), e
}
