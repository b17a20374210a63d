package person

import (
	"strings"

	"roost/api"
	"roost/name"
	"roost/stanza"
)

const (
	lowestPriority  = -128
	highestPriority = 127
)

func (d *deed) do(conn int, s api.Stanza) {
	at := d.session(conn)
	accept(stanza.Check(s))
	d.obey(at, s)
	d.answer(at, s)
}

func (d *deed) obey(at session, s api.Stanza) {
	switch s.Kind {
	case api.Here:
		d.here(at, s)
	case api.Gone:
		d.gone(at, s.Text)
	case api.Fetch:
		d.fetch(at, s)
	case api.Put:
		d.put(d.other(s.A), s)
	case api.Drop:
		d.drop(d.other(s.A))
	case api.Ask, api.Grant, api.Leave, api.Deny:
		d.act(d.other(s.A), s.Kind)
	case api.Rules:
		accept(d.lists.Set(s.A, s.List))
	case api.NoRules:
		d.noRules(s.A)
	case api.Active:
		d.activate(at, s.A)
	case api.Default:
		accept(d.lists.Default(s.A))
	default:
		panic(refusal{api.ErrArg})
	}
}

// answer says that a stanza was done; of a Fetch by one who knows the roster already it is the one answer.
func (d *deed) answer(at session, s api.Stanza) {
	kind := api.Did
	if s.Kind == api.Fetch && d.isKnown(s.N) {
		kind = api.Same
	}
	d.say(at, api.Stanza{Kind: kind, Id: s.Id, N: d.Ver()})
}

func (d *deed) here(at session, s api.Stanza) {
	demand(lowestPriority <= s.N && s.N <= highestPriority, api.ErrRange)
	demand(isShow(s.A), api.ErrForm)
	comes := !at.Here
	at.Here, at.Priority = true, s.N
	at.show, at.status = strings.Clone(s.A), strings.Clone(s.Text)
	d.seat(at)
	d.broadcast(at, api.Mail{Kind: api.MailHere})
	if comes {
		d.greet(at)
	}
}

func isShow(text string) bool {
	switch text {
	case "", "away", "chat", "dnd", "xa":
		return true
	}
	return false
}

// greet tells one who comes who waits for an answer, and asks who else is here.
func (d *deed) greet(at session) {
	for _, other := range d.book.Waiting() {
		d.say(at, api.Stanza{Kind: api.Asked, A: other})
	}
	for _, other := range d.seen() {
		d.send(api.Mail{Kind: api.MailProbe, To: other, Target: at.Resource})
	}
}

func (d *deed) gone(at session, status string) {
	demand(at.Here, api.ErrState)
	at.Here, at.Priority = false, 0
	at.show, at.status = "", ""
	d.seat(at)
	d.broadcast(at, api.Mail{Kind: api.MailAway, Status: status})
}

func (d *deed) fetch(at session, s api.Stanza) {
	demand(s.N >= 0, api.ErrRange)
	at.Asking = true
	d.seat(at)
	if d.isKnown(s.N) {
		return
	}
	for _, other := range d.told() {
		item := d.item(other)
		item.Id = s.Id
		d.say(at, item)
	}
}

// isKnown says whether who has that version has the roster as it is; 0 is nobody's.
func (d *deed) isKnown(ver int) bool { return ver != 0 && ver == d.Ver() }

// other prepares who a stanza is about; it gives up, if that is nobody else.
func (d *deed) other(text string) string {
	prepared, e := name.Local(text)
	accept(e)
	demand(prepared != d.name, api.ErrState)
	return prepared
}

func (d *deed) put(other string, s api.Stanza) {
	_, e := d.book.Put(other, s.B, s.List)
	accept(e)
	d.push(other)
}

func (d *deed) drop(other string) {
	was := d.of(other)
	_, e := d.book.Drop(other)
	accept(e)
	d.hide(was)
	if was.Half.Out != api.None {
		d.send(api.Mail{Kind: api.MailLeave, To: other, N: was.Half.N})
	}
	if was.Half.In != api.None {
		d.send(api.Mail{Kind: api.MailDeny, To: other, N: was.Half.M})
	}
	d.push(other)
}

func (d *deed) act(other string, kind int) {
	was := d.of(other)
	mail, n, changed, e := d.book.Act(other, kind)
	accept(e)
	if kind == api.Deny {
		d.hide(was)
	}
	if mail != 0 {
		d.send(api.Mail{Kind: mail, To: other, N: n})
	}
	if mail == api.MailGrant {
		d.tellOne(d.of(other), api.Mail{Kind: api.MailHere})
	}
	if changed {
		d.push(other)
	}
}

// hide lets a contact whose seeing ends be told that all are away, by lists that are asked of them as they were.
func (d *deed) hide(was contact) {
	if was.seesByHalf() {
		d.tellOne(was, api.Mail{Kind: api.MailAway})
	}
}

func (d *deed) noRules(list string) {
	active := d.sessionsThat(func(at session) bool { return at.Active == list })
	demand(list == "" || len(active) == 0, api.ErrState)
	accept(d.lists.Drop(list))
}

func (d *deed) activate(at session, list string) {
	demand(list == "" || d.lists.Has(list), api.ErrNone)
	at.Active = strings.Clone(list)
	d.seat(at)
}
