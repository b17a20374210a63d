package person

import (
	"slices"

	"roost/api"
	"roost/subs"
)

// subShared is what is said of one who is shared, whatever their half is.
const subShared = "both"

// contact is another user: their entry, empty but for who it is, if there is none; and the groups that they share, rising.
type contact struct {
	api.Entry
	shares []string
}

// of is what this user has of another one.
func (p *Person) of(other string) contact {
	entry, there := p.book.Get(other)
	if !there {
		entry.Contact = other
	}
	shares := p.groupsThat(func(members []string) bool {
		_, in := slices.BinarySearch(members, other)
		return in
	})
	return contact{entry, shares}
}

// withShared adds all who are shared to others, who rise then, none twice.
func (p *Person) withShared(others []string) []string {
	for _, members := range p.groups {
		others = append(others, members...)
	}
	return rising(others)
}

// seeing are all that see this user, rising.
func (p *Person) seeing() []string { return p.withShared(p.book.Seeing()) }

// seen are all that this user sees, rising.
func (p *Person) seen() []string { return p.withShared(p.book.Seen()) }

// told are all of the roster that is told, rising.
func (p *Person) told() []string {
	var others []string
	for _, item := range p.book.Items() {
		others = append(others, item.Contact)
	}
	return p.withShared(others)
}

func (c contact) isShared() bool { return len(c.shares) > 0 }

func (c contact) isTold() bool { return c.Kept || c.isShared() }

// sees says whether they see this user.
func (c contact) sees() bool { return c.Half.In == api.Whole || c.isShared() }

// seesByHalf says whether they would not see this user, were it not for their half.
func (c contact) seesByHalf() bool { return c.sees() && !c.isShared() }

// isSeen says whether this user sees them.
func (c contact) isSeen() bool { return c.Half.Out == api.Whole || c.isShared() }

func (c contact) sub() string {
	if c.isShared() {
		return subShared
	}
	return subs.Sub(c.Half)
}

// groups are those of the roster and those that are shared, rising, none twice.
func (c contact) groups() []string { return rising(c.Groups, c.shares) }

// rising are the texts of all lists in their order, none twice.
func rising(lists ...[]string) []string {
	all := slices.Concat(lists...)
	slices.Sort(all)
	return slices.Compact(all)
}
