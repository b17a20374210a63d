package privacy

import (
	"fmt"
	"math"
	"math/rand"
	"slices"
	"strings"
	"testing"
	"unsafe"

	"roost/api"
)

// walk does steps by chance to lists and to the plain ones.
type walk struct {
	draw *rand.Rand
	l    *Lists
	p    plain
}

func (w *walk) one(texts ...string) string { return texts[w.draw.Intn(len(texts))] }

func (w *walk) name() string { return w.one("a", "b", "c", "d", "E", "ä", "") }

func (w *walk) text() string {
	whom := w.one("all", "jid bob", "jid CYD", "jid ä", "group x", "group x y", "group Y", "sub none", "sub to", "sub from", "sub both")
	if w.draw.Intn(20) == 0 {
		whom = w.one("all x", "jid a b", "jid "+long(65), "group ", "sub x", "")
	}
	return w.one("allow", "deny") + " " + w.one("in", "out", "both") + " " + whom
}

func (w *walk) texts() (l []string) {
	for range w.draw.Intn(6) {
		l = append(l, w.text())
	}
	return l
}

func (w *walk) presence() presence {
	p := presence{w.one("a", "b", "c", "d", "E", "ä", "", "gone"), w.draw.Intn(2) == 0, w.one("bob", "cyd", "ä", "eve"), nil, w.one("none", "to", "from", "both") + w.one("", ",ask")}
	for range w.draw.Intn(3) {
		p.groups = append(p.groups, w.one("x", "x y", "Y", "z"))
	}
	return p
}

func (w *walk) step(t *testing.T) {
	t.Helper()
	name := w.name()
	switch w.draw.Intn(5) {
	case 0, 1:
		texts := w.texts()
		sets(t, w.l, name, w.p.set(name, texts), texts...)
	case 2:
		drops(t, w.l, name, w.p.drop(name))
	case 3:
		defaults(t, w.l, name, w.p.choose(name))
	}
	for range 5 {
		p := w.presence()
		allows(t, w.l, p, w.p.allows(p))
	}
}

func walks(t *testing.T, times, steps int, behind func(w *walk)) {
	for i := range times {
		draw := rand.New(rand.NewSource(int64(i)))
		lists, rules := draw.Intn(6), draw.Intn(6)
		w := &walk{draw: draw, l: made(t, lists, rules), p: plain{api.Shelf{Lists: lists, Rules: rules}}}
		for range steps {
			w.step(t)
			is(t, w.l, w.p.Shelf)
			behind(w)
		}
	}
}

// Whatever is done: the bounds hold, and the default is there.
func TestWalks(t *testing.T) {
	full, usual := 0, 0
	walks(t, 150, 150, func(w *walk) {
		s := w.l.Shelf()
		if len(s.Names) > s.Lists {
			t.Fatalf("more lists than there may be: %s", shelfText(s))
		}
		for _, texts := range s.Texts {
			if len(texts) > s.Rules {
				t.Fatalf("more rules than there may be: %s", shelfText(s))
			}
		}
		if s.Default != "" && !w.l.Has(s.Default) {
			t.Fatalf("the default is gone: %s", shelfText(s))
		}
		if len(s.Names) == s.Lists {
			full++
		}
		if s.Default != "" {
			usual++
		}
	})
	if full == 0 || usual == 0 {
		t.Error("no walk filled the lists, or none had a default")
	}
}

// Behind each step the lists are loaded again, and the walk goes on with those.
func TestP175LoadOfShelf(t *testing.T) {
	walks(t, 100, 150, func(w *walk) {
		s := w.l.Shelf()
		w.l = opened(t, s)
		is(t, w.l, s)
	})
}

// A list answers as one does that has behind an all only what goes the other way.
func TestP175BehindAll(t *testing.T) {
	draw := rand.New(rand.NewSource(17))
	w := &walk{draw: draw}
	for range 3000 {
		var list []string
		for len(list) < 6 {
			if text := w.text(); !strings.Contains(text, "all") || draw.Intn(4) == 0 {
				if _, e := Parse(text); e == api.OK {
					list = append(list, text)
				}
			}
		}
		at := draw.Intn(len(list))
		way := w.one("in", "out", "both")
		list[at] = w.one("allow", "deny") + " " + way + " all"
		cut := slices.Clone(list[:at+1])
		for _, text := range list[at+1:] {
			if r, _ := Parse(text); way == "in" && r.Out || way == "out" && r.In {
				cut = append(cut, text)
			}
		}
		a, b := made(t, 1, 6), made(t, 1, 6)
		sets(t, a, "a", api.OK, list...)
		sets(t, b, "a", api.OK, cut...)
		for range 20 {
			p := w.presence()
			p.name = "a"
			allows(t, a, p, b.Allows("a", p.in, p.contact, p.groups, p.sub))
		}
	}
}

// It counts for nothing, but it is kept, and told, and takes room.
func TestP175BehindAllIsKept(t *testing.T) {
	l := made(t, 1, 2)
	sets(t, l, "a", api.OK, "deny both all", "allow both all")
	is(t, l, api.Shelf{Lists: 1, Rules: 2, Names: []string{"a"}, Texts: [][]string{{"deny both all", "allow both all"}}})
	sets(t, l, "a", api.ErrFull, "deny both all", "allow both all", "allow both all")
}

func TestP175NoRules(t *testing.T) {
	l := made(t, 2, 1)
	sets(t, l, "a", api.OK)
	sets(t, l, "b", api.OK, "deny both all")
	for _, usual := range []string{"b", "", "a"} {
		defaults(t, l, usual, api.OK)
		everyPresence(func(p presence) { allows(t, l, p, true) })
	}
}

// loose is a text whose bytes may be changed behind a call's back.
func loose(room []byte) string { return unsafe.String(&room[0], len(room)) }

func TestR2NothingIsKept(t *testing.T) {
	for _, text := range []string{"deny in all", "deny in jid bob", "deny in group x y", "deny in sub none"} {
		room := []byte(text)
		r, e := Parse(loose(room))
		does(t, text, e, api.OK)
		want, _ := plainParse(text)
		for i := range room {
			room[i] = '?'
		}
		if r != want {
			t.Errorf("Parse(%q) shares memory with its text: %v", text, r)
		}
	}
	name, usual, group, jid := []byte("a"), []byte("a"), []byte("deny in group x"), []byte("deny in jid bob")
	texts := []string{loose(group), loose(jid), "behind"}
	l := made(t, 2, 2)
	sets(t, l, loose(name), api.OK, texts[:2]...)
	defaults(t, l, loose(usual), api.OK)
	if texts[0] != "deny in group x" || texts[1] != "deny in jid bob" || texts[2] != "behind" {
		t.Fatal("Set changed what it was given:", texts)
	}
	copy(group, "deny in group z")
	copy(jid, "deny in jid zed")
	name[0], usual[0] = 'z', 'z'
	texts[0], texts[1] = "allow in all", "allow in all"
	is(t, l, api.Shelf{Lists: 2, Rules: 2, Default: "a", Names: []string{"a"}, Texts: [][]string{{"deny in group x", "deny in jid bob"}}})
	drops(t, l, "a", api.ErrState)
	allows(t, l, presence{in: true, contact: "bob"}, false)
	allows(t, l, presence{in: true, groups: []string{"x"}}, false)
}

// A list that is laid again is not known by the name that came last, either.
func TestR2SetAgainKeepsNothing(t *testing.T) {
	l := made(t, 1, 1)
	sets(t, l, "a", api.OK)
	name := []byte("a")
	sets(t, l, loose(name), api.OK, "deny in all")
	name[0] = 'z'
	is(t, l, api.Shelf{Lists: 1, Rules: 1, Names: []string{"a"}, Texts: [][]string{{"deny in all"}}})
}

func TestR2LoadKeepsNothing(t *testing.T) {
	name, usual, text := []byte("a"), []byte("a"), []byte("deny in group x")
	texts := []string{loose(text), "behind"}
	lists := [][]string{texts[:1], nil, {"behind"}}
	names := []string{loose(name), "b", "behind"}
	s := api.Shelf{Lists: 2, Rules: 2, Default: loose(usual), Names: names[:2], Texts: lists[:2]}
	want := api.Shelf{Lists: 2, Rules: 2, Default: "a", Names: []string{"a", "b"}, Texts: [][]string{{"deny in group x"}, nil}}
	l := opened(t, s)
	if shelfText(s) != shelfText(want) || texts[1] != "behind" || names[2] != "behind" || lists[2][0] != "behind" {
		t.Fatal("Load changed what it was given")
	}
	copy(text, "deny in group z")
	name[0], usual[0] = 'z', 'z'
	texts[0], names[1], lists[1] = "allow in all", "y", []string{"deny in all"}
	is(t, l, want)
}

// Allows keeps nothing, and changes none of the groups.
func TestR2Allows(t *testing.T) {
	l := made(t, 1, 2)
	sets(t, l, "a", api.OK, "deny in group b", "deny in group c")
	groups := []string{"c", "b", "a", "b", "behind"}
	allows(t, l, presence{"a", true, "bob", groups[:4], "none"}, false)
	if !slices.Equal(groups, []string{"c", "b", "a", "b", "behind"}) {
		t.Error("Allows changed what it was given:", groups)
	}
	allows(t, l, presence{"a", true, "bob", nil, "none"}, true)
}

// spoil changes all of a list, and the room behind it.
func spoil(l []string) {
	l = l[:cap(l)]
	for i := range l {
		l[i] = "spoilt"
	}
}

func TestR2ToldIsNew(t *testing.T) {
	s := api.Shelf{Lists: 9, Rules: 9, Default: "a", Names: []string{"a", "b", "c"}, Texts: [][]string{
		{"deny in jid bob", "allow in all", "deny in all"}, {"deny in group x"}, {"allow both sub to", "deny in all", "deny in all"},
	}}
	l := opened(t, s)
	one, two := l.Shelf(), l.Shelf()
	for i := range one.Texts {
		before := copyOf(one)
		spoil(one.Texts[i])
		for j := i + 1; j < len(one.Texts); j++ {
			if !slices.Equal(one.Texts[j], before.Texts[j]) {
				t.Error("two lists of one answer share memory:", one.Texts)
			}
		}
	}
	spoil(one.Names)
	room := one.Texts[:cap(one.Texts)]
	for i := range room {
		room[i] = []string{"spoilt"}
	}
	if shelfText(two) != shelfText(s) {
		t.Error("two answers share memory:", shelfText(two))
	}
	is(t, l, s)
}

// Texts are told as copies, too: no two answers share one, and none is what the lists keep.
func TestR2ToldTexts(t *testing.T) {
	l := opened(t, api.Shelf{Lists: 2, Rules: 4, Default: "a", Names: []string{"a", "b"}, Texts: [][]string{
		{"deny in jid bob", "deny in group x", "deny in sub to", "deny in all"}, {"deny in all"},
	}})
	var told []string
	for range 2 {
		s := l.Shelf()
		told = append(append(told, s.Default), s.Names...)
		for _, texts := range s.Texts {
			told = append(told, texts...)
			for _, text := range texts {
				r, _ := Parse(text)
				again, _ := Text(r)
				told = append(told, r.By, again)
				if r.Value != "" {
					told = append(told, r.Value)
				}
			}
		}
	}
	seen := map[*byte]int{}
	for i, text := range told {
		at := unsafe.StringData(text)
		if other, shared := seen[at]; shared {
			t.Errorf("answers %d and %d share %q", other, i, text)
		}
		seen[at] = i
	}
}

func TestR2NilAndEmpty(t *testing.T) {
	a, b := made(t, 1, 1), made(t, 1, 1)
	does(t, "Set", a.Set("a", nil), api.OK)
	does(t, "Set", b.Set("a", []string{}), api.OK)
	if shelfText(a.Shelf()) != shelfText(b.Shelf()) {
		t.Error("nil and an empty list are two:", shelfText(b.Shelf()))
	}
	is(t, opened(t, api.Shelf{Lists: 1, Names: []string{"a"}, Texts: [][]string{{}}}), api.Shelf{Lists: 1, Names: []string{"a"}, Texts: [][]string{nil}})
	is(t, opened(t, api.Shelf{Names: []string{}, Texts: [][]string{}}), api.Shelf{})
	sets(t, a, "a", api.OK, "deny in group x")
	allows(t, a, presence{name: "a", in: true, groups: nil}, true)
	allows(t, a, presence{name: "a", in: true, groups: []string{}}, true)
}

// Nothing of what is gone is left in the map.
func TestNothingOfTheGoneIsKept(t *testing.T) {
	l := made(t, 1, 1)
	for i := range 1000 {
		name := fmt.Sprint("n", i)
		sets(t, l, name, api.OK, "deny in all")
		drops(t, l, name, api.OK)
		sets(t, l, name, api.ErrForm, "x")
		defaults(t, l, name, api.ErrNone)
	}
	if len(l.named) != 0 {
		t.Errorf("%d lists are left", len(l.named))
	}
	is(t, l, api.Shelf{Lists: 1, Rules: 1})
}

func TestR4Apart(t *testing.T) {
	a, b := made(t, 1, 1), made(t, 1, 1)
	sets(t, a, "a", api.OK, "deny in all")
	defaults(t, a, "a", api.OK)
	is(t, b, api.Shelf{Lists: 1, Rules: 1})
	s := a.Shelf()
	one, two := opened(t, s), opened(t, s)
	sets(t, one, "a", api.OK, "allow in all")
	defaults(t, one, "", api.OK)
	drops(t, one, "a", api.OK)
	is(t, two, s)
	is(t, a, s)
	allows(t, two, presence{in: true}, false)
}

// The same calls are answered the same each time, whatever the map's order.
func TestR4SameAgain(t *testing.T) {
	run := func() (said []string) {
		w := &walk{draw: rand.New(rand.NewSource(17)), l: made(t, 40, 5)}
		for i := range 1000 {
			name := fmt.Sprint("n", w.draw.Intn(80))
			said = append(said, fmt.Sprint(w.l.Set(name, w.texts()), w.l.Drop(fmt.Sprint("n", w.draw.Intn(80))), w.l.Default(name)))
			if i%100 == 0 {
				said = append(said, shelfText(w.l.Shelf()))
			}
		}
		return said
	}
	want := run()
	for range 3 {
		if !slices.Equal(run(), want) {
			t.Fatal("answered otherwise")
		}
	}
}

func TestR1NothingPanics(t *testing.T) {
	texts := []string{"", " ", "a", "a b", "\xff", "\x00", long(64), long(65), "deny in all", "deny in jid ", "deny in group \xff", strings.Repeat("\xff", 70000), strings.Repeat(" ", 70000)}
	numbers := []int{math.MinInt, -1, 0, 1, 1000, 1001, math.MaxInt}
	l := made(t, 2, 2)
	for _, a := range texts {
		Parse(a)
		l.Has(a)
		l.Set(a, texts)
		l.Set("a", []string{a})
		for _, b := range texts {
			Text(ruleOf(true, true, false, a, b))
			l.Set(a, []string{b})
			l.Allows(a, true, b, texts, b)
			l.Allows("a", false, a, []string{b}, a)
			for _, x := range numbers {
				Load(api.Shelf{Lists: x, Rules: 1, Default: a, Names: []string{b}, Texts: [][]string{{a, b}, {a}}})
				Load(api.Shelf{Lists: 1, Rules: x, Default: a, Names: []string{a}, Texts: [][]string{{a, b}}})
				Load(api.Shelf{Lists: x, Rules: x, Names: []string{a, b}})
			}
		}
		l.Default(a)
		l.Drop(a)
	}
}
