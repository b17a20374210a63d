package roster

import (
	"fmt"
	"math"
	"math/rand"
	"slices"
	"strings"
	"testing"
	"unsafe"

	"roost/api"
)

// walk does steps by chance to a roster and to the plain one.
type walk struct {
	draw  *rand.Rand
	r     *Roster
	p     plain
	texts [2]string // of the roster and of the plain one: what the last step answered
}

var walkContacts = []string{"ann", "BOB", "cyd", "dan", "ÄNN", "eve", "d n", ""}

func (w *walk) contact() string { return walkContacts[w.draw.Intn(len(walkContacts))] }

func (w *walk) groups() (l []string) {
	for range w.draw.Intn(4) {
		l = append(l, string(rune('a'+w.draw.Intn(3))))
	}
	return l
}

// number is one that the contact's half has, or any low one.
func (w *walk) number(contact string) uint64 {
	entry, _ := w.r.Get(contact)
	switch w.draw.Intn(4) {
	case 0:
		return entry.Half.N
	case 1:
		return entry.Half.M
	}
	return uint64(w.draw.Intn(12))
}

func (w *walk) step() {
	contact := w.contact()
	switch w.draw.Intn(8) {
	case 0:
		text, groups := string(rune('A'+w.draw.Intn(2))), w.groups()
		x, e := w.r.Put(contact, text, groups)
		y, f := w.p.put(contact, text, groups)
		w.texts = [2]string{fmt.Sprint(entryText(x), e), fmt.Sprint(entryText(y), f)}
	case 1:
		x, e := w.r.Drop(contact)
		y, f := w.p.drop(contact)
		w.texts = [2]string{fmt.Sprint(entryText(x), e), fmt.Sprint(entryText(y), f)}
	case 2, 3, 4:
		kind := api.Ask + w.draw.Intn(4)
		mail, n, changed, e := w.r.Act(contact, kind)
		w.texts[0] = fmt.Sprint(mail, n, changed, e)
		mail, n, changed, e = w.p.act(contact, kind)
		w.texts[1] = fmt.Sprint(mail, n, changed, e)
	default:
		mail, n := api.MailAsk+w.draw.Intn(4), w.number(contact)
		x, e := w.r.Hear(contact, mail, n)
		y, f := w.p.hear(contact, mail, n)
		w.texts = [2]string{fmt.Sprint(x, e), fmt.Sprint(y, f)}
	}
}

func walks(t *testing.T, times, steps int, behind func(w *walk, before api.Book)) {
	for i := range times {
		draw := rand.New(rand.NewSource(int64(i)))
		items, asks := draw.Intn(6), draw.Intn(4)
		w := &walk{draw: draw, r: made(t, items, asks), p: plain{api.Book{Items: items, Asks: asks}}}
		for j := range steps {
			before := w.r.Book()
			w.step()
			if w.texts[0] != w.texts[1] {
				t.Fatalf("walk %d, step %d: %s, not %s", i, j, w.texts[0], w.texts[1])
			}
			is(t, w.r, w.p.Book)
			behind(w, before)
		}
	}
}

// Whatever is done: the bounds hold, and what is not an item is a request.
func TestP167Bounds(t *testing.T) {
	full := 0
	walks(t, 150, 200, func(w *walk, before api.Book) {
		b := w.r.Book()
		p := plain{b}
		if p.count(true) > b.Items || p.count(false) > b.Asks {
			t.Fatalf("more than there may be: %s", bookText(b))
		}
		if p.count(true) == b.Items && p.count(false) == b.Asks {
			full++
		}
		for _, x := range b.Entries {
			if !x.Kept && (x.Half.In == api.None || x.Half.Out != api.None || x.Name != "" || len(x.Groups) > 0) {
				t.Fatalf("no item, and no request: %s", entryText(x))
			}
		}
	})
	if full == 0 {
		t.Error("no walk filled the roster")
	}
}

// Behind each step the roster is loaded again, and the walk goes on with that one.
func TestP167LoadOfBook(t *testing.T) {
	walks(t, 100, 200, func(w *walk, before api.Book) {
		b := w.r.Book()
		w.r = opened(t, b)
		is(t, w.r, b)
	})
}

// Every change of what Items tells raises Ver by one; nothing else does, but a Put that changes nothing.
func TestP167Ver(t *testing.T) {
	same := 0
	walks(t, 150, 200, func(w *walk, before api.Book) {
		var was, now []api.Entry
		for _, x := range before.Entries {
			if x.Kept {
				was = append(was, x)
			}
		}
		now = w.r.Items()
		rise := w.r.Ver() - before.Ver
		if entriesText(was) != entriesText(now) && rise != 1 {
			t.Fatalf("Ver rose by %d:\n%s\n%s", rise, entriesText(was), entriesText(now))
		}
		if entriesText(was) == entriesText(now) && rise != 0 {
			// Of all steps only a Put's answer begins with a contact and is one of an item.
			if rise != 1 || !strings.Contains(w.texts[0], "\" true \"") {
				t.Fatalf("Ver rose by %d, and nothing changed: %s", rise, w.texts[0])
			}
			same++
		}
	})
	if same == 0 {
		t.Error("no walk had a Put that changed nothing")
	}
}

// Two rosters whose mails reach each other in order agree, when nothing is on its way; a Drop sends what its entry says, a Deny is sent back.
func TestTwoRostersAgree(t *testing.T) {
	type letter struct {
		mail int
		n    uint64
	}
	names := [2]string{"ann", "bob"}
	rest := 0
	for i := range 300 {
		draw := rand.New(rand.NewSource(int64(i)))
		ends := [2]*Roster{made(t, draw.Intn(2), draw.Intn(2)), made(t, draw.Intn(2), draw.Intn(2))}
		var way [2][]letter // to each
		hear := func(k int) {
			l := way[k][0]
			way[k] = way[k][1:]
			heard, e := ends[k].Hear(names[1-k], l.mail, l.n)
			if e != api.OK {
				t.Fatal(e)
			}
			if heard.Deny {
				way[1-k] = append(way[1-k], letter{api.MailDeny, l.n})
			}
		}
		for range 300 {
			k := draw.Intn(2)
			switch {
			case len(way[k]) > 0 && draw.Intn(2) == 0:
				hear(k)
			case draw.Intn(8) == 0:
				x, e := ends[k].Drop(names[1-k])
				if e == api.OK && x.Half.Out != api.None {
					way[1-k] = append(way[1-k], letter{api.MailLeave, x.Half.N})
				}
				if e == api.OK && x.Half.In != api.None {
					way[1-k] = append(way[1-k], letter{api.MailDeny, x.Half.M})
				}
			default:
				if mail, n, _, _ := ends[k].Act(names[1-k], api.Ask+draw.Intn(4)); mail != 0 {
					way[1-k] = append(way[1-k], letter{mail, n})
				}
			}
		}
		for len(way[0])+len(way[1]) > 0 {
			for k := range 2 {
				if len(way[k]) > 0 {
					hear(k)
				}
			}
		}
		a, _ := ends[0].Get("bob")
		b, _ := ends[1].Get("ann")
		if a.Half.Out != b.Half.In || a.Half.N != b.Half.M || b.Half.Out != a.Half.In || b.Half.N != a.Half.M {
			t.Fatalf("walk %d: %v and %v do not agree", i, a.Half, b.Half)
		}
		if a.Half != (api.Half{}) {
			rest++
		}
	}
	if rest == 0 {
		t.Error("no walk ended with a subscription")
	}
}

// loose is a text whose bytes may be changed behind a call's back.
func loose(room []byte) string { return unsafe.String(&room[0], len(room)) }

func TestR2NothingIsKept(t *testing.T) {
	contact, text, first, second := []byte("bob"), []byte("B"), []byte("y"), []byte("x")
	groups := []string{loose(first), loose(second), "behind"}
	r := made(t, 2, 2)
	told, e := r.Put(loose(contact), loose(text), groups[:2])
	if e != api.OK || groups[0] != "y" || groups[1] != "x" || groups[2] != "behind" {
		t.Fatal("Put changed what it was given:", e, groups)
	}
	copy(contact, "dan")
	text[0], first[0], second[0] = 'D', 'p', 'q'
	groups[0], groups[1], groups[2] = "r", "s", "t"
	want := item("bob", "B", api.Half{}, "x", "y")
	gets(t, r, "bob", want, true)
	if entryText(told) != entryText(want) {
		t.Error("the answer shares memory with an argument:", entryText(told))
	}
	copy(contact, "cyd")
	hears(t, r, loose(contact), api.MailAsk, 5, api.Heard{Tell: api.Asked}, api.OK)
	copy(contact, "eve")
	gets(t, r, "cyd", request("cyd", 5), true)
	acts(t, r, loose(contact), api.Ask, api.MailAsk, 1, true, api.OK)
	copy(contact, "fay")
	gets(t, r, "eve", item("eve", "", api.Half{Out: api.Open, N: 1}), true)
}

func TestR2LoadKeepsNothing(t *testing.T) {
	contact, text, group := []byte("bob"), []byte("B"), []byte("x")
	groups := []string{loose(group), "y", "behind"}
	entries := []api.Entry{item(loose(contact), loose(text), api.Half{}, groups[:2]...), request("cyd", 1), item("behind", "", api.Half{})}
	b := api.Book{Items: 1, Asks: 1, Entries: entries[:2]}
	r := opened(t, b)
	want := api.Book{Items: 1, Asks: 1, Entries: []api.Entry{item("bob", "B", api.Half{}, "x", "y"), request("cyd", 1)}}
	if bookText(b) != bookText(want) || groups[2] != "behind" || entries[2].Contact != "behind" {
		t.Fatal("Load changed what it was given")
	}
	copy(contact, "dan")
	text[0], group[0] = 'D', 'p'
	entries[0].Groups[1], entries[1].Half.M = "z", 9
	is(t, r, want)
}

// spoil changes all of a list, and the room behind it.
func spoil(l []string) {
	l = l[:cap(l)]
	for i := range l {
		l[i] = "spoilt"
	}
}

func spoilEntries(l []api.Entry) {
	l = l[:cap(l)]
	for i := range l {
		spoil(l[i].Groups)
		l[i] = api.Entry{Contact: "spoilt", Groups: l[i].Groups}
	}
}

func TestR2ToldIsNew(t *testing.T) {
	whole := api.Half{Out: api.Whole, N: 1, In: api.Whole, M: 1}
	b := api.Book{Items: 9, Asks: 9, Next: 2, Entries: []api.Entry{
		item("ann", "A", whole, "x", "y", "z"), item("bob", "B", whole, "x"), item("cyd", "", whole),
		request("dan", 1), request("eve", 2), request("fay", 3),
	}}
	r := opened(t, b)
	var said []string
	tellAll := func() (lists [][]string, entries [][]api.Entry) {
		one, _ := r.Get("ann")
		return [][]string{r.Waiting(), r.Seeing(), r.Seen(), one.Groups}, [][]api.Entry{r.Items(), r.Book().Entries}
	}
	lists, entries := tellAll()
	lists2, entries2 := tellAll()
	for i := range lists {
		spoil(lists[i])
	}
	for i := range entries {
		spoilEntries(entries[i])
	}
	for _, l := range lists2 {
		said = append(said, l...)
	}
	for _, l := range entries2 {
		said = append(said, entriesText(l))
	}
	if strings.Contains(strings.Join(said, " "), "spoilt") {
		t.Error("two answers share memory:", said)
	}
	is(t, r, b)

	put, _ := r.Put("ann", "A", []string{"z", "x", "y", "y"})
	spoil(put.Groups)
	b.Ver++
	is(t, r, b)

	// No two lists of one answer share any, the room behind them included.
	items := r.Items()
	spoil(items[1].Groups)
	if got := entryText(items[0]); got != entryText(b.Entries[0]) {
		t.Error("two lists of one answer share memory:", got)
	}
	dropped, _ := r.Drop("ann")
	before := r.Book()
	spoil(dropped.Groups)
	is(t, r, before)
}

// Texts are told as copies, too: no two answers share one, and none is what a roster keeps.
func TestR2ToldTexts(t *testing.T) {
	whole := api.Half{Out: api.Whole, N: 1, In: api.Whole, M: 1}
	r := opened(t, api.Book{Items: 1, Asks: 1, Next: 1, Entries: []api.Entry{item("ann", "Ann", whole, "xyz"), request("bob", 1)}})
	var told []string
	tell := func(x api.Entry) { told = append(append(told, x.Contact, x.Name), x.Groups...) }
	for range 2 {
		one, _ := r.Get("ann")
		put, _ := r.Put("ann", "Ann", []string{"xyz"})
		tell(one)
		tell(put)
		tell(r.Items()[0])
		tell(r.Book().Entries[0])
		told = append(told, r.Seeing()...)
		told = append(told, r.Seen()...)
		told = append(told, r.Waiting()...)
	}
	dropped, _ := r.Drop("ann")
	tell(dropped)
	seen := map[*byte]int{}
	for i, text := range told {
		at := unsafe.StringData(text)
		if other, shared := seen[at]; shared {
			t.Errorf("answers %d and %d share %q", other, i, text)
		}
		seen[at] = i
	}
}

func TestR2NilAndEmpty(t *testing.T) {
	a, b := made(t, 1, 1), made(t, 1, 1)
	x, _ := a.Put("ann", "", nil)
	y, _ := b.Put("ann", "", []string{})
	if entryText(x) != entryText(y) || bookText(a.Book()) != bookText(b.Book()) {
		t.Error("nil and an empty list are two:", entryText(x), entryText(y))
	}
	b = opened(t, api.Book{Items: 1, Asks: 1, Ver: 1, Entries: []api.Entry{{Contact: "ann", Kept: true, Groups: []string{}}}})
	is(t, b, a.Book())
	is(t, opened(t, api.Book{Entries: []api.Entry{}}), api.Book{})
}

// Nothing of what is gone is left in the map, and none of its room is counted.
func TestNothingOfTheGoneIsKept(t *testing.T) {
	r := made(t, 1, 1)
	for i := range 1000 {
		contact := fmt.Sprint("c", i)
		puts(t, r, contact, "", nil, item(contact, "", api.Half{}), api.OK)
		drops(t, r, contact, item(contact, "", api.Half{}), api.OK)
		hears(t, r, contact, api.MailAsk, 5, api.Heard{Tell: api.Asked}, api.OK)
		acts(t, r, contact, api.Deny, api.MailDeny, 5, false, api.OK)
		hears(t, r, contact, api.MailGrant, 5, api.Heard{}, api.OK)
		acts(t, r, contact, api.Leave, 0, 0, false, api.OK)
	}
	if len(r.entries) != 0 {
		t.Errorf("%d entries are left", len(r.entries))
	}
	is(t, r, api.Book{Items: 1, Asks: 1, Ver: 2000})
}

func TestR4Apart(t *testing.T) {
	a, b := made(t, 1, 1), made(t, 1, 1)
	puts(t, a, "ann", "A", []string{"x"}, item("ann", "A", api.Half{}, "x"), api.OK)
	is(t, b, api.Book{Items: 1, Asks: 1})
	book := a.Book()
	one, two := opened(t, book), opened(t, book)
	drops(t, one, "ann", item("ann", "A", api.Half{}, "x"), api.OK)
	is(t, two, book)
	is(t, a, book)
}

// The same calls are answered the same each time, whatever the map's order.
func TestR4SameAgain(t *testing.T) {
	run := func() (said []string) {
		draw := rand.New(rand.NewSource(16))
		r := made(t, 40, 20)
		for range 2000 {
			contact := fmt.Sprint("c", draw.Intn(80))
			mail, n, changed, e := r.Act(contact, api.Ask+draw.Intn(4))
			heard, f := r.Hear(contact, api.MailAsk+draw.Intn(4), uint64(1+draw.Intn(20)))
			said = append(said, fmt.Sprint(mail, n, changed, e, heard, f, r.Waiting(), r.Seeing(), r.Seen()))
		}
		return append(said, bookText(r.Book()), entriesText(r.Items()))
	}
	want := run()
	for range 3 {
		if !slices.Equal(run(), want) {
			t.Fatal("answered otherwise")
		}
	}
}

func TestR1NothingPanics(t *testing.T) {
	texts := []string{"", "a", "A", "a b", "\xff", "\x00", "ß", long(64), long(65), strings.Repeat("\xff", 70000)}
	numbers := []int{math.MinInt, -1, 0, 1, 2, 3, 4, 5, api.Ask, api.Grant, api.Leave, api.Deny, math.MaxInt}
	r := made(t, 1, 1)
	for _, contact := range texts {
		r.Get(contact)
		r.Drop(contact)
		for _, text := range texts {
			r.Put(contact, text, texts)
			r.Put(contact, text, []string{text})
		}
		for _, n := range numbers {
			r.Act(contact, n)
			r.Hear(contact, n, uint64(n))
		}
		for _, x := range numbers {
			for _, y := range numbers {
				h := api.Half{Out: x, N: uint64(y), In: y, M: uint64(x)}
				Load(api.Book{Items: 1, Asks: 1, Ver: uint64(x), Next: uint64(y), Entries: []api.Entry{item(contact, contact, h, contact)}})
				Load(api.Book{Items: x, Asks: y, Entries: []api.Entry{{Contact: contact, Half: h}}})
			}
		}
	}
}
