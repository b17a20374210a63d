package image

import (
	"bytes"
	"fmt"
	"math"
	"math/rand"
	"slices"
	"strings"
	"testing"
	"unsafe"

	"roost/api"
)

// roomy is a list with room to spare, in which nothing may be written.
func roomy[T any](l []T, spare T) (part, whole []T) {
	whole = append(slices.Clone(l), spare, spare, spare)
	return whole[:len(l)], whole
}

// spoil writes over all of a list, its spare room too.
func spoil[T any](l []T, with T) {
	l = l[:cap(l)]
	for i := range l {
		l[i] = with
	}
}

// spoilImage spoils all lists of an image.
func spoilImage(m api.Image) {
	entries := m.Book.Entries[:cap(m.Book.Entries)]
	for i := range entries {
		spoil(entries[i].Groups, "spoilt")
		entries[i] = api.Entry{Contact: "spoilt"}
	}
	for _, lists := range [][][]string{m.Shelf.Texts[:cap(m.Shelf.Texts)], m.Members[:cap(m.Members)]} {
		for i := range lists {
			spoil(lists[i], "spoilt")
			lists[i] = nil
		}
	}
	spoil(m.Shelf.Names, "spoilt")
	spoil(m.Groups, "spoilt")
}

// texts are all texts of an image.
func texts(m api.Image) (l []string) {
	l = append(l, m.Name, m.Shelf.Default)
	for _, x := range m.Book.Entries {
		l = append(append(l, x.Contact, x.Name), x.Groups...)
	}
	for _, x := range slices.Concat(m.Shelf.Texts, m.Members, [][]string{m.Shelf.Names, m.Groups}) {
		l = append(l, x...)
	}
	return l
}

// lists are all lists of texts that an image has, so that each may be changed.
func lists(m api.Image) (l [][]string) {
	l = append(l, m.Shelf.Names, m.Groups)
	for _, x := range m.Book.Entries {
		l = append(l, x.Groups)
	}
	return append(append(l, m.Shelf.Texts...), m.Members...)
}

// sharedTexts asks that no two texts stand in the same place. A text of one byte may: the language has these ready.
func sharedTexts(t *testing.T, what string, l []string) {
	t.Helper()
	places := map[*byte]string{}
	for _, s := range l {
		if len(s) < 2 {
			continue
		}
		place := unsafe.StringData(s)
		if other, there := places[place]; there {
			t.Errorf("%s: %q and %q are in one place", what, other, s)
		}
		places[place] = s
	}
}

// writesAnew asks that what Write answers shares memory with nothing.
func (p pair[T]) writesAnew(t *testing.T, x T) {
	t.Helper()
	before := p.text(x)
	first, _ := p.write(x)
	second, _ := p.write(x)
	want := p.form(x)
	spoil(first, '?')
	if !bytes.Equal(second, want) || p.text(x) != before {
		t.Errorf("%s: two answers share memory, or an answer and %s", p.what, before)
	}
}

// readsAnew asks that Read changes nothing of what it is given, and keeps none of it.
func (p pair[T]) readsAnew(t *testing.T, x T) {
	t.Helper()
	form := p.form(x)
	for _, b := range [][]byte{form, form[:len(form)-1], append(slices.Clone(form), 0)} {
		part, whole := roomy(b, 0xa5)
		before := slices.Clone(whole)
		got, e := p.read(part)
		if !bytes.Equal(whole, before) {
			t.Errorf("%s: Read(%x) changed what it was given: %x", p.what, b, whole)
		}
		spoil(whole, '?')
		if e == api.OK && p.text(got) != p.text(x) {
			t.Errorf("%s: Read(%x) shares memory with it: %s", p.what, b, p.text(got))
		}
	}
}

func TestR2Forms(t *testing.T) {
	for _, m := range []api.Image{bare(), full()} {
		images.writesAnew(t, m)
		images.readsAnew(t, m)
	}
	for _, m := range []api.Mail{ask(), share(), share("ann", "bob")} {
		mails.writesAnew(t, m)
		mails.readsAnew(t, m)
	}
	for _, l := range [][]string{nil, {"ann"}, {"ann", "bob"}} {
		names.writesAnew(t, l)
		names.readsAnew(t, l)
	}
}

// What is handed in has room to spare: neither that nor the rest is changed.
func TestR2WriteChangesNothing(t *testing.T) {
	m := full()
	var rooms [][]string
	room := func(l []string) []string {
		part, whole := roomy(l, "spare")
		rooms = append(rooms, whole)
		return part
	}
	for i, x := range m.Book.Entries {
		m.Book.Entries[i].Groups = room(x.Groups)
	}
	for _, lists := range [][][]string{m.Shelf.Texts, m.Members} {
		for i, l := range lists {
			lists[i] = room(l)
		}
	}
	m.Shelf.Names, m.Groups = room(m.Shelf.Names), room(m.Groups)
	entries, allEntries := roomy(m.Book.Entries, api.Entry{Contact: "spare"})
	m.Book.Entries = entries
	before := fmt.Sprint(imageText(m), rooms, allEntries)
	images.writes(t, m)
	if after := fmt.Sprint(imageText(m), rooms, allEntries); after != before {
		t.Errorf("Write changed %s to %s", before, after)
	}
	l := room([]string{"ann", "bob"})
	before = fmt.Sprint(rooms)
	names.writes(t, l)
	mails.writes(t, share(l...))
	names.writes(t, l[:1])
	mails.writes(t, share(l[:1]...))
	if after := fmt.Sprint(rooms); after != before {
		t.Errorf("names: %s became %s", before, after)
	}
}

func TestR2ReadTwice(t *testing.T) {
	b := images.form(full())
	first, _ := Read(b)
	second, _ := Read(b)
	sharedTexts(t, "two images", append(texts(first), texts(second)...))
	spoilImage(first)
	if imageText(second) != imageText(full()) {
		t.Error("two images share a list:", imageText(second))
	}
	b = mails.form(share("ann", "bob"))
	one, _ := ReadMail(b)
	two, _ := ReadMail(b)
	sharedTexts(t, "two mails", append(append(one.List, two.List...), one.To, two.To, one.Resource, two.Resource))
	spoil(one.List, "spoilt")
	if mailText(two) != mailText(share("ann", "bob")) {
		t.Error("two mails share a list:", mailText(two))
	}
	b = names.form([]string{"ann", "bob"})
	l, _ := ReadNames(b)
	k, _ := ReadNames(b)
	sharedTexts(t, "two lists", append(slices.Clone(l), k...))
	spoil(l, "spoilt")
	if listText(k) != `["ann" "bob"]` {
		t.Error("two lists of names share memory:", k)
	}
}

// No two lists of one image share any memory, their spare room included.
func TestR2ListsOfOneImage(t *testing.T) {
	b := images.form(full())
	m, _ := Read(b)
	for i := range lists(m) {
		m, _ := Read(b)
		all := lists(m)
		spoil(all[i], "spoilt")
		for k, l := range all {
			if k != i && slices.Contains(l[:cap(l)], "spoilt") {
				t.Errorf("lists %d and %d share memory", i, k)
			}
		}
	}
}

func TestR2NilAndEmptyAreOne(t *testing.T) {
	empty := []string{}
	m := bare()
	m.Book.Entries, m.Shelf.Names, m.Shelf.Texts, m.Groups, m.Members = []api.Entry{}, empty, [][]string{}, empty, [][]string{}
	n := bare()
	n.Book.Items, n.Shelf.Lists = 1, 1
	n.Book.Entries, n.Shelf.Names, n.Shelf.Texts = []api.Entry{item("bob", "", api.Half{})}, []string{"l"}, [][]string{empty}
	n.Book.Entries[0].Groups = empty
	for _, m := range []api.Image{m, n} {
		images.writes(t, m)
	}
	a := ask()
	a.List = empty
	mails.writes(t, a)
	mails.writes(t, share(empty...))
	names.writes(t, empty)
	none, e := Read(nil)
	again, f := Read([]byte{})
	if e != api.ErrForm || f != api.ErrForm || imageText(none) != imageText(again) {
		t.Error(e, f)
	}
	for _, b := range [][]byte{nil, {}} {
		mails.refuses(t, b)
		names.refuses(t, b)
	}
}

// An answer hangs on the argument alone, not on what was written and read ahead of it.
func TestR4SameAgain(t *testing.T) {
	l := lot{rand.New(rand.NewSource(4))}
	for range 300 {
		m := l.image()
		b, e := Write(m)
		Write(l.image())
		Read(b[:l.Intn(len(b))])
		ReadMail(b)
		ReadNames(b)
		WriteNames(m.Groups)
		again, f := Write(m)
		if e != api.OK || f != api.OK || !bytes.Equal(b, again) {
			t.Fatalf("%s: % x, %v, then % x, %v", imageText(m), b, e, again, f)
		}
	}
}

func TestR1NothingPanics(t *testing.T) {
	draw := rand.New(rand.NewSource(1))
	odd := []string{"", "a", "ann", "\xff", long(1000), strings.Repeat("\x80", 300)}
	row := func() (l []string) {
		for range draw.Intn(4) {
			l = append(l, odd[draw.Intn(len(odd))])
		}
		return l
	}
	rows := func() (l [][]string) {
		for range draw.Intn(4) {
			l = append(l, row())
		}
		return l
	}
	ints := []int{0, 1, 2, 5, -1, math.MaxInt, math.MinInt}
	n := func() int { return ints[draw.Intn(len(ints))] }
	text := func() string { return odd[draw.Intn(len(odd))] }
	for range 5000 {
		m := api.Image{Name: text(), Sessions: n(), Shifts: uint64(n()), Groups: row(), Members: rows()}
		m.Book = api.Book{Items: n(), Asks: n(), Ver: uint64(n()), Next: uint64(n())}
		for range draw.Intn(3) {
			h := api.Half{Out: n(), N: uint64(n()), In: n(), M: uint64(n())}
			m.Book.Entries = append(m.Book.Entries, api.Entry{Contact: text(), Kept: n() > 0, Name: text(), Groups: row(), Half: h})
		}
		m.Shelf = api.Shelf{Lists: n(), Rules: n(), Default: text(), Names: row(), Texts: rows()}
		images.writes(t, m)
		mails.writes(t, api.Mail{Kind: n(), From: text(), To: text(), N: uint64(n()), Resource: text(), Priority: n(), Show: text(), List: row()})
		names.writes(t, row())
		Lasts(n())
	}
}
