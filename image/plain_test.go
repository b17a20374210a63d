package image

import (
	"bytes"
	"encoding/binary"
	"fmt"
	"math"
	"reflect"
	"slices"
	"strings"
	"testing"
	"unicode/utf8"

	"roost/api"
	"roost/name"
	"roost/person"
)

// The chapter's words, written by the library's means: no octet, no writer, no reader that gives up.

// piece is a number's form, or a text's bytes.
type piece struct {
	bytes    []byte
	isNumber bool
}

func numberForm(n uint64) []byte { return binary.AppendUvarint(nil, n) }

func number(n uint64) piece { return piece{numberForm(n), true} }

// pieces are the forms of numbers, texts and rows, one behind the other.
func pieces(all ...any) (l []piece) {
	for _, x := range all {
		switch x := x.(type) {
		case int:
			l = append(l, number(uint64(x)))
		case uint64:
			l = append(l, number(x))
		case string:
			l = append(l, number(uint64(len(x))), piece{[]byte(x), false})
		case []string:
			l = append(l, number(uint64(len(x))))
			for _, s := range x {
				l = append(l, pieces(s)...)
			}
		case []piece:
			l = append(l, x...)
		}
	}
	return l
}

func joined(l []piece) []byte {
	var b []byte
	for _, p := range l {
		b = append(b, p.bytes...)
	}
	return b
}

func imagePieces(m api.Image) []piece {
	l := pieces(m.Name, m.Sessions)
	l = append(l, pieces(m.Book.Items, m.Book.Asks, m.Book.Ver, m.Book.Next, len(m.Book.Entries))...)
	for _, x := range m.Book.Entries {
		kept := 0
		if x.Kept {
			kept = 1
		}
		l = append(l, pieces(x.Contact, kept, x.Name, x.Groups, x.Half.Out, x.Half.N, x.Half.In, x.Half.M)...)
	}
	l = append(l, pieces(m.Shelf.Lists, m.Shelf.Rules, m.Shelf.Default, len(m.Shelf.Names))...)
	for i, list := range m.Shelf.Names {
		l = append(l, pieces(list, m.Shelf.Texts[i])...)
	}
	l = append(l, pieces(m.Shifts, len(m.Groups))...)
	for i, group := range m.Groups {
		l = append(l, pieces(group, m.Members[i])...)
	}
	return l
}

func mailPieces(m api.Mail) []piece {
	return pieces(m.Kind, m.From, m.To, m.N, m.Resource, m.List)
}

func namesPieces(l []string) []piece { return pieces(l) }

// plain reads a form; bad is whether it came on what is none.
type plain struct {
	left []byte
	bad  bool
}

func (p *plain) number() uint64 {
	n, size := binary.Uvarint(p.left)
	if p.bad || size <= 0 || size != len(numberForm(n)) {
		p.bad = true
		return 0
	}
	p.left = p.left[size:]
	return n
}

func (p *plain) int() int {
	n := p.number()
	if n > math.MaxInt {
		p.bad = true
	}
	return int(n)
}

func (p *plain) kept() bool {
	n := p.number()
	if n > 1 {
		p.bad = true
	}
	return n == 1
}

func (p *plain) text() string {
	n := p.number()
	if p.bad || n > uint64(len(p.left)) || !utf8.Valid(p.left[:n]) {
		p.bad = true
		return ""
	}
	s := string(p.left[:n])
	p.left = p.left[n:]
	return s
}

func (p *plain) row() (l []string) {
	for n := p.number(); n > 0 && !p.bad; n-- {
		l = append(l, p.text())
	}
	return l
}

func (p *plain) rows() (names []string, rows [][]string) {
	for n := p.number(); n > 0 && !p.bad; n-- {
		names = append(names, p.text())
		rows = append(rows, p.row())
	}
	return names, rows
}

func plainImage(p *plain) (m api.Image) {
	m.Name, m.Sessions = p.text(), p.int()
	m.Book = api.Book{Items: p.int(), Asks: p.int(), Ver: p.number(), Next: p.number()}
	for n := p.number(); n > 0 && !p.bad; n-- {
		x := api.Entry{Contact: p.text(), Kept: p.kept(), Name: p.text(), Groups: p.row()}
		x.Half = api.Half{Out: p.int(), N: p.number(), In: p.int(), M: p.number()}
		m.Book.Entries = append(m.Book.Entries, x)
	}
	m.Shelf = api.Shelf{Lists: p.int(), Rules: p.int(), Default: p.text()}
	m.Shelf.Names, m.Shelf.Texts = p.rows()
	m.Shifts = p.number()
	m.Groups, m.Members = p.rows()
	return m
}

func plainMail(p *plain) api.Mail {
	return api.Mail{Kind: p.int(), From: p.text(), To: p.text(), N: p.number(), Resource: p.text(), List: p.row()}
}

func plainNames(p *plain) []string { return p.row() }

func isLoaded(m api.Image) bool {
	_, e := person.Load(m)
	return e == api.OK
}

func isPrepared(s string) bool {
	prepared, e := name.Local(s)
	return e == api.OK && prepared == s
}

// riseAll is whether there are prepared names, each behind all that are ahead of it.
func riseAll(l []string) bool {
	for i, s := range l {
		if !isPrepared(s) || i > 0 && l[i-1] >= s {
			return false
		}
	}
	return true
}

func mayLast(m api.Mail) bool {
	if m.Priority != 0 || len(m.Show)+len(m.Status)+len(m.Target) > 0 || !isPrepared(m.To) {
		return false
	}
	if m.Kind == 8 {
		return m.From == "" && m.N == 0 && len(m.Resource) >= 1 && len(m.Resource) <= 64 && utf8.ValidString(m.Resource) && riseAll(m.List)
	}
	return m.Kind >= 1 && m.Kind <= 4 && isPrepared(m.From) && m.N > 0 && m.Resource == "" && len(m.List) == 0
}

// pair is a Write with its Read, and what the chapter says of them.
type pair[T any] struct {
	what   string
	write  func(T) ([]byte, api.Errno)
	read   func([]byte) (T, api.Errno)
	text   func(T) string // all of it; nil and empty lists are one there
	pieces func(T) []piece
	plain  func(p *plain) T
	takes  func(T) bool
}

var images = pair[api.Image]{"image", Write, Read, imageText, imagePieces, plainImage, isLoaded}

var mails = pair[api.Mail]{"mail", WriteMail, ReadMail, mailText, mailPieces, plainMail, mayLast}

var names = pair[[]string]{"names", WriteNames, ReadNames, listText, namesPieces, plainNames, riseAll}

func listText(l []string) string { return fmt.Sprintf("%q", l) }

func mailText(m api.Mail) string {
	return fmt.Sprintf("%d %q %q %d %q %d %q %q %q %q", m.Kind, m.From, m.To, m.N, m.Resource, m.Priority, m.Show, m.Status, m.Target, m.List)
}

// imageText is an image as a text, in which a list that is nil is an empty one.
func imageText(m api.Image) string {
	var text strings.Builder
	fmt.Fprintf(&text, "%q %d; %d %d %d %d:", m.Name, m.Sessions, m.Book.Items, m.Book.Asks, m.Book.Ver, m.Book.Next)
	for _, x := range m.Book.Entries {
		fmt.Fprintf(&text, " %q %v %q %q %v", x.Contact, x.Kept, x.Name, x.Groups, x.Half)
	}
	fmt.Fprintf(&text, "; %d %d %q %q", m.Shelf.Lists, m.Shelf.Rules, m.Shelf.Default, m.Shelf.Names)
	for _, l := range m.Shelf.Texts {
		fmt.Fprintf(&text, " %q", l)
	}
	fmt.Fprintf(&text, "; %d %q", m.Shifts, m.Groups)
	for _, l := range m.Members {
		fmt.Fprintf(&text, " %q", l)
	}
	return text.String()
}

// form is what the chapter says that Write writes.
func (p pair[T]) form(x T) []byte { return joined(p.pieces(x)) }

// writes holds Write against the chapter's words, and lets Read read what it wrote.
func (p pair[T]) writes(t *testing.T, x T) {
	t.Helper()
	before := p.text(x)
	b, e := p.write(x)
	if p.text(x) != before {
		t.Fatalf("%s %.300s was changed: %.300s", p.what, before, p.text(x))
	}
	if !p.takes(x) {
		if e != api.ErrArg || b != nil {
			t.Errorf("%s %.300s: %x, %v, not ErrArg", p.what, before, b, e)
		}
		return
	}
	if e != api.OK || !bytes.Equal(b, p.form(x)) {
		t.Errorf("%s %.300s: %.200x, %v, not %.200x", p.what, before, b, e, p.form(x))
		return
	}
	if again, e := p.read(b); e != api.OK || p.text(again) != before {
		t.Errorf("%s %.300s: read as %.300s, %v", p.what, before, p.text(again), e)
	}
}

// asked is what the chapter asks of Read.
func (p pair[T]) asked(b []byte) (x T, ok bool) {
	r := plain{left: b}
	x = p.plain(&r)
	return x, !r.bad && len(r.left) == 0 && p.takes(x)
}

// reads holds Read against the chapter's words, and what it takes against what Write writes of that; it says whether it was taken.
func (p pair[T]) reads(t *testing.T, b []byte) bool {
	t.Helper()
	before := slices.Clone(b)
	x, e := p.read(b)
	if !bytes.Equal(b, before) {
		t.Fatalf("%s: Read changed %x to %x", p.what, before, b)
	}
	want, ok := p.asked(b)
	if !ok {
		if e != api.ErrForm || !reflect.ValueOf(x).IsZero() {
			t.Errorf("%s: Read(%.300q): %.300s, %v, not ErrForm", p.what, b, p.text(x), e)
		}
		return false
	}
	if e != api.OK || p.text(x) != p.text(want) {
		t.Errorf("%s: Read(%.300q): %.300s, %v, not %.300s", p.what, b, p.text(x), e, p.text(want))
		return false
	}
	if again, e := p.write(x); e != api.OK || !bytes.Equal(again, b) {
		t.Errorf("%s: Read(%.300q) is written as %.300q, %v", p.what, b, again, e)
	}
	return true
}

// refuses asks that bytes are no form.
func (p pair[T]) refuses(t *testing.T, b []byte) {
	t.Helper()
	if p.reads(t, b) {
		t.Errorf("%s: Read(%.300q) is taken", p.what, b)
	}
}

// everyChange does to a form all that can be done to one byte of it.
func (p pair[T]) everyChange(t *testing.T, x T) {
	t.Helper()
	b := p.form(x)
	if !p.reads(t, b) {
		t.Fatalf("%s: Read(%q) is not taken", p.what, b)
	}
	for k := range b {
		p.refuses(t, b[:k])
		p.reads(t, b[k:])
		p.reads(t, slices.Delete(slices.Clone(b), k, k+1))
		for c := range 256 {
			turned := slices.Clone(b)
			turned[k] = byte(c)
			p.reads(t, turned)
			p.reads(t, slices.Insert(slices.Clone(b), k, byte(c)))
		}
	}
	for c := range 256 {
		p.refuses(t, append(slices.Clone(b), byte(c)))
	}
	p.refuses(t, append(slices.Clone(b), b...))
}

// otherForms are forms that a number's form may be taken for, and other numbers.
func otherForms(form []byte) (l [][]byte) {
	n, _ := binary.Uvarint(form)
	longer := slices.Clone(form)
	longer[len(longer)-1] |= 128
	l = append(l, append(slices.Clone(longer), 0), append(slices.Clone(longer), 128, 0))
	for len(longer) < 9 {
		longer = append(longer, 128)
	}
	if len(form) < 10 {
		l = append(l, append(slices.Clone(longer), 0), append(slices.Clone(longer), 2), append(slices.Clone(longer), 128, 0))
	}
	l = append(l, longer[:1], nil, bytes.Repeat([]byte{128}, 10), bytes.Repeat([]byte{255}, 11))
	for _, k := range []uint64{0, 1, 2, 3, n - 1, n + 1, n + 1<<7, n + 1<<16, n + 1<<31, n + 1<<32, n + 1<<61, n + 1<<62, n + 1<<63, 1 << 62, 1 << 63, math.MaxInt32, math.MaxInt64, math.MaxUint64} {
		l = append(l, numberForm(k))
	}
	return l
}

// everyNumber lets each number of a form be another one, or written otherwise.
func (p pair[T]) everyNumber(t *testing.T, x T) {
	t.Helper()
	l := p.pieces(x)
	for i, one := range l {
		if !one.isNumber {
			continue
		}
		for _, form := range otherForms(one.bytes) {
			l[i] = piece{form, true}
			p.reads(t, joined(l))
		}
		l[i] = one
	}
}

// everyText lets each text of a form be another one, of its own length or not.
func (p pair[T]) everyText(t *testing.T, x T, others []string) {
	t.Helper()
	l := p.pieces(x)
	for i, one := range l {
		if one.isNumber {
			continue
		}
		size := l[i-1]
		for _, s := range others {
			l[i-1], l[i] = number(uint64(len(s))), piece{[]byte(s), false}
			p.reads(t, joined(l))
		}
		l[i-1], l[i] = size, one
	}
}
