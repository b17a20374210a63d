package image

import (
	"bytes"

	"roost/api"
	"roost/octet"
)

const numberSize = 10 // how many bytes the form of a number has at most

// refusal is the value with which a reader gives up, and no other panic.
type refusal struct{ e api.Errno }

// demand gives up, unless what the form must be is so.
func demand(so bool) {
	if !so {
		panic(refusal{api.ErrForm})
	}
}

// attempt does a reading, and answers why it gave up, if it did.
func attempt[T any](do func() T) (done T, e api.Errno) {
	defer func() {
		if value := recover(); value != nil {
			e = value.(refusal).e
		}
	}()
	return do(), api.OK
}

// whole reads a form. What was read is written again, so that the writing alone says what a form is: with bytes behind it, or a number that an int or a bool does not hold, it comes out otherwise.
func whole[T any](b []byte, read func(r *reader) T, write func(T) ([]byte, api.Errno)) (T, api.Errno) {
	return attempt(func() T {
		found := read(&reader{b})
		again, e := write(found)
		demand(e == api.OK && bytes.Equal(again, b))
		return found
	})
}

// reader has what of a form is not read yet.
type reader struct{ left []byte }

// number shows octet no more bytes than a number can have, for octet copies what is behind a form.
func (r *reader) number() uint64 {
	shown := r.left[:min(numberSize, len(r.left))]
	n, rest, e := octet.Uint(shown)
	demand(e == api.OK)
	r.left = r.left[len(shown)-len(rest):]
	return n
}

// text reads the form of octet's texts, by their length, for the bytes behind it must not be copied either.
func (r *reader) text() string {
	size := r.number()
	demand(size <= uint64(len(r.left)))
	text := string(r.left[:size])
	r.left = r.left[size:]
	return text
}

// each reads a number, and does as often what reads on. A number that is too great does no harm: whoever reads on takes a byte at least, and gives up where there is none.
func (r *reader) each(readOn func()) {
	for range r.number() {
		readOn()
	}
}

func (r *reader) row() (texts []string) {
	r.each(func() { texts = append(texts, r.text()) })
	return texts
}

func (r *reader) image() (m api.Image) {
	m.Name = r.text()
	m.Sessions = int(r.number())
	m.Book = r.book()
	m.Shelf = r.shelf()
	m.Shifts = r.number()
	m.Groups, m.Members = r.rows()
	return m
}

func (r *reader) book() (b api.Book) {
	b.Items, b.Asks = int(r.number()), int(r.number())
	b.Ver, b.Next = r.number(), r.number()
	r.each(func() { b.Entries = append(b.Entries, r.entry()) })
	return b
}

func (r *reader) entry() (entry api.Entry) {
	entry.Contact = r.text()
	entry.Kept = r.number() == 1
	entry.Name = r.text()
	entry.Groups = r.row()
	entry.Half = r.half()
	return entry
}

func (r *reader) half() (half api.Half) {
	half.Out, half.N = int(r.number()), r.number()
	half.In, half.M = int(r.number()), r.number()
	return half
}

func (r *reader) shelf() (s api.Shelf) {
	s.Lists, s.Rules = int(r.number()), int(r.number())
	s.Default = r.text()
	s.Names, s.Texts = r.rows()
	return s
}

// rows reads names, and behind each a row.
func (r *reader) rows() (names []string, rows [][]string) {
	r.each(func() {
		names = append(names, r.text())
		rows = append(rows, r.row())
	})
	return names, rows
}

func (r *reader) mail() (m api.Mail) {
	m.Kind = int(r.number())
	m.From, m.To = r.text(), r.text()
	m.N = r.number()
	m.Resource = r.text()
	m.List = r.row()
	return m
}
