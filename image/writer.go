package image

import (
	"roost/api"
	"roost/octet"
)

// writer has the form so far. It writes whatever it is given: what may be written is asked ahead of it.
type writer struct{ form []byte }

// numbers makes each form behind nothing, for octet copies all that it lays a form behind.
func (w *writer) numbers(all ...uint64) {
	for _, n := range all {
		w.form = append(w.form, octet.PutUint(nil, n)...)
	}
}

func (w *writer) texts(all ...string) {
	for _, text := range all {
		w.form = append(w.form, octet.PutText(nil, text)...)
	}
}

func (w *writer) row(texts []string) {
	w.numbers(uint64(len(texts)))
	w.texts(texts...)
}

func (w *writer) image(m api.Image) {
	w.texts(m.Name)
	w.numbers(uint64(m.Sessions))
	w.book(m.Book)
	w.shelf(m.Shelf)
	w.numbers(m.Shifts)
	w.rows(m.Groups, m.Members)
}

func (w *writer) book(b api.Book) {
	w.numbers(uint64(b.Items), uint64(b.Asks), b.Ver, b.Next, uint64(len(b.Entries)))
	for _, entry := range b.Entries {
		w.entry(entry)
	}
}

func (w *writer) entry(entry api.Entry) {
	w.texts(entry.Contact)
	w.numbers(keptForm(entry.Kept))
	w.texts(entry.Name)
	w.row(entry.Groups)
	w.half(entry.Half)
}

func keptForm(kept bool) uint64 {
	if kept {
		return 1
	}
	return 0
}

func (w *writer) half(half api.Half) {
	w.numbers(uint64(half.Out), half.N, uint64(half.In), half.M)
}

func (w *writer) shelf(s api.Shelf) {
	w.numbers(uint64(s.Lists), uint64(s.Rules))
	w.texts(s.Default)
	w.rows(s.Names, s.Texts)
}

// rows writes names, and behind each the row that stands in its place.
func (w *writer) rows(names []string, rows [][]string) {
	w.numbers(uint64(len(names)))
	for i, name := range names {
		w.texts(name)
		w.row(rows[i])
	}
}

func (w *writer) mail(m api.Mail) {
	w.numbers(uint64(m.Kind))
	w.texts(m.From, m.To)
	w.numbers(m.N)
	w.texts(m.Resource)
	w.row(m.List)
}
