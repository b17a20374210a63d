package image

import (
	"bytes"
	"fmt"
	"math"
	"math/rand"
	"runtime"
	"slices"
	"strings"
	"testing"

	"roost/api"
	"roost/person"
	"roost/subs"
)

// In the tests' names stands which promise they hold.

func long(n int) string { return strings.Repeat("x", n) }

// otherTexts are names and what is none, of persons, lists and groups.
func otherTexts() []string {
	return []string{
		"", "a", "ann", "bob", "cyd", "zed", "Ann", "ä", "Ä", "a b", " ", "\x00", "\xff", "a\xc3", "\xed\xa0\x80", "×", "\ufffd",
		long(63), long(64), long(65), long(82), strings.Repeat("ä", 32), strings.Repeat("ä", 33),
		"deny in all", "deny in jid Bob", "deny in  all", "allow both group " + long(64), "allow both group " + long(65),
	}
}

func item(contact, name string, half api.Half, groups ...string) api.Entry {
	return api.Entry{Contact: contact, Kept: true, Name: name, Groups: groups, Half: half}
}

// bare is an image of one who has nothing.
func bare() api.Image { return api.Image{Name: "ann", Sessions: 3} }

// full is an image that has something of everything, with numbers of several bytes.
func full() api.Image {
	return api.Image{
		Name:     "ann",
		Sessions: 300,
		Book: api.Book{Items: 5, Asks: 200, Ver: 1<<61 - 1, Next: 129, Entries: []api.Entry{
			item("bob", "Bób", api.Half{Out: api.Whole, N: 129, In: api.Whole, M: math.MaxUint64}, "g", "my friends"),
			{Contact: "cyd", Half: api.Half{In: api.Open, M: 9}},
			item("eve", "", api.Half{Out: api.Open, N: 1}),
			item("ärn", "\x00", api.Half{In: api.Whole, M: 128}, " "),
		}},
		Shelf:  api.Shelf{Lists: 1000, Rules: 2, Default: "l", Names: []string{"L", "l"}, Texts: [][]string{nil, {"deny in jid bob", "allow both group my friends"}}},
		Shifts: 128,
		Groups: []string{"more", "team"}, Members: [][]string{{"bob", "dan"}, {"ä"}},
	}
}

// hexed is a form as the chapter has it.
func hexed(b []byte) string { return fmt.Sprintf("% x", b) }

func TestRuns(t *testing.T) {
	b, e := Write(bare())
	if hexed(b) != "03 61 6e 6e 03 00 00 00 00 00 00 00 00 00 00 00" || e != api.OK {
		t.Errorf("Write of ann: % x, %v", b, e)
	}
	if b, e := Write(api.Image{Name: "Ann"}); b != nil || e != api.ErrArg {
		t.Errorf("Write of Ann: % x, %v", b, e)
	}
	for _, b := range [][]byte{nil, append(b, 0)} {
		if m, e := Read(b); imageText(m) != imageText(api.Image{}) || e != api.ErrForm {
			t.Errorf("Read(% x): %v, %v", b, m, e)
		}
	}
	b, e = WriteMail(api.Mail{Kind: api.MailAsk, From: "ann", To: "bob", N: 7})
	if hexed(b) != "01 03 61 6e 6e 03 62 6f 62 07 00 00" || e != api.OK {
		t.Errorf("WriteMail of MailAsk: % x, %v", b, e)
	}
	for _, m := range []api.Mail{
		{Kind: api.MailHere, From: "ann", To: "bob"},
		{Kind: api.MailAsk, From: "ann", To: "bob"},
		{Kind: api.MailShare, From: "ann", To: "bob", Resource: "g"},
	} {
		if b, e := WriteMail(m); b != nil || e != api.ErrArg {
			t.Errorf("WriteMail of %v: % x, %v", m, b, e)
		}
	}
	b, e = WriteNames([]string{"ann", "bob"})
	if hexed(b) != "02 03 61 6e 6e 03 62 6f 62" || e != api.OK {
		t.Errorf("WriteNames: % x, %v", b, e)
	}
	if b, e := WriteNames([]string{"bob", "ann"}); b != nil || e != api.ErrArg {
		t.Errorf("WriteNames of what does not rise: % x, %v", b, e)
	}
}

func TestExamplePresenceDoesNotLast(t *testing.T) {
	for _, kind := range []int{api.MailHere, api.MailAway, api.MailProbe} {
		if Lasts(kind) {
			t.Error(kind)
		}
		if b, e := WriteMail(api.Mail{Kind: kind, From: "ann", To: "bob", N: 1}); b != nil || e != api.ErrArg {
			t.Errorf("%d: % x, %v", kind, b, e)
		}
	}
}

func TestExampleNoNames(t *testing.T) {
	if b, e := WriteNames(nil); !bytes.Equal(b, []byte{0}) || e != api.OK {
		t.Errorf("% x, %v", b, e)
	}
	if l, e := ReadNames([]byte{0}); len(l) > 0 || e != api.OK {
		t.Errorf("%q, %v", l, e)
	}
}

// The form is written out here, so that the tests' own reckoning is held against it too.
func TestP191Form(t *testing.T) {
	want := "\x03ann" + "\xac\x02" +
		"\x05" + "\xc8\x01" + "\xff\xff\xff\xff\xff\xff\xff\xff\x1f" + "\x81\x01" + "\x04" +
		"\x03bob" + "\x01" + "\x04B\xc3\xb3b" + "\x02\x01g\x0amy friends" + "\x02\x81\x01\x02\xff\xff\xff\xff\xff\xff\xff\xff\xff\x01" +
		"\x03cyd" + "\x00" + "\x00" + "\x00" + "\x00\x00\x01\x09" +
		"\x03eve" + "\x01" + "\x00" + "\x00" + "\x01\x01\x00\x00" +
		"\x04\xc3\xa4rn" + "\x01" + "\x01\x00" + "\x01\x01 " + "\x00\x00\x02\x80\x01" +
		"\xe8\x07" + "\x02" + "\x01l" + "\x02" + "\x01L\x00" + "\x01l\x02\x0fdeny in jid bob\x1ballow both group my friends" +
		"\x80\x01" +
		"\x02" + "\x04more\x02\x03bob\x03dan" + "\x04team\x01\x02\xc3\xa4"
	b, e := Write(full())
	if string(b) != want || e != api.OK {
		t.Errorf("Write: %q, %v, not %q", b, e, want)
	}
	m, e := Read([]byte(want))
	if imageText(m) != imageText(full()) || e != api.OK {
		t.Errorf("Read: %s, %v", imageText(m), e)
	}
}

// Each field has its own place in the form, whatever stands in the others.
func TestP191EveryField(t *testing.T) {
	for _, turn := range imageTurns() {
		m := full()
		turn(&m)
		images.writes(t, m)
		m = bare()
		if turned := bare(); !panics(func() { turn(&turned) }) {
			m = turned
		}
		images.writes(t, m)
	}
}

// panics says whether a turn found nothing to turn.
func panics(do func()) (did bool) {
	defer func() { did = recover() != nil }()
	do()
	return false
}

// imageTurns turn one thing of an image, most of them to what Load refuses.
func imageTurns() (l []func(m *api.Image)) {
	add := func(turns ...func(m *api.Image)) { l = append(l, turns...) }
	for _, n := range []int{0, 1, 2, 3, 4, 5, 127, 128, 300, 999, 1000, 1001, 10000, 10001, 1 << 31, -1, math.MaxInt, math.MinInt} {
		add(
			func(m *api.Image) { m.Sessions = n },
			func(m *api.Image) { m.Book.Items = n },
			func(m *api.Image) { m.Book.Asks = n },
			func(m *api.Image) { m.Shelf.Lists = n },
			func(m *api.Image) { m.Shelf.Rules = n },
			func(m *api.Image) { m.Book.Entries[0].Half.Out = n },
			func(m *api.Image) { m.Book.Entries[0].Half.In = n },
			func(m *api.Image) { m.Book.Entries[1].Half.Out = n },
			func(m *api.Image) { m.Book.Entries[1].Half.In = n },
		)
	}
	for _, n := range []uint64{0, 1, 127, 128, 129, 130, 1 << 32, 1<<61 - 1, 1 << 61, 1<<62 - 1, 1 << 62, 1 << 63, math.MaxUint64} {
		add(
			func(m *api.Image) { m.Shifts = n },
			func(m *api.Image) { m.Book.Ver = n },
			func(m *api.Image) { m.Book.Next = n },
			func(m *api.Image) { m.Book.Entries[0].Half.N = n },
			func(m *api.Image) { m.Book.Entries[0].Half.M = n },
			func(m *api.Image) { m.Book.Entries[1].Half.N = n },
			func(m *api.Image) { m.Book.Entries[1].Half.M = n },
		)
	}
	for _, s := range otherTexts() {
		add(
			func(m *api.Image) { m.Name = s },
			func(m *api.Image) { m.Book.Entries[0].Contact = s },
			func(m *api.Image) { m.Book.Entries[0].Name = s },
			func(m *api.Image) { m.Book.Entries[0].Groups[0] = s },
			func(m *api.Image) { m.Book.Entries[0].Groups[1] = s },
			func(m *api.Image) { m.Book.Entries[0].Groups = []string{s} },
			func(m *api.Image) { m.Book.Entries[1].Contact = s },
			func(m *api.Image) { m.Book.Entries[1].Name = s },
			func(m *api.Image) { m.Book.Entries[1].Groups = []string{s} },
			func(m *api.Image) { m.Shelf.Default = s },
			func(m *api.Image) { m.Shelf.Names[0] = s },
			func(m *api.Image) { m.Shelf.Names[1] = s },
			func(m *api.Image) { m.Shelf.Default, m.Shelf.Names[1] = s, s },
			func(m *api.Image) { m.Shelf.Texts[1][0] = s },
			func(m *api.Image) { m.Shelf.Texts[0] = []string{s} },
			func(m *api.Image) { m.Groups[0] = s },
			func(m *api.Image) { m.Groups[1] = s },
			func(m *api.Image) { m.Members[0][0] = s },
			func(m *api.Image) { m.Members[0][1] = s },
			func(m *api.Image) { m.Members[1] = []string{s} },
		)
	}
	add(listTurns()...)
	return l
}

// listTurns let lists of an image be of other lengths, and not as many as stand beside them.
func listTurns() []func(m *api.Image) {
	return []func(m *api.Image){
		func(m *api.Image) {},
		func(m *api.Image) { m.Book.Entries[0].Kept = false },
		func(m *api.Image) { m.Book.Entries[1].Kept = true },
		func(m *api.Image) { m.Book.Entries[3].Kept = false },
		func(m *api.Image) { m.Book.Entries = nil },
		func(m *api.Image) { m.Book.Entries = m.Book.Entries[1:] },
		func(m *api.Image) { slices.Reverse(m.Book.Entries) },
		func(m *api.Image) { m.Book.Entries = append(m.Book.Entries, m.Book.Entries[3]) },
		func(m *api.Image) { m.Book.Entries[0].Groups = nil },
		func(m *api.Image) { m.Book.Entries[0].Groups = strings.Split("a b c d e f g h", " ") },
		func(m *api.Image) { m.Book.Entries[0].Groups = strings.Split("a b c d e f g h i", " ") },
		func(m *api.Image) { slices.Reverse(m.Book.Entries[0].Groups) },
		func(m *api.Image) { m.Shelf.Names, m.Shelf.Texts, m.Shelf.Default = nil, nil, "" },
		func(m *api.Image) { m.Shelf.Names = nil },
		func(m *api.Image) { m.Shelf.Texts = nil },
		func(m *api.Image) { m.Shelf.Names = m.Shelf.Names[1:] },
		func(m *api.Image) { m.Shelf.Texts = m.Shelf.Texts[1:] },
		func(m *api.Image) { m.Shelf.Names = append(m.Shelf.Names, "m") },
		func(m *api.Image) { m.Shelf.Texts = append(m.Shelf.Texts, nil) },
		func(m *api.Image) { slices.Reverse(m.Shelf.Names) },
		func(m *api.Image) { slices.Reverse(m.Shelf.Texts) },
		func(m *api.Image) { m.Shelf.Texts[0] = []string{"allow in all", "allow in all"} },
		func(m *api.Image) { m.Shelf.Texts[0] = []string{"allow in all", "deny in all", "deny out sub to"} },
		func(m *api.Image) { m.Groups, m.Members = nil, nil },
		func(m *api.Image) { m.Groups = nil },
		func(m *api.Image) { m.Members = nil },
		func(m *api.Image) { m.Groups = m.Groups[1:] },
		func(m *api.Image) { m.Members = m.Members[1:] },
		func(m *api.Image) { m.Groups = append(m.Groups, "zed") },
		func(m *api.Image) { m.Members = append(m.Members, []string{"bob"}) },
		func(m *api.Image) { slices.Reverse(m.Groups) },
		func(m *api.Image) { slices.Reverse(m.Members) },
		func(m *api.Image) { slices.Reverse(m.Members[0]) },
		func(m *api.Image) { m.Members[1] = nil },
		func(m *api.Image) { m.Members[1] = []string{"ann"} },
		func(m *api.Image) { *m = api.Image{} },
	}
}

// What Load refuses with whatever error is ErrArg here.
func TestP191LoadsErrors(t *testing.T) {
	for _, x := range []struct {
		m api.Image
		e api.Errno
	}{
		{api.Image{}, api.ErrName},
		{api.Image{Name: "Ann"}, api.ErrName},
		{api.Image{Name: long(65)}, api.ErrName},
		{api.Image{Name: "ann", Sessions: -1}, api.ErrArg},
		{api.Image{Name: "Ann", Sessions: -1}, api.ErrName},
	} {
		if _, e := person.Load(x.m); e != x.e {
			t.Errorf("Load(%v): %v", x.m, e)
		}
		if b, e := Write(x.m); b != nil || e != api.ErrArg {
			t.Errorf("Write(%v): % x, %v", x.m, b, e)
		}
	}
}

func TestP191ReadEveryChange(t *testing.T) {
	images.everyChange(t, bare())
	images.everyChange(t, full())
}

func TestP191ReadEveryNumber(t *testing.T) {
	images.everyNumber(t, bare())
	images.everyNumber(t, full())
}

func TestP191ReadEveryText(t *testing.T) {
	images.everyText(t, bare(), otherTexts())
	images.everyText(t, full(), otherTexts())
}

// An image that Write refuses has no form, even one that is laid as forms are.
func TestP191ReadWhatIsNotWritten(t *testing.T) {
	taken := 0
	for _, turn := range imageTurns() {
		m := full()
		turn(&m)
		if len(m.Shelf.Names) != len(m.Shelf.Texts) || len(m.Groups) != len(m.Members) {
			continue
		}
		if images.reads(t, images.form(m)) {
			taken++
		}
	}
	if taken < 20 {
		t.Error("hardly a form was taken:", taken)
	}
}

// A number may say of much more than there is that it follows.
func TestP191ReadGreatNumbers(t *testing.T) {
	for _, n := range []uint64{1, 1 << 20, 1 << 31, 1 << 32, 1 << 40, 1 << 63, math.MaxUint64} {
		for _, head := range [][]any{
			{},
			{"ann", 3, 0, 0, 0, 0},
			{"ann", 3, 5, 5, 0, 0, 1, "bob", 1},
			{"ann", 3, 5, 5, 0, 0, 1, "bob", 1, "B"},
			{"ann", 3, 0, 0, 0, 0, 0, 5, 5},
			{"ann", 3, 0, 0, 0, 0, 0, 5, 5, ""},
			{"ann", 3, 0, 0, 0, 0, 0, 5, 5, "", 1, "l"},
			{"ann", 3, 0, 0, 0, 0, 0, 0, 0, "", 0, 0},
			{"ann", 3, 0, 0, 0, 0, 0, 0, 0, "", 0, 0, 1, "g"},
		} {
			b := joined(append(pieces(head...), number(n)))
			images.refuses(t, b)
			images.reads(t, append(b, make([]byte, 40)...))
			images.reads(t, append(b, bytes.Repeat([]byte{255}, 40)...))
		}
	}
}

func TestP191ReadAnyBytes(t *testing.T) {
	draw := rand.New(rand.NewSource(191))
	for range 20000 {
		b := make([]byte, draw.Intn(40))
		draw.Read(b)
		for i := range b {
			if draw.Intn(3) > 0 {
				b[i] &= 3
			}
		}
		images.reads(t, b)
		images.reads(t, append([]byte("\x03ann"), b...))
		mails.reads(t, b)
		names.reads(t, b)
	}
}

// lot makes images by chance that Load takes.
type lot struct{ *rand.Rand }

func (l lot) one(texts ...string) string { return texts[l.Intn(len(texts))] }

// some are texts of these, rising.
func (l lot) some(texts ...string) (some []string) {
	for _, s := range texts {
		if l.Intn(2) == 0 {
			some = append(some, s)
		}
	}
	slices.Sort(some)
	return some
}

// number is of any length, and below 2^bits.
func (l lot) number(bits int) uint64 { return l.Uint64() >> (64 - bits + l.Intn(bits)) }

func (l lot) half(next uint64) api.Half {
	for {
		h := api.Half{Out: l.Intn(3), In: l.Intn(3), N: min(l.number(62), next) * uint64(l.Intn(2)), M: l.number(64) * uint64(l.Intn(2))}
		if subs.State(h) != "" {
			return h
		}
	}
}

func (l lot) entry(contact string, next uint64) api.Entry {
	if l.Intn(3) == 0 {
		return api.Entry{Contact: contact, Half: api.Half{In: api.Open, M: 1 + l.number(63)}}
	}
	return item(contact, l.one("", "B", "Bób", long(64)), l.half(next), l.some("a", "b b", "ä", long(64))...)
}

func (l lot) rules() (texts []string) {
	for range l.Intn(4) {
		whom := l.one("all", "jid bob", "jid ärn", "group x y", "group "+long(64), "sub none", "sub both")
		texts = append(texts, l.one("allow", "deny")+" "+l.one("in", "out", "both")+" "+whom)
	}
	return texts
}

func (l lot) image() api.Image {
	m := api.Image{Name: l.one("ann", "zed", "я", long(64)), Sessions: l.Intn(1001), Shifts: l.number(61)}
	m.Book = api.Book{Items: 5 + l.Intn(9996), Asks: 5 + l.Intn(9996), Ver: l.number(61), Next: 1 + l.number(61)}
	for _, contact := range l.some("abe", "bob", "cyd", "dan", "ärn") {
		m.Book.Entries = append(m.Book.Entries, l.entry(contact, m.Book.Next))
	}
	m.Shelf = api.Shelf{Lists: 3 + l.Intn(998), Rules: 3 + l.Intn(998), Names: l.some("L", "l", "my list")}
	for range m.Shelf.Names {
		m.Shelf.Texts = append(m.Shelf.Texts, l.rules())
	}
	m.Shelf.Default = l.one(append(m.Shelf.Names, "")...)
	m.Groups = l.some("", "a", "team", "ä", long(64))
	m.Groups = slices.DeleteFunc(m.Groups, func(s string) bool { return s == "" })
	for range m.Groups {
		m.Members = append(m.Members, append(l.some("abe", "bob", "cyd"), "ä"))
	}
	return m
}

func TestP194ReadOfWrite(t *testing.T) {
	l := lot{rand.New(rand.NewSource(194))}
	for range 3000 {
		m := l.image()
		if !isLoaded(m) {
			t.Fatalf("no image: %s", imageText(m))
		}
		images.writes(t, m)
		images.reads(t, images.form(m))
		p, _ := person.Load(m)
		if got := imageText(p.Image()); got != imageText(m) {
			t.Errorf("%s, not %s", got, imageText(m))
		}
	}
}

// A person whose image was written and read goes on as if nothing had been.
func TestP194Persons(t *testing.T) {
	l := lot{rand.New(rand.NewSource(18))}
	for range 30 {
		p, e := person.New("ann", api.Bounds{Items: l.Intn(5), Asks: l.Intn(4), Lists: l.Intn(3), Rules: 3, Sessions: 2})
		if e != api.OK {
			t.Fatal(e)
		}
		p.Bind(1, "desk")
		for range 60 {
			contact := l.one("abe", "bob", "cyd", "dan")
			switch l.Intn(5) {
			case 0:
				p.Do(1, api.Stanza{Kind: api.Ask + l.Intn(4), A: contact})
			case 1:
				p.Do(1, api.Stanza{Kind: api.Put, A: contact, B: "B", List: l.some("g", "h")})
			case 2:
				p.Hear(api.Mail{Kind: api.MailAsk + l.Intn(4), From: contact, To: "ann", N: uint64(1 + l.Intn(3))})
			case 3:
				p.Hear(api.Mail{Kind: api.MailShare, To: "ann", Resource: l.one("team", "more"), List: append(l.some("abe", "ann"), "bob")})
			case 4:
				list := l.one("l", "m")
				p.Do(1, api.Stanza{Kind: api.Rules, A: list, List: l.rules()})
				p.Do(1, api.Stanza{Kind: api.Default, A: list})
			}
			m := p.Image()
			images.writes(t, m)
			b, _ := Write(m)
			m, _ = Read(b)
			again, e := person.Load(m)
			if e != api.OK || imageText(again.Image()) != imageText(p.Image()) {
				t.Fatalf("%s is read as %s, %v", imageText(p.Image()), imageText(m), e)
			}
		}
	}
}

// used is how much memory a call takes in all.
func used(call func()) uint64 {
	var before, after runtime.MemStats
	runtime.ReadMemStats(&before)
	call()
	runtime.ReadMemStats(&after)
	return after.TotalAlloc - before.TotalAlloc
}

// great is an image of as much as may be of most things.
func great() api.Image {
	m := api.Image{Name: "ann", Sessions: 1000, Book: api.Book{Items: 10000, Asks: 10000, Ver: 1<<61 - 1, Next: 1<<62 - 1}, Shelf: api.Shelf{Lists: 1000, Rules: 1000}, Shifts: 1<<61 - 1}
	for i := range 20000 {
		x := api.Entry{Contact: fmt.Sprintf("c%05d", i), Half: api.Half{In: api.Open, M: math.MaxUint64}}
		if i%2 == 0 {
			x = item(x.Contact, long(64), api.Half{Out: api.Whole, N: 1<<62 - 1, In: api.Whole, M: 1}, strings.Split("a b c d e f g h", " ")...)
		}
		m.Book.Entries = append(m.Book.Entries, x)
	}
	for i := range 1000 {
		m.Shelf.Names = append(m.Shelf.Names, fmt.Sprintf("l%03d", i))
		m.Shelf.Texts = append(m.Shelf.Texts, slices.Repeat([]string{"allow both group " + long(64)}, i/20))
	}
	m.Shelf.Default = "l999"
	for i := range 32 {
		m.Groups = append(m.Groups, fmt.Sprintf("%02d", i)+long(62))
		var members []string
		for k := range 100 * i {
			members = append(members, fmt.Sprintf("m%05d", k))
		}
		m.Members = append(m.Members, append(members, "z"))
	}
	return m
}

// However much an image has, what is behind a number or a text is not copied with each of them.
func TestP194Great(t *testing.T) {
	m := great()
	want := images.form(m)
	var b []byte
	var again api.Image
	var e, f api.Errno
	if n := used(func() { b, e = Write(m) }); n > 40*uint64(len(want)) {
		t.Errorf("Write took %d bytes for %d", n, len(want))
	}
	if n := used(func() { again, f = Read(b) }); n > 80*uint64(len(want)) {
		t.Errorf("Read took %d bytes for %d", n, len(want))
	}
	if e != api.OK || f != api.OK || !bytes.Equal(b, want) || imageText(again) != imageText(m) {
		t.Errorf("Write: %d bytes, not %d, %v; Read: %v", len(b), len(want), e, f)
	}
	if n := used(func() { again, f = Read(append(want, make([]byte, 1<<24)...)) }); n > 1<<28 || f != api.ErrForm {
		t.Errorf("with bytes behind it: %d bytes, %v", n, f)
	}
}
