package image

import (
	"fmt"
	"math"
	"strings"
	"testing"

	"roost/api"
)

func ask() api.Mail { return api.Mail{Kind: api.MailAsk, From: "ann", To: "bob", N: 7} }

func share(members ...string) api.Mail {
	return api.Mail{Kind: api.MailShare, To: "bob", Resource: "my friends", List: members}
}

func TestP192Lasts(t *testing.T) {
	lasting := []int{1, 2, 3, 4, 8}
	kinds := []int{math.MinInt, math.MaxInt, 1 << 32, 1<<32 + 1, 1<<32 + 8, -1 << 32}
	for kind := -300; kind < 600; kind++ {
		kinds = append(kinds, kind)
	}
	for _, kind := range kinds {
		want := false
		for _, k := range lasting {
			want = want || k == kind
		}
		if Lasts(kind) != want {
			t.Error(kind, !want)
		}
	}
}

func TestP192Forms(t *testing.T) {
	for _, x := range []struct {
		m    api.Mail
		want string
	}{
		{ask(), "\x01\x03ann\x03bob\x07\x00\x00"},
		{api.Mail{Kind: api.MailLeave, From: "ann", To: "bob", N: 127}, "\x02\x03ann\x03bob\x7f\x00\x00"},
		{api.Mail{Kind: api.MailGrant, From: "ä", To: "я", N: 128}, "\x03\x02ä\x02я\x80\x01\x00\x00"},
		{api.Mail{Kind: api.MailDeny, From: "bob", To: "bob", N: math.MaxUint64}, "\x04\x03bob\x03bob\xff\xff\xff\xff\xff\xff\xff\xff\xff\x01\x00\x00"},
		{share(), "\x08\x00\x03bob\x00\x0amy friends\x00"},
		{share("ann"), "\x08\x00\x03bob\x00\x0amy friends\x01\x03ann"},
		{share("a", "ann", "bob", "ä"), "\x08\x00\x03bob\x00\x0amy friends\x04\x01a\x03ann\x03bob\x02ä"},
	} {
		if b, e := WriteMail(x.m); string(b) != x.want || e != api.OK {
			t.Errorf("WriteMail(%v): %q, %v, not %q", x.m, b, e, x.want)
		}
		if m, e := ReadMail([]byte(x.want)); mailText(m) != mailText(x.m) || e != api.OK {
			t.Errorf("ReadMail(%q): %v, %v", x.want, m, e)
		}
		mails.writes(t, x.m)
		mails.everyChange(t, x.m)
		mails.everyNumber(t, x.m)
		mails.everyText(t, x.m, otherTexts())
	}
}

// Each kind with each field, zero or not, right or not.
func TestP192EveryMail(t *testing.T) {
	lists := [][]string{nil, {"a"}, {"a", "b"}, {"b", "a"}}
	written := map[int]int{}
	for kind := -1; kind < 11; kind++ {
		for _, from := range []string{"", "ann", "Ann"} {
			for _, to := range []string{"", "bob", "Bob"} {
				for _, n := range []uint64{0, 1} {
					for _, resource := range []string{"", "g"} {
						for _, priority := range []int{0, 1, -1} {
							for bits := range 8 {
								for _, list := range lists {
									m := api.Mail{Kind: kind, From: from, To: to, N: n, Resource: resource, Priority: priority, List: list}
									m.Show, m.Status, m.Target = "s"[:bits&1], "t"[:bits>>1&1], "u"[:bits>>2]
									mails.writes(t, m)
									if !hasMore(m) && mails.reads(t, mails.form(m)) {
										written[kind]++
									}
								}
							}
						}
					}
				}
			}
		}
	}
	if got := fmt.Sprint(written); got != "map[1:1 2:1 3:1 4:1 8:3]" {
		t.Error("written, by kind:", got)
	}
}

// hasMore is whether a mail has something of which its form says nothing.
func hasMore(m api.Mail) bool {
	return m.Priority != 0 || m.Show+m.Status+m.Target != ""
}

func TestP192WriteTexts(t *testing.T) {
	for _, s := range otherTexts() {
		for _, turn := range []func(m *api.Mail){
			func(m *api.Mail) { m.From = s },
			func(m *api.Mail) { m.To = s },
			func(m *api.Mail) { m.Resource = s },
			func(m *api.Mail) { m.Show = s },
			func(m *api.Mail) { m.Status = s },
			func(m *api.Mail) { m.Target = s },
			func(m *api.Mail) { m.List = []string{s} },
			func(m *api.Mail) { m.List = []string{"b", s} },
			func(m *api.Mail) { m.List = []string{s, "b"} },
		} {
			for _, m := range []api.Mail{ask(), share("cyd")} {
				turn(&m)
				mails.writes(t, m)
			}
		}
	}
}

func TestP192WriteNumbers(t *testing.T) {
	for _, n := range []uint64{0, 1, 127, 128, 1 << 32, 1 << 61, 1 << 63, math.MaxUint64} {
		for _, m := range []api.Mail{ask(), share("cyd")} {
			m.N = n
			mails.writes(t, m)
			m.Priority = int(n)
			mails.writes(t, m)
			m.Kind = int(n)
			mails.writes(t, m)
		}
	}
}

// manyNames are so many that rise.
func manyNames(n int) (l []string) {
	for i := range n {
		l = append(l, fmt.Sprintf("n%06d", i))
	}
	return l
}

func TestP192ManyMembers(t *testing.T) {
	m := share(manyNames(200000)...)
	mails.writes(t, m)
	b, _ := WriteMail(m)
	if n := used(func() { ReadMail(b) }); n > 80*uint64(len(b)) {
		t.Errorf("%d bytes of memory for %d", n, len(b))
	}
	m.List[199998], m.List[199999] = m.List[199999], m.List[199998]
	mails.writes(t, m)
	mails.refuses(t, mails.form(m))
}

func TestP193Names(t *testing.T) {
	for _, x := range []struct {
		l    []string
		want string
	}{
		{nil, "\x00"},
		{[]string{"ann"}, "\x01\x03ann"},
		{[]string{"ann", "bob"}, "\x02\x03ann\x03bob"},
		{[]string{"-", ".", "0", "_", "a", "a-", "aa", "b", "z", "ß", "ä", "α", "я"}, "\x0d\x01-\x01.\x010\x01_\x01a\x02a-\x02aa\x01b\x01z\x02ß\x02ä\x02α\x02я"},
		{[]string{long(64)}, "\x01\x40" + long(64)},
		{[]string{strings.Repeat("ä", 32)}, "\x01\x40" + strings.Repeat("ä", 32)},
	} {
		if b, e := WriteNames(x.l); string(b) != x.want || e != api.OK {
			t.Errorf("WriteNames(%q): %q, %v, not %q", x.l, b, e, x.want)
		}
		if l, e := ReadNames([]byte(x.want)); listText(l) != listText(x.l) || e != api.OK {
			t.Errorf("ReadNames(%q): %q, %v", x.want, l, e)
		}
		names.writes(t, x.l)
		names.everyChange(t, x.l)
		names.everyNumber(t, x.l)
		names.everyText(t, x.l, otherTexts())
	}
}

func TestP193Wrong(t *testing.T) {
	for _, l := range [][]string{
		{""},
		{"", "a"},
		{"a", ""},
		{"A"},
		{"a", "B"},
		{"a", "a"},
		{"b", "a"},
		{"a", "c", "b"},
		{"a", "b", "b"},
		{"a", "b", "a"},
		{"aa", "a"},
		{"ä", "z"},
		{"a b"},
		{"a", "b\xff"},
		{"×"},
		{long(65)},
		{"a", strings.Repeat("z", 65)},
	} {
		if b, e := WriteNames(l); b != nil || e != api.ErrArg {
			t.Errorf("WriteNames(%.80q): %q, %v", l, b, e)
		}
		if got, e := ReadNames(names.form(l)); got != nil || e != api.ErrForm {
			t.Errorf("ReadNames(%.80q): %q, %v", names.form(l), got, e)
		}
	}
}

// Each list of up to three of these, in whatever order.
func TestP193EveryList(t *testing.T) {
	texts := []string{"", "a", "aa", "ab", "b", "B", "ä", "\xff", long(64), long(65)}
	for _, one := range texts {
		names.writes(t, []string{one})
		names.reads(t, names.form([]string{one}))
		for _, two := range texts {
			names.writes(t, []string{one, two})
			names.reads(t, names.form([]string{one, two}))
			for _, three := range texts {
				names.writes(t, []string{one, two, three})
				names.reads(t, names.form([]string{one, two, three}))
			}
		}
	}
}

func TestP193ReadGreatNumbers(t *testing.T) {
	for _, n := range []uint64{1, 2, 1 << 20, 1 << 32, 1 << 63, math.MaxUint64} {
		b := numberForm(n)
		names.refuses(t, b)
		names.refuses(t, append(b, numberForm(n)...))
		names.refuses(t, append(b, "\x01a\x01b\x01c"...))
		// A text may be said to be as long as that, too.
		names.reads(t, append(append([]byte("\x02\x01a"), b...), "b"...))
	}
}

func TestP193Many(t *testing.T) {
	l := manyNames(300000)
	names.writes(t, l)
	b, _ := WriteNames(l)
	if n := used(func() { ReadNames(b) }); n > 80*uint64(len(b)) {
		t.Errorf("%d bytes of memory for %d", n, len(b))
	}
	names.refuses(t, append(b, 0))
	names.refuses(t, b[:len(b)-1])
}
