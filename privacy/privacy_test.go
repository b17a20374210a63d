package privacy

import (
	"fmt"
	"math"
	"regexp"
	"slices"
	"strings"
	"testing"
	"unicode/utf8"

	"roost/api"
	"roost/name"
)

// In the tests' names stands which promise they hold.

const most = 1000

func long(n int) string { return strings.Repeat("x", n) }

func made(t testing.TB, lists, rules int) *Lists {
	t.Helper()
	l, e := New(lists, rules)
	if l == nil || e != api.OK {
		t.Fatalf("New(%d, %d): %v", lists, rules, e)
	}
	return l
}

func opened(t testing.TB, s api.Shelf) *Lists {
	t.Helper()
	l, e := Load(s)
	if l == nil || e != api.OK {
		t.Fatalf("Load(%s): %v", shelfText(s), e)
	}
	return l
}

// shelfText is a shelf as a text, in which a list that is nil is an empty one.
func shelfText(s api.Shelf) string {
	return fmt.Sprintf("bounds %d %d, default %q, names %q, texts %q", s.Lists, s.Rules, s.Default, s.Names, s.Texts)
}

func copyOf(s api.Shelf) api.Shelf {
	s.Names, s.Texts = slices.Clone(s.Names), slices.Clone(s.Texts)
	for i, texts := range s.Texts {
		s.Texts[i] = slices.Clone(texts)
	}
	return s
}

func parses(t testing.TB, text string, want api.Rule, e api.Errno) {
	t.Helper()
	if got, f := Parse(text); got != want || f != e {
		t.Fatalf("Parse(%.90q): %v, %v, not %v, %v", text, got, f, want, e)
	}
}

func writes(t testing.TB, r api.Rule, want string, e api.Errno) {
	t.Helper()
	if got, f := Text(r); got != want || f != e {
		t.Fatalf("Text(%.90q): %q, %v, not %q, %v", fmt.Sprint(r), got, f, want, e)
	}
}

// is asks that all that lists tell is what this shelf says.
func is(t testing.TB, l *Lists, s api.Shelf) {
	t.Helper()
	if got, want := shelfText(l.Shelf()), shelfText(s); got != want {
		t.Fatalf("the shelf: %s\nnot %s", got, want)
	}
	for _, name := range append([]string{"", "gone", "\xff", long(64), long(65)}, s.Names...) {
		if got := l.Has(name); got != slices.Contains(s.Names, name) {
			t.Fatalf("Has(%.70q): %v", name, got)
		}
	}
}

func does(t testing.TB, what string, got, want api.Errno) {
	t.Helper()
	if got != want {
		t.Fatalf("%s: %v, not %v", what, got, want)
	}
}

func sets(t testing.TB, l *Lists, name string, want api.Errno, texts ...string) {
	t.Helper()
	does(t, fmt.Sprintf("Set(%.70q, %.200q)", name, texts), l.Set(name, texts), want)
}

func drops(t testing.TB, l *Lists, name string, want api.Errno) {
	t.Helper()
	does(t, fmt.Sprintf("Drop(%.70q)", name), l.Drop(name), want)
}

func defaults(t testing.TB, l *Lists, name string, want api.Errno) {
	t.Helper()
	does(t, fmt.Sprintf("Default(%.70q)", name), l.Default(name), want)
}

// presence is what is asked of lists.
type presence struct {
	name    string
	in      bool
	contact string
	groups  []string
	sub     string
}

func allows(t testing.TB, l *Lists, p presence, want bool) {
	t.Helper()
	if got := l.Allows(p.name, p.in, p.contact, p.groups, p.sub); got != want {
		t.Fatalf("Allows(%+v): %v, of %s", p, got, shelfText(l.Shelf()))
	}
}

func ruleOf(allow, in, out bool, by, value string) api.Rule {
	return api.Rule{Allow: allow, In: in, Out: out, By: by, Value: value}
}

func TestRunsParse(t *testing.T) {
	parses(t, "deny in jid Bob", ruleOf(false, true, false, "jid", "bob"), api.OK)
	parses(t, "allow both all", ruleOf(true, true, true, "all", ""), api.OK)
	parses(t, "deny out group my friends", ruleOf(false, false, true, "group", "my friends"), api.OK)
	parses(t, "allow in sub from", ruleOf(true, true, false, "sub", "from"), api.OK)
	for text, e := range map[string]api.Errno{
		"deny in": api.ErrForm, "Deny in all": api.ErrForm, "deny in all x": api.ErrForm, "deny  in all": api.ErrForm, "deny in jid": api.ErrForm,
		"deny in jid a b": api.ErrName, "deny in group ": api.ErrName,
		"allow in sub x": api.ErrForm, "deny up all": api.ErrForm,
	} {
		parses(t, text, api.Rule{}, e)
	}
}

func TestRunsLists(t *testing.T) {
	l := made(t, 1, 2)
	sets(t, l, "a", api.OK, "deny in jid bob", "allow in all")
	allows(t, l, presence{name: "a", in: true, contact: "bob"}, false)
	allows(t, l, presence{name: "a", in: true, contact: "cyd"}, true)
	allows(t, l, presence{name: "a", in: false, contact: "bob"}, true)
	allows(t, l, presence{name: "", in: true, contact: "bob"}, true)

	defaults(t, l, "a", api.OK)
	allows(t, l, presence{name: "", in: true, contact: "bob"}, false)
	allows(t, l, presence{name: "gone", in: true, contact: "bob"}, false)
	drops(t, l, "a", api.ErrState)
	defaults(t, l, "", api.OK)
	drops(t, l, "a", api.OK)

	sets(t, l, "b", api.OK, "deny out sub to")
	allows(t, l, presence{name: "b", in: false, sub: "to,ask"}, false)
}

func TestExamplesOutSaysNothingOfWhatComes(t *testing.T) {
	l := made(t, 1, 1)
	sets(t, l, "a", api.OK, "deny out all")
	allows(t, l, presence{name: "a", in: true, contact: "bob"}, true)
	allows(t, l, presence{name: "a", in: false, contact: "bob"}, false)
}

func TestExamplesNoneThatAsks(t *testing.T) {
	l := made(t, 1, 1)
	sets(t, l, "a", api.OK, "deny in sub none")
	allows(t, l, presence{name: "a", in: true, sub: "none,ask"}, false)
}

var ruleForm = regexp.MustCompile(`(?s)^(allow|deny) (in|out|both) (?:(all)|(jid|group|sub) (.*))$`)

// plainParse is the chapter's words on rules, done by an expression.
func plainParse(text string) (api.Rule, api.Errno) {
	found := ruleForm.FindStringSubmatch(text)
	if found == nil {
		return api.Rule{}, api.ErrForm
	}
	r := ruleOf(found[1] == "allow", found[2] != "out", found[2] != "in", found[3]+found[4], found[5])
	switch r.By {
	case "jid":
		local, e := name.Local(r.Value)
		if e != api.OK {
			return api.Rule{}, e
		}
		r.Value = local
	case "group":
		if len(r.Value) > 64 {
			return api.Rule{}, api.ErrBig
		}
		if len(r.Value) < 1 || !utf8.ValidString(r.Value) {
			return api.Rule{}, api.ErrName
		}
	case "sub":
		if !slices.Contains([]string{"none", "to", "from", "both"}, r.Value) {
			return api.Rule{}, api.ErrForm
		}
	}
	return r, api.OK
}

func asPlain(t testing.TB, text string) {
	t.Helper()
	want, e := plainParse(text)
	parses(t, text, want, e)
}

// everyRule is each rule of the chapter, with values at their edges, and its text.
func everyRule(do func(text string, r api.Rule)) {
	whoms := []struct{ text, by, value string }{{"all", "all", ""}}
	for _, value := range []string{"bob", "-", "ä.x", "all", "none", long(64), strings.Repeat("ß", 32)} {
		whoms = append(whoms, struct{ text, by, value string }{"jid " + value, "jid", value})
	}
	for _, value := range []string{"x", " ", "  ", " x ", "my friends", "jid bob", "Ä", "\x00", "\n", "\t", "\ufffd", "\u00a0", long(64), strings.Repeat("ß", 32), strings.Repeat(" ", 64), strings.Repeat("\U0001F600", 16)} {
		whoms = append(whoms, struct{ text, by, value string }{"group " + value, "group", value})
	}
	for _, value := range []string{"none", "to", "from", "both"} {
		whoms = append(whoms, struct{ text, by, value string }{"sub " + value, "sub", value})
	}
	for _, verdict := range []string{"allow", "deny"} {
		for _, way := range []string{"in", "out", "both"} {
			for _, w := range whoms {
				r := ruleOf(verdict == "allow", way == "in" || way == "both", way == "out" || way == "both", w.by, w.value)
				do(verdict+" "+way+" "+w.text, r)
			}
		}
	}
}

func TestP171EveryRule(t *testing.T) {
	everyRule(func(text string, r api.Rule) {
		parses(t, text, r, api.OK)
		writes(t, r, text, api.OK)
		asPlain(t, text)
	})
}

func TestP171Prepared(t *testing.T) {
	for _, x := range []struct{ text, value string }{{"Bob", "bob"}, {"BOB", "bob"}, {"ÄÖ.x", "äö.x"}, {"ΣΑ", "σα"}, {"Яя", "яя"}, {long(63) + "X", long(64)}} {
		r := ruleOf(false, true, false, "jid", x.value)
		parses(t, "deny in jid "+x.text, r, api.OK)
		writes(t, r, "deny in jid "+x.value, api.OK)
		writes(t, ruleOf(false, true, false, "jid", x.text), "", api.ErrArg)
	}
	// Nothing else of a rule is prepared.
	parses(t, "deny in group Bob", ruleOf(false, true, false, "group", "Bob"), api.OK)
	for _, text := range []string{"Deny in all", "DENY in all", "deny In all", "deny in All", "deny in Jid bob", "deny in GROUP x", "deny in Sub to", "deny in sub To"} {
		parses(t, text, api.Rule{}, api.ErrForm)
	}
}

func TestP171Refusals(t *testing.T) {
	for text, e := range map[string]api.Errno{
		"": api.ErrForm, " ": api.ErrForm, "  ": api.ErrForm, "   ": api.ErrForm, "allow": api.ErrForm, "allow ": api.ErrForm, "allow in": api.ErrForm, "allow in ": api.ErrForm, "all": api.ErrForm, "in all": api.ErrForm,
		" allow in all": api.ErrForm, "allow  in all": api.ErrForm, "allow in  all": api.ErrForm, "allow in all ": api.ErrForm, "allow in all all": api.ErrForm, "allow in all\n": api.ErrForm,
		"allow\tin all": api.ErrForm, "allow in\u00a0all": api.ErrForm, "allow in all\x00": api.ErrForm, "\xffallow in all": api.ErrForm,
		"allow,in,all": api.ErrForm, "allowin all": api.ErrForm, "allow inall": api.ErrForm, "refuse in all": api.ErrForm, "allow inout all": api.ErrForm, "allow in out all": api.ErrForm,
		"in allow all": api.ErrForm, "allow all": api.ErrForm, "allow in al": api.ErrForm, "allow in allx": api.ErrForm, "allow in who bob": api.ErrForm, "allow in bob": api.ErrForm, "allow in  bob": api.ErrForm,

		"allow in jid": api.ErrForm, "allow in jid ": api.ErrName, "allow in jid  bob": api.ErrName, "allow in jid bob ": api.ErrName, "allow in jid a b": api.ErrName, "allow in jid bob@x": api.ErrName, "allow in jid \xff": api.ErrName, "allow in jidbob": api.ErrForm,
		"allow in jid " + long(64) + " ": api.ErrBig, "allow in jid " + long(65): api.ErrBig, "allow in jid " + strings.Repeat("Я", 33): api.ErrBig, "allow in jid " + strings.Repeat("\xff", 65): api.ErrBig, "allow in jid " + strings.Repeat(" ", 65): api.ErrBig, "allow in jid " + strings.Repeat(" ", 64): api.ErrName,

		"allow in group": api.ErrForm, "allow in group ": api.ErrName, "allow in group \xff": api.ErrName, "allow in group a\xed\xa0\x80": api.ErrName, "allow in group a\xc3": api.ErrName,
		"allow in group " + long(65): api.ErrBig, "allow in group " + strings.Repeat(" ", 65): api.ErrBig, "allow in group " + strings.Repeat("\xff", 64): api.ErrName, "allow in group " + strings.Repeat("\xff", 65): api.ErrBig, "allow in group " + strings.Repeat("ß", 33): api.ErrBig, "allow in group " + long(1<<20): api.ErrBig,

		"allow in sub": api.ErrForm, "allow in sub ": api.ErrForm, "allow in sub x": api.ErrForm, "allow in sub  to": api.ErrForm, "allow in sub to ": api.ErrForm, "allow in sub to,ask": api.ErrForm, "allow in sub none,ask": api.ErrForm, "allow in sub ask": api.ErrForm, "allow in sub to from": api.ErrForm, "allow in sub in": api.ErrForm, "allow in sub all": api.ErrForm, "allow in sub " + long(65): api.ErrForm, "allow in sub \xff": api.ErrForm,

		// What is wrong further ahead is what is told.
		"x in jid \xff": api.ErrForm, "deny x jid \xff": api.ErrForm, "deny in x \xff": api.ErrForm, "x in group " + long(65): api.ErrForm, "deny in  jid " + long(65): api.ErrForm,
	} {
		parses(t, text, api.Rule{}, e)
		asPlain(t, text)
	}
}

// Each row of up to five pieces, whatever they are.
func TestP171EveryPieces(t *testing.T) {
	words := []string{"", "allow", "deny", "in", "out", "both", "all", "jid", "group", "sub", "none", "to", "from", "Bob", "b@", "\xff", long(64), long(65)}
	var grow func(text string, left int)
	grow = func(text string, left int) {
		asPlain(t, text)
		if left == 0 {
			return
		}
		for _, w := range words {
			grow(text+" "+w, left-1)
		}
	}
	for _, w := range words {
		grow(w, 3)
	}
	for _, way := range []string{"in", "out", "both"} {
		grow("allow "+way, 3)
	}
}

// Each byte of each rule turned to each other one, or gone, or with one more ahead of it.
func TestP171EveryByte(t *testing.T) {
	for _, text := range []string{"allow in all", "deny both jid bob", "deny out group a b", "allow in sub none", "deny in sub both"} {
		for i := range len(text) + 1 {
			asPlain(t, text[:i])
			asPlain(t, text[i:])
			for c := range 256 {
				asPlain(t, text[:i]+string([]byte{byte(c)})+text[i:])
				if i < len(text) {
					asPlain(t, text[:i]+string([]byte{byte(c)})+text[i+1:])
				}
			}
			if i < len(text) {
				asPlain(t, text[:i]+text[i+1:])
			}
		}
	}
}

// isRule is the chapter's words on what Parse tells of some text.
func isRule(r api.Rule) bool {
	if !r.In && !r.Out {
		return false
	}
	switch r.By {
	case "all":
		return r.Value == ""
	case "jid":
		prepared, e := name.Local(r.Value)
		return e == api.OK && prepared == r.Value
	case "group":
		return 1 <= len(r.Value) && len(r.Value) <= 64 && utf8.ValidString(r.Value)
	case "sub":
		return r.Value == "none" || r.Value == "to" || r.Value == "from" || r.Value == "both"
	}
	return false
}

func TestP171Text(t *testing.T) {
	bys := []string{"", " ", "all", "jid", "group", "sub", "All", "all ", " all", "jid ", "jid a", "group ", "group x", "group x ", "sub to", "sub ", "x", "\xff", "al", "allx", long(65)}
	values := []string{"", " ", "bob", "Bob", "b b", "none", "to", "from", "both", "to,ask", "x", " x", "\xff", "\x00", "ä", "Ä", "all", long(64), long(65), strings.Repeat("\xff", 65), long(1 << 20)}
	for bits := range 8 {
		for _, by := range bys {
			for _, value := range values {
				r := ruleOf(bits&1 != 0, bits&2 != 0, bits&4 != 0, by, value)
				if !isRule(r) {
					writes(t, r, "", api.ErrArg)
					continue
				}
				text, e := Text(r)
				does(t, "Text", e, api.OK)
				parses(t, text, r, api.OK)
			}
		}
	}
	writes(t, api.Rule{}, "", api.ErrArg)
}

func TestP172New(t *testing.T) {
	edges := []int{math.MinInt, -1, 0, 1, most - 1, most, most + 1, math.MaxInt}
	for _, lists := range edges {
		for _, rules := range edges {
			if lists < 0 || lists > most || rules < 0 || rules > most {
				if l, e := New(lists, rules); l != nil || e != api.ErrArg {
					t.Errorf("New(%d, %d): %v, %v", lists, rules, l, e)
				}
				loads(t, "bounds", api.Shelf{Lists: lists, Rules: rules}, false)
				continue
			}
			l := made(t, lists, rules)
			is(t, l, api.Shelf{Lists: lists, Rules: rules})
			allows(t, l, presence{in: true, contact: "bob"}, true)
			loads(t, "bounds", api.Shelf{Lists: lists, Rules: rules}, true)
		}
	}
}

// loads asks whether a shelf is taken, and, if it is, that it is told again.
func loads(t testing.TB, what string, s api.Shelf, ok bool) {
	t.Helper()
	before := shelfText(s)
	l, e := Load(s)
	if shelfText(s) != before {
		t.Fatalf("%s: the shelf was changed", what)
	}
	if !ok {
		if l != nil || e != api.ErrArg {
			t.Fatalf("%s: %v, not ErrArg: %.300s", what, e, before)
		}
		return
	}
	if l == nil || e != api.OK {
		t.Fatalf("%s: %v: %.300s", what, e, before)
	}
	is(t, l, s)
}

func TestP172LoadNames(t *testing.T) {
	for _, x := range []struct {
		names []string
		ok    bool
	}{
		{nil, true},
		{[]string{}, true},
		{[]string{"a"}, true},
		{[]string{"\x00", " ", "A", "B", "a", "a b", "ab", "b", "z", "ß", "ä", "\ufffd", "\U0001F600"}, true},
		{[]string{"a", "a"}, false},
		{[]string{"b", "a"}, false},
		{[]string{"a", "c", "b"}, false},
		{[]string{"a", "b", "b"}, false},
		{[]string{"a", "b", "a"}, false},
		{[]string{"ab", "a"}, false},
		{[]string{"a", "B"}, false},
		{[]string{"ä", "z"}, false},
		{[]string{""}, false},
		{[]string{"", "a"}, false},
		{[]string{"\xff"}, false},
		{[]string{"a", "b\xc3"}, false},
		{[]string{"a", "b\xed\xa0\x80"}, false},
		{[]string{long(64)}, true},
		{[]string{long(65)}, false},
		{[]string{strings.Repeat("ß", 32)}, true},
		{[]string{strings.Repeat("ß", 33)}, false},
	} {
		s := api.Shelf{Lists: 20, Rules: 1, Names: x.names, Texts: make([][]string, len(x.names))}
		loads(t, "names", s, x.ok)
		for _, i := range []int{-1, 1} {
			s := s
			s.Texts = make([][]string, max(len(x.names)+i, 0))
			loads(t, "names and texts", s, x.ok && len(x.names) == 0 && i < 0)
		}
	}
}

func TestP172LoadBounds(t *testing.T) {
	all := api.Shelf{Names: []string{"a", "b", "c"}, Texts: [][]string{{"deny in all"}, {"deny in all", "deny in all", "allow in all"}, nil}}
	for lists := range 5 {
		for rules := range 5 {
			s := copyOf(all)
			s.Lists, s.Rules = lists, rules
			loads(t, "bounds", s, lists >= 3 && rules >= 3)
		}
	}
}

func TestP172LoadTexts(t *testing.T) {
	everyRule(func(text string, _ api.Rule) {
		loads(t, "a rule", api.Shelf{Lists: 1, Rules: 1, Names: []string{"a"}, Texts: [][]string{{text}}}, true)
	})
	for _, text := range []string{"", "deny", "deny in jid Bob", "deny in jid Ä", "deny in jid", "deny in jid ", "deny in group ", "deny in group " + long(65), "deny in group \xff", "deny in sub x", "deny in all ", "Deny in all", "deny  in all", "deny up all"} {
		loads(t, "no text of a rule", api.Shelf{Lists: 1, Rules: 1, Names: []string{"a"}, Texts: [][]string{{text}}}, false)
		// One that is wrong is enough, wherever it stands.
		for i := range 3 {
			for j := range 3 {
				s := api.Shelf{Lists: 3, Rules: 3, Names: []string{"a", "b", "c"}, Texts: [][]string{
					{"deny in all", "deny out all", "allow in all"}, {"deny in jid bob", "allow in sub to", "deny in all"}, {"deny in group x", "allow in all", "allow in all"},
				}}
				loads(t, "three lists", s, true)
				s.Texts[i][j] = text
				loads(t, "one wrong", s, false)
			}
		}
	}
}

func TestP172LoadDefault(t *testing.T) {
	for name, ok := range map[string]bool{"": true, "a": true, "b": true, "A": false, "c": false, "ab": false, " ": false, "a ": false, "\xff": false, long(65): false} {
		loads(t, "a default", api.Shelf{Lists: 2, Default: name, Names: []string{"a", "b"}, Texts: [][]string{nil, nil}}, ok)
		loads(t, "a default of none", api.Shelf{Lists: 2, Default: name}, name == "")
	}
	l := opened(t, api.Shelf{Lists: 2, Rules: 1, Default: "a", Names: []string{"a", "b"}, Texts: [][]string{{"deny in all"}, nil}})
	allows(t, l, presence{in: true}, false)
	allows(t, l, presence{name: "b", in: true}, true)
	drops(t, l, "a", api.ErrState)
	drops(t, l, "b", api.OK)
}

func TestP172LoadMany(t *testing.T) {
	s := api.Shelf{Lists: most, Rules: most, Default: "0500"}
	for i := range most {
		s.Names, s.Texts = append(s.Names, fmt.Sprintf("%04d", i)), append(s.Texts, []string{"deny in all"})
	}
	for i := range most {
		s.Texts[7] = append(s.Texts[7], fmt.Sprint("allow in group ", i))
	}
	s.Texts[7] = s.Texts[7][1:]
	loads(t, "all that there may be", s, true)
	l := opened(t, s)
	sets(t, l, "more", api.ErrFull)
	sets(t, l, "0999", api.OK)
	more := copyOf(s)
	more.Texts[7] = append(more.Texts[7], "deny in all")
	loads(t, "a rule too many", more, false)
	more = copyOf(s)
	more.Names, more.Texts = append(more.Names, "1000"), append(more.Texts, nil)
	loads(t, "a list too many", more, false)
}

func TestP172ShelfRises(t *testing.T) {
	l := made(t, most, 1)
	var names []string
	for i := range most {
		// 7 and 1000 have no factor in common, so that each number comes once.
		name := fmt.Sprint("n", i*7%most)
		names = append(names, name)
		sets(t, l, name, api.OK, "deny in group "+name)
	}
	slices.Sort(names)
	want := api.Shelf{Lists: most, Rules: 1, Names: names}
	for _, name := range names {
		want.Texts = append(want.Texts, []string{"deny in group " + name})
	}
	is(t, l, want)
}

func TestP173SetOrder(t *testing.T) {
	names := []struct {
		text string
		e    api.Errno
	}{{"new", api.OK}, {"a", api.OK}, {long(64), api.OK}, {strings.Repeat("ß", 32), api.OK}, {" ", api.OK}, {"N\x00", api.OK}, {"", api.ErrName}, {"\xff", api.ErrName}, {"a\xc3", api.ErrName}, {long(65), api.ErrBig}, {strings.Repeat("\xff", 64), api.ErrName}, {strings.Repeat("\xff", 65), api.ErrBig}, {strings.Repeat("ß", 33), api.ErrBig}}
	good := "allow in jid cyd"
	lists := []struct {
		texts []string
		e     api.Errno
	}{
		{nil, api.OK},
		{[]string{good}, api.OK},
		{[]string{good, good}, api.OK},
		{[]string{good, good, good}, api.ErrFull},
		{slices.Repeat([]string{good}, 2000), api.ErrFull},
		{[]string{"x"}, api.ErrForm},
		{[]string{good, ""}, api.ErrForm},
		{[]string{good, good, good, "x"}, api.ErrForm},
		{[]string{good, good, good, "deny in jid "}, api.ErrName},
		{[]string{good, good, good, "deny in group " + long(65)}, api.ErrBig},
		{[]string{"deny in jid a b", "x"}, api.ErrName},
		{[]string{"x", "deny in jid a b"}, api.ErrForm},
		{[]string{good, "deny in group " + long(65), "deny in jid a b"}, api.ErrBig},
		{[]string{good, "deny in group ", "deny in jid " + long(65)}, api.ErrName},
	}
	for _, room := range []int{1, 2} {
		for _, n := range names {
			for _, x := range lists {
				s := api.Shelf{Lists: room, Rules: 2, Default: "a", Names: []string{"a"}, Texts: [][]string{{"deny in all"}}}
				l := opened(t, s)
				e := api.OK
				if room == 1 && n.text != "a" {
					e = api.ErrFull
				}
				for _, first := range []api.Errno{x.e, n.e} {
					if first != api.OK {
						e = first
					}
				}
				sets(t, l, n.text, e, x.texts...)
				switch {
				case e != api.OK:
				case n.text == "a":
					s.Texts[0] = x.texts
				default:
					p := plain{s}
					p.lay(n.text, x.texts)
					s = p.Shelf
				}
				is(t, l, s)
			}
		}
	}
}

// A list that is laid again has the new rules alone, needs no room, and is the default still.
func TestP173SetAgain(t *testing.T) {
	l := made(t, 1, 2)
	sets(t, l, "a", api.OK, "deny in jid BOB", "deny out jid bob")
	defaults(t, l, "a", api.OK)
	is(t, l, api.Shelf{Lists: 1, Rules: 2, Default: "a", Names: []string{"a"}, Texts: [][]string{{"deny in jid bob", "deny out jid bob"}}})
	sets(t, l, "a", api.OK, "deny in jid cyd")
	allows(t, l, presence{in: true, contact: "bob"}, true)
	allows(t, l, presence{in: true, contact: "cyd"}, false)
	sets(t, l, "A", api.ErrFull)
	sets(t, l, "a", api.OK)
	allows(t, l, presence{in: true, contact: "cyd"}, true)
	is(t, l, api.Shelf{Lists: 1, Rules: 2, Default: "a", Names: []string{"a"}, Texts: [][]string{nil}})
}

func TestP173NoRoom(t *testing.T) {
	l := made(t, 0, 5)
	sets(t, l, "a", api.ErrFull)
	sets(t, l, "a", api.ErrForm, "x")
	sets(t, l, "", api.ErrName)
	is(t, l, api.Shelf{Rules: 5})
	l = made(t, 5, 0)
	sets(t, l, "a", api.ErrFull, "deny in all")
	sets(t, l, "a", api.OK)
	is(t, l, api.Shelf{Lists: 5, Names: []string{"a"}, Texts: [][]string{nil}})
}

func TestP173Drop(t *testing.T) {
	s := api.Shelf{Lists: 3, Rules: 1, Default: "b", Names: []string{"a", "b", "c"}, Texts: [][]string{{"deny in all"}, {"deny out all"}, {"allow in all"}}}
	l := opened(t, s)
	for _, name := range []string{"", "d", "A", "a ", "\xff", long(65)} {
		drops(t, l, name, api.ErrNone)
	}
	drops(t, l, "b", api.ErrState)
	is(t, l, s)
	drops(t, l, "a", api.OK)
	drops(t, l, "a", api.ErrNone)
	is(t, l, api.Shelf{Lists: 3, Rules: 1, Default: "b", Names: s.Names[1:], Texts: s.Texts[1:]})
	allows(t, l, presence{name: "a", in: true}, true)
	// There is room again.
	sets(t, l, "d", api.OK)
	sets(t, l, "e", api.ErrFull)
	defaults(t, l, "c", api.OK)
	drops(t, l, "b", api.OK)
	drops(t, l, "c", api.ErrState)
	defaults(t, l, "", api.OK)
	drops(t, l, "c", api.OK)
	drops(t, l, "d", api.OK)
	is(t, l, api.Shelf{Lists: 3, Rules: 1})
}

func TestP173Default(t *testing.T) {
	s := api.Shelf{Lists: 2, Rules: 1, Names: []string{"a", "b"}, Texts: [][]string{{"deny in all"}, {"deny out all"}}}
	l := opened(t, s)
	defaults(t, l, "", api.OK)
	is(t, l, s)
	for _, name := range []string{"c", "A", " ", "\xff", long(65)} {
		defaults(t, l, name, api.ErrNone)
		is(t, l, s)
	}
	for _, name := range []string{"a", "b", "b", "", "a"} {
		defaults(t, l, name, api.OK)
		s.Default = name
		is(t, l, s)
		defaults(t, l, "c", api.ErrNone)
		is(t, l, s)
		allows(t, l, presence{in: true}, name != "a")
		allows(t, l, presence{in: false}, name != "b")
	}
}

func TestP174Whose(t *testing.T) {
	s := api.Shelf{Lists: 3, Rules: 1, Names: []string{"in", "none", "out"}, Texts: [][]string{{"deny in all"}, nil, {"deny out all"}}}
	for _, usual := range []string{"", "in", "none", "out"} {
		s.Default = usual
		l := opened(t, s)
		for _, name := range []string{"", "in", "none", "out", "gone", "IN", "\xff", long(65)} {
			holds := name
			if !slices.Contains(s.Names, name) {
				holds = usual
			}
			allows(t, l, presence{name: name, in: true}, holds != "in")
			allows(t, l, presence{name: name, in: false}, holds != "out")
		}
	}
}

// fits is the chapter's words on whether a rule fits.
func fits(r api.Rule, p presence) bool {
	way := r.Out
	if p.in {
		way = r.In
	}
	who := map[string]bool{
		"all":   true,
		"jid":   r.Value == p.contact,
		"group": slices.Index(p.groups, r.Value) >= 0,
		"sub":   p.sub == r.Value || p.sub == r.Value+",ask",
	}
	return way && who[r.By]
}

// everyPresence is each of some contacts, with groups and subs as they come and as they don't.
func everyPresence(do func(p presence)) {
	for _, contact := range []string{"", "bob", "BOB", "bo", "bobb", "cyd", "none", "all", "ä"} {
		for _, groups := range [][]string{nil, {"x"}, {"y", "x"}, {"X"}, {"bob"}, {"x y"}, {"", " ", "none"}, {"a", "b", "c", "d", "e", "f", "g", "x"}} {
			for _, sub := range []string{"", "none", "to", "from", "both", "none,ask", "to,ask", "from,ask", "both,ask", ",ask", "none,ask,ask", "None", "none,as", "none ", "ask", "bob", "x"} {
				do(presence{"a", true, contact, groups, sub})
				do(presence{"a", false, contact, groups, sub})
			}
		}
	}
}

func TestP174EveryRule(t *testing.T) {
	whoms := []string{"all", "jid bob", "jid cyd", "jid none", "jid ä", "group x", "group X", "group x y", "group bob", "group none", "group  ", "sub none", "sub to", "sub from", "sub both"}
	for _, verdict := range []string{"allow", "deny"} {
		for _, way := range []string{"in", "out", "both"} {
			for _, whom := range whoms {
				text := verdict + " " + way + " " + whom
				r, e := plainParse(text)
				does(t, text, e, api.OK)
				l := made(t, 1, 2)
				// What stands behind says the other thing, so that it is seen which of them speaks.
				other := "deny both all"
				if verdict == "deny" {
					other = "allow both all"
				}
				sets(t, l, "a", api.OK, text, other)
				everyPresence(func(p presence) { allows(t, l, p, fits(r, p) == r.Allow) })
			}
		}
	}
}

// The first that fits speaks, in the order of the list.
func TestP174First(t *testing.T) {
	texts := []string{"allow in jid bob", "deny in jid bob", "deny in group x", "allow both sub to", "deny both all", "allow out all"}
	var grow func(list []string)
	grow = func(list []string) {
		l := made(t, 1, 4)
		sets(t, l, "a", api.OK, list...)
		p := plain{api.Shelf{Lists: 1, Rules: 4, Names: []string{"a"}, Texts: [][]string{list}}}
		for bits := range 16 {
			x := presence{name: "a", in: bits&1 != 0, contact: "cyd", sub: "none"}
			if bits&2 != 0 {
				x.contact = "bob"
			}
			if bits&4 != 0 {
				x.groups = []string{"w", "x"}
			}
			if bits&8 != 0 {
				x.sub = "to"
			}
			allows(t, l, x, p.allows(x))
		}
		if len(list) < 4 {
			for _, text := range texts {
				grow(append(slices.Clone(list), text))
			}
		}
	}
	grow(nil)
}

// plain is a shelf to whose texts the chapter's words are done one by one.
type plain struct{ api.Shelf }

func (p *plain) find(name string) int { return slices.Index(p.Names, name) }

func (p *plain) lay(name string, texts []string) {
	if i := p.find(name); i >= 0 {
		p.Texts[i] = texts
		return
	}
	at := 0
	for at < len(p.Names) && p.Names[at] < name {
		at++
	}
	p.Names = slices.Insert(slices.Clone(p.Names), at, name)
	p.Texts = slices.Insert(slices.Clone(p.Texts), at, texts)
}

func (p *plain) set(name string, texts []string) api.Errno {
	if len(name) > 64 {
		return api.ErrBig
	}
	if name == "" || !utf8.ValidString(name) {
		return api.ErrName
	}
	var prepared []string
	for _, text := range texts {
		r, e := plainParse(text)
		if e != api.OK {
			return e
		}
		if r.By == "jid" {
			text = strings.Join(append(strings.Split(text, " ")[:3], r.Value), " ")
		}
		prepared = append(prepared, text)
	}
	if len(texts) > p.Rules || p.find(name) < 0 && len(p.Names) == p.Lists {
		return api.ErrFull
	}
	p.lay(name, prepared)
	return api.OK
}

func (p *plain) drop(name string) api.Errno {
	i := p.find(name)
	if i < 0 {
		return api.ErrNone
	}
	if p.Default == name {
		return api.ErrState
	}
	p.Names = slices.Delete(slices.Clone(p.Names), i, i+1)
	p.Texts = slices.Delete(slices.Clone(p.Texts), i, i+1)
	return api.OK
}

func (p *plain) choose(name string) api.Errno {
	if name != "" && p.find(name) < 0 {
		return api.ErrNone
	}
	p.Default = name
	return api.OK
}

func (p *plain) allows(x presence) bool {
	i := p.find(x.name)
	if i < 0 {
		i = p.find(p.Default)
	}
	if i < 0 {
		return true
	}
	for _, text := range p.Texts[i] {
		if r, _ := plainParse(text); fits(r, x) {
			return r.Allow
		}
	}
	return true
}
