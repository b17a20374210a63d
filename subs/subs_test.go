package subs

import (
	"math"
	"math/rand"
	"testing"

	"roost/api"
)

// In the tests' names stands which promise they hold.

const most = math.MaxUint64

var none api.Half

func acts(t testing.TB, h api.Half, kind int, next uint64, to api.Half, mail int, n uint64, e api.Errno) {
	t.Helper()
	gotTo, gotMail, gotN, gotE := Act(h, kind, next)
	if gotTo != to || gotMail != mail || gotN != n || gotE != e {
		t.Errorf("Act(%v, %d, %d): %v, %d, %d, %v, not %v, %d, %d, %v", h, kind, next, gotTo, gotMail, gotN, gotE, to, mail, n, e)
	}
}

func hears(t testing.TB, h api.Half, mail int, n uint64, to api.Half, tell int, e api.Errno) {
	t.Helper()
	gotTo, gotTell, gotE := Hear(h, mail, n)
	if gotTo != to || gotTell != tell || gotE != e {
		t.Errorf("Hear(%v, %d, %d): %v, %d, %v, not %v, %d, %v", h, mail, n, gotTo, gotTell, gotE, to, tell, e)
	}
}

func names(t testing.TB, h api.Half, state, sub string) {
	t.Helper()
	if got := State(h); got != state {
		t.Errorf("State(%v): %q, not %q", h, got, state)
	}
	if got := Sub(h); got != sub {
		t.Errorf("Sub(%v): %q, not %q", h, got, sub)
	}
}

func TestRuns(t *testing.T) {
	asked := api.Half{Out: api.Open, N: 5}
	acts(t, none, api.Ask, 5, asked, api.MailAsk, 5, api.OK)

	acts(t, asked, api.Ask, 6, asked, 0, 0, api.OK)
	acts(t, asked, api.Leave, 0, none, api.MailLeave, 5, api.OK)
	acts(t, none, api.Leave, 0, none, 0, 0, api.OK)

	open, whole := api.Half{In: api.Open, M: 5}, api.Half{In: api.Whole, M: 5}
	hears(t, none, api.MailAsk, 5, open, api.Asked, api.OK)
	acts(t, open, api.Grant, 0, whole, api.MailGrant, 5, api.OK)
	acts(t, whole, api.Deny, 0, none, api.MailDeny, 5, api.OK)

	again := api.Half{Out: api.Open, N: 6}
	hears(t, again, api.MailDeny, 5, again, 0, api.OK)
	hears(t, again, api.MailGrant, 6, api.Half{Out: api.Whole, N: 6}, api.Granted, api.OK)

	for _, kind := range []int{api.Ask, api.Grant, api.Leave, api.Deny} {
		acts(t, api.Half{Out: 1}, kind, 1, none, 0, 0, api.ErrArg)
	}
	acts(t, none, 99, 1, none, 0, 0, api.ErrArg)
	acts(t, none, api.Ask, 0, none, 0, 0, api.ErrArg)
	hears(t, none, api.MailAsk, 0, none, 0, api.ErrArg)

	names(t, api.Half{Out: api.Open, N: 1, In: api.Whole, M: 2}, "From + Pending Out", "from,ask")
}

// Example 1: a Deny of a request that was taken back and asked again is old.
func TestExamplesOldDeny(t *testing.T) {
	ann, bob := pair{}.act(t, 0, api.Ask, 1).hear(t, 1).ends()
	acts(t, bob, api.Deny, 0, none, api.MailDeny, 1, api.OK)
	acts(t, ann, api.Leave, 0, none, api.MailLeave, 1, api.OK)
	again := api.Half{Out: api.Open, N: 2}
	acts(t, none, api.Ask, 2, again, api.MailAsk, 2, api.OK)
	hears(t, again, api.MailDeny, 1, again, 0, api.OK)
	// bob hears of what is old to them too, and then of what is new.
	hears(t, none, api.MailLeave, 1, none, 0, api.OK)
	hears(t, none, api.MailAsk, 2, api.Half{In: api.Open, M: 2}, api.Asked, api.OK)
}

// Example 2: Grant without a request does nothing.
func TestExamplesGrantOfNothing(t *testing.T) {
	for _, h := range rightHalves(7, 9) {
		if h.In == api.None {
			acts(t, h, api.Grant, 3, h, 0, 0, api.OK)
		}
	}
}

// rightHalves are the nine, with these numbers of requests.
func rightHalves(n, m uint64) (halves []api.Half) {
	for out := range 3 {
		for in := range 3 {
			h := api.Half{Out: out, In: in}
			if out != api.None {
				h.N = n
			}
			if in != api.None {
				h.M = m
			}
			halves = append(halves, h)
		}
	}
	return halves
}

// wrongHalves are one for each state and number of which one at least does not go with the other.
func wrongHalves() (halves []api.Half) {
	states := []int{math.MinInt, -2, -1, 0, 1, 2, 3, 4, 256, 1 << 32, 1<<32 + 1, math.MaxInt}
	numbers := []uint64{0, 1, 2, 1 << 32, 1 << 63, most}
	fits := func(state int, n uint64) bool {
		return state == 0 && n == 0 || state == 1 && n > 0 || state == 2 && n > 0
	}
	for _, out := range states {
		for _, n := range numbers {
			for _, in := range states {
				for _, m := range numbers {
					if !fits(out, n) || !fits(in, m) {
						halves = append(halves, api.Half{Out: out, N: n, In: in, M: m})
					}
				}
			}
		}
	}
	return halves
}

func TestP151WrongHalves(t *testing.T) {
	for _, h := range wrongHalves() {
		names(t, h, "", "")
		for kind := api.Ask - 1; kind <= api.Deny+1; kind++ {
			acts(t, h, kind, 5, none, 0, 0, api.ErrArg)
			acts(t, h, kind, 0, none, 0, 0, api.ErrArg)
		}
		for mail := api.MailAsk - 1; mail <= api.MailDeny+1; mail++ {
			for _, n := range []uint64{0, 1, h.N, h.M} {
				hears(t, h, mail, n, none, 0, api.ErrArg)
			}
		}
	}
}

// The table of the chapter, with numbers at their edges: they do not change a name.
func TestP151NamesOfStates(t *testing.T) {
	table := []struct {
		out, in    int
		state, sub string
	}{
		{api.None, api.None, "None", "none"},
		{api.Open, api.None, "None + Pending Out", "none,ask"},
		{api.None, api.Open, "None + Pending In", "none"},
		{api.Open, api.Open, "None + Pending Out+In", "none,ask"},
		{api.Whole, api.None, "To", "to"},
		{api.Whole, api.Open, "To + Pending In", "to"},
		{api.None, api.Whole, "From", "from"},
		{api.Open, api.Whole, "From + Pending Out", "from,ask"},
		{api.Whole, api.Whole, "Both", "both"},
	}
	for _, n := range []uint64{1, 2, most} {
		for _, m := range []uint64{1, 2, most} {
			found := 0
			for _, h := range rightHalves(n, m) {
				for _, row := range table {
					if row.out == h.Out && row.in == h.In {
						names(t, h, row.state, row.sub)
						found++
					}
				}
			}
			if found != len(table) {
				t.Fatalf("%d states, not %d", found, len(table))
			}
		}
	}
}

func TestP152OtherKinds(t *testing.T) {
	kinds := []int{math.MinInt, -1, 0, 99, 1<<32 + api.Ask, math.MaxInt}
	for kind := api.Hello; kind <= api.Closed; kind++ {
		if kind < api.Ask || kind > api.Deny {
			kinds = append(kinds, kind)
		}
	}
	for _, h := range rightHalves(7, 9) {
		for _, kind := range kinds {
			acts(t, h, kind, 1, none, 0, 0, api.ErrArg)
			acts(t, h, kind, 0, none, 0, 0, api.ErrArg)
		}
	}
}

func TestP152AskWithoutNumber(t *testing.T) {
	for _, h := range rightHalves(7, 9) {
		acts(t, h, api.Ask, 0, none, 0, 0, api.ErrArg)
	}
}

// What Act does to a half, one row for each act and each state of the side that it is about; the other side stays.
func TestP152Acts(t *testing.T) {
	rows := []struct {
		kind, state int // of Out for Ask and Leave, of In for Grant and Deny
		to, mail    int
	}{
		{api.Ask, api.None, api.Open, api.MailAsk},
		{api.Ask, api.Open, api.Open, 0},
		{api.Ask, api.Whole, api.Whole, 0},
		{api.Leave, api.None, api.None, 0},
		{api.Leave, api.Open, api.None, api.MailLeave},
		{api.Leave, api.Whole, api.None, api.MailLeave},
		{api.Grant, api.None, api.None, 0},
		{api.Grant, api.Open, api.Whole, api.MailGrant},
		{api.Grant, api.Whole, api.Whole, 0},
		{api.Deny, api.None, api.None, 0},
		{api.Deny, api.Open, api.None, api.MailDeny},
		{api.Deny, api.Whole, api.None, api.MailDeny},
	}
	for _, numbers := range [][3]uint64{{7, 9, 8}, {7, 9, 1}, {9, 7, 9}, {5, 5, 5}, {1, most, most}, {most, 1, 1}} {
		n, m, next := numbers[0], numbers[1], numbers[2]
		for _, h := range rightHalves(n, m) {
			for _, row := range rows {
				to, number := h, uint64(0)
				switch {
				case row.kind == api.Ask && h.Out == row.state:
					if row.mail != 0 {
						to.N, number = next, next
					}
					to.Out = row.to
				case row.kind == api.Leave && h.Out == row.state:
					if row.mail != 0 {
						to.N, number = 0, h.N
					}
					to.Out = row.to
				case row.kind == api.Grant && h.In == row.state:
					if row.mail != 0 {
						number = h.M
					}
					to.In = row.to
				case row.kind == api.Deny && h.In == row.state:
					if row.mail != 0 {
						to.M, number = 0, h.M
					}
					to.In = row.to
				default:
					continue
				}
				acts(t, h, row.kind, next, to, row.mail, number, api.OK)
				if row.kind != api.Ask { // the number matters to nothing else
					acts(t, h, row.kind, 0, to, row.mail, number, api.OK)
				}
			}
		}
	}
}

func TestP153OtherMails(t *testing.T) {
	mails := []int{math.MinInt, -1, 0, api.MailHere, api.MailAway, api.MailProbe, api.MailShare, 99, 1<<32 + api.MailAsk, math.MaxInt}
	for _, h := range rightHalves(7, 9) {
		for _, mail := range mails {
			for _, n := range []uint64{0, 1, 7, 9} {
				hears(t, h, mail, n, none, 0, api.ErrArg)
			}
		}
		for mail := api.MailAsk; mail <= api.MailDeny; mail++ {
			hears(t, h, mail, 0, none, 0, api.ErrArg)
		}
	}
}

// A request takes the place of whatever was there, whether its number is higher, lower or the same.
func TestP153HearAsk(t *testing.T) {
	for _, h := range rightHalves(7, 9) {
		for _, n := range []uint64{1, 7, 8, 9, 10, most} {
			to := api.Half{Out: h.Out, N: h.N, In: api.Open, M: n}
			hears(t, h, api.MailAsk, n, to, api.Asked, api.OK)
		}
	}
}

func TestP153HearLeave(t *testing.T) {
	for _, h := range rightHalves(7, 9) {
		for _, n := range []uint64{1, 7, 8, 10, most} {
			hears(t, h, api.MailLeave, n, h, 0, api.OK)
		}
		if h.In == api.None {
			hears(t, h, api.MailLeave, 9, h, 0, api.OK)
		} else {
			hears(t, h, api.MailLeave, 9, api.Half{Out: h.Out, N: h.N}, api.Left, api.OK)
		}
	}
}

func TestP153HearGrant(t *testing.T) {
	for _, h := range rightHalves(7, 9) {
		for _, n := range []uint64{1, 6, 8, 9, most} {
			hears(t, h, api.MailGrant, n, h, 0, api.OK)
		}
		if h.Out == api.Open {
			hears(t, h, api.MailGrant, 7, api.Half{Out: api.Whole, N: 7, In: h.In, M: h.M}, api.Granted, api.OK)
		} else {
			hears(t, h, api.MailGrant, 7, h, 0, api.OK)
		}
	}
}

func TestP153HearDeny(t *testing.T) {
	for _, h := range rightHalves(7, 9) {
		for _, n := range []uint64{1, 6, 8, 9, most} {
			hears(t, h, api.MailDeny, n, h, 0, api.OK)
		}
		if h.Out == api.None {
			hears(t, h, api.MailDeny, 7, h, 0, api.OK)
		} else {
			hears(t, h, api.MailDeny, 7, api.Half{In: h.In, M: h.M}, api.Denied, api.OK)
		}
	}
}

// The two sides of a half may have the same number: each mail is about one of them.
func TestP153SameNumberOnBothSides(t *testing.T) {
	both := api.Half{Out: api.Whole, N: 6, In: api.Whole, M: 6}
	hears(t, both, api.MailLeave, 6, api.Half{Out: api.Whole, N: 6}, api.Left, api.OK)
	hears(t, both, api.MailDeny, 6, api.Half{In: api.Whole, M: 6}, api.Denied, api.OK)
	hears(t, both, api.MailGrant, 6, both, 0, api.OK)
	hears(t, both, api.MailAsk, 6, api.Half{Out: api.Whole, N: 6, In: api.Open, M: 6}, api.Asked, api.OK)
}

// rfcTable is one of RFC 6121's appendix A: where the state changes, and to which one. Where it does not, nothing goes and nothing is told.
type rfcTable struct {
	what    int // the stanza that is done, or the mail that comes
	follows int // the mail that goes, or the stanza that is told
	changes map[string]string
}

// A.2.1 to A.2.4
func rfcOutbound() []rfcTable {
	return []rfcTable{
		{api.Ask, api.MailAsk, map[string]string{
			"None":              "None + Pending Out",
			"None + Pending In": "None + Pending Out+In",
			"From":              "From + Pending Out",
		}},
		{api.Leave, api.MailLeave, map[string]string{
			"None + Pending Out":    "None",
			"None + Pending Out+In": "None + Pending In",
			"To":                    "None",
			"To + Pending In":       "None + Pending In",
			"From + Pending Out":    "From",
			"Both":                  "From",
		}},
		{api.Grant, api.MailGrant, map[string]string{
			"None + Pending In":     "From",
			"None + Pending Out+In": "From + Pending Out",
			"To + Pending In":       "Both",
		}},
		{api.Deny, api.MailDeny, map[string]string{
			"None + Pending In":     "None",
			"None + Pending Out+In": "None + Pending Out",
			"To + Pending In":       "To",
			"From":                  "None",
			"From + Pending Out":    "None + Pending Out",
			"Both":                  "To",
		}},
	}
}

// A.3.1 to A.3.4
func rfcInbound() []rfcTable {
	return []rfcTable{
		{api.MailAsk, api.Asked, map[string]string{
			"None":               "None + Pending In",
			"None + Pending Out": "None + Pending Out+In",
			"To":                 "To + Pending In",
		}},
		{api.MailLeave, api.Left, map[string]string{
			"None + Pending In":     "None",
			"None + Pending Out+In": "None + Pending Out",
			"To + Pending In":       "To",
			"From":                  "None",
			"From + Pending Out":    "None + Pending Out",
			"Both":                  "To",
		}},
		{api.MailGrant, api.Granted, map[string]string{
			"None + Pending Out":    "To",
			"None + Pending Out+In": "To + Pending In",
			"From + Pending Out":    "Both",
		}},
		{api.MailDeny, api.Denied, map[string]string{
			"None + Pending Out":    "None",
			"None + Pending Out+In": "None + Pending In",
			"To":                    "None",
			"To + Pending In":       "None + Pending In",
			"From + Pending Out":    "From",
			"Both":                  "From",
		}},
	}
}

func TestP154Outbound(t *testing.T) {
	for _, table := range rfcOutbound() {
		for _, h := range rightHalves(7, 9) {
			want, follows := table.changes[State(h)], table.follows
			if want == "" {
				want, follows = State(h), 0
			}
			to, mail, _, e := Act(h, table.what, 8)
			if State(to) != want || mail != follows || e != api.OK {
				t.Errorf("%s, %d done: %s, %d, %v, not %s, %d", State(h), table.what, State(to), mail, e, want, follows)
			}
		}
	}
}

func TestP154Inbound(t *testing.T) {
	for _, table := range rfcInbound() {
		for _, h := range rightHalves(7, 9) {
			n := uint64(7)
			switch table.what {
			case api.MailAsk:
				// The number of a request is another one's, where one is there already: no pair comes to it, as TestP155EveryOrder shows.
				if h.In != api.None {
					continue
				}
				n = 9
			case api.MailLeave:
				n = 9
			}
			want, follows := table.changes[State(h)], table.follows
			if want == "" {
				want, follows = State(h), 0
			}
			to, tell, e := Hear(h, table.what, n)
			if State(to) != want || tell != follows || e != api.OK {
				t.Errorf("%s, %d heard: %s, %d, %v, not %s, %d", State(h), table.what, State(to), tell, e, want, follows)
			}
		}
	}
}

// letter is a mail on its way.
type letter struct {
	mail int
	n    uint64
}

const room = 8 // how many mails may be on their way to one end

// pair is two ends, and what is on its way to each. As a value it can be a map's key.
type pair struct {
	half [2]api.Half
	next [2]uint64
	way  [2][room]letter
	long [2]int
}

func (p pair) ends() (api.Half, api.Half) { return p.half[0], p.half[1] }

func (p pair) still() bool { return p.long[0] == 0 && p.long[1] == 0 }

func (p pair) act(t testing.TB, i, kind int, step uint64) pair {
	t.Helper()
	p.next[i] += step
	to, mail, n, e := Act(p.half[i], kind, p.next[i])
	if e != api.OK {
		t.Fatalf("Act(%v, %d, %d): %v", p.half[i], kind, p.next[i], e)
	}
	if (mail == 0) != (to == p.half[i]) || (mail == 0) != (n == 0) {
		t.Fatalf("Act(%v, %d, %d): %v, %d, %d: a mail goes just where the half changes", p.half[i], kind, p.next[i], to, mail, n)
	}
	p.half[i] = to
	if mail == 0 {
		p.next[i] -= step // a number that nobody took is not gone
		return p
	}
	p.way[1-i][p.long[1-i]] = letter{mail, n}
	p.long[1-i]++
	return p
}

func (p pair) hear(t testing.TB, i int) pair {
	t.Helper()
	l := p.way[i][0]
	if l.mail == api.MailAsk && p.half[i].In != api.None {
		t.Fatalf("%v: a request comes where there is one", p)
	}
	to, tell, e := Hear(p.half[i], l.mail, l.n)
	if e != api.OK {
		t.Fatalf("Hear(%v, %d, %d): %v", p.half[i], l.mail, l.n, e)
	}
	if (tell == 0) != (to == p.half[i]) {
		t.Fatalf("Hear(%v, %d, %d): %v, %d: something is told just where the half changes", p.half[i], l.mail, l.n, to, tell)
	}
	p.half[i] = to
	copy(p.way[i][:], p.way[i][1:])
	p.long[i]--
	p.way[i][p.long[i]] = letter{}
	return p
}

func (p pair) agree(t testing.TB) {
	t.Helper()
	a, b := p.ends()
	if a.Out != b.In || b.Out != a.In || a.N != b.M || b.N != a.M {
		t.Fatalf("nothing is on its way, but %v and %v do not agree", a, b)
	}
}

// Whatever up to so many acts of both ends are, and wherever mails are heard between them.
func TestP155EveryOrder(t *testing.T) {
	const deep = 8
	seen := map[string]bool{}
	now := map[pair]bool{{}: true}
	for depth := range deep + 1 {
		now = withHeard(t, now)
		later := map[pair]bool{}
		for p := range now {
			if p.still() {
				p.agree(t)
				seen[State(p.half[0])] = true
			}
			for i := range 2 {
				for kind := api.Ask; kind <= api.Deny && depth < deep; kind++ {
					later[p.act(t, i, kind, 1)] = true
				}
			}
		}
		now = later
	}
	if len(seen) != 9 {
		t.Errorf("%d states at rest, not 9: %v", len(seen), seen)
	}
}

// withHeard are these pairs, and what they become when mails are heard.
func withHeard(t *testing.T, pairs map[pair]bool) map[pair]bool {
	all := map[pair]bool{}
	var work []pair
	add := func(p pair) {
		if !all[p] {
			all[p] = true
			work = append(work, p)
		}
	}
	for p := range pairs {
		add(p)
	}
	for len(work) > 0 {
		p := work[len(work)-1]
		work = work[:len(work)-1]
		for i := range 2 {
			if p.long[i] > 0 {
				add(p.hear(t, i))
			}
		}
	}
	return all
}

// Long walks, with numbers that rise by any step, up to the highest.
func TestP155LongWalks(t *testing.T) {
	draw := rand.New(rand.NewSource(15))
	for range 200 {
		p := pair{}
		for i := range 2 {
			if draw.Intn(2) == 0 {
				p.next[i] = most - 4000 // not to wrap round within the walk
			}
		}
		for range 1000 {
			i := draw.Intn(2)
			if p.long[1-i] == room || p.long[i] > 0 && draw.Intn(2) == 0 {
				if p.long[i] == 0 {
					i = 1 - i
				}
				p = p.hear(t, i)
			} else {
				p = p.act(t, i, api.Ask+draw.Intn(4), uint64(1+draw.Intn(4)))
			}
			if p.still() {
				p.agree(t)
			}
		}
		for i := range 2 {
			for p.long[i] > 0 {
				p = p.hear(t, i)
			}
		}
		p.agree(t)
	}
}

// R4: an answer hangs on the arguments alone.
func TestR4SameAgain(t *testing.T) {
	for _, h := range rightHalves(7, 9) {
		for kind := api.Ask - 1; kind <= api.Deny+1; kind++ {
			to, mail, n, e := Act(h, kind, 8)
			Act(api.Half{Out: 1}, kind, 8)
			Hear(h, api.MailDeny, 7)
			acts(t, h, kind, 8, to, mail, n, e)
		}
		for mail := api.MailAsk - 1; mail <= api.MailDeny+1; mail++ {
			to, tell, e := Hear(h, mail, 7)
			Act(h, api.Leave, 0)
			Hear(api.Half{M: 1}, mail, 7)
			hears(t, h, mail, 7, to, tell, e)
		}
	}
}
