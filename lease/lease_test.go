package lease

import (
	"math"
	"math/rand"
	"slices"
	"strconv"
	"strings"
	"testing"
	"unsafe"

	"roost/api"
)

// In the tests' names stands which promise they hold.

const (
	huge  = math.MaxFloat64
	least = math.SmallestNonzeroFloat64
)

var (
	inf   = math.Inf(1)
	nan   = math.NaN()
	minus = math.Copysign(0, -1)
)

// same holds floats against each other by their bits: -0 is not 0.
func same(x, y float64) bool { return math.Float64bits(x) == math.Float64bits(y) }

func sets(t testing.TB, h *Heap, key string, end float64, want api.Errno) {
	t.Helper()
	if e := h.Set(key, end); e != want {
		t.Errorf("Set(%q, %v): %v, not %v", key, end, e, want)
	}
}

// lays sets leases that all have the same end.
func lays(t testing.TB, h *Heap, end float64, keys ...string) {
	t.Helper()
	for _, key := range keys {
		sets(t, h, key, end, api.OK)
	}
}

func drops(t testing.TB, h *Heap, key string, want bool) {
	t.Helper()
	if had := h.Drop(key); had != want {
		t.Errorf("Drop(%q): %v, not %v", key, had, want)
	}
}

func ends(t testing.TB, h *Heap, key string, want float64, known bool) {
	t.Helper()
	if end, ok := h.End(key); !same(end, want) || ok != known {
		t.Errorf("End(%q): %v, %v, not %v, %v", key, end, ok, want, known)
	}
}

func nexts(t testing.TB, h *Heap, want float64, known bool) {
	t.Helper()
	if end, ok := h.Next(); !same(end, want) || ok != known {
		t.Errorf("Next: %v, %v, not %v, %v", end, ok, want, known)
	}
}

// dues asks for the keys as one text, with a blank between two.
func dues(t testing.TB, h *Heap, now float64, want string) {
	t.Helper()
	keys := h.Due(now)
	if got := strings.Join(keys, " "); got != want || len(keys) != len(strings.Fields(want)) {
		t.Errorf("Due(%v): %q, not %q", now, keys, want)
	}
}

func lens(t testing.TB, h *Heap, want int) {
	t.Helper()
	if n := h.Len(); n != want {
		t.Errorf("Len: %d, not %d", n, want)
	}
}

func untils(t testing.TB, now, seconds, want float64, e api.Errno) {
	t.Helper()
	if end, got := Until(now, seconds); !same(end, want) || got != e {
		t.Errorf("Until(%v, %v): %v, %v, not %v, %v", now, seconds, end, got, want, e)
	}
}

func TestRuns(t *testing.T) {
	h := New()
	sets(t, h, "a", 2, api.OK)
	sets(t, h, "b", 1, api.OK)
	sets(t, h, "c", 2, api.OK)
	sets(t, h, "d", inf, api.OK)
	nexts(t, h, 1, true)
	dues(t, h, 2, "b a c")
	lens(t, h, 1)
	dues(t, h, inf, "d")

	h = New()
	sets(t, h, "a", nan, api.ErrArg)
	dues(t, h, nan, "")

	h = New()
	sets(t, h, "a", 0, api.OK)
	sets(t, h, "b", minus, api.OK)
	dues(t, h, minus, "a b")

	h = New()
	lays(t, h, 1, "a", "b", "a")
	dues(t, h, 1, "b a")

	untils(t, 5, 2, 7, api.OK)
	untils(t, 5, -1, 5, api.OK)
	untils(t, 5, nan, 0, api.ErrArg)
	untils(t, inf, 1, 0, api.ErrArg)
	untils(t, 5, inf, inf, api.OK)
}

// Example 1: an end of -Inf is due at any now that is not NaN.
func TestExamplesLongPast(t *testing.T) {
	for _, now := range []float64{-inf, -huge, -1, minus, 0, least, 1, huge, inf} {
		h := New()
		sets(t, h, "a", -inf, api.OK)
		dues(t, h, nan, "")
		lens(t, h, 1)
		dues(t, h, now, "a")
		lens(t, h, 0)
	}
}

// Example 2: the same end again puts a lease behind the others with it.
func TestExamplesSameEndAgain(t *testing.T) {
	for _, end := range []float64{-inf, -1, minus, 0, 7.5, inf} {
		h := New()
		lays(t, h, end, "a", "b", "c", "d")
		lays(t, h, end, "b", "a")
		lens(t, h, 4)
		dues(t, h, end, "c d b a")
	}
}

func TestP141NothingThere(t *testing.T) {
	h := New()
	lens(t, h, 0)
	drops(t, h, "a", false)
	drops(t, h, "", false)
	ends(t, h, "a", 0, false)
	nexts(t, h, 0, false)
	dues(t, h, inf, "")
}

func TestP141EndAsItWasSet(t *testing.T) {
	h := New()
	for _, end := range []float64{-inf, -huge, -1, -least, minus, 0, least, 0.1, huge, inf} {
		sets(t, h, "a", end, api.OK) // each in the place of the one before
		ends(t, h, "a", end, true)
		nexts(t, h, end, true)
		lens(t, h, 1)
		ends(t, h, "b", 0, false)
	}
}

// A key is any text; only the same bytes are the same key.
func TestP141Keys(t *testing.T) {
	keys := []string{"", "a", "A", "a\x00", "\x00", "\xff\xfe", "a b", "\u00e9", "e\u0301", strings.Repeat("a", 100000)}
	h := New()
	for i, key := range keys {
		drops(t, h, key, false)
		sets(t, h, key, float64(-i), api.OK)
		lens(t, h, i+1)
	}
	for i, key := range keys {
		ends(t, h, key, float64(-i), true)
	}
	slices.Reverse(keys)
	if got := h.Due(0); !slices.Equal(got, keys) {
		t.Errorf("Due: %q", got)
	}
}

func TestP141Drop(t *testing.T) {
	h := New()
	lays(t, h, 1, "a", "b", "c", "d", "e")
	drops(t, h, "c", true)
	drops(t, h, "c", false)
	ends(t, h, "c", 0, false)
	ends(t, h, "b", 1, true)
	lens(t, h, 4)
	drops(t, h, "a", true)
	drops(t, h, "e", true)
	lens(t, h, 2)
	lays(t, h, 1, "a") // as new: behind the others
	dues(t, h, 1, "b d a")
	drops(t, h, "b", false) // what was told is gone
	lens(t, h, 0)
	nexts(t, h, 0, false)
}

// A refused Set leaves what was there, and its place among those with the same end.
func TestR3SetToNaN(t *testing.T) {
	h := New()
	lays(t, h, 1, "a", "b")
	for _, bits := range []uint64{0x7ff8000000000001, 0xfff8000000000000, 0x7ff0000000000001, 0xffffffffffffffff} {
		sets(t, h, "a", math.Float64frombits(bits), api.ErrArg)
		sets(t, h, "c", math.Float64frombits(bits), api.ErrArg)
	}
	ends(t, h, "a", 1, true)
	ends(t, h, "c", 0, false)
	lens(t, h, 2)
	nexts(t, h, 1, true)
	dues(t, h, 1, "a b")
}

func TestP142EndsAtTheEdges(t *testing.T) {
	rising := []float64{-inf, -huge, -1, -least, 0, least, 1, math.Nextafter(1, 2), huge, inf}
	for i, now := range rising {
		h := New()
		for k := range rising {
			at := (k*7 + 3) % len(rising) // all of them, not as they rise
			sets(t, h, strconv.Itoa(at), rising[at], api.OK)
		}
		nexts(t, h, -inf, true)
		var want []string
		for k := range i + 1 {
			want = append(want, strconv.Itoa(k))
		}
		dues(t, h, now, strings.Join(want, " "))
		lens(t, h, len(rising)-i-1)
		if i+1 < len(rising) {
			nexts(t, h, rising[i+1], true)
		}
	}
}

// -0 and 0 are the same in the order, and are told as they were set.
func TestP142Zeros(t *testing.T) {
	h := New()
	sets(t, h, "a", 0, api.OK)
	sets(t, h, "b", minus, api.OK)
	sets(t, h, "c", 0, api.OK)
	nexts(t, h, 0, true)
	ends(t, h, "b", minus, true)
	sets(t, h, "a", minus, api.OK)
	nexts(t, h, minus, true)
	dues(t, h, -least, "")
	drops(t, h, "b", true)
	nexts(t, h, 0, true)
	dues(t, h, minus, "c a")

	sets(t, h, "a", minus, api.OK)
	sets(t, h, "b", 0, api.OK)
	dues(t, h, 0, "a b")
}

func TestP142DueOfNaN(t *testing.T) {
	h := New()
	for i, end := range []float64{-inf, minus, 1, inf} {
		sets(t, h, strconv.Itoa(i), end, api.OK)
	}
	for _, now := range []float64{nan, math.Copysign(nan, -1)} {
		if keys := h.Due(now); len(keys) != 0 {
			t.Errorf("Due of NaN: %q", keys)
		}
	}
	lens(t, h, 4)
	dues(t, h, inf, "0 1 2 3")
}

// An end may go back or on; the lease goes where the new one puts it.
func TestP142OtherEnd(t *testing.T) {
	h := New()
	lays(t, h, 5, "a", "b", "c")
	sets(t, h, "c", 1, api.OK)
	nexts(t, h, 1, true)
	sets(t, h, "c", 9, api.OK)
	nexts(t, h, 5, true)
	sets(t, h, "a", 9, api.OK)
	sets(t, h, "a", 5, api.OK) // back, but set behind b
	lens(t, h, 3)
	dues(t, h, 8, "b a")
	dues(t, h, 9, "c")
}

func TestP143Until(t *testing.T) {
	for _, x := range []float64{nan, math.Copysign(nan, -1)} {
		for _, other := range []float64{-inf, -1, minus, 0, 1, inf, nan} {
			untils(t, x, other, 0, api.ErrArg)
			untils(t, other, x, 0, api.ErrArg)
		}
	}
	for _, seconds := range []float64{-inf, -1, minus, 0, 1, inf} {
		untils(t, inf, seconds, 0, api.ErrArg)
		untils(t, -inf, seconds, 0, api.ErrArg)
	}
	for _, now := range []float64{-huge, -5, -least, minus, 0, least, 5, huge} {
		for _, seconds := range []float64{-inf, -huge, -1, -least, minus, 0} {
			untils(t, now, seconds, now, api.OK)
		}
		untils(t, now, inf, inf, api.OK)
	}
	untils(t, minus, least, least, api.OK)
	untils(t, -2, 2, 0, api.OK)
	untils(t, 0.1, 0.2, 0.30000000000000004, api.OK)
	untils(t, 1e16, 1, 1e16, api.OK) // too little to be seen
	untils(t, huge, huge, inf, api.OK)
	untils(t, -huge, huge, 0, api.OK)
	untils(t, huge, 1, huge, api.OK)
}

// A lease of +Inf seconds is never due, but for a Due of +Inf; one of -0 is at once.
func TestP143NeverAndAtOnce(t *testing.T) {
	h := New()
	for i, seconds := range []float64{inf, minus, 1} {
		end, e := Until(5, seconds)
		if e != api.OK {
			t.Fatal(e)
		}
		sets(t, h, strconv.Itoa(i), end, api.OK)
	}
	dues(t, h, 5, "1")
	dues(t, h, huge, "2")
	dues(t, h, inf, "0")
}

// plain is what the chapter's words say, with nothing but a list: leases as they were set.
type plain []lease

func (p plain) find(key string) int {
	return slices.IndexFunc(p, func(l lease) bool { return l.key == key })
}

func (p *plain) drop(key string) bool {
	at := p.find(key)
	if at < 0 {
		return false
	}
	*p = slices.Delete(*p, at, at+1)
	return true
}

func (p *plain) set(key string, end float64) api.Errno {
	if end != end {
		return api.ErrArg
	}
	p.drop(key)
	*p = append(*p, lease{key: key, end: end})
	return api.OK
}

// first is the place of the one that comes first; it is there.
func (p plain) first() int {
	first := 0
	for i, l := range p {
		if l.end < p[first].end {
			first = i
		}
	}
	return first
}

func (p *plain) due(now float64) (keys []string) {
	for len(*p) > 0 && (*p)[p.first()].end <= now {
		key := (*p)[p.first()].key
		keys = append(keys, key)
		p.drop(key)
	}
	return keys
}

// agree holds everything that can be asked without a change against the list.
func agree(t *testing.T, h *Heap, p plain, keys []string) {
	t.Helper()
	lens(t, h, len(p))
	if len(p) == 0 {
		nexts(t, h, 0, false)
	} else {
		nexts(t, h, p[p.first()].end, true)
	}
	for _, key := range keys {
		if at := p.find(key); at < 0 {
			ends(t, h, key, 0, false)
		} else {
			ends(t, h, key, p[at].end, true)
		}
	}
}

func keysOf(n int) (keys []string) {
	for i := range n {
		keys = append(keys, "k"+strconv.Itoa(i))
	}
	return keys
}

func endOf(r *rand.Rand) float64 {
	edges := []float64{-inf, -huge, -least, minus, 0, least, huge, inf, nan}
	if r.Intn(4) == 0 {
		return edges[r.Intn(len(edges))]
	}
	return float64(r.Intn(12) - 4)
}

func TestP142AgainstAList(t *testing.T) {
	r := rand.New(rand.NewSource(14))
	var refused, moved, dropped, missed, told, none int
	for range 200 {
		h, p := New(), plain{}
		keys := keysOf(1 + r.Intn(30))
		for range 150 {
			key := keys[r.Intn(len(keys))]
			switch r.Intn(12) {
			case 0, 1:
				had := p.drop(key)
				drops(t, h, key, had)
				count(had, &dropped, &missed)
			case 2:
				now := endOf(r)
				want := p.due(now)
				dues(t, h, now, strings.Join(want, " "))
				count(len(want) > 0, &told, &none)
			default:
				end := endOf(r)
				if p.find(key) >= 0 {
					moved++
				}
				e := p.set(key, end)
				sets(t, h, key, end, e)
				count(e != api.OK, &refused, nil)
			}
			agree(t, h, p, keys)
		}
		dues(t, h, inf, strings.Join(p.due(inf), " "))
		lens(t, h, 0)
		if t.Failed() {
			return
		}
	}
	if least := min(refused, moved, dropped, missed, told, none); least < 500 {
		t.Error("too few of a kind:", refused, moved, dropped, missed, told, none)
	}
}

func count(so bool, yes, no *int) {
	switch {
	case so:
		*yes++
	case no != nil:
		*no++
	}
}

// Drop takes leases out of the midst: those that stay must still come in their order.
func TestP142DropFromAnywhere(t *testing.T) {
	r := rand.New(rand.NewSource(41))
	for n := range 40 {
		for out := range n {
			h, p := New(), plain{}
			keys := keysOf(n)
			for _, key := range keys {
				end := float64(r.Intn(n))
				sets(t, h, key, end, p.set(key, end))
			}
			drops(t, h, keys[out], p.drop(keys[out]))
			dues(t, h, inf, strings.Join(p.due(inf), " "))
		}
	}
}

func TestP144StepsThatRise(t *testing.T) {
	r := rand.New(rand.NewSource(144))
	for range 300 {
		once, steps := New(), New()
		for _, key := range keysOf(r.Intn(50)) {
			end := endOf(r)
			if e := once.Set(key, end); e != steps.Set(key, end) {
				t.Fatal("Set:", key, end, e)
			}
		}
		var nows []float64
		for range 1 + r.Intn(8) {
			nows = append(nows, endOf(r))
		}
		slices.Sort(nows) // the NaNs first: they tell nothing
		var told []string
		for _, now := range nows {
			told = append(told, steps.Due(now)...)
			if again := steps.Due(now); len(again) != 0 {
				t.Fatalf("Due(%v) again: %q", now, again)
			}
		}
		last := nows[len(nows)-1]
		if want := once.Due(last); !slices.Equal(told, want) {
			t.Fatalf("Due in steps %v: %q, at once %q", nows, told, want)
		}
		if steps.Len() != once.Len() {
			t.Fatal("Len:", steps.Len(), once.Len())
		}
		if again := steps.Due(last); len(again) != 0 {
			t.Fatalf("told again: %q", again)
		}
	}
}

// A key that was told may be set anew, and is told anew then.
func TestP144ToldThenSet(t *testing.T) {
	h := New()
	lays(t, h, 1, "a", "b")
	dues(t, h, 1, "a b")
	lays(t, h, 0, "b")
	dues(t, h, 1, "b")
	dues(t, h, 1, "")
}

func TestMany(t *testing.T) {
	const n = 200000
	h := New()
	keys := keysOf(n)
	for i, key := range keys {
		sets(t, h, key, float64(i*7919%n), api.OK)
	}
	for i := 0; i < n; i += 2 {
		drops(t, h, keys[i], true)
	}
	lens(t, h, n/2)
	told := h.Due(inf)
	if len(told) != n/2 {
		t.Fatal("Due:", len(told))
	}
	last := -1
	for _, key := range told {
		i, _ := strconv.Atoi(key[1:])
		if at := i * 7919 % n; i%2 == 0 || at <= last {
			t.Fatal("told out of its order:", key)
		} else {
			last = at
		}
	}
}

// Keys that are changed behind the call's back do not change what is kept.
func TestR2KeyIsNotKept(t *testing.T) {
	room := []byte("key")
	key := unsafe.String(&room[0], len(room))
	h := New()
	sets(t, h, key, 1, api.OK)
	copy(room, "xyz")
	ends(t, h, "key", 1, true)
	ends(t, h, "xyz", 0, false)

	copy(room, "key")
	sets(t, h, key, 2, api.OK) // the same key, by other memory
	copy(room, "xyz")
	ends(t, h, "key", 2, true)

	copy(room, "key")
	drops(t, h, key, true)
	sets(t, h, key, 3, api.OK)
	copy(room, "xyz")
	dues(t, h, 3, "key")
	if string(room) != "xyz" {
		t.Error("the key was changed:", room)
	}
}

// What Due told is new memory, its spare room too, and stays as it is whatever comes then.
func TestR2ToldIsNew(t *testing.T) {
	h := New()
	lays(t, h, 1, "a", "b", "c")
	lays(t, h, 2, "d", "e", "f")
	first := h.Due(1)
	second := h.Due(2)
	for _, list := range [][]string{first[:cap(first)], second[:cap(second)]} {
		for i := len(list) - 1; i >= 0; i-- {
			list[i] = "x" + list[i]
		}
	}
	if got := strings.Join(first, " ") + " " + strings.Join(second, " "); got != "xa xb xc xd xe xf" {
		t.Error(got)
	}
	lays(t, h, 1, "a", "b", "c")
	dues(t, h, 1, "a b c")
	if first[0] != "xa" {
		t.Error(first)
	}
}

// No two answers share a text, and none shares one with what is still kept.
func TestR2ToldTexts(t *testing.T) {
	h := New()
	lays(t, h, 1, "abc")
	first := h.Due(1)[0]
	lays(t, h, 1, first)
	second := h.Due(1)[0]
	if first != second || unsafe.StringData(first) == unsafe.StringData(second) {
		t.Error("shared:", first, second)
	}
}

// What is gone leaves nothing behind in the room that it had.
func TestNothingOfTheGoneIsKept(t *testing.T) {
	h := New()
	lays(t, h, 1, keysOf(20)...)
	drops(t, h, "k3", true)
	h.Due(1)
	for i, l := range h.order[:cap(h.order)] {
		if l != nil {
			t.Error("still kept:", i, l.key)
		}
	}
}

func TestR4Apart(t *testing.T) {
	a, b := New(), New()
	lays(t, a, 1, "x", "y")
	lens(t, b, 0)
	lays(t, b, 1, "y", "x")
	drops(t, a, "y", true)
	ends(t, b, "y", 1, true)
	dues(t, b, 1, "y x")
	dues(t, a, 1, "x")
}

// The same calls are answered the same each time, whatever the maps' order.
func TestR4SameAgain(t *testing.T) {
	walk := func() (out []string) {
		r := rand.New(rand.NewSource(4))
		h := New()
		for range 2000 {
			key := "k" + strconv.Itoa(r.Intn(100))
			switch r.Intn(20) {
			case 0:
				out = append(out, h.Due(float64(r.Intn(5)))...)
			case 1:
				h.Drop(key)
			default:
				h.Set(key, float64(r.Intn(10)))
			}
		}
		return append(out, h.Due(inf)...)
	}
	want := walk()
	for range 5 {
		if got := walk(); !slices.Equal(got, want) {
			t.Fatalf("%q, not %q", got, want)
		}
	}
}

func TestR1NothingPanics(t *testing.T) {
	h := New()
	for _, x := range []float64{nan, -inf, minus, 0, inf} {
		for _, y := range []float64{nan, -inf, minus, 0, inf} {
			Until(x, y)
			h.Set("", x)
			h.Set("\xff", y)
			h.Due(y)
			h.Next()
			h.End("")
			h.Drop("\xff")
			h.Due(x)
			h.Len()
		}
	}
}
