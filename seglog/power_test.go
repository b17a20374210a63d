package seglog

import (
	"bytes"
	"encoding/binary"
	"fmt"
	"hash/crc32"
	"math/rand"
	"slices"
	"strings"
	"testing"

	"roost/api"
	"roost/disk"
)

// plain is a log as the chapter's words have it: of each call it writes the steps down first, from what stands on its disk, and then takes them.
type plain struct {
	d          *disk.Disk
	room, most int
	g          uint64
	n          int // segments
	recs       []string
	fresh      bool // the last one was appended to since it was synced
	dead       bool
}

func segment(g uint64, i int) string { return fmt.Sprintf("log-%d-%d", g, i) }

// take takes steps up to one that is refused, and tells how many were done.
func (p *plain) take(steps []step) (int, api.Errno) {
	for i, s := range steps {
		if p.dead {
			return i, api.ErrDown
		}
		if e := s(p.d); e != api.OK {
			p.dead = e == api.ErrDown
			return i, e
		}
	}
	return len(steps), api.OK
}

func (p *plain) open() api.Errno {
	names, e := p.d.List()
	if e != api.OK {
		return e
	}
	p.g = 1
	if slices.Contains(names, "base") {
		b, _ := p.d.Read("base")
		if len(b) != 12 || string(b) != based(binary.BigEndian.Uint64(b)) || binary.BigEndian.Uint64(b) == 0 {
			return api.ErrBad
		}
		p.g = binary.BigEndian.Uint64(b)
	}
	for slices.Contains(names, segment(p.g, p.n+1)) {
		p.n++
	}
	var mine []string
	for i := range p.n {
		mine = append(mine, segment(p.g, i+1))
	}
	var steps []step
	for _, name := range names {
		if name == "base.new" || strings.HasPrefix(name, "log-") && !slices.Contains(mine, name) {
			steps = append(steps, removed(name))
		}
	}
	for i, name := range mine {
		b, _ := p.d.Read(name)
		recs, fit := plainRecords(b)
		p.recs = append(p.recs, recs...)
		if fit < len(b) {
			steps = append(steps, cut(name, fit))
			for _, later := range mine[i+1:] {
				steps = append(steps, removed(later))
			}
			p.n = i + 1
			break
		}
	}
	if p.n > 0 {
		steps = append(steps, synced(segment(p.g, p.n)))
	}
	_, e = p.take(steps)
	return e
}

// plainRecords are the records whose forms fit, and how many bytes these have.
func plainRecords(b []byte) (recs []string, fit int) {
	for fit+8 <= len(b) {
		size := int(binary.BigEndian.Uint32(b[fit:]))
		if size > longest || fit+8+size > len(b) {
			break
		}
		rec := b[fit+8 : fit+8+size]
		if crc32.ChecksumIEEE(rec) != binary.BigEndian.Uint32(b[fit+4:]) {
			break
		}
		recs = append(recs, string(rec))
		fit += 8 + size
	}
	return recs, fit
}

func (p *plain) append(rec string) api.Errno {
	if len(rec) > longest {
		return api.ErrBig
	}
	last, _ := p.d.Read(segment(p.g, p.n))
	to := max(p.n, 1)
	var steps []step
	if len(last) > 0 && len(last)+8+len(rec) > p.most {
		to = p.n + 1
		if p.fresh {
			steps = append(steps, synced(segment(p.g, p.n)))
		}
	}
	syncs := len(steps)
	done, e := p.take(append(steps, appended(segment(p.g, to), forms(rec))))
	if syncs == 1 && done > 0 {
		p.fresh = false
	}
	if e == api.OK {
		p.n, p.fresh, p.recs = to, true, append(p.recs, rec)
	}
	return e
}

func (p *plain) commit() api.Errno {
	if !p.fresh {
		return api.OK
	}
	_, e := p.take([]step{synced(segment(p.g, p.n))})
	p.fresh = e != api.OK
	return e
}

func (p *plain) rebase(recs []string) api.Errno {
	for _, rec := range recs {
		if len(rec) > longest {
			return api.ErrBig
		}
	}
	h := p.g + 1
	if h == 0 {
		return api.ErrBad
	}
	left := p.room - p.d.Used()
	n, size := 0, 0
	var steps []step
	full := func(b string) bool { left -= len(b); return left < 0 }
	takeBack := func() api.Errno {
		for i := range n {
			steps = append(steps, removed(segment(h, i+1)))
		}
		if _, e := p.take(steps); e != api.OK {
			return e
		}
		return api.ErrFull
	}
	for _, rec := range recs {
		b := forms(rec)
		next := n == 0 || size+len(b) > p.most
		if next && n > 0 {
			steps = append(steps, synced(segment(h, n)))
		}
		if full(b) {
			return p.unlessDead(takeBack)
		}
		if next {
			n, size = n+1, 0
		}
		steps = append(steps, appended(segment(h, n), b))
		size += len(b)
	}
	if n > 0 {
		steps = append(steps, synced(segment(h, n)))
	}
	if full(based(h)) {
		return p.unlessDead(takeBack)
	}
	steps = append(steps, appended("base.new", based(h)), synced("base.new"), renamed("base.new", "base"))
	turn := len(steps)
	for i := range p.n {
		steps = append(steps, removed(segment(p.g, i+1)))
	}
	done, e := p.take(steps)
	if done >= turn {
		p.g, p.n, p.recs, p.fresh = h, n, slices.Clone(recs), false
	}
	return e
}

// unlessDead is for what would tell of room, which is asked only behind a step that has power.
func (p *plain) unlessDead(do func() api.Errno) api.Errno {
	if _, e := p.d.List(); p.dead || e != api.OK {
		p.dead = true
		return api.ErrDown
	}
	return do()
}

var longRow = strings.Repeat("x", longest+1)

// randomRec is a record, mostly a short one, of bytes that look like heads now and then.
func randomRec(r *rand.Rand) string {
	switch r.Intn(12) {
	case 0:
		return ""
	case 1:
		return string(make([]byte, r.Intn(20)))
	case 2:
		return forms("in it")
	case 3:
		return strings.Repeat("long", r.Intn(20))
	}
	b := make([]byte, r.Intn(14))
	r.Read(b)
	return string(b)
}

func randomRecs(r *rand.Rand) (recs []string) {
	for range r.Intn(7) {
		recs = append(recs, randomRec(r))
	}
	if r.Intn(40) == 0 {
		recs = append(recs, longRow)
	}
	return recs
}

func randomKeep(r *rand.Rand) (keep []int) {
	for range r.Intn(4) {
		keep = append(keep, r.Intn(60)-3)
	}
	return keep
}

// stray changes the files behind a log's back, ahead of an Open.
func stray(r *rand.Rand) []step {
	name := []string{"base.new", "log-", "log-1-1", "log-1-2", "log-1-3", "log-2-1", "log-2-2", "log-3-1", "log-4-9", "log-5-01", "other"}[r.Intn(11)]
	b := []string{"", "x", forms("stray"), forms("stray", ""), forms("stray")[:9], string(make([]byte, 11))}[r.Intn(6)]
	return []step{appended(name, b), appended(name, b), cut(name, r.Intn(20)), removed(name)}[r.Intn(4):][:1]
}

// walk is a log and a plain one, on disks that are treated alike.
type walk struct {
	t     *testing.T
	r     *rand.Rand
	room  int
	most  int
	d     *disk.Disk
	l     *Log
	p     *plain
	trace []string
	seen  map[string]int
}

func (w *walk) did(what string, got, want api.Errno) {
	w.t.Helper()
	w.trace = append(w.trace, fmt.Sprintf("%s: %d", what, want))
	w.seen[fmt.Sprint(what, want)]++
	if got != want {
		w.t.Fatalf("room %d, most %d: %.60q: %v", w.room, w.most, w.trace, got)
	}
}

func (w *walk) open() {
	w.t.Helper()
	w.most = []int{16, 20, 33, 100}[w.r.Intn(4)]
	l, e := Open(w.d, w.most)
	p := &plain{d: w.p.d, room: w.room, most: w.most}
	w.did("open", e, p.open())
	w.l, w.p.d = l, p.d
	if e == api.OK {
		w.p = p
	}
}

// next makes one call; where there is no log, mostly one that may give one.
func (w *walk) next() {
	w.t.Helper()
	r := w.r
	x := r.Intn(30)
	if w.l == nil && x < 24 {
		x = 24 + r.Intn(3)
	}
	switch {
	case x < 14:
		rec := randomRec(r)
		if r.Intn(60) == 0 {
			rec = longRow
		}
		w.did("append", w.l.Append([]byte(rec)), w.p.append(rec))
	case x < 19:
		w.did("commit", w.l.Commit(), w.p.commit())
	case x < 22:
		recs := randomRecs(r)
		w.did("rebase", w.l.Rebase(rows(recs...)), w.p.rebase(recs))
	case x < 24:
		w.open()
	case x < 27:
		keep := randomKeep(r)
		w.d.Restart(keep)
		w.p.d.Restart(keep)
		if r.Intn(3) == 0 {
			for _, s := range stray(r) {
				w.did("stray", s(w.d), s(w.p.d))
			}
		}
		w.open()
	default:
		fuse := r.Intn(12)
		w.did("fuse", w.d.Fuse(fuse), w.p.d.Fuse(fuse))
	}
}

func TestWalksBesideThePlainLog(t *testing.T) {
	r := rand.New(rand.NewSource(111))
	seen := map[string]int{}
	for range 3000 {
		w := &walk{t: t, r: r, room: []int{60, 150, 300, plenty}[r.Intn(4)], seen: seen}
		w.d, w.p = made(t, w.room), &plain{d: made(t, w.room)}
		w.open()
		for range 60 {
			w.next()
			if got, want := told(w.d), told(w.p.d); got != want {
				t.Fatalf("room %d, most %d: %q:\n%s, not\n%s", w.room, w.most, w.trace, got, want)
			}
			if w.l != nil && !slices.Equal(texts(t, w.l), w.p.recs) {
				t.Fatalf("room %d, most %d: %q: %.100q, not %.100q", w.room, w.most, w.trace, texts(t, w.l), w.p.recs)
			}
		}
	}
	for _, what := range []string{"open0", "open13", "append0", "append5", "append8", "append13", "commit0", "commit13", "rebase0", "rebase5", "rebase8", "rebase13"} {
		if seen[what] < 50 {
			t.Errorf("one-sided: %s: %d", what, seen[what])
		}
	}
}

// witness is what must be left of a log, as its calls were answered.
type witness struct {
	recs []string
	safe int      // how many of recs were there at the last Commit, Rebase or Open that was OK
	turn []string // the records of a Rebase within which the power failed
	torn bool
}

// fits says whether these records may be what is left.
func (w *witness) fits(got []string) bool {
	if w.torn && slices.Equal(got, w.turn) {
		return true
	}
	return w.safe <= len(got) && len(got) <= len(w.recs) && slices.Equal(got, w.recs[:len(got)])
}

// act makes one random call, and says whether there was power for it.
func (w *witness) act(t *testing.T, l *Log, r *rand.Rand) bool {
	t.Helper()
	var e api.Errno
	switch x := r.Intn(10); {
	case x < 6:
		rec := randomRec(r)
		e = l.Append([]byte(rec))
		if e == api.OK || e == api.ErrDown { // without power it may be whole all the same
			w.recs = append(w.recs, rec)
		}
	case x < 8:
		e = l.Commit()
		if e == api.OK {
			w.safe = l.Len()
		}
	default:
		recs := randomRecs(r)
		e = l.Rebase(rows(recs...))
		if e == api.OK {
			w.recs, w.safe = recs, len(recs)
		}
		w.turn, w.torn = recs, e == api.ErrDown
	}
	return e != api.ErrDown
}

// reopened opens till the power lasts for it, with another failure now and then within, and asks each time what is there.
func (w *witness) reopened(t *testing.T, d *disk.Disk, most int, r *rand.Rand) *Log {
	t.Helper()
	for {
		if r.Intn(3) > 0 {
			is(t, "Fuse", d.Fuse(r.Intn(6)), api.OK)
		}
		l, e := Open(d, most)
		if e == api.ErrDown {
			d.Restart(randomKeep(r))
			continue
		}
		is(t, "Open", e, api.OK)
		got := texts(t, l)
		if !w.fits(got) {
			t.Fatalf("%.20q are left of %.20q, of which %d were safe (torn %v: %.20q)", got, w.recs, w.safe, w.torn, w.turn)
		}
		*w = witness{recs: got, safe: len(got)}
		return l
	}
}

// settled asks that another Open changes nothing but that it takes the step of its Sync.
func settled(t *testing.T, d *disk.Disk, most int, recs []string) {
	t.Helper()
	for range 2 {
		d.Restart(nil) // so that there is no fuse; and what was there when Open was OK is safe
		names, _ := d.List()
		var files []string
		for _, name := range names {
			b, _ := d.Read(name)
			files = append(files, string(b))
		}
		steps := d.Steps()
		holds(t, opened(t, d, most), recs...)
		lists(t, d, names...)
		for i, name := range names {
			reads(t, d, name, files[i])
		}
		if d.Steps() > steps+1 {
			t.Errorf("Open again: %d steps", d.Steps()-steps)
		}
	}
}

func TestP116WhateverThePowerDoes(t *testing.T) {
	r := rand.New(rand.NewSource(116))
	torn := 0
	for range 4000 {
		room, most := []int{100, 200, plenty}[r.Intn(3)], []int{16, 24, 40, 200}[r.Intn(4)]
		d, w := made(t, room), &witness{}
		l := opened(t, d, most)
		for range 80 {
			if r.Intn(10) == 0 {
				is(t, "Fuse", d.Fuse(r.Intn(14)), api.OK)
			}
			if w.act(t, l, r) {
				if r.Intn(15) == 0 {
					l = w.reopened(t, d, most, r) // with no Restart ahead of it
				}
				continue
			}
			if w.torn {
				torn++
			}
			d.Restart(randomKeep(r))
			l = w.reopened(t, d, most, r)
			if r.Intn(3) == 0 {
				settled(t, d, most, w.recs)
				l = opened(t, d, most)
			}
		}
	}
	if torn < 1000 {
		t.Error("one-sided:", torn)
	}
}

// The power fails behind each number of steps of one run, and what was not safe is kept to each number of bytes.
func TestP116EveryStepAndKeep(t *testing.T) {
	first, second := []string{"one", "two", "", "four", "five"}, []string{"n1", "n2", "n3"}
	run := func(l *Log) (w witness) {
		lays := func(recs ...string) bool {
			for _, rec := range recs {
				w.recs = append(w.recs, rec)
				if l.Append([]byte(rec)) != api.OK {
					return false
				}
			}
			return true
		}
		if !lays(first[:3]...) || l.Commit() != api.OK {
			return w
		}
		w.safe = 3
		if !lays(first[3:]...) {
			return w
		}
		if l.Rebase(rows(second...)) != api.OK {
			w.turn, w.torn = second, true
			return w
		}
		w.recs, w.safe = slices.Clone(second), 3
		lays("n4", "n5")
		return w
	}
	whole := made(t, plenty)
	run(opened(t, whole, 24))
	outcomes := map[string]int{}
	for fuse := range whole.Steps() + 1 {
		for kept := range 30 {
			for _, more := range []int{0, 1, 9, 12, 100} {
				d := made(t, plenty)
				l := opened(t, d, 24)
				is(t, "Fuse", d.Fuse(fuse), api.OK)
				w := run(l)
				d.Restart([]int{kept, more, more})
				got := texts(t, opened(t, d, 24))
				outcomes[fmt.Sprint(got)]++
				if !w.fits(got) {
					t.Fatalf("fuse %d, keep %d, %d: %q of %q, safe %d", fuse, kept, more, got, w.recs, w.safe)
				}
				settled(t, d, 24, got)
			}
		}
	}
	for _, want := range [][]string{nil, first[:1], first[:3], first[:4], first, second, {"n1", "n2", "n3", "n4"}, {"n1", "n2", "n3", "n4", "n5"}} {
		if outcomes[fmt.Sprint(want)] == 0 {
			t.Errorf("%q never came out: %v", want, outcomes)
		}
	}
}

func TestR2ArgumentsAreNotChangedAndNotKept(t *testing.T) {
	d := made(t, plenty)
	l := opened(t, d, 100)
	whole := []byte("recordspare")
	is(t, "Append", l.Append(whole[:6]), api.OK)
	if string(whole) != "recordspare" {
		t.Errorf("Append changed its argument: %q", whole)
	}
	copy(whole, "###########")
	holds(t, l, "record")
	reads(t, d, "log-1-1", forms("record"))

	parts := [][]byte{[]byte("onespare"), []byte("twospare"), nil, []byte("spare")}
	recs := [][]byte{parts[0][:3], parts[1][:3], nil, parts[3]}
	is(t, "Rebase", l.Rebase(recs[:3]), api.OK)
	if string(bytes.Join(parts, nil)) != "onesparetwosparespare" || string(bytes.Join(recs, nil)) != "onetwospare" || len(recs[0]) != 3 {
		t.Errorf("Rebase changed its argument: %q, %q", parts, recs)
	}
	for i := range parts[:2] {
		copy(parts[i], "########")
		recs[i] = []byte("other")
	}
	holds(t, l, "one", "two", "")
	lay(t, l, "more")
	if string(recs[3]) != "spare" {
		t.Errorf("the list's spare room was written to: %q", recs[3])
	}
	reads(t, d, "log-2-1", forms("one", "two", "", "more"))
}

// overwrite fills an answer with its spare room, and so tells whose memory it is.
func overwrite(b []byte) {
	b = b[:cap(b)]
	for i := range b {
		b[i] = '#'
	}
}

func TestR2AnswersAreNew(t *testing.T) {
	d := made(t, plenty)
	want := []string{"", "a", "bc", "def", "", "01234567890123456789"}
	l := lay(t, opened(t, d, 30), want...)
	check := func(l *Log) {
		t.Helper()
		for i := range want {
			one, _ := l.At(i)
			two, _ := l.At(i)
			overwrite(one)
			if string(two) != want[i] {
				t.Errorf("two answers share memory: %q", two)
			}
			overwrite(two)
			holds(t, l, want...)
		}
	}
	check(l)
	check(opened(t, d, 30))
	is(t, "Rebase", l.Rebase(rows(want...)), api.OK)
	check(l)
	check(opened(t, d, 30))
	for i := range want {
		b, _ := d.Read("log-2-" + fmt.Sprint(i))
		overwrite(b)
	}
	check(opened(t, d, 30))
}

// Records that were told may be handed in again, in the place of themselves.
func TestR2RebaseOfItsOwn(t *testing.T) {
	d := made(t, plenty)
	l := lay(t, opened(t, d, 20), "one", "two", "three")
	var recs [][]byte
	for i := range l.Len() {
		b, _ := l.At(l.Len() - 1 - i)
		recs = append(recs, b)
	}
	is(t, "Rebase", l.Rebase(recs), api.OK)
	holds(t, l, "three", "two", "one")
	holds(t, opened(t, d, 20), "three", "two", "one")
}

func TestR4LogsAreApart(t *testing.T) {
	one, two := made(t, plenty), made(t, plenty)
	a, b := opened(t, one, 16), opened(t, two, 100)
	lay(t, a, "one", "two")
	lay(t, b, "other")
	is(t, "Rebase", b.Rebase(rows("b")), api.OK)
	cutOff(t, two)
	is(t, "Append", b.Append(nil), api.ErrDown)
	holds(t, lay(t, a, "three"), "one", "two", "three")
	is(t, "Commit", a.Commit(), api.OK)
	lists(t, one, "log-1-1", "log-1-2", "log-1-3")
	holds(t, b, "b")
}

// With many files a map goes through them in ever another order: which of them are gone when the power fails must not hang on it.
func TestR4OrderOfMaps(t *testing.T) {
	var first string
	for range 30 {
		d := made(t, plenty)
		for i := range 40 {
			putFile(t, d, segment(1, i+1), forms(fmt.Sprint(i)))
			putFile(t, d, segment(2, i+1), forms(fmt.Sprint(i)))
			putFile(t, d, segment(1, i+50), "")
		}
		is(t, "Fuse", d.Fuse(27), api.OK)
		if l, e := Open(d, 100); l != nil || e != api.ErrDown {
			t.Fatal(e)
		}
		d.Restart(nil)
		if first == "" {
			first = told(d)
		}
		if now := told(d); now != first {
			t.Fatalf("%s, not %s", now, first)
		}
	}
}
