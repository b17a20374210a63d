package kv

import (
	"bytes"
	"fmt"
	"maps"
	"math/rand"
	"slices"
	"strings"
	"testing"
	"unsafe"

	"roost/api"
	"roost/disk"
	"roost/seglog"
)

// plain is a store as the chapter's words have it: a map, and beside it a log to which records are written by hand.
type plain struct {
	d *disk.Disk
	l *seglog.Log
	m map[string]string
}

func (p *plain) open(most int) api.Errno {
	l, e := seglog.Open(p.d, most)
	if e != api.OK {
		return e
	}
	m := map[string]string{}
	for i := range l.Len() {
		rec, _ := l.At(i)
		batch, ok := plainBatch(string(rec))
		if !ok {
			return api.ErrBad
		}
		plainDo(m, batch)
	}
	p.l, p.m = l, m
	return api.OK
}

func (p *plain) do(batch []api.Change) api.Errno {
	if len(batch) == 0 || len(batch) > 4096 {
		return api.ErrArg
	}
	for _, c := range batch {
		if len(c.Key) == 0 {
			return api.ErrName
		}
		if len(c.Key) > longKey || !c.Drop && len(c.Value) > longValue {
			return api.ErrBig
		}
	}
	rec := plainRecord(batch)
	if len(rec) > longRecord {
		return api.ErrBig
	}
	e := p.l.Append([]byte(rec))
	if e == api.OK {
		plainDo(p.m, batch)
	}
	return e
}

func (p *plain) compact() api.Errno {
	var recs [][]byte
	for _, rec := range plainRecords(p.m) {
		recs = append(recs, []byte(rec))
	}
	return p.l.Rebase(recs)
}

func randomKey(r *rand.Rand) string {
	return []string{"a", "b", "c", "ab", "a\x00", "a\xff", "\x00", "\xff", "b/c", strings.Repeat("k", longKey)}[min(r.Intn(10), r.Intn(12))]
}

func randomChange(r *rand.Rand) api.Change {
	value := make([]byte, min(r.Intn(30), r.Intn(30)))
	r.Read(value)
	return api.Change{Key: randomKey(r), Value: value, Drop: r.Intn(3) == 0}
}

// randomBatch is mostly a short one; now and then one that must be refused.
func randomBatch(r *rand.Rand) (batch []api.Change) {
	for range r.Intn(5) {
		batch = append(batch, randomChange(r))
	}
	switch r.Intn(40) {
	case 0:
		batch = append(batch, put("", "x"))
	case 1:
		batch = append(batch, drop(long(longKey+1)))
	case 2:
		batch = append(batch, put("a", long(longValue+1)))
	case 3:
		batch = append(batch, api.Change{Key: "a", Value: make([]byte, longValue+1), Drop: true})
	}
	return batch
}

func randomKeep(r *rand.Rand) (keep []int) {
	for range r.Intn(4) {
		keep = append(keep, r.Intn(80)-3)
	}
	return keep
}

// walk is a store and a plain one, on disks that are treated alike.
type walk struct {
	t     *testing.T
	r     *rand.Rand
	d     *disk.Disk
	s     *Store
	p     *plain
	trace []string
	seen  map[string]int
}

func (w *walk) did(what string, got, want api.Errno) {
	w.t.Helper()
	w.trace = append(w.trace, fmt.Sprintf("%s: %d", what, want))
	w.seen[fmt.Sprint(what, want)]++
	if got != want {
		w.t.Fatalf("%q: %v", w.trace, got)
	}
}

func (w *walk) open() {
	w.t.Helper()
	most := []int{16, 40, 100, 1000}[w.r.Intn(4)]
	s, e := Open(w.d, most)
	w.did("open", e, w.p.open(most))
	if (s == nil) != (e != api.OK) {
		w.t.Fatalf("%q: a Store and an error, or none of them", w.trace)
	}
	w.s = s
}

// next makes one call; where there is no store, one that may give one.
func (w *walk) next() {
	w.t.Helper()
	r := w.r
	x := r.Intn(34)
	if w.s == nil {
		x = 28
	}
	switch {
	case x < 16:
		batch := randomBatch(r)
		w.did("do", w.s.Do(batch), w.p.do(batch))
	case x < 20:
		w.did("commit", w.s.Commit(), w.p.l.Commit())
	case x < 24:
		w.did("compact", w.s.Compact(), w.p.compact())
	case x < 26:
		w.open()
	case x < 30:
		keep := randomKeep(r)
		w.d.Restart(keep)
		w.p.d.Restart(keep)
		if r.Intn(10) == 0 {
			w.stray()
		}
		w.open()
	default:
		fuse := r.Intn(10)
		w.did("fuse", w.d.Fuse(fuse), w.p.d.Fuse(fuse))
	}
}

// stray lays a record behind the log, which is a batch's or is none; one that is none goes again with all files.
func (w *walk) stray() {
	w.t.Helper()
	rec := []string{"", "\x00", "\x01\x01a\x01", "\x01\x01a\x00", "\x01\x00\x00", "\x01\x01a\x00z"}[w.r.Intn(6)]
	for _, d := range []*disk.Disk{w.d, w.p.d} {
		if l, e := seglog.Open(d, 1000); e == api.OK {
			l.Append([]byte(rec))
		}
	}
	w.open()
	if w.s != nil {
		return
	}
	names, _ := w.d.List()
	for _, name := range names {
		w.did("remove", w.d.Remove(name), w.p.d.Remove(name))
	}
}

// same holds all that the store and its disk tell against the plain ones.
func (w *walk) same() {
	w.t.Helper()
	if got, want := told(w.d), told(w.p.d); got != want {
		w.t.Fatalf("%q:\n%s, not\n%s", w.trace, got, want)
	}
	if w.s == nil {
		return
	}
	if got := said(w.t, w.s); !maps.Equal(got, w.p.m) {
		w.t.Fatalf("%q: %q, not %q", w.trace, got, w.p.m)
	}
	if got, want := w.s.Waste(), w.p.l.Len()-len(plainRecords(w.p.m)); got != want {
		w.t.Fatalf("%q: Waste %d, not %d", w.trace, got, want)
	}
	with := randomKey(w.r)
	var want []string
	for _, key := range slices.Sorted(maps.Keys(w.p.m)) {
		if strings.HasPrefix(key, with) {
			want = append(want, key)
		}
	}
	if got := w.s.Keys(with); !slices.Equal(got, want) {
		w.t.Fatalf("%q: Keys(%q): %q, not %q", w.trace, with, got, want)
	}
	value, there := w.s.Get(with)
	if known, is := w.p.m[with]; string(value) != known || there != is {
		w.t.Fatalf("%q: Get(%q): %q, %v", w.trace, with, value, there)
	}
}

func TestWalksBesideThePlainStore(t *testing.T) {
	r := rand.New(rand.NewSource(12))
	seen := map[string]int{}
	for range 1500 {
		room := []int{150, 400, 1000, plenty}[r.Intn(4)]
		w := &walk{t: t, r: r, d: made(t, room), p: &plain{d: made(t, room)}, seen: seen}
		w.open()
		for range 60 {
			w.next()
			w.same()
		}
	}
	for _, what := range []string{"open0", "open13", "open14", "do0", "do1", "do4", "do5", "do8", "do13", "commit0", "commit13", "compact0", "compact8", "compact13"} {
		if seen[what] < 50 {
			t.Errorf("one-sided: %s: %d", what, seen[what])
		}
	}
}

// witness is what may be left of a store, as its calls were answered: the map behind each of its batches, from the last one that is safe on.
type witness struct {
	m      map[string]string
	states []map[string]string
	stamp  int
}

func newWitness() *witness {
	return &witness{m: map[string]string{}, states: []map[string]string{{}}}
}

// batch is a random one, with a stamp at its ends, so that no two maps are the same, and none is as if half of a batch were done.
func (w *witness) batch(r *rand.Rand) []api.Change {
	w.stamp++
	stamp := fmt.Sprint(w.stamp)
	batch := []api.Change{put("first", stamp)}
	for range r.Intn(4) {
		batch = append(batch, randomChange(r))
	}
	return append(batch, put("last", stamp))
}

// did notes a batch; without power it may be there all the same.
func (w *witness) did(batch []api.Change, e api.Errno) {
	if e != api.OK && e != api.ErrDown {
		return
	}
	w.m = maps.Clone(w.m)
	plainDo(w.m, batch)
	w.states = append(w.states, w.m)
}

func (w *witness) safe() { w.states = w.states[len(w.states)-1:] }

func (w *witness) fits(got map[string]string) bool {
	return slices.ContainsFunc(w.states, func(m map[string]string) bool { return maps.Equal(m, got) })
}

// act makes one random call, and says whether there was power for it.
func (w *witness) act(t *testing.T, s *Store, r *rand.Rand) bool {
	t.Helper()
	var e api.Errno
	switch x := r.Intn(10); {
	case x < 6:
		batch := w.batch(r)
		e = s.Do(batch)
		w.did(batch, e)
	case x < 8:
		e = s.Commit()
		if e == api.OK {
			w.safe()
		}
	default:
		e = s.Compact()
		if e == api.OK {
			w.safe()
		}
	}
	return e != api.ErrDown
}

// reopened opens till the power lasts for it, with another failure now and then within, and asks each time what is there.
func (w *witness) reopened(t *testing.T, d *disk.Disk, most int, r *rand.Rand) *Store {
	t.Helper()
	for {
		if r.Intn(3) > 0 {
			is(t, "Fuse", d.Fuse(r.Intn(6)), api.OK)
		}
		s, e := Open(d, most)
		if e == api.ErrDown {
			d.Restart(randomKeep(r))
			continue
		}
		is(t, "Open", e, api.OK)
		got := said(t, s)
		if !w.fits(got) {
			t.Fatalf("%.20q is left; none of %.20q", got, w.states)
		}
		w.m, w.states = got, []map[string]string{got}
		return s
	}
}

func TestP125WhateverThePowerDoes(t *testing.T) {
	r := rand.New(rand.NewSource(125))
	failed, lost := 0, 0
	for range 1500 {
		room, most := []int{300, 600, plenty}[r.Intn(3)], []int{16, 60, 200, 1000}[r.Intn(4)]
		d, w := made(t, room), newWitness()
		s := opened(t, d, most)
		for range 60 {
			if r.Intn(10) == 0 {
				is(t, "Fuse", d.Fuse(r.Intn(14)), api.OK)
			}
			if w.act(t, s, r) {
				if r.Intn(15) == 0 {
					s = w.reopened(t, d, most, r) // with no Restart ahead of it
				}
				continue
			}
			failed++
			last := w.m
			d.Restart(randomKeep(r))
			s = w.reopened(t, d, most, r)
			if !maps.Equal(w.m, last) {
				lost++
			}
		}
	}
	if failed < 1000 || lost < 500 {
		t.Error("one-sided:", failed, lost)
	}
}

// The power fails behind each number of steps of one run, and what was not safe is kept to each number of bytes.
func TestP125EveryStepAndKeep(t *testing.T) {
	run := func(s *Store) *witness {
		w := newWitness()
		does := func(batch ...api.Change) bool {
			e := s.Do(batch)
			w.did(batch, e)
			return e == api.OK
		}
		if !does(put("a", "1"), put("b", "1")) || !does(drop("a"), put("b", "2"), put("c", "2")) || s.Commit() != api.OK {
			return w
		}
		w.safe()
		if !does(put("d", "3"), drop("b")) || !does(put("a", "4"), put("d", "4")) || s.Compact() != api.OK {
			return w
		}
		w.safe()
		if does(drop("a"), put("e", "5")) {
			does(drop("c"), drop("d"))
		}
		return w
	}
	whole := made(t, plenty)
	run(opened(t, whole, 24))
	outcomes := map[string]int{}
	for fuse := range whole.Steps() + 1 {
		for kept := range 24 {
			for _, more := range []int{0, 1, 9, 12, 100} {
				d := made(t, plenty)
				s := opened(t, d, 24)
				is(t, "Fuse", d.Fuse(fuse), api.OK)
				w := run(s)
				d.Restart([]int{kept, more, more})
				got := said(t, opened(t, d, 24))
				outcomes[fmt.Sprint(got)]++
				if !w.fits(got) {
					t.Fatalf("fuse %d, keep %d, %d: %q; none of %q", fuse, kept, more, got, w.states)
				}
				d.Restart(nil) // what was opened lasts
				if again := said(t, opened(t, d, 24)); !maps.Equal(again, got) {
					t.Fatalf("fuse %d, keep %d, %d: opened again: %q, not %q", fuse, kept, more, again, got)
				}
			}
		}
	}
	for _, want := range []string{"map[]", "map[a:1 b:1]", "map[b:2 c:2]", "map[c:2 d:3]", "map[a:4 c:2 d:4]", "map[c:2 d:4 e:5]", "map[e:5]"} {
		if outcomes[want] == 0 {
			t.Errorf("%s never came out: %v", want, outcomes)
		}
	}
}

func TestR2ArgumentsAreNotChangedAndNotKept(t *testing.T) {
	d := made(t, plenty)
	s := opened(t, d, 1000)
	key, value, gone := []byte("keyspare"), []byte("valuespare"), []byte("gonespare")
	name := unsafe.String(&key[0], 3)
	changes := []api.Change{{Key: name, Value: value[:5]}, {Key: "gone", Value: gone[:4], Drop: true}, put("spare", "spare")}
	does(t, s, changes[:2]...)
	if string(key)+string(value)+string(gone) != "keysparevaluesparegonespare" || len(changes[0].Value) != 5 || changes[2].Key != "spare" || string(changes[2].Value) != "spare" {
		t.Errorf("Do changed its argument: %q, %q, %q, %v", key, value, gone, changes)
	}
	for _, with := range []string{"", name} {
		s.Keys(with)
		s.Get(with)
	}
	copy(key, "########")
	copy(value, "##########")
	changes[0], changes[1] = put("other", "other"), put("other", "other")
	holds(t, s, "key", "value")
	is(t, "Compact", s.Compact(), api.OK)
	holds(t, s, "key", "value")
	holds(t, opened(t, d, 1000), "key", "value")

	// Once more, where the key is there already.
	key, value = []byte("key"), []byte("again")
	does(t, s, api.Change{Key: unsafe.String(&key[0], 3), Value: value})
	copy(key, "###")
	copy(value, "#####")
	holds(t, s, "key", "again")
	if again, there := s.Get("key"); string(again) != "again" || !there {
		t.Errorf("Get: %q, %v", again, there)
	}
}

// overwrite fills an answer with its spare room, and so tells whose memory it is.
func overwrite(b []byte) {
	b = b[:cap(b)]
	for i := range b {
		b[i] = '#'
	}
}

func TestR2AnswersAreNew(t *testing.T) {
	d := made(t, plenty)
	want := []string{"a", "", "b", "1", "c", "01234567890123456789", "d", "23"}
	s := opened(t, d, 1000)
	does(t, s, put("a", ""), put("b", "1"), put("c", want[5]), put("d", "23"))
	check := func(s *Store) {
		t.Helper()
		for i := 0; i < len(want); i += 2 {
			one, _ := s.Get(want[i])
			two, _ := s.Get(want[i])
			overwrite(one)
			if string(two) != want[i+1] {
				t.Errorf("two answers share memory: %q", two)
			}
			overwrite(two)
			holds(t, s, want...)
		}
		one, two := s.Keys(""), s.Keys("")
		for i := range one {
			if unsafe.StringData(one[i]) == unsafe.StringData(two[i]) {
				t.Errorf("two answers share a key: %q", one[i])
			}
		}
		for i := range one[:cap(one)] {
			one[:cap(one)][i] = "#"
		}
		if !slices.Equal(two, []string{"a", "b", "c", "d"}) {
			t.Errorf("two answers share memory: %q", two)
		}
		holds(t, s, want...)
	}
	check(s)
	check(opened(t, d, 1000))
	is(t, "Compact", s.Compact(), api.OK)
	check(s)
	check(opened(t, d, 1000))
}

// A value that was told may be handed in again, under another key too.
func TestR2ValuesAreApart(t *testing.T) {
	d := made(t, plenty)
	s := does(t, opened(t, d, 1000), put("a", "one"))
	value, _ := s.Get("a")
	does(t, s, api.Change{Key: "b", Value: value}, api.Change{Key: "c", Value: value})
	overwrite(value)
	holds(t, s, "a", "one", "b", "one", "c", "one")
	does(t, s, put("b", "two"))
	holds(t, s, "a", "one", "b", "two", "c", "one")
	holds(t, opened(t, d, 1000), "a", "one", "b", "two", "c", "one")
}

// Nil and empty are one, in and out.
func TestR2NilAndEmpty(t *testing.T) {
	nilDisk, emptyDisk := made(t, plenty), made(t, plenty)
	does(t, opened(t, nilDisk, 1000), api.Change{Key: "a"})
	does(t, opened(t, emptyDisk, 1000), api.Change{Key: "a", Value: []byte{}})
	if told(nilDisk) != told(emptyDisk) {
		t.Errorf("%s, not %s", told(nilDisk), told(emptyDisk))
	}
}

func TestR4StoresAreApart(t *testing.T) {
	one, two := made(t, plenty), made(t, plenty)
	s, o := opened(t, one, 1000), opened(t, two, 1000)
	does(t, s, put("a", "1"), put("b", "1"))
	holds(t, o)
	does(t, o, put("a", "2"))
	does(t, s, drop("b"))
	is(t, "Compact", o.Compact(), api.OK)
	cutOff(t, two)
	does(t, s, put("c", "1"))
	holds(t, s, "a", "1", "c", "1")
	holds(t, o, "a", "2")
	if s.Waste() != 2 || o.Waste() != 0 {
		t.Errorf("Waste: %d, %d", s.Waste(), o.Waste())
	}
	is(t, "Do without power", o.Do([]api.Change{put("z", "")}), api.ErrDown)
	is(t, "Commit", s.Commit(), api.OK)
}

// Keys were laid in one order here, in another one there, and the maps are gone through as it comes: what is told and written is the same.
func TestR4OrderOfMaps(t *testing.T) {
	r := rand.New(rand.NewSource(4))
	var all []string
	for i := range 200 {
		all = append(all, fmt.Sprintf("%c%d", 'a'+i%7, i))
	}
	var keys []string
	var base []byte
	for range 20 {
		d := made(t, plenty)
		s := opened(t, d, 1000)
		for _, i := range r.Perm(len(all)) {
			does(t, s, put(all[i], "v"+all[i]))
		}
		is(t, "Compact", s.Compact(), api.OK)
		b, e := d.Read("log-2-1")
		is(t, "Read", e, api.OK)
		if keys == nil {
			keys, base = s.Keys("c"), b
		}
		if !slices.Equal(s.Keys("c"), keys) || !bytes.Equal(b, base) || s.Waste() != 0 {
			t.Errorf("another order: %q", s.Keys("c"))
		}
	}
}
