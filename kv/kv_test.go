package kv

import (
	"encoding/binary"
	"fmt"
	"hash/crc32"
	"maps"
	"math"
	"math/rand"
	"slices"
	"strings"
	"testing"

	"roost/api"
	"roost/disk"
	"roost/seglog"
)

// In the tests' names stands which promise they hold.

const (
	plenty     = 1 << 20
	allRoom    = 1 << 24
	longKey    = 200
	longValue  = 262144
	longRecord = 1048576
)

func made(t testing.TB, room int) *disk.Disk {
	t.Helper()
	d, e := disk.New(room)
	if e != api.OK {
		t.Fatal(e)
	}
	return d
}

func opened(t testing.TB, d *disk.Disk, most int) *Store {
	t.Helper()
	s, e := Open(d, most)
	if s == nil || e != api.OK {
		t.Fatalf("Open(%d): %v", most, e)
	}
	return s
}

func is(t testing.TB, what string, got, want api.Errno) {
	t.Helper()
	if got != want {
		t.Errorf("%s: %v, not %v", what, got, want)
	}
}

func put(key, value string) api.Change { return api.Change{Key: key, Value: []byte(value)} }

func drop(key string) api.Change { return api.Change{Key: key, Drop: true} }

func long(n int) string { return strings.Repeat("x", n) }

// does asks that a batch is OK.
func does(t testing.TB, s *Store, batch ...api.Change) *Store {
	t.Helper()
	is(t, "Do", s.Do(batch), api.OK)
	return s
}

// said is all that a store tells of its map, in one map; it asks that the ways to tell it agree.
func said(t testing.TB, s *Store) map[string]string {
	t.Helper()
	m := map[string]string{}
	keys := s.Keys("")
	for _, key := range keys {
		value, there := s.Get(key)
		if !there {
			t.Errorf("Get(%.20q): none, and Keys has it", key)
		}
		m[key] = string(value)
	}
	if s.Len() != len(keys) || len(m) != len(keys) || !slices.IsSorted(keys) {
		t.Errorf("Len %d, Keys %.20q", s.Len(), keys)
	}
	return m
}

// holds asks for the whole map, as keys and values by turns.
func holds(t testing.TB, s *Store, want ...string) {
	t.Helper()
	m := map[string]string{}
	for i := 0; i < len(want); i += 2 {
		m[want[i]] = want[i+1]
	}
	if got := said(t, s); !maps.Equal(got, m) {
		t.Errorf("the map: %.100q, not %.100q", got, m)
	}
}

// told is all that a disk tells of itself, in one text.
func told(d *disk.Disk) string {
	var s strings.Builder
	names, e := d.List()
	fmt.Fprint(&s, names, e, d.Used(), d.Steps())
	for _, name := range names {
		b, _ := d.Read(name)
		fmt.Fprintf(&s, " %s=%x", name, b)
	}
	return s.String()
}

// cutOff lets the power fail at once, by a step that is nobody's.
func cutOff(t testing.TB, d *disk.Disk) {
	t.Helper()
	is(t, "Fuse", d.Fuse(0), api.OK)
	is(t, "Append", d.Append("x", nil), api.ErrDown)
}

// plainRecord is a batch's record as the chapter has it, with the library's numbers.
func plainRecord(batch []api.Change) string {
	b := binary.AppendUvarint(nil, uint64(len(batch)))
	for _, c := range batch {
		b = binary.AppendUvarint(b, uint64(len(c.Key)))
		b = append(b, c.Key...)
		if c.Drop {
			b = append(b, 0)
			continue
		}
		b = binary.AppendUvarint(b, uint64(len(c.Value)+1))
		b = append(b, c.Value...)
	}
	return string(b)
}

// plainBatch reads a record with the library's numbers; that every form is the one there is, it asks by writing it again.
func plainBatch(rec string) (batch []api.Change, ok bool) {
	b := []byte(rec)
	number := func() uint64 {
		n, size := binary.Uvarint(b)
		if size <= 0 {
			return math.MaxUint64
		}
		b = b[size:]
		return n
	}
	row := func(n, most uint64) []byte {
		if n > most || n > uint64(len(b)) {
			ok = false
			return nil
		}
		taken := b[:n]
		b = b[n:]
		return taken
	}
	ok = true
	count := number()
	if count < 1 || count > 4096 {
		return nil, false
	}
	for range count {
		n := number()
		key := row(n, longKey)
		more := number()
		if !ok || n == 0 {
			return nil, false
		}
		if more == 0 {
			batch = append(batch, drop(string(key)))
			continue
		}
		value := row(more-1, longValue)
		if !ok {
			return nil, false
		}
		batch = append(batch, put(string(key), string(value)))
	}
	return batch, len(b) == 0 && plainRecord(batch) == rec
}

// plainDo does a batch on a map.
func plainDo(m map[string]string, batch []api.Change) {
	for _, c := range batch {
		if c.Drop {
			delete(m, c.Key)
		} else {
			m[c.Key] = string(c.Value)
		}
	}
}

// plainRecords are what Compact writes of a map: of the changes that are left, the greatest number of which the record is short enough.
func plainRecords(m map[string]string) (recs []string) {
	var left []api.Change
	for _, key := range slices.Sorted(maps.Keys(m)) {
		left = append(left, put(key, m[key]))
	}
	for len(left) > 0 {
		n := min(4096, len(left))
		for recordLength(left[:n]) > longRecord {
			n--
		}
		recs = append(recs, plainRecord(left[:n]))
		left = left[n:]
	}
	return recs
}

// recordLength is how many bytes plainRecord has, without writing great values over and over.
func recordLength(batch []api.Change) int {
	n := len(binary.AppendUvarint(nil, uint64(len(batch))))
	for _, c := range batch {
		n += len(binary.AppendUvarint(nil, uint64(len(c.Key)))) + len(c.Key)
		n += len(binary.AppendUvarint(nil, uint64(len(c.Value)+1))) + len(c.Value)
	}
	return n
}

// logged is a disk with a log of these records, which are safe.
func logged(t testing.TB, room int, recs ...string) *disk.Disk {
	t.Helper()
	d := made(t, room)
	l, e := seglog.Open(d, 1000)
	is(t, "seglog.Open", e, api.OK)
	for _, rec := range recs {
		is(t, "Append", l.Append([]byte(rec)), api.OK)
	}
	is(t, "Commit", l.Commit(), api.OK)
	return d
}

// records are those of the log that stands on a disk.
func records(t testing.TB, d *disk.Disk) (recs []string) {
	t.Helper()
	l, e := seglog.Open(d, 1000)
	is(t, "seglog.Open", e, api.OK)
	for i := range l.Len() {
		b, _ := l.At(i)
		recs = append(recs, string(b))
	}
	return recs
}

// The chapter's table, row by row.
func TestRuns(t *testing.T) {
	s := opened(t, made(t, plenty), 1000)
	many := slices.Repeat([]api.Change{put("k", "")}, 4097)
	is(t, "no changes", s.Do(nil), api.ErrArg)
	is(t, "4097 changes", s.Do(many), api.ErrArg)
	is(t, "no key", s.Do([]api.Change{put("", "")}), api.ErrName)
	is(t, "a key of 201 bytes", s.Do([]api.Change{put(long(201), "")}), api.ErrBig)
	is(t, "a value of 262145", s.Do([]api.Change{put("k", long(262145))}), api.ErrBig)

	d := made(t, plenty)
	s = opened(t, d, 1000)
	does(t, s, put("a", "1"), put("b", "2"))
	does(t, s, drop("a"), put("c", "3"))
	if keys := s.Keys(""); !slices.Equal(keys, []string{"b", "c"}) || s.Len() != 2 || s.Waste() != 1 {
		t.Errorf("two batches: %q, Len %d, Waste %d", keys, s.Len(), s.Waste())
	}
	if value, there := s.Get("a"); value != nil || there {
		t.Errorf("Get a: %q, %v", value, there)
	}

	is(t, "Compact", s.Compact(), api.OK)
	if s.Waste() != 0 {
		t.Error("Waste behind Compact:", s.Waste())
	}
	if keys := opened(t, d, 1000).Keys(""); !slices.Equal(keys, []string{"b", "c"}) {
		t.Errorf("opened again: %q", keys)
	}

	does(t, s, put("a", "1"), put("a", "2"))
	if value, there := s.Get("a"); string(value) != "2" || !there {
		t.Errorf("a twice: %q, %v", value, there)
	}
	does(t, s, put("a", ""))
	if value, there := s.Get("a"); len(value) != 0 || !there {
		t.Errorf("no bytes: %q, %v", value, there)
	}

	if s, e := Open(logged(t, plenty, "\x00"), 1000); s != nil || e != api.ErrBad {
		t.Error("a record 00:", e)
	}
}

func TestExamples(t *testing.T) {
	d := made(t, allRoom)
	s := opened(t, d, 1000)
	does(t, s, drop("a"), drop("b"))
	holds(t, s)
	if recs := records(t, d); !slices.Equal(recs, []string{"\x02\x01a\x00\x01b\x00"}) || s.Waste() != 1 {
		t.Errorf("nothing but Drops: %q, Waste %d", recs, s.Waste())
	}

	for i := range 5 {
		does(t, s, put(fmt.Sprint(i), long(longValue)))
	}
	if s.Waste() != 1+5-2 {
		t.Error("five great values: Waste", s.Waste())
	}
	is(t, "Compact", s.Compact(), api.OK)
	if n := len(records(t, d)); n != 2 || s.Waste() != 0 {
		t.Errorf("five great values: %d records, Waste %d", n, s.Waste())
	}
}

func TestP121AnswersOfTheLog(t *testing.T) {
	d := made(t, plenty)
	refused := func(what string, d *disk.Disk, most int, want api.Errno) {
		t.Helper()
		if s, e := Open(d, most); s != nil || e != want {
			t.Errorf("%s: %v, not %v", what, e, want)
		}
	}
	for _, most := range []int{15, 0, -1, 1048577, math.MinInt, math.MaxInt} {
		refused(fmt.Sprint("most ", most), d, most, api.ErrArg)
	}
	refused("no disk", nil, 1000, api.ErrArg)
	for _, most := range []int{16, 1048576} {
		holds(t, opened(t, d, most))
	}
	if d.Steps() != 0 {
		t.Error("Open of an empty disk: steps", d.Steps())
	}

	is(t, "Append", d.Append("base", []byte("?")), api.OK)
	refused("a base that is none", d, 1000, api.ErrBad)
	cutOff(t, d)
	refused("a base that is none, without power", d, 1000, api.ErrDown)
	refused("most, without power", d, 15, api.ErrArg)

	// The power fails within the log's Open, behind all that it reads.
	d = logged(t, plenty, plainRecord([]api.Change{put("a", "1")}), "bad")
	is(t, "Fuse", d.Fuse(0), api.OK)
	refused("at the last step", d, 1000, api.ErrDown)
	d.Restart(nil)
	refused("with power", d, 1000, api.ErrBad)
}

// The edges of what a record may have, each with what it is made of; the long ones are no more than a log takes.
func TestP121Records(t *testing.T) {
	good := []string{
		"\x01\x01a\x00", "\x01\x01a\x01", "\x01\x01a\x02x", "\x01\x01\x00\x01", "\x01\x02\xff\xfe\x03\x80\x00", "\x02\x01a\x02x\x01a\x00", "\x02\x01a\x00\x01a\x00",
		"\x01\x7f" + long(127) + "\x00", "\x01\x80\x01" + long(128) + "\x00", "\x01\xc8\x01" + long(200) + "\x00",
		"\x01\x01a\x7f" + long(126), "\x01\x01a\x80\x01" + long(127), "\x01\x01a\x80\x80\x01" + long(16383), "\x01\x01a\x81\x80\x10" + long(262144),
		"\x7f" + strings.Repeat("\x01a\x00", 127), "\x80\x01" + strings.Repeat("\x01a\x00", 128), "\x80\x20" + strings.Repeat("\x01a\x00", 4096),
	}
	nine := "\xff\xff\xff\xff\xff\xff\xff\xff\xff"
	bad := []string{
		"", "\x00", "\x01", "\x80", "\x80\x00", "\x81\x00", "\x81\x00\x01a\x00", "\x00\x01a\x00", "\x02\x01a\x00", "\x01\x01a\x00\x01a\x00", nine + "\x01", nine + "\x02", nine + "\x80\x01",
		"\x01\x00\x00", "\x01\x00\x01", "\x01\x01", "\x01\x01a", "\x01\x02a", "\x01\x81\x00a\x00", "\x01\x80", "\x01" + nine + "\x01a\x00", "\x01" + nine + "\x02a\x00",
		"\x01\x01a\x02", "\x01\x01a\x03x", "\x01\x01a\x80", "\x01\x01a\x80\x00", "\x01\x01a\x81\x00", "\x01\x01a\x82\x00x", "\x01\x01a" + nine + "\x01", "\x01\x01a" + nine + "\x02",
		"\x01\x01a\x00\x00", "\x01\x01a\x01\x00", "\x01\x01a\x02xx",
		"\x01\xc9\x01" + long(201) + "\x00", "\x01\xc9\x01" + long(201) + "\x01", "\x01\xff\xff\x03" + long(65535) + "\x00",
		"\x01\x01a\x82\x80\x10" + long(262145), "\x01\x01a\x80\x80\x20" + long(524287),
		"\x81\x20" + strings.Repeat("\x01a\x00", 4097), "\xff\x7f" + strings.Repeat("\x01a\x00", 16383),
	}
	for i, rec := range append(slices.Clone(good), bad...) {
		s, e := Open(logged(t, allRoom, rec), 1000)
		batch, fits := plainBatch(rec)
		if fits != (i < len(good)) {
			t.Errorf("%.30q: the plain reader says %v", rec, fits)
		}
		if !fits {
			if s != nil || e != api.ErrBad {
				t.Errorf("%.30q: %v", rec, e)
			}
			continue
		}
		if e != api.OK {
			t.Errorf("%.30q: %v", rec, e)
			continue
		}
		want := map[string]string{}
		plainDo(want, batch)
		if got := said(t, s); !maps.Equal(got, want) {
			t.Errorf("%.30q: %.30q, not %.30q", rec, got, want)
		}
	}
}

// asks holds Open of one record against the plain reader, and says whether it is a batch's.
func asks(t *testing.T, rec string) bool {
	t.Helper()
	batch, fits := plainBatch(rec)
	s, e := Open(logged(t, plenty, rec), 1000)
	if !fits {
		if s != nil || e != api.ErrBad {
			t.Fatalf("%q: %v, not ErrBad", rec, e)
		}
		return false
	}
	want := map[string]string{}
	plainDo(want, batch)
	if e != api.OK {
		t.Fatalf("%q: %v", rec, e)
	}
	if got := said(t, s); !maps.Equal(got, want) {
		t.Fatalf("%q: %q, not %q", rec, got, want)
	}
	return true
}

func TestP121EveryCutAndByte(t *testing.T) {
	rec := plainRecord([]api.Change{put("a", "xy"), drop("bc"), put("\xff\x00", ""), put("a", "\x01\x01a\x00"), drop("nobody")})
	if !asks(t, rec) {
		t.Error("the record is none")
	}
	for i := range len(rec) {
		if asks(t, rec[:i]) || asks(t, rec[i+1:]) {
			t.Errorf("cut at %d: a record", i)
		}
		asks(t, rec[:i]+rec[i+1:])
		for value := range 256 {
			asks(t, rec[:i]+string([]byte{byte(value)})+rec[i+1:])
			asks(t, rec[:i]+string([]byte{byte(value)})+rec[i:])
		}
	}
	for value := range 256 {
		if asks(t, rec+string([]byte{byte(value)})) {
			t.Errorf("%x behind it: a record", value)
		}
	}
}

func TestP121RandomRecords(t *testing.T) {
	r := rand.New(rand.NewSource(121))
	count := map[bool]int{}
	for range 30000 {
		b := make([]byte, r.Intn(16))
		for i := range b {
			b[i] = "\x00\x01\x01\x01\x02\x03a\x80\x81\xff"[r.Intn(10)]
		}
		count[asks(t, string(b))]++
	}
	if count[true] < 50 || count[false] < 1000 {
		t.Error("one-sided:", count)
	}
}

func TestP121InOrder(t *testing.T) {
	d := logged(t, plenty,
		plainRecord([]api.Change{put("a", "1"), put("b", "1"), put("c", "1")}),
		plainRecord([]api.Change{drop("a"), put("b", "2"), drop("d")}),
		plainRecord([]api.Change{put("a", "3"), drop("c"), put("d", ""), put("d", "3")}))
	s := opened(t, d, 16)
	holds(t, s, "a", "3", "b", "2", "d", "3")
	if s.Waste() != 2 {
		t.Error("Waste:", s.Waste())
	}
}

// One record that is none is enough, wherever it stands; of the disk nothing is changed but by the log's Open.
func TestP121BadAnywhere(t *testing.T) {
	for at := range 5 {
		var recs []string
		for i := range 5 {
			recs = append(recs, plainRecord([]api.Change{put(fmt.Sprint(i), "")}))
		}
		holds(t, opened(t, logged(t, plenty, recs...), 16), "0", "", "1", "", "2", "", "3", "", "4", "")
		recs[at] = "\x01\x00\x00"
		d, hand := logged(t, plenty, recs...), logged(t, plenty, recs...)
		for _, d := range []*disk.Disk{d, hand} {
			is(t, "Append", d.Append("log-1-1", []byte("torn")), api.OK)
			is(t, "Append", d.Append("log-7-1", []byte("stray")), api.OK)
		}
		if s, e := Open(d, 16); s != nil || e != api.ErrBad {
			t.Errorf("at %d: %v", at, e)
		}
		_, e := seglog.Open(hand, 16)
		is(t, "seglog.Open", e, api.OK)
		if told(d) != told(hand) {
			t.Errorf("at %d: %s, not %s", at, told(d), told(hand))
		}
	}
}

// great is a batch whose record has so many bytes; its values are as long as may be, but the last ones.
func great(t testing.TB, changes, size int) (batch []api.Change) {
	t.Helper()
	for i := range changes {
		batch = append(batch, put(fmt.Sprintf("%04d", i), ""))
	}
	for i := 0; recordLength(batch) < size; i++ {
		batch[i].Value = make([]byte, min(size-recordLength(batch), longValue))
		for recordLength(batch) > size { // a longer number takes some of it
			batch[i].Value = batch[i].Value[1:]
		}
	}
	if recordLength(batch) != size {
		t.Fatalf("a record of %d bytes, not %d", recordLength(batch), size)
	}
	return batch
}

func TestP122Refusals(t *testing.T) {
	big, bigger := make([]byte, longValue), make([]byte, longValue+1)
	fourBig := []api.Change{{Key: "a", Value: big}, {Key: "a", Value: big}, {Key: "b", Value: big}, {Key: "c", Value: big}}
	with := func(batch []api.Change, more ...api.Change) []api.Change { return append(slices.Clone(batch), more...) }
	first := func(batch []api.Change, more ...api.Change) []api.Change { return append(more, batch...) }
	ok := put("ok", "")
	faults := []struct {
		what  string
		batch []api.Change
		want  api.Errno
	}{
		{"none", nil, api.ErrArg},
		{"none", []api.Change{}, api.ErrArg},
		{"4097", slices.Repeat([]api.Change{ok}, 4097), api.ErrArg},
		{"4097 Drops", slices.Repeat([]api.Change{drop("ok")}, 4097), api.ErrArg},
		{"4097 without keys", make([]api.Change, 4097), api.ErrArg},
		{"4097 long keys", slices.Repeat([]api.Change{put(long(201), "")}, 4097), api.ErrArg},
		{"no key", []api.Change{put("", "x")}, api.ErrName},
		{"no key to drop", []api.Change{drop("")}, api.ErrName},
		{"no key behind others", []api.Change{ok, ok, put("", "")}, api.ErrName},
		{"no key, and a great value", []api.Change{{Value: bigger}}, api.ErrName},
		{"no key ahead of a long one", []api.Change{put("", ""), put(long(201), "")}, api.ErrName},
		{"a long key ahead of none", []api.Change{put(long(201), ""), put("", "")}, api.ErrBig},
		{"a great value ahead of no key", []api.Change{{Key: "k", Value: bigger}, put("", "")}, api.ErrBig},
		{"no key behind a great record", with(fourBig, put("", "")), api.ErrName},
		{"no key behind a greater record", with(slices.Repeat(fourBig, 1000), drop("")), api.ErrName},
		{"no key ahead of a great record", first(fourBig, put("", "")), api.ErrName},
		{"201 bytes", []api.Change{put(long(201), "")}, api.ErrBig},
		{"201 bytes to drop", []api.Change{drop(long(201))}, api.ErrBig},
		{"201 bytes behind others", []api.Change{ok, drop(long(201))}, api.ErrBig},
		{"many bytes", []api.Change{put(long(100000), "")}, api.ErrBig},
		{"a great value", []api.Change{{Key: "k", Value: bigger}}, api.ErrBig},
		{"a great value behind others", []api.Change{ok, {Key: "k", Value: bigger}}, api.ErrBig},
		{"a great record", fourBig, api.ErrBig},
		{"a greater record", slices.Repeat([]api.Change{{Key: "k", Value: big}}, 4096), api.ErrBig},
		{"one byte too many", great(t, 5, longRecord+1), api.ErrBig},
		{"one byte too many of 127", great(t, 127, longRecord+1), api.ErrBig},
		{"one byte too many of 128", great(t, 128, longRecord+1), api.ErrBig},
		{"one byte too many of 4096", great(t, 4096, longRecord+1), api.ErrBig},
	}
	for _, committed := range []bool{true, false} {
		for _, power := range []bool{true, false} {
			d := made(t, allRoom)
			s := does(t, opened(t, d, 1000), put("k", "1"), put("ok", "2"))
			if committed {
				is(t, "Commit", s.Commit(), api.OK)
			}
			if !power {
				cutOff(t, d)
			}
			before := told(d)
			for _, x := range faults {
				is(t, x.what, s.Do(x.batch), x.want)
				if told(d) != before || s.Waste() != 0 {
					t.Fatalf("%s: %s, not %s", x.what, told(d), before)
				}
			}
			holds(t, s, "k", "1", "ok", "2")
		}
	}
}

func TestP122Edges(t *testing.T) {
	for i, batch := range [][]api.Change{
		{put("a", "")},
		{drop("a")},
		{put(long(200), "")},
		{drop(long(200))},
		{put("a", long(longValue))},
		{put(long(200), long(longValue))},
		{put("\x00", "\x00"), put("\xff\xfe", "\xff"), put(" /\n", "\r")},
		slices.Repeat([]api.Change{put("a", "1")}, 4096),
		slices.Repeat([]api.Change{drop("a")}, 4096),
		great(t, 5, longRecord-1),
		great(t, 5, longRecord),
		great(t, 127, longRecord),
		great(t, 128, longRecord),
		great(t, 4096, longRecord),
	} {
		d := made(t, allRoom)
		s := does(t, opened(t, d, 1000), batch...)
		want := map[string]string{}
		plainDo(want, batch)
		if !maps.Equal(said(t, s), want) {
			t.Errorf("row %d: the map", i)
		}
		if d.Steps() != 1 {
			t.Errorf("row %d: steps %d", i, d.Steps())
		}
		if recs := records(t, d); !slices.Equal(recs, []string{plainRecord(batch)}) {
			t.Errorf("row %d: the record is %.40q, not %.40q", i, recs, plainRecord(batch))
		}
		if !maps.Equal(said(t, opened(t, d, 1000)), want) {
			t.Errorf("row %d: the map, opened again", i)
		}
	}
}

// The bytes on the disk, as they stand in chapters 1, 11 and 12.
func TestP122Record(t *testing.T) {
	d := made(t, plenty)
	s := opened(t, d, 1000)
	does(t, s, put("a", "xy"), drop("b"), put("\xff\x00", ""), put(long(130), long(127)))
	rec := "\x04" + "\x01a\x03xy" + "\x01b\x00" + "\x02\xff\x00\x01" + "\x82\x01" + long(130) + "\x80\x01" + long(127)
	form := binary.BigEndian.AppendUint32(nil, uint32(len(rec)))
	form = binary.BigEndian.AppendUint32(form, crc32.ChecksumIEEE([]byte(rec)))
	form = append(form, rec...)
	if b, e := d.Read("log-1-1"); string(b) != string(form) || e != api.OK {
		t.Errorf("log-1-1: %x, %v; not %x", b, e, form)
	}
}

func TestP122DropsValueIsNotLookedAt(t *testing.T) {
	d := made(t, plenty)
	s := does(t, opened(t, d, 1000), put("a", "1"), put("b", "2"))
	for _, value := range [][]byte{nil, {}, []byte("x"), make([]byte, longValue), make([]byte, longValue+1), make([]byte, 2*longRecord)} {
		does(t, s, put("c", "3"), api.Change{Key: "a", Value: value, Drop: true}, api.Change{Key: "nobody", Value: value, Drop: true})
		holds(t, s, "b", "2", "c", "3")
	}
	want := slices.Repeat([]string{"\x03\x01c\x023\x01a\x00\x06nobody\x00"}, 6)
	if recs := records(t, d)[1:]; !slices.Equal(recs, want) {
		t.Errorf("records: %q", recs)
	}
	holds(t, opened(t, d, 1000), "b", "2", "c", "3")
	is(t, "no key", s.Do([]api.Change{{Value: make([]byte, longValue+1), Drop: true}}), api.ErrName)
	is(t, "a long key", s.Do([]api.Change{{Key: long(201), Value: []byte("x"), Drop: true}}), api.ErrBig)
}

func TestP122OneBehindTheOther(t *testing.T) {
	for i, x := range []struct {
		batch []api.Change
		want  []string
	}{
		{[]api.Change{put("a", "1"), put("a", "2")}, []string{"a", "2", "z", "0"}},
		{[]api.Change{put("a", "2"), put("a", "1"), put("a", "")}, []string{"a", "", "z", "0"}},
		{[]api.Change{put("a", "1"), drop("a")}, []string{"z", "0"}},
		{[]api.Change{drop("a"), put("a", "1")}, []string{"a", "1", "z", "0"}},
		{[]api.Change{drop("z"), drop("z")}, nil},
		{[]api.Change{drop("z"), put("z", "1"), drop("z"), put("z", "2"), put("a", "")}, []string{"a", "", "z", "2"}},
		{[]api.Change{drop("nobody")}, []string{"z", "0"}},
		{[]api.Change{put("z", "0")}, []string{"z", "0"}},
	} {
		d := made(t, plenty)
		s := does(t, opened(t, d, 1000), put("z", "0"))
		does(t, s, x.batch...)
		holds(t, s, x.want...)
		if n := len(records(t, d)); n != 2 {
			t.Errorf("row %d: %d records", i, n)
		}
		holds(t, opened(t, d, 1000), x.want...)
	}
}

// A batch for which there is no room is not there, and one that is shorter goes all the same.
func TestP122Full(t *testing.T) {
	d := made(t, 40)
	s := does(t, opened(t, d, 16), put("a", "123456"), put("b", "")) // 14 bytes and 8
	is(t, "20 bytes more", s.Do([]api.Change{drop("a"), put("c", long(14))}), api.ErrFull)
	holds(t, s, "a", "123456", "b", "")
	if s.Waste() != 0 {
		t.Error("Waste:", s.Waste())
	}
	does(t, s, drop("a"))
	holds(t, s, "b", "")
	is(t, "Do", s.Do([]api.Change{drop("b")}), api.ErrFull)
	is(t, "no changes", s.Do(nil), api.ErrArg)
	is(t, "no key", s.Do([]api.Change{drop("")}), api.ErrName)
	is(t, "a long key", s.Do([]api.Change{drop(long(201))}), api.ErrBig)
	holds(t, s, "b", "")
	if s.Waste() != 1 {
		t.Error("Waste:", s.Waste())
	}
	is(t, "Commit", s.Commit(), api.OK)
	d.Restart(nil)
	holds(t, opened(t, d, 16), "b", "")
}

func TestP122Down(t *testing.T) {
	d := made(t, plenty)
	s := does(t, opened(t, d, 1000), put("a", "1"))
	is(t, "Commit", s.Commit(), api.OK)
	does(t, s, put("b", "2"))
	is(t, "Fuse", d.Fuse(0), api.OK)
	is(t, "Do", s.Do([]api.Change{put("a", "9"), drop("b")}), api.ErrDown)
	holds(t, s, "a", "1", "b", "2")
	is(t, "Do", s.Do([]api.Change{put("a", "9")}), api.ErrDown)
	is(t, "Commit", s.Commit(), api.ErrDown)
	is(t, "Compact", s.Compact(), api.ErrDown)
	is(t, "no changes", s.Do(nil), api.ErrArg)
	is(t, "no key", s.Do([]api.Change{put("", "")}), api.ErrName)
	is(t, "a long key", s.Do([]api.Change{put(long(201), "")}), api.ErrBig)
	is(t, "a great record", s.Do(great(t, 5, longRecord+1)), api.ErrBig)
	holds(t, s, "a", "1", "b", "2")
	if s.Waste() != 1 {
		t.Error("Waste:", s.Waste())
	}
	d.Restart(nil)
	is(t, "Do, with power again", s.Do([]api.Change{put("a", "9")}), api.ErrDown)
	holds(t, opened(t, d, 1000), "a", "1")
}

func TestP122Commit(t *testing.T) {
	for _, commit := range []bool{false, true} {
		d := made(t, plenty)
		s := does(t, opened(t, d, 1000), put("a", "1"))
		does(t, s, put("b", "2"))
		steps := d.Steps()
		if commit {
			is(t, "Commit", s.Commit(), api.OK)
			is(t, "Commit", s.Commit(), api.OK)
			steps++
		}
		if d.Steps() != steps {
			t.Errorf("Commit %v: steps %d, not %d", commit, d.Steps(), steps)
		}
		d.Restart(nil)
		if commit {
			holds(t, opened(t, d, 1000), "a", "1", "b", "2")
		} else {
			holds(t, opened(t, d, 1000))
		}
	}
	d := made(t, plenty)
	s := opened(t, d, 1000)
	is(t, "Commit of nothing", s.Commit(), api.OK)
	does(t, s, put("a", "1"))
	is(t, "Fuse", d.Fuse(0), api.OK)
	is(t, "Commit without power", s.Commit(), api.ErrDown)
	holds(t, s, "a", "1")
}

func TestP123(t *testing.T) {
	s := opened(t, made(t, plenty), 1000)
	if keys := s.Keys(""); len(keys) != 0 || s.Len() != 0 {
		t.Errorf("an empty store: %q, %d", keys, s.Len())
	}
	all := []string{"\x00", "\x00\x00", "A", "a", "a\x00", "a\x00b", "a/", "a/b", "a/b/c", "a0", "aa", "ab", "a\x7f", "a\x80", "a\xff", "a\xffa", "b", "é", "\xff", "\xff\xff"}
	for _, i := range rand.New(rand.NewSource(123)).Perm(len(all)) {
		does(t, s, put(all[i], "v"+all[i]))
	}
	for _, with := range []string{"", "\x00", "\x00\x00", "\x00\x01", "A", "a", "a\x00", "a/", "a/b", "a/b/c", "a/b/c/", "aa", "aaa", "a\xff", "b", "bb", "c", "é", "\xc3", "\xff", "\xff\xff", "\xff\xff\xff", long(201)} {
		var want []string
		for _, key := range all {
			if len(key) >= len(with) && key[:len(with)] == with {
				want = append(want, key)
			}
		}
		if got := s.Keys(with); !slices.Equal(got, want) {
			t.Errorf("Keys(%.10q): %q, not %q", with, got, want)
		}
		if value, there := s.Get(with); there != slices.Contains(all, with) || there && string(value) != "v"+with || !there && value != nil {
			t.Errorf("Get(%.10q): %q, %v", with, value, there)
		}
	}
	if s.Len() != len(all) {
		t.Error("Len:", s.Len())
	}
	for i, key := range all {
		does(t, s, drop(key))
		if value, there := s.Get(key); value != nil || there || s.Len() != len(all)-1-i || !slices.Equal(s.Keys(""), all[i+1:]) {
			t.Errorf("Drop of %q: %q, %v, Len %d", key, value, there, s.Len())
		}
	}
}

// The map behind a batch is told at once, and takes no step to be told, with power or without.
func TestP123LooksAreNoSteps(t *testing.T) {
	d := made(t, plenty)
	s := does(t, opened(t, d, 1000), put("a", "1"), put("b", "2"))
	does(t, s, drop("b"))
	for range 2 {
		steps := d.Steps()
		holds(t, s, "a", "1")
		if s.Waste() != 1 || d.Steps() != steps {
			t.Errorf("Waste %d, steps %d", s.Waste(), d.Steps()-steps)
		}
		d.Restart([]int{math.MaxInt})
		cutOff(t, d)
	}
}

// Two records have the great values three by three; rising, the lesser ones take too much of the first.
func TestP124WasteBelowZero(t *testing.T) {
	d := made(t, allRoom)
	s := opened(t, d, 1000)
	lesser, greatest := long(longValue-144), long(longValue)
	does(t, s, put("a", lesser), put("c", greatest), put("e", greatest), put("g", greatest))
	does(t, s, put("b", lesser), put("d", greatest), put("f", greatest), put("h", greatest))
	if s.Waste() != -1 {
		t.Errorf("Waste %d", s.Waste())
	}
	m := said(t, s)
	is(t, "Compact", s.Compact(), api.OK)
	recs := records(t, d)
	if s.Waste() != 0 || len(recs) != 3 || !slices.Equal(recs, plainRecords(m)) || !maps.Equal(said(t, s), m) {
		t.Errorf("Compact: Waste %d, %d records", s.Waste(), len(recs))
	}
	does(t, s, drop("a"), drop("b"))
	if s.Waste() != 2 {
		t.Errorf("Waste behind Drops: %d", s.Waste())
	}
}

// compacts asks for the records that Compact writes of a map, and for the Waste ahead of it and behind it.
func compacts(t *testing.T, what string, changes []api.Change) (recs []string) {
	t.Helper()
	d := made(t, allRoom)
	s := opened(t, d, 1000)
	done := 0
	for batch := range slices.Chunk(changes, 3) { // so many great values go in one
		done++
		does(t, s, batch...)
	}
	m := map[string]string{}
	plainDo(m, changes)
	want := plainRecords(m)
	if s.Waste() != done-len(want) {
		t.Errorf("%s: Waste %d; %d records, not %d", what, s.Waste(), done, len(want))
	}
	is(t, "Compact", s.Compact(), api.OK)
	if recs = records(t, d); !slices.Equal(recs, want) {
		t.Errorf("%s: %d records %.30q, not %d %.30q", what, len(recs), recs, len(want), want)
	}
	if s.Waste() != 0 || !maps.Equal(said(t, s), m) || !maps.Equal(said(t, opened(t, d, 1000)), m) {
		t.Errorf("%s: behind Compact: Waste %d, or the map", what, s.Waste())
	}
	return recs
}

func TestP124CompactRecords(t *testing.T) {
	numbered := func(n int) (changes []api.Change) {
		for i := range n {
			changes = append(changes, put(fmt.Sprintf("%05d", n-1-i), ""))
		}
		return changes
	}
	count := func(what string, changes []api.Change, want int) {
		t.Helper()
		if recs := compacts(t, what, changes); len(recs) != want {
			t.Errorf("%s: %d records, not %d", what, len(recs), want)
		}
	}
	count("nothing", nil, 0)
	count("nothing left", []api.Change{put("a", "1"), drop("a")}, 0)
	count("one", []api.Change{put("a", "1")}, 1)
	count("other order", []api.Change{put("b", "1"), put("c", ""), put("a", "3"), drop("c"), put("\xff", "4"), put("a\x00", "5")}, 1)
	for _, x := range [][2]int{{127, 1}, {128, 1}, {4095, 1}, {4096, 1}, {4097, 2}, {8192, 2}, {8193, 3}} {
		count(fmt.Sprint(x[0], " keys"), numbered(x[0]), x[1])
	}
	for n := 1; n <= 9; n++ {
		var changes []api.Change
		for i := range n {
			changes = append(changes, put(fmt.Sprint(i), long(longValue)))
		}
		count(fmt.Sprint(n, " great values"), changes, (n+2)/3)
	}
	for _, n := range []int{5, 127, 128, 4096} {
		count(fmt.Sprint(n, " changes, as great as may be"), great(t, n, longRecord), 1)
	}
	// The key behind all others goes with them, if there is room for its form, which has 4 bytes, and for a longer number of changes.
	for _, x := range []struct{ changes, size, want int }{
		{5, longRecord, 2},
		{5, longRecord - 3, 2},
		{5, longRecord - 4, 1},
		{126, longRecord - 3, 2},
		{126, longRecord - 4, 1},
		{127, longRecord - 4, 2},
		{127, longRecord - 5, 1},
		{128, longRecord - 3, 2},
		{128, longRecord - 4, 1},
		{4095, longRecord - 3, 2},
		{4095, longRecord - 4, 1},
		{4096, longRecord / 2, 2},
	} {
		count(fmt.Sprint(x), append(great(t, x.changes, x.size), put("zz", "")), x.want)
	}
}

func TestP124CompactRandom(t *testing.T) {
	r := rand.New(rand.NewSource(124))
	for i := range 12 {
		var changes []api.Change
		total := 0
		for total < 5*longRecord {
			size := []int{r.Intn(longValue + 1), longValue - r.Intn(3), r.Intn(20), r.Intn(2000)}[r.Intn(4)]
			changes = append(changes, put(fmt.Sprint(r.Int()), long(size)))
			total += size + 30
		}
		compacts(t, fmt.Sprint("map ", i), changes)
	}
}

// Compact takes the steps of seglog's Rebase with these records, wherever the power fails within it, and answers what that does.
func TestP124CompactIsRebase(t *testing.T) {
	batches := [][]api.Change{{put("a", "1"), put("b", "22")}, {drop("a"), put("c", "333")}, {put("d", long(30))}}
	want := [][]byte{[]byte(plainRecord([]api.Change{put("b", "22"), put("c", "333"), put("d", long(30))}))}
	for _, room := range []int{100, 105, 110, 120, 125, 130, 150, plenty} {
		for fuse := range 20 {
			d, hand := made(t, room), made(t, room)
			s := opened(t, d, 24)
			l, e := seglog.Open(hand, 24)
			is(t, "seglog.Open", e, api.OK)
			for _, batch := range batches {
				does(t, s, batch...)
				is(t, "Append", l.Append([]byte(plainRecord(batch))), api.OK)
			}
			is(t, "Fuse", d.Fuse(fuse), api.OK)
			is(t, "Fuse", hand.Fuse(fuse), api.OK)
			is(t, fmt.Sprintf("Compact, room %d, fuse %d", room, fuse), s.Compact(), l.Rebase(want))
			holds(t, s, "b", "22", "c", "333", "d", long(30))
			if s.Waste() != l.Len()-1 {
				t.Errorf("room %d, fuse %d: Waste %d of %d", room, fuse, s.Waste(), l.Len())
			}
			d.Restart([]int{fuse, 3, 5})
			hand.Restart([]int{fuse, 3, 5})
			if told(d) != told(hand) {
				t.Errorf("room %d, fuse %d: %s, not %s", room, fuse, told(d), told(hand))
			}
		}
	}
}

func TestP124CompactRefused(t *testing.T) {
	d := made(t, 50)
	s := does(t, opened(t, d, 1000), put("a", "1"), put("b", long(12)))
	does(t, s, drop("a"))
	before := told(d)
	is(t, "Compact without room", s.Compact(), api.ErrFull)
	holds(t, s, "b", long(12))
	if s.Waste() != 1 || told(d) != before {
		t.Errorf("Waste %d, %s", s.Waste(), told(d))
	}
	holds(t, opened(t, d, 1000), "b", long(12))

	// The last generation.
	d = made(t, plenty)
	base := binary.BigEndian.AppendUint64(nil, math.MaxUint64)
	base = binary.BigEndian.AppendUint32(base, crc32.ChecksumIEEE(base))
	is(t, "Append", d.Append("base", base), api.OK)
	s = does(t, opened(t, d, 1000), put("a", "1"))
	does(t, s, put("a", "2"))
	before = told(d)
	is(t, "Compact", s.Compact(), api.ErrBad)
	holds(t, s, "a", "2")
	if s.Waste() != 1 || told(d) != before {
		t.Errorf("Waste %d, %s", s.Waste(), told(d))
	}
}
