package seglog

import (
	"encoding/binary"
	"fmt"
	"hash/crc32"
	"math"
	"slices"
	"strings"
	"testing"

	"roost/api"
	"roost/disk"
)

// In the tests' names stands which promise they hold.

const (
	plenty  = 100000
	longest = 1048576
)

func made(t testing.TB, room int) *disk.Disk {
	t.Helper()
	d, e := disk.New(room)
	if e != api.OK {
		t.Fatal(e)
	}
	return d
}

func opened(t testing.TB, d *disk.Disk, most int) *Log {
	t.Helper()
	l, e := Open(d, most)
	if l == nil || e != api.OK {
		t.Fatalf("Open(%d): %v", most, e)
	}
	return l
}

func is(t testing.TB, what string, got, want api.Errno) {
	t.Helper()
	if got != want {
		t.Errorf("%s: %v, not %v", what, got, want)
	}
}

func lay(t testing.TB, l *Log, recs ...string) *Log {
	t.Helper()
	for _, rec := range recs {
		is(t, fmt.Sprintf("Append(%.20q)", rec), l.Append([]byte(rec)), api.OK)
	}
	return l
}

func rows(recs ...string) (b [][]byte) {
	for _, rec := range recs {
		b = append(b, []byte(rec))
	}
	return b
}

// texts are all records, and asks that there are none beside them.
func texts(t testing.TB, l *Log) (recs []string) {
	t.Helper()
	for i := range l.Len() {
		b, ok := l.At(i)
		if !ok {
			t.Fatalf("At(%d) of %d: none", i, l.Len())
		}
		recs = append(recs, string(b))
	}
	for _, i := range []int{-1, math.MinInt, l.Len(), l.Len() + 1, math.MaxInt} {
		if b, ok := l.At(i); ok || b != nil {
			t.Fatalf("At(%d) of %d: %q, %v", i, l.Len(), b, ok)
		}
	}
	return recs
}

func holds(t testing.TB, l *Log, want ...string) {
	t.Helper()
	if got := texts(t, l); !slices.Equal(got, want) {
		t.Errorf("records: %.200q, not %.200q", got, want)
	}
}

func lists(t testing.TB, d *disk.Disk, want ...string) {
	t.Helper()
	if names, e := d.List(); !slices.Equal(names, want) || e != api.OK {
		t.Errorf("List: %q, %v; not %q", names, e, want)
	}
}

func reads(t testing.TB, d *disk.Disk, name, want string) {
	t.Helper()
	if b, e := d.Read(name); string(b) != want || e != api.OK {
		t.Errorf("%s: %x, %v; not %x", name, b, e, want)
	}
}

// putFile writes a file by hand, safe.
func putFile(t testing.TB, d *disk.Disk, name, b string) {
	t.Helper()
	is(t, "Append "+name, d.Append(name, []byte(b)), api.OK)
	is(t, "Sync "+name, d.Sync(name), api.OK)
}

// forms are records as the chapter writes them, with the library's own sum.
func forms(recs ...string) string {
	var b []byte
	for _, rec := range recs {
		b = binary.BigEndian.AppendUint32(b, uint32(len(rec)))
		b = binary.BigEndian.AppendUint32(b, crc32.ChecksumIEEE([]byte(rec)))
		b = append(b, rec...)
	}
	return string(b)
}

// based is what the file base holds.
func based(generation uint64) string {
	b := binary.BigEndian.AppendUint64(nil, generation)
	return string(binary.BigEndian.AppendUint32(b, crc32.ChecksumIEEE(b)))
}

// told is all that a disk tells of itself, in one text.
func told(d *disk.Disk) string {
	var s strings.Builder
	names, e := d.List()
	fmt.Fprint(&s, names, e, d.Used(), d.Steps())
	for _, name := range names {
		b, _ := d.Read(name)
		fmt.Fprintf(&s, " %s=%x", name, b)
	}
	return s.String()
}

// cutOff lets the power fail at once, by a step that is nobody's.
func cutOff(t testing.TB, d *disk.Disk) {
	t.Helper()
	is(t, "Fuse", d.Fuse(0), api.OK)
	is(t, "Append", d.Append("x", nil), api.ErrDown)
}

// step is a step of a disk, taken by hand.
type step func(d *disk.Disk) api.Errno

func appended(name, b string) step {
	return func(d *disk.Disk) api.Errno { return d.Append(name, []byte(b)) }
}
func synced(name string) step {
	return func(d *disk.Disk) api.Errno { return d.Sync(name) }
}
func removed(name string) step {
	return func(d *disk.Disk) api.Errno { return d.Remove(name) }
}
func cut(name string, size int) step {
	return func(d *disk.Disk) api.Errno { return d.Cut(name, size) }
}
func renamed(from, to string) step {
	return func(d *disk.Disk) api.Errno { return d.Rename(from, to) }
}

// trial is a call of a log, or an Open, that is made on disks that are set up alike.
type trial struct {
	room, most int
	setUp      func(d *disk.Disk)
	before     func(l *Log)           // nil: the call is Open
	call       func(l *Log) api.Errno // nil: the call is Open
}

// on makes the disk and the log, and tells the call on them.
func (x trial) on(t *testing.T) (*disk.Disk, func() api.Errno) {
	t.Helper()
	d := made(t, x.room)
	if x.setUp != nil {
		x.setUp(d)
	}
	if x.call == nil {
		return d, func() api.Errno {
			l, e := Open(d, x.most)
			if (l == nil) != (e != api.OK) {
				t.Error("Open: a Log and an error, or none of them")
			}
			return e
		}
	}
	l := opened(t, d, x.most)
	if x.before != nil {
		x.before(l)
	}
	return d, func() api.Errno { return x.call(l) }
}

// takes asks that the call takes just these steps in their order: wherever the power fails, the disk is as one on which they were taken by hand.
func (x trial) takes(t *testing.T, want api.Errno, steps ...step) {
	t.Helper()
	for fuse := range len(steps) {
		for _, keep := range [][]int{nil, {math.MaxInt, 3, 5, 7}, {1, 2, 1}, {9, 100, 4}} {
			d, call := x.on(t)
			hand, _ := x.on(t)
			is(t, "Fuse", d.Fuse(fuse), api.OK)
			is(t, "Fuse", hand.Fuse(fuse), api.OK)
			is(t, fmt.Sprint("the call, with fuse ", fuse), call(), api.ErrDown)
			for i, s := range steps[:fuse+1] {
				e := api.OK
				if i == fuse {
					e = api.ErrDown
				}
				is(t, fmt.Sprint("by hand, step ", i), s(hand), e)
			}
			d.Restart(keep)
			hand.Restart(keep)
			if told(d) != told(hand) {
				t.Errorf("fuse %d, keep %d:\n%s, not\n%s", fuse, keep, told(d), told(hand))
			}
		}
	}
	d, call := x.on(t)
	hand, _ := x.on(t)
	is(t, "the call", call(), want)
	for i, s := range steps {
		is(t, fmt.Sprint("by hand, step ", i), s(hand), api.OK)
	}
	for range 2 {
		if told(d) != told(hand) {
			t.Errorf("behind all steps:\n%s, not\n%s", told(d), told(hand))
		}
		d.Restart(nil) // what is safe is the same too
		hand.Restart(nil)
	}
}

func TestP111Runs(t *testing.T) {
	d := made(t, plenty)
	for _, x := range []struct {
		d    *disk.Disk
		most int
	}{{nil, 100}, {nil, 15}, {d, 15}, {d, 1048577}, {d, 0}, {d, -1}, {d, -16}, {d, math.MinInt}, {d, math.MaxInt}, {d, 1<<32 + 16}} {
		if l, e := Open(x.d, x.most); l != nil || e != api.ErrArg {
			t.Errorf("Open(%v, %d): %v", x.d, x.most, e)
		}
	}
	for _, most := range []int{16, 17, 1048575, 1048576} {
		l := opened(t, d, most)
		if l.Len() != 0 || d.Steps() != 0 {
			t.Errorf("Open(%d) of an empty disk: Len %d, Steps %d", most, l.Len(), d.Steps())
		}
	}

	d = made(t, plenty)
	putFile(t, d, "base", based(1)[:11])
	if l, e := Open(d, 100); l != nil || e != api.ErrBad {
		t.Error("a base of 11 bytes:", e)
	}

	for _, commit := range []bool{false, true} {
		d := made(t, plenty)
		l := lay(t, opened(t, d, 100), "ab")
		want := 0
		if commit {
			is(t, "Commit", l.Commit(), api.OK)
			want = 1
		}
		d.Restart(nil)
		if n := opened(t, d, 100).Len(); n != want {
			t.Errorf("Commit %v: %d records, not %d", commit, n, want)
		}
	}
}

// ErrArg comes ahead of ErrDown, ErrDown ahead of ErrBad; and nothing is done.
func TestP111Order(t *testing.T) {
	d := made(t, plenty)
	putFile(t, d, "base", "?")
	putFile(t, d, "log-7-7", "?")
	putFile(t, d, "base.new", "?")
	before := told(d)
	if l, e := Open(d, 15); l != nil || e != api.ErrArg {
		t.Error("ErrArg:", e)
	}
	if l, e := Open(d, 16); l != nil || e != api.ErrBad {
		t.Error("ErrBad:", e)
	}
	if now := told(d); now != before {
		t.Errorf("changed: %s, not %s", now, before)
	}
	cutOff(t, d)
	if l, e := Open(d, 15); l != nil || e != api.ErrArg {
		t.Error("ErrArg without power:", e)
	}
	if l, e := Open(d, 16); l != nil || e != api.ErrDown {
		t.Error("ErrDown:", e)
	}
	// On a disk that asks for no step too.
	d = made(t, plenty)
	cutOff(t, d)
	if l, e := Open(d, 16); l != nil || e != api.ErrDown {
		t.Error("ErrDown:", e)
	}
	d.Restart(nil)
	holds(t, opened(t, d, 16))
}

func TestP111Base(t *testing.T) {
	bad := func(b string) {
		t.Helper()
		d := made(t, plenty)
		putFile(t, d, "base", b)
		putFile(t, d, "log-9-9", "x")
		before := told(d)
		if l, e := Open(d, 100); l != nil || e != api.ErrBad {
			t.Errorf("base %x: %v", b, e)
		}
		if now := told(d); now != before {
			t.Errorf("base %x: %s, not %s", b, now, before)
		}
	}
	for _, generation := range []uint64{1, 2, 9, 10, 255, 256, 1 << 32, 1<<63 - 1, 1 << 63, 1<<64 - 2, 1<<64 - 1, 0x0102030405060708} {
		whole := based(generation)
		d := made(t, plenty)
		putFile(t, d, "base", whole)
		l := lay(t, opened(t, d, 100), "a")
		name := fmt.Sprintf("log-%d-1", generation)
		lists(t, d, "base", name)
		reads(t, d, "base", whole)
		is(t, "Commit", l.Commit(), api.OK)
		holds(t, opened(t, d, 100), "a")
		for size := range len(whole) {
			bad(whole[:size])
			bad(whole[size+1:])
		}
		for _, more := range []string{"\x00", "x", whole} {
			bad(whole + more)
		}
		for bit := range 8 * len(whole) {
			b := []byte(whole)
			b[bit/8] ^= 1 << (bit % 8)
			bad(string(b))
		}
	}
	bad(based(0))
	bad(strings.Repeat("\x00", 12))
}

// A base that is not safe yet is read as it stands.
func TestP111BaseUnsafe(t *testing.T) {
	d := made(t, plenty)
	is(t, "Append", d.Append("base", []byte(based(3))), api.OK)
	putFile(t, d, "log-3-1", forms("a"))
	putFile(t, d, "log-1-1", forms("b"))
	holds(t, opened(t, d, 100), "a")
	lists(t, d, "base", "log-3-1")
}

func TestP111Removes(t *testing.T) {
	d := made(t, plenty)
	putFile(t, d, "base", based(12))
	for i, name := range []string{"log-12-1", "log-12-2", "log-12-3"} {
		putFile(t, d, name, forms(fmt.Sprint(i)))
	}
	others := []string{"lo", "log", "log.", "log12-1", "alog-1-1", "base.ne", "base.new.", "base.newer", "base-", "base.old", "0", "-", "x", "new"}
	for _, name := range others {
		putFile(t, d, name, "?"+name)
	}
	for _, name := range []string{
		"base.new", "log-", "log--", "log-1", "log-12", "log-12-", "log-12-0", "log-12-00", "log-12-01", "log-12-02", "log-12-4-", "log-12-5", "log-12-6", "log-12-10",
		"log-12--1", "log-12-1-", "log-12-1.", "log-12-1.new", "log-12-1-1", "log-012-1", "log-12-1a", "log-1-1", "log-1-2", "log-2-1", "log-11-1", "log-13-1", "log-0-1", "log-121-1", "log-x", "log-.", "log-base",
		"log-18446744073709551628-4", "log-12-18446744073709551620", "log-" + strings.Repeat("9", 60),
	} {
		putFile(t, d, name, forms("?"))
	}
	holds(t, opened(t, d, 100), "0", "1", "2")
	want := append(slices.Clone(others), "base", "log-12-1", "log-12-2", "log-12-3")
	slices.Sort(want)
	lists(t, d, want...)
	for _, name := range others {
		reads(t, d, name, "?"+name)
	}
}

// Without a segment 1 there is none, whatever others there are.
func TestP111NoFirstSegment(t *testing.T) {
	d := made(t, plenty)
	for _, name := range []string{"log-1-0", "log-1-2", "log-1-3"} {
		putFile(t, d, name, forms("a"))
	}
	l := opened(t, d, 100)
	holds(t, l)
	lists(t, d)
	lay(t, l, "b")
	lists(t, d, "log-1-1")
}

// Step 2 goes by the order of the names, in which 10 stands ahead of 2; what is own is known ahead of the first removing.
func TestP111RemovesInListOrder(t *testing.T) {
	trial{room: plenty, most: 100, setUp: func(d *disk.Disk) {
		putFile(t, d, "base", based(2))
		for _, name := range []string{"log-3-2", "log-2-1", "log-3-10", "log-2-3", "base.new", "log-1-1", "log-2-10", "log-", "other", "log-2-2", "log-2-5"} {
			putFile(t, d, name, forms(name))
		}
		is(t, "Append", d.Append("log-2-3", []byte("tail")), api.OK)
	}}.takes(t, api.OK,
		removed("base.new"), removed("log-"), removed("log-1-1"), removed("log-2-10"), removed("log-2-5"), removed("log-3-10"), removed("log-3-2"),
		cut("log-2-3", len(forms("log-2-3"))), synced("log-2-3"))
}

// Later segments go rising by number, in which 2 stands ahead of 10.
func TestP111CutAndRemovesRising(t *testing.T) {
	for _, at := range []int{1, 2, 9} {
		steps := []step{cut(fmt.Sprint("log-1-", at), 9)}
		for i := at + 1; i <= 12; i++ {
			steps = append(steps, removed(fmt.Sprint("log-1-", i)))
		}
		trial{room: plenty, most: 100, setUp: func(d *disk.Disk) {
			for i := range 12 {
				putFile(t, d, fmt.Sprint("log-1-", i+1), forms("a"))
			}
			is(t, "Append", d.Append(fmt.Sprint("log-1-", at), []byte("??")), api.OK)
			putFile(t, d, "log-1-11", "?") // is not come to
		}}.takes(t, api.OK, append(steps, synced(fmt.Sprint("log-1-", at)))...)
	}
}

// The last one is synced, whether anything of it is unsafe or not; one of no bytes too; the others are not.
func TestP111Syncs(t *testing.T) {
	trial{room: plenty, most: 100, setUp: func(d *disk.Disk) {
		for _, name := range []string{"log-1-1", "log-1-2"} {
			is(t, "Append", d.Append(name, []byte(forms("a", "b"))), api.OK)
		}
	}}.takes(t, api.OK, synced("log-1-2"))
	trial{room: plenty, most: 100, setUp: func(d *disk.Disk) { putFile(t, d, "log-1-1", forms("a")) }}.takes(t, api.OK, synced("log-1-1"))
	trial{room: plenty, most: 100, setUp: func(d *disk.Disk) { putFile(t, d, "log-1-1", "") }}.takes(t, api.OK, synced("log-1-1"))
	trial{room: plenty, most: 100, setUp: func(d *disk.Disk) { putFile(t, d, "other", "") }}.takes(t, api.OK)
}

// A row is cut at each place: the records that are whole ahead of it are left.
func TestP111CutAnywhere(t *testing.T) {
	recs := []string{"one", "", "three", "\x00\x00\x00\x00\x00\x00\x00\x01", "five"}
	whole := forms(recs...)
	for size := range len(whole) + 1 {
		fit := 0
		for fit < len(recs) && len(forms(recs[:fit+1]...)) <= size {
			fit++
		}
		d := made(t, plenty)
		putFile(t, d, "log-1-1", forms("zero"))
		putFile(t, d, "log-1-2", whole[:size])
		putFile(t, d, "log-1-3", forms("later"))
		want, left := append([]string{"zero"}, recs[:fit]...), []string{"log-1-1", "log-1-2"}
		if size == len(forms(recs[:fit]...)) {
			want, left = append(want, "later"), append(left, "log-1-3")
		}
		holds(t, opened(t, d, 1000), want...)
		lists(t, d, left...)
		reads(t, d, "log-1-1", forms("zero"))
		reads(t, d, "log-1-2", forms(recs[:fit]...))
	}
}

// Each bit of a record's form is turned: it and all behind it are gone.
func TestP111TurnedBits(t *testing.T) {
	first, second, third := forms("one"), forms("second"), forms("three")
	for bit := range 8 * len(second) {
		b := []byte(second)
		b[bit/8] ^= 1 << (bit % 8)
		d := made(t, plenty)
		putFile(t, d, "log-1-1", first+string(b)+third)
		putFile(t, d, "log-1-2", third)
		holds(t, opened(t, d, 100), "one")
		lists(t, d, "log-1-1")
		reads(t, d, "log-1-1", first)
	}
}

// headed is a form with a length and a sum of one's own.
func headed(size, sum uint32, rec string) string {
	b := binary.BigEndian.AppendUint32(nil, size)
	return string(binary.BigEndian.AppendUint32(b, sum)) + rec
}

func TestP111Forms(t *testing.T) {
	sum := func(s string) uint32 { return crc32.ChecksumIEEE([]byte(s)) }
	long, over := strings.Repeat("l", longest), strings.Repeat("o", longest+1)
	for _, x := range []struct {
		what, row string
		want      int
	}{
		{"no bytes", "", 0},
		{"an empty record", strings.Repeat("\x00", 8), 1},
		{"three of them", strings.Repeat("\x00", 24), 3},
		{"seven bytes", strings.Repeat("\x00", 7), 0},
		{"an empty record, and seven bytes", strings.Repeat("\x00", 15), 1},
		{"an empty record with a sum", headed(0, 1, ""), 0},
		{"one byte of zero, its sum not turned round", headed(1, 0, "\x00"), 0},
		{"one byte of zero", headed(1, 0xd202ef8d, "\x00"), 1},
		{"more bytes than there are", headed(3, sum("ab"), "ab"), 0},
		{"fewer bytes than there are", headed(1, sum("ab"), "ab"), 0},
		{"the greatest length", headed(1<<32-1, sum("ab"), "ab"), 0},
		{"a length that is below 0 as a number of 32 bits", headed(1<<31, sum("ab"), "ab"), 0},
		{"the sum's lowest byte first", headed(2, 0x6d48839e, "ab"), 0},
		{"the sum of the length too", headed(2, sum("\x00\x00\x00\x02ab"), "ab"), 0},
		{"as long as may be", headed(longest, sum(long), long), 1},
		{"as long as may be, a byte missing", headed(longest, sum(long), long[1:]), 0},
		{"longer than may be", headed(longest+1, sum(over), over), 0},
		{"as long as may be, twice", forms(long, long), 2},
	} {
		d := made(t, 1<<22)
		putFile(t, d, "log-1-1", x.row)
		if l := opened(t, d, 16); l.Len() != x.want {
			t.Errorf("%s: %d records, not %d", x.what, l.Len(), x.want)
		}
	}
}

// Segments of no bytes are read over, and their number counts.
func TestP111EmptySegments(t *testing.T) {
	d := made(t, plenty)
	for i, row := range []string{"", forms("a"), "", "", forms("b", "c"), ""} {
		putFile(t, d, fmt.Sprint("log-1-", i+1), row)
	}
	l := opened(t, d, 16)
	holds(t, l, "a", "b", "c")
	lay(t, l, "0123456789", "d")
	holds(t, l, "a", "b", "c", "0123456789", "d")
	reads(t, d, "log-1-6", forms("0123456789"))
	reads(t, d, "log-1-7", forms("d"))
}

// Records are told in the order of the segments' numbers.
func TestP111ManySegments(t *testing.T) {
	d := made(t, plenty)
	var want []string
	for i := range 120 {
		want = append(want, fmt.Sprint("record ", i))
	}
	l := lay(t, opened(t, d, 16), want...)
	is(t, "Commit", l.Commit(), api.OK)
	if names, _ := d.List(); len(names) != 120 {
		t.Fatal(len(names))
	}
	holds(t, l, want...)
	d.Restart(nil)
	l = opened(t, d, 16)
	holds(t, l, want...)
	lay(t, l, "more")
	reads(t, d, "log-1-121", forms("more"))
}

func TestP112Runs(t *testing.T) {
	d := made(t, plenty)
	lay(t, opened(t, d, 100), "ab")
	reads(t, d, "log-1-1", "\x00\x00\x00\x02\x9e\x83\x48\x6dab")

	d = made(t, plenty)
	l := lay(t, opened(t, d, 16), "abcdef", "ghijkl", "mnopqr")
	lists(t, d, "log-1-1", "log-1-2", "log-1-3")
	if d.Steps() != 5 {
		t.Error("Steps:", d.Steps())
	}
	holds(t, l, "abcdef", "ghijkl", "mnopqr")
	d.Restart(nil)
	reads(t, d, "log-1-1", forms("abcdef"))
	reads(t, d, "log-1-2", forms("ghijkl"))
	reads(t, d, "log-1-3", "")

	// Example 2.
	d = made(t, plenty)
	l = lay(t, opened(t, d, 100), "")
	is(t, "Append(nil)", l.Append(nil), api.OK)
	reads(t, d, "log-1-1", strings.Repeat("\x00", 16))
	holds(t, l, "", "")
}

// To the byte: what makes a segment as long as may be goes to it, one byte more does not.
func TestP112Edge(t *testing.T) {
	for most := 16; most < 80; most++ {
		for size := range 80 {
			for _, first := range []string{"", "a", "abcdefgh", strings.Repeat("x", 100)} {
				d := made(t, plenty)
				l := lay(t, opened(t, d, most), first)
				rec := strings.Repeat("r", size)
				lay(t, l, rec)
				if 8+len(first)+8+size <= most {
					lists(t, d, "log-1-1")
					reads(t, d, "log-1-1", forms(first, rec))
					if d.Steps() != 2 {
						t.Error("Steps:", d.Steps())
					}
				} else {
					lists(t, d, "log-1-1", "log-1-2")
					reads(t, d, "log-1-1", forms(first))
					reads(t, d, "log-1-2", forms(rec))
					if d.Steps() != 3 {
						t.Error("Steps:", d.Steps())
					}
				}
			}
		}
	}
}

// A record that is too long for any segment goes to one that is empty, or to none but its own.
func TestP112LongRecords(t *testing.T) {
	d := made(t, 1<<23)
	long := strings.Repeat("l", longest)
	l := lay(t, opened(t, d, 16), long, "", long, long)
	holds(t, l, long, "", long, long)
	reads(t, d, "log-1-1", forms(long))
	reads(t, d, "log-1-2", forms(""))
	reads(t, d, "log-1-3", forms(long))
	reads(t, d, "log-1-4", forms(long))
	lists(t, d, "log-1-1", "log-1-2", "log-1-3", "log-1-4")
	is(t, "Commit", l.Commit(), api.OK)
	holds(t, opened(t, d, 1048576), long, "", long, long)

	// An empty segment that was opened is taken, however long the record is.
	d = made(t, 1<<23)
	putFile(t, d, "log-1-1", forms("a"))
	putFile(t, d, "log-1-2", "torn")
	l = lay(t, opened(t, d, 16), long)
	lists(t, d, "log-1-1", "log-1-2")
	reads(t, d, "log-1-2", forms(long))
	holds(t, l, "a", long)
}

// How long a segment may be is the Open's that is used, not that which wrote it.
func TestP112AnotherMost(t *testing.T) {
	d := made(t, plenty)
	is(t, "Commit", lay(t, opened(t, d, 1000), "one", "two", "three").Commit(), api.OK)
	lay(t, opened(t, d, 16), "four")
	lists(t, d, "log-1-1", "log-1-2")
	lay(t, opened(t, d, 25), "five", "six")
	lists(t, d, "log-1-1", "log-1-2", "log-1-3")
	reads(t, d, "log-1-2", forms("four", "five"))
	holds(t, opened(t, d, 16), "one", "two", "three", "four", "five", "six")
}

func TestP112Steps(t *testing.T) {
	call := func(rec string) func(l *Log) api.Errno {
		return func(l *Log) api.Errno { return l.Append([]byte(rec)) }
	}
	trial{room: plenty, most: 20, call: call("a")}.takes(t, api.OK, appended("log-1-1", forms("a")))
	trial{room: plenty, most: 20, before: func(l *Log) { lay(t, l, "a") }, call: call("bcd")}.takes(t, api.OK,
		appended("log-1-1", forms("bcd")))
	trial{room: plenty, most: 20, before: func(l *Log) { lay(t, l, "a") }, call: call("bcde")}.takes(t, api.OK,
		synced("log-1-1"), appended("log-1-2", forms("bcde")))
	// Not synced, if it is already: by Commit, by Open, or by an Append that was refused.
	trial{room: plenty, most: 20, before: func(l *Log) { lay(t, l, "a"); l.Commit() }, call: call("bcde")}.takes(t, api.OK,
		appended("log-1-2", forms("bcde")))
	trial{room: plenty, most: 20, setUp: func(d *disk.Disk) { d.Append("log-1-1", []byte(forms("a"))) }, call: call("bcde")}.takes(t, api.OK,
		appended("log-1-2", forms("bcde")))
	trial{room: 30, most: 20, before: func(l *Log) {
		lay(t, l, "a")
		is(t, "Append", l.Append(make([]byte, 14)), api.ErrFull)
	}, call: call("bcde")}.takes(t, api.OK, appended("log-1-2", forms("bcde")))
	// But again, if it was appended to since.
	trial{room: plenty, most: 24, before: func(l *Log) { lay(t, l, "a"); l.Commit(); lay(t, l, "b") }, call: call("c")}.takes(t, api.OK,
		synced("log-1-1"), appended("log-1-2", forms("c")))
}

func TestP112Full(t *testing.T) {
	// In the last segment: nothing has changed.
	d := made(t, 20)
	l := opened(t, d, 100)
	is(t, "Append", l.Append(make([]byte, 13)), api.ErrFull)
	lists(t, d)
	holds(t, l)
	lay(t, l, "ab")
	before := told(d)
	for range 3 {
		is(t, "Append", l.Append(make([]byte, 3)), api.ErrFull)
		holds(t, l, "ab")
	}
	if now := told(d); now != before {
		t.Errorf("%s, not %s", now, before)
	}
	lay(t, l, "cd")
	holds(t, l, "ab", "cd")
	reads(t, d, "log-1-1", forms("ab", "cd"))

	// In the next one: it is not there, the Sync is, once.
	d = made(t, 38)
	l = lay(t, opened(t, d, 16), "abcdef")
	for range 3 {
		is(t, "Append", l.Append(make([]byte, 17)), api.ErrFull)
		lists(t, d, "log-1-1")
		holds(t, l, "abcdef")
		if d.Steps() != 2 {
			t.Error("Steps:", d.Steps())
		}
	}
	is(t, "Commit", l.Commit(), api.OK)
	if d.Steps() != 2 {
		t.Error("Commit synced again:", d.Steps())
	}
	d.Restart(nil)
	reads(t, d, "log-1-1", forms("abcdef"))
	l = lay(t, opened(t, d, 16), "")
	lists(t, d, "log-1-1", "log-1-2")
	holds(t, l, "abcdef", "")
}

func TestP112Big(t *testing.T) {
	d := made(t, 1<<22)
	l := opened(t, d, 100)
	for _, size := range []int{longest + 1, longest + 2, 2 * longest} {
		is(t, fmt.Sprint("Append of ", size), l.Append(make([]byte, size)), api.ErrBig)
	}
	if d.Steps() != 0 || l.Len() != 0 {
		t.Error("ErrBig:", d.Steps(), l.Len())
	}
	is(t, "Append", l.Append(make([]byte, longest)), api.OK)
	cutOff(t, d)
	is(t, "without power", l.Append(make([]byte, longest+1)), api.ErrBig)
	is(t, "without power", l.Append(make([]byte, longest)), api.ErrDown)
	// A disk without room, and a record that is too long.
	d = made(t, 0)
	l = opened(t, d, 100)
	is(t, "without room", l.Append(make([]byte, longest+1)), api.ErrBig)
	is(t, "without room", l.Append(nil), api.ErrFull)
	holds(t, l)
	lists(t, d)
}

func TestP113(t *testing.T) {
	commit := (*Log).Commit
	trial{room: plenty, most: 20, call: commit}.takes(t, api.OK)
	trial{room: plenty, most: 20, before: func(l *Log) { lay(t, l, "a") }, call: commit}.takes(t, api.OK, synced("log-1-1"))
	trial{room: plenty, most: 20, before: func(l *Log) { lay(t, l, "") }, call: commit}.takes(t, api.OK, synced("log-1-1"))
	trial{room: plenty, most: 20, before: func(l *Log) { lay(t, l, "a", "bcdefg", "hijklm") }, call: commit}.takes(t, api.OK, synced("log-1-3"))
	trial{room: plenty, most: 20, before: func(l *Log) { lay(t, l, "a"); l.Commit() }, call: commit}.takes(t, api.OK)
	trial{room: plenty, most: 20, before: func(l *Log) { lay(t, l, "a"); l.Commit(); lay(t, l, "b") }, call: commit}.takes(t, api.OK, synced("log-1-1"))
	trial{room: plenty, most: 20, setUp: func(d *disk.Disk) { d.Append("log-1-1", []byte(forms("a"))) }, call: commit}.takes(t, api.OK)
	trial{room: plenty, most: 20, before: func(l *Log) { is(t, "Rebase", l.Rebase(rows("a", "b")), api.OK) }, call: commit}.takes(t, api.OK)
	trial{room: plenty, most: 20, before: func(l *Log) {
		is(t, "Rebase", l.Rebase(rows("a")), api.OK)
		lay(t, l, "b")
	}, call: commit}.takes(t, api.OK, synced("log-2-1"))
	// A refused Append is none.
	trial{room: 12, most: 20, before: func(l *Log) {
		lay(t, l, "a")
		l.Commit()
		is(t, "Append", l.Append(nil), api.ErrFull)
	}, call: commit}.takes(t, api.OK)
}

func TestP114(t *testing.T) {
	d := made(t, plenty)
	l := opened(t, d, 30)
	var want []string
	for i := range 50 {
		holds(t, l, want...)
		want = append(want, strings.Repeat(string(rune('a'+i%26)), i%13))
		lay(t, l, want[i])
	}
	holds(t, l, want...)
	if steps := d.Steps(); l.Commit() != api.OK || l.Len() != 50 || d.Steps() != steps+1 {
		t.Error("Len, At and Commit:", l.Len(), d.Steps()-steps)
	}
	if b, ok := l.At(0); !ok || len(b) != 0 {
		t.Error("an empty record:", b, ok)
	}
}

func TestP115Runs(t *testing.T) {
	d := made(t, plenty)
	l := lay(t, opened(t, d, 100), "old", "older")
	is(t, "Rebase", l.Rebase(rows("new")), api.OK)
	lists(t, d, "base", "log-2-1")
	reads(t, d, "base", based(2))
	reads(t, d, "log-2-1", forms("new"))
	if l.Len() != 1 {
		t.Error("Len:", l.Len())
	}
	holds(t, l, "new")
	d.Restart(nil)
	holds(t, opened(t, d, 100), "new")

	// Example 1.
	for _, none := range [][][]byte{nil, {}} {
		d := made(t, plenty)
		l := lay(t, opened(t, d, 100), "a")
		is(t, "Rebase", l.Rebase(none), api.OK)
		lists(t, d, "base")
		reads(t, d, "base", based(2))
		holds(t, l)
		d.Restart(nil)
		l = opened(t, d, 100)
		holds(t, l)
		is(t, "Commit", l.Commit(), api.OK)
		lay(t, l, "b")
		lists(t, d, "base", "log-2-1")
	}
}

func TestP115Steps(t *testing.T) {
	rebase := func(recs ...string) func(l *Log) api.Errno {
		return func(l *Log) api.Errno { return l.Rebase(rows(recs...)) }
	}
	base := func(generation uint64) []step {
		return []step{appended("base.new", based(generation)), synced("base.new"), renamed("base.new", "base")}
	}
	trial{room: plenty, most: 20, call: rebase()}.takes(t, api.OK, base(2)...)
	trial{room: plenty, most: 20, call: rebase("a")}.takes(t, api.OK,
		append([]step{appended("log-2-1", forms("a")), synced("log-2-1")}, base(2)...)...)
	trial{room: plenty, most: 20, before: func(l *Log) { lay(t, l, "a", "b", "c") }, call: rebase()}.takes(t, api.OK,
		append(base(2), removed("log-1-1"), removed("log-1-2"))...)
	trial{room: plenty, most: 20, before: func(l *Log) { lay(t, l, "a"); l.Commit() }, call: rebase("", "b", "cd", "ef", "0123456789abc", "")}.takes(t, api.OK,
		append(append([]step{
			appended("log-2-1", forms("")), appended("log-2-1", forms("b")), synced("log-2-1"),
			appended("log-2-2", forms("cd")), appended("log-2-2", forms("ef")), synced("log-2-2"),
			appended("log-2-3", forms("0123456789abc")), synced("log-2-3"),
			appended("log-2-4", forms("")), synced("log-2-4"),
		}, base(2)...), removed("log-1-1"))...)
	// A base that was there, and more than nine segments: rising by number.
	steps := append([]step{appended("log-10-1", forms("z")), synced("log-10-1")}, base(10)...)
	for i := range 12 {
		steps = append(steps, removed(fmt.Sprint("log-9-", i+1)))
	}
	trial{room: plenty, most: 16, setUp: func(d *disk.Disk) { putFile(t, d, "base", based(9)) }, before: func(l *Log) {
		for range 12 {
			lay(t, l, "abcdefgh")
		}
	}, call: rebase("z")}.takes(t, api.OK, steps...)
}

func TestP115BehindRebase(t *testing.T) {
	d := made(t, plenty)
	l := lay(t, opened(t, d, 20), "old", "older", "oldest")
	is(t, "Rebase", l.Rebase(rows("n1", "n2", "n3")), api.OK)
	reads(t, d, "log-2-1", forms("n1", "n2"))
	reads(t, d, "log-2-2", forms("n3"))
	lay(t, l, "n4", "n5")
	reads(t, d, "log-2-2", forms("n3", "n4"))
	reads(t, d, "log-2-3", forms("n5"))
	holds(t, l, "n1", "n2", "n3", "n4", "n5")
	is(t, "Commit", l.Commit(), api.OK)
	d.Restart(nil)
	l = opened(t, d, 20)
	holds(t, l, "n1", "n2", "n3", "n4", "n5")
	for generation := uint64(3); generation < 30; generation++ {
		is(t, "Rebase", l.Rebase(rows("x", "y", fmt.Sprint(generation))), api.OK)
		lists(t, d, "base", fmt.Sprintf("log-%d-1", generation), fmt.Sprintf("log-%d-2", generation))
		reads(t, d, "base", based(generation))
		holds(t, l, "x", "y", fmt.Sprint(generation))
		if generation%4 == 0 {
			l = opened(t, d, 20)
		}
	}
}

func TestP115Order(t *testing.T) {
	big := [][]byte{{1}, make([]byte, longest+1), {2}}
	d := made(t, plenty)
	l := lay(t, opened(t, d, 100), "a")
	before := told(d)
	is(t, "ErrBig", l.Rebase(big), api.ErrBig)
	is(t, "ErrBig", l.Rebase(big[1:]), api.ErrBig)
	is(t, "ErrBig", l.Rebase(big[:2]), api.ErrBig)
	if now := told(d); now != before {
		t.Errorf("ErrBig: %s, not %s", now, before)
	}
	holds(t, l, "a")

	d = made(t, plenty)
	putFile(t, d, "base", based(1<<64-1))
	l = lay(t, opened(t, d, 100), "a")
	before = told(d)
	is(t, "ErrBig ahead of ErrBad", l.Rebase(big), api.ErrBig)
	is(t, "ErrBad", l.Rebase(nil), api.ErrBad)
	is(t, "ErrBad", l.Rebase(rows("b")), api.ErrBad)
	if now := told(d); now != before {
		t.Errorf("ErrBad: %s, not %s", now, before)
	}
	holds(t, lay(t, l, "b"), "a", "b")
	cutOff(t, d)
	is(t, "ErrDown", l.Append(nil), api.ErrDown)
	is(t, "without power: ErrBig", l.Rebase(big), api.ErrBig)
	is(t, "without power: ErrBad ahead of ErrDown", l.Rebase(nil), api.ErrBad)
	d.Restart(nil)
	is(t, "ErrBad behind ErrDown", l.Rebase(nil), api.ErrBad)
	is(t, "ErrDown", l.Append(nil), api.ErrDown)

	// The last generation but one may be left once.
	d = made(t, plenty)
	putFile(t, d, "base", based(1<<64-2))
	l = opened(t, d, 100)
	is(t, "Rebase", l.Rebase(rows("x")), api.OK)
	lists(t, d, "base", "log-18446744073709551615-1")
	is(t, "Rebase", l.Rebase(rows("y")), api.ErrBad)
	holds(t, l, "x")
	holds(t, opened(t, d, 100), "x")

	// As long as may be is not too long.
	d = made(t, 1<<22)
	l = opened(t, d, 100)
	is(t, "Rebase", l.Rebase([][]byte{make([]byte, longest), {1}}), api.OK)
	holds(t, l, string(make([]byte, longest)), "\x01")
}

// Whatever room there is for it: all of it is done, or all of it is taken back, and the log is as it was.
func TestP115Full(t *testing.T) {
	recs := []string{"n1", "n2", "n3", "", "n5"}
	full := 0
	for room := 31; room < 140; room++ {
		for _, commit := range []bool{false, true} {
			d := made(t, room)
			l := lay(t, opened(t, d, 20), "old", "older")
			if commit {
				is(t, "Commit", l.Commit(), api.OK)
			}
			is(t, "Append", d.Append("other", []byte("other")), api.OK)
			before, _ := d.List()
			used := d.Used()
			if e := l.Rebase(rows(recs...)); e == api.OK {
				lists(t, d, "base", "log-2-1", "log-2-2", "log-2-3", "other")
				holds(t, l, recs...)
				if room < used+len(forms(recs...))+12 {
					t.Errorf("room %d: done", room)
				}
				continue
			} else if e != api.ErrFull || room >= used+len(forms(recs...))+12 {
				t.Errorf("room %d: %v", room, e)
			}
			full++
			lists(t, d, before...)
			reads(t, d, "log-1-1", forms("old"))
			reads(t, d, "log-1-2", forms("older"))
			holds(t, l, "old", "older")
			// What of it was to be synced still is.
			steps := d.Steps()
			is(t, "Commit", l.Commit(), api.OK)
			if d.Steps() > steps == commit {
				t.Errorf("room %d: Commit took %d steps", room, d.Steps()-steps)
			}
			if room >= used+8 {
				holds(t, lay(t, l, ""), "old", "older", "")
			}
		}
	}
	if full < 50 {
		t.Error("one-sided:", full)
	}
}

func TestP115FullSteps(t *testing.T) {
	rebase := func(l *Log) api.Errno { return l.Rebase(rows("n1", "n2", "n3", "n4", "n5")) }
	old := func(l *Log) { lay(t, l, "old") }
	one, two, three := synced("log-2-1"), synced("log-2-2"), synced("log-2-3")
	laid := []step{
		appended("log-2-1", forms("n1")), appended("log-2-1", forms("n2")), one,
		appended("log-2-2", forms("n3")), appended("log-2-2", forms("n4")), two,
		appended("log-2-3", forms("n5")), three,
	}
	for room, steps := range map[int][]step{
		11:          {},
		20:          {},
		21:          {laid[0], removed("log-2-1")},
		31:          {laid[0], laid[1], one, removed("log-2-1")},
		41:          {laid[0], laid[1], one, laid[3], removed("log-2-1"), removed("log-2-2")},
		51:          append(slices.Clone(laid[:6]), removed("log-2-1"), removed("log-2-2")),
		60:          append(slices.Clone(laid[:6]), removed("log-2-1"), removed("log-2-2")),
		61:          append(slices.Clone(laid), removed("log-2-1"), removed("log-2-2"), removed("log-2-3")),
		61 + 12 - 1: append(slices.Clone(laid), removed("log-2-1"), removed("log-2-2"), removed("log-2-3")),
	} {
		trial{room: room, most: 20, before: old, call: rebase}.takes(t, api.ErrFull, steps...)
	}
	trial{room: 61 + 12, most: 20, before: old, call: rebase}.takes(t, api.OK,
		append(laid, appended("base.new", based(2)), synced("base.new"), renamed("base.new", "base"), removed("log-1-1"))...)
	// With no segments there is nothing to take back but base.new, which is not there.
	trial{room: 11 + 11, most: 20, before: old, call: func(l *Log) api.Errno { return l.Rebase(nil) }}.takes(t, api.ErrFull)
	// More than nine: rising by number.
	var steps []step
	for i := range 12 {
		steps = append(steps, appended(fmt.Sprint("log-2-", i+1), forms("abcdefgh")), synced(fmt.Sprint("log-2-", i+1)))
	}
	for i := range 12 {
		steps = append(steps, removed(fmt.Sprint("log-2-", i+1)))
	}
	many := rows(slices.Repeat([]string{"abcdefgh"}, 12)...)
	trial{room: 11 + 12*16 + 11, most: 16, before: old, call: func(l *Log) api.Errno { return l.Rebase(many) }}.takes(t, api.ErrFull, steps...)
}

// A base.new that somebody made goes too, behind the segments, if there is no room to append to it; not, if it did not come so far.
func TestP115FullWithBaseNew(t *testing.T) {
	laid := []step{appended("log-2-1", forms("abcd")), synced("log-2-1")}
	for room, steps := range map[int][]step{
		11 + 5 + 11:      {}, // no room for the segment
		11 + 5 + 12:      append(slices.Clone(laid), removed("log-2-1"), removed("base.new")),
		11 + 5 + 12 + 11: append(slices.Clone(laid), removed("log-2-1"), removed("base.new")),
	} {
		trial{room: room, most: 20, before: func(l *Log) {
			lay(t, l, "old")
			is(t, "Append", l.disk.Append("base.new", []byte("stray")), api.OK)
		}, call: func(l *Log) api.Errno {
			e := l.Rebase(rows("abcd"))
			holds(t, l, "old")
			return e
		}}.takes(t, api.ErrFull, steps...)
	}
}

// Behind a step without power no call takes one, though the power is back; the others answer as they did.
func TestDownForGood(t *testing.T) {
	d := made(t, plenty)
	l := lay(t, opened(t, d, 100), "a")
	is(t, "Commit", l.Commit(), api.OK)
	is(t, "Fuse", d.Fuse(0), api.OK)
	is(t, "Append", l.Append([]byte("b")), api.ErrDown)
	for range 2 {
		holds(t, l, "a")
		is(t, "Append", l.Append([]byte("c")), api.ErrDown)
		is(t, "Append", l.Append(nil), api.ErrDown)
		is(t, "Append, too long", l.Append(make([]byte, longest+1)), api.ErrBig)
		is(t, "Append without room", l.Append(make([]byte, longest)), api.ErrDown)
		is(t, "Rebase", l.Rebase(nil), api.ErrDown)
		is(t, "Rebase", l.Rebase(rows("c")), api.ErrDown)
		is(t, "Rebase, too long", l.Rebase([][]byte{make([]byte, longest+1)}), api.ErrBig)
		is(t, "Commit, with nothing to sync", l.Commit(), api.OK)
		d.Restart(nil)
	}
	reads(t, d, "log-1-1", forms("a"))
	if d.Steps() != 2 {
		t.Error("Steps:", d.Steps())
	}
	holds(t, opened(t, d, 100), "a")

	// With something to sync Commit would take a step.
	d = made(t, plenty)
	l = lay(t, opened(t, d, 100), "a")
	is(t, "Fuse", d.Fuse(0), api.OK)
	is(t, "Commit", l.Commit(), api.ErrDown)
	d.Restart([]int{99})
	is(t, "Commit", l.Commit(), api.ErrDown)
	is(t, "Append", l.Append(nil), api.ErrDown)
	holds(t, l, "a")
	holds(t, opened(t, d, 100), "a")

	// The Sync of an Append that then had no power stays.
	d = made(t, plenty)
	l = lay(t, opened(t, d, 16), "abcdefgh")
	is(t, "Fuse", d.Fuse(1), api.OK)
	is(t, "Append", l.Append([]byte("b")), api.ErrDown)
	is(t, "Commit", l.Commit(), api.OK)
	holds(t, l, "abcdefgh")
	d.Restart(nil)
	holds(t, opened(t, d, 16), "abcdefgh")
}

// A power that fails by somebody else's step is seen at the log's next one, and not ahead of it.
func TestDownBySomebodyElse(t *testing.T) {
	d := made(t, plenty)
	l := lay(t, opened(t, d, 100), "a")
	is(t, "Commit", l.Commit(), api.OK)
	cutOff(t, d)
	is(t, "Commit", l.Commit(), api.OK)
	d.Restart(nil)
	lay(t, l, "b")
	cutOff(t, d)
	is(t, "Commit", l.Commit(), api.ErrDown)
	d.Restart([]int{99})
	is(t, "Commit", l.Commit(), api.ErrDown)
	holds(t, l, "a", "b")
}

// What a log tells behind a Rebase whose power failed: the old records ahead of the renaming, the new ones behind it.
func TestDownWithinRebase(t *testing.T) {
	for fuse := range 9 {
		d := made(t, plenty)
		l := lay(t, opened(t, d, 20), "old", "older")
		is(t, "Fuse", d.Fuse(fuse), api.OK)
		e := l.Rebase(rows("n1", "n2"))
		want, last := []string{"old", "older"}, api.ErrDown
		if fuse > 5 { // two Appends, Sync; Append, Sync, Rename
			want, last = []string{"n1", "n2"}, api.OK
		}
		if (e == api.OK) != (fuse == 8) || e != api.OK && e != api.ErrDown {
			t.Errorf("fuse %d: %v", fuse, e)
		}
		for range 2 {
			holds(t, l, want...)
			is(t, fmt.Sprint("Commit, fuse ", fuse), l.Commit(), last)
			if fuse < 8 {
				is(t, fmt.Sprint("Append, fuse ", fuse), l.Append(nil), api.ErrDown)
				is(t, fmt.Sprint("Rebase, fuse ", fuse), l.Rebase(nil), api.ErrDown)
			}
			d.Restart([]int{99, 99, 99})
		}
	}
	// And where it failed while what was full was taken back: the old ones.
	d := made(t, 40)
	l := lay(t, opened(t, d, 16), "old")
	is(t, "Fuse", d.Fuse(2), api.OK)
	is(t, "Rebase", l.Rebase(rows("01234567", "01234567")), api.ErrDown)
	holds(t, l, "old")
	is(t, "Rebase", l.Rebase(nil), api.ErrDown)
	d.Restart([]int{len(forms("old"))})
	lists(t, d, "log-1-1", "log-2-1")
	holds(t, opened(t, d, 16), "old")
	lists(t, d, "log-1-1")
}
