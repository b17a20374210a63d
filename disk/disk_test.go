package disk

import (
	"bytes"
	"fmt"
	"math"
	"math/rand"
	"slices"
	"sort"
	"strings"
	"testing"
	"unsafe"

	"roost/api"
)

// In the tests' names stands which promise they hold.

const plenty = 1000

func made(t *testing.T, room int) *Disk {
	t.Helper()
	d, e := New(room)
	if d == nil || e != api.OK {
		t.Fatalf("New(%d): %v", room, e)
	}
	return d
}

// call is one call that changes a disk, written down, so that it can be made of several ones.
type call struct {
	do   string
	name string
	to   string
	b    string
	n    int
	keep []int
}

// String cuts texts off, for some fill a disk.
func (c call) String() string {
	return fmt.Sprintf("%s(%.70q, %.70q, %.30q, %d, %d)", c.do, c.name, c.to, c.b, c.n, c.keep)
}

func (c call) on(d *Disk) api.Errno {
	switch c.do {
	case "append":
		return d.Append(c.name, []byte(c.b))
	case "sync":
		return d.Sync(c.name)
	case "rename":
		return d.Rename(c.name, c.to)
	case "remove":
		return d.Remove(c.name)
	case "cut":
		return d.Cut(c.name, c.n)
	case "fuse":
		return d.Fuse(c.n)
	}
	d.Restart(c.keep)
	return api.OK
}

func appended(name, b string) call   { return call{do: "append", name: name, b: b} }
func synced(name string) call        { return call{do: "sync", name: name} }
func renamed(name, to string) call   { return call{do: "rename", name: name, to: to} }
func removed(name string) call       { return call{do: "remove", name: name} }
func cut(name string, size int) call { return call{do: "cut", name: name, n: size} }
func fuse(steps int) call            { return call{do: "fuse", n: steps} }
func restart(keep ...int) call       { return call{do: "restart", keep: keep} }

// run makes calls that must all be OK.
func run(t *testing.T, d *Disk, calls ...call) *Disk {
	t.Helper()
	for _, c := range calls {
		refused(t, d, c, api.OK)
	}
	return d
}

func refused(t *testing.T, d *Disk, c call, want api.Errno) {
	t.Helper()
	if e := c.on(d); e != want {
		t.Errorf("%v: %v, not %v", c, e, want)
	}
}

func reads(t *testing.T, d *Disk, name, want string) {
	t.Helper()
	if b, e := d.Read(name); string(b) != want || e != api.OK {
		t.Errorf("Read(%q): %q, %v; not %q", name, b, e, want)
	}
}

func lists(t *testing.T, d *Disk, want ...string) {
	t.Helper()
	if names, e := d.List(); !slices.Equal(names, want) || e != api.OK {
		t.Errorf("List: %q, %v; not %q", names, e, want)
	}
}

func counts(t *testing.T, d *Disk, used, steps int) {
	t.Helper()
	if d.Used() != used || d.Steps() != steps {
		t.Errorf("Used %d, Steps %d; not %d, %d", d.Used(), d.Steps(), used, steps)
	}
}

// told is all that a disk tells of itself, in one text.
func told(d *Disk, names ...string) string {
	var s strings.Builder
	list, e := d.List()
	fmt.Fprint(&s, list, e, d.Used(), d.Steps())
	for _, name := range append(list, names...) {
		b, e := d.Read(name)
		fmt.Fprintf(&s, " %s=%q,%d", name, b, e)
	}
	return s.String()
}

func TestP101Runs(t *testing.T) {
	for _, room := range []int{-1, 16777217, math.MinInt, math.MaxInt, 1 << 32, -1 << 32} {
		if d, e := New(room); d != nil || e != api.ErrArg {
			t.Errorf("New(%d): %v, %v", room, d, e)
		}
	}
	for _, room := range []int{0, 1, 16777215, 16777216} {
		d := made(t, room)
		lists(t, d)
		counts(t, d, 0, 0)
	}
}

// The room is what New was told, to the byte, over all files.
func TestP101Room(t *testing.T) {
	for _, room := range []int{0, 1, 2, 100, 16777215, 16777216} {
		d := made(t, room)
		whole := strings.Repeat("x", room)
		refused(t, d, appended("a", whole+"x"), api.ErrFull)
		lists(t, d)
		run(t, d, appended("a", whole), appended("a", ""), appended("b", ""))
		refused(t, d, appended("a", "x"), api.ErrFull)
		refused(t, d, appended("b", "x"), api.ErrFull)
		refused(t, d, appended("c", "xx"), api.ErrFull)
		lists(t, d, "a", "b")
		counts(t, d, room, 3)
	}
}

// At first the power is on, and there is no fuse.
func TestP101NoFuse(t *testing.T) {
	d := made(t, plenty)
	for range plenty {
		run(t, d, appended("a", "x"))
	}
	counts(t, d, plenty, plenty)
}

func TestP102Runs(t *testing.T) {
	d := made(t, plenty)
	refused(t, d, synced("x"), api.ErrNone)
	refused(t, d, appended("A", ".."), api.ErrName)
	run(t, d, appended("a", "12345678"))
	refused(t, d, cut("a", 9), api.ErrArg)
	refused(t, d, renamed("x", "a"), api.ErrNone)

	d = made(t, 2)
	refused(t, d, appended("a", "123"), api.ErrFull)
	run(t, d, appended("a", "12"))
	refused(t, d, appended("a", "3"), api.ErrFull)
	reads(t, d, "a", "12")

	d = run(t, made(t, plenty), fuse(0))
	refused(t, d, appended("a", "12"), api.ErrDown)
	if b, e := d.Read("a"); len(b) > 0 || e != api.ErrDown {
		t.Errorf("Read: %q, %v", b, e)
	}
	run(t, d, restart(2))
	reads(t, d, "a", "12")

	d = run(t, made(t, plenty), fuse(1), appended("a", "12"))
	refused(t, d, synced("a"), api.ErrDown)
	run(t, d, restart())
	reads(t, d, "a", "")
	lists(t, d, "a")
}

// everyStep is each kind of step, of a name.
func everyStep(name string) []call {
	return []call{appended(name, "x"), synced(name), renamed(name, "to"), renamed("a", name), removed(name), cut(name, 0)}
}

// Each byte in places of a name, runes of several bytes, all lengths.
func TestP102Names(t *testing.T) {
	const good = "abcdefghijklmnopqrstuvwxyz0123456789.-"
	check := func(name string, fits bool) {
		t.Helper()
		d := run(t, made(t, plenty), appended("a", "1"))
		for _, c := range everyStep(name) {
			if e := c.on(d); fits == (e == api.ErrName) {
				t.Errorf("%v: %v", c, e)
			}
		}
		if b, e := d.Read(name); fits == (e == api.ErrName) || e != api.OK && len(b) > 0 {
			t.Errorf("Read(%q): %q, %v", name, b, e)
		}
	}
	for v := range 1 << 8 {
		c := string([]byte{byte(v)})
		fits := strings.Contains(good, c)
		for _, name := range []string{c, c + "b", "b" + c, "b" + c + "b", strings.Repeat("b", 63) + c} {
			check(name, fits)
		}
	}
	for n := range 200 {
		check(strings.Repeat("z", n), 1 <= n && n <= 64)
	}
	for _, name := range []string{"é", "ſ", "K", "aé", "\u0131", "a\xffb", "a b", "a/b", "a_b", "A", "../a.", "\x00", "a\n"} {
		check(name, false)
	}
	for _, name := range []string{".", "..", "-", "--", ".-", "0", "a.b-1", strings.Repeat(".", 64)} {
		check(name, true)
	}
}

// Of faults that come together the first is told: ErrDown, ErrName, ErrNone, ErrFull or ErrArg; and nothing has changed.
func TestP102Order(t *testing.T) {
	over := strings.Repeat("x", plenty)
	for _, x := range []struct {
		c call
		e api.Errno
	}{
		{appended("", over), api.ErrName},
		{appended("B", over), api.ErrName},
		{appended("b", over), api.ErrFull},
		{appended("a", over), api.ErrFull},
		{synced("B"), api.ErrName},
		{synced("b"), api.ErrNone},
		{renamed("B", "b"), api.ErrName},
		{renamed("b", "B"), api.ErrName},
		{renamed("B", "B"), api.ErrName},
		{renamed("a", ""), api.ErrName},
		{renamed("", "a"), api.ErrName},
		{renamed("b", "b"), api.ErrNone},
		{renamed("b", "a"), api.ErrNone},
		{renamed("b", "c"), api.ErrNone},
		{removed("B"), api.ErrName},
		{removed("b"), api.ErrNone},
		{cut("B", -1), api.ErrName},
		{cut("B", 0), api.ErrName},
		{cut("b", -1), api.ErrNone},
		{cut("b", 0), api.ErrNone},
		{cut("b", 9), api.ErrNone},
		{cut("a", -1), api.ErrArg},
		{cut("a", 4), api.ErrArg},
		{cut("a", math.MaxInt), api.ErrArg},
		{cut("a", math.MinInt), api.ErrArg},
	} {
		// The fuse has nothing left: a step that is refused does not come so far.
		d := run(t, made(t, plenty), appended("a", "12"), synced("a"), appended("a", "3"), fuse(0))
		before := told(d, "b")
		refused(t, d, x.c, x.e)
		if now := told(d, "b"); now != before {
			t.Errorf("%v: %s, not %s", x.c, now, before)
		}
		refused(t, d, removed("a"), api.ErrDown)
		used, steps := d.Used(), d.Steps()
		refused(t, d, x.c, api.ErrDown)
		counts(t, d, used, steps)
		run(t, d, restart())
		reads(t, d, "a", "12")
		lists(t, d, "a")
	}
}

// Without power no step is done, one that is in order neither, and of an Append nothing is written.
func TestP102Down(t *testing.T) {
	for _, c := range append(everyStep("a"), appended("b", "xy"), renamed("a", "b"), renamed("a", "a"), cut("a", 3), appended("a", "")) {
		d := run(t, made(t, plenty), appended("a", "12"), synced("a"), appended("a", "3"), fuse(0))
		refused(t, d, synced("a"), api.ErrDown)
		for range 3 {
			refused(t, d, c, api.ErrDown)
		}
		counts(t, d, 3, 3)
		run(t, d, restart(1))
		reads(t, d, "a", "123")
		lists(t, d, "a")
		counts(t, d, 3, 3)
	}
}

// The step at which the fuse has nothing left is not done, and not counted.
func TestP102FuseNotDone(t *testing.T) {
	for _, c := range []call{synced("a"), renamed("a", "b"), renamed("a", "c"), renamed("a", "a"), removed("a"), cut("a", 0), cut("a", 1), cut("a", 3)} {
		for _, kept := range []int{0, 1} {
			d := run(t, made(t, plenty), appended("a", "12"), synced("a"), appended("a", "3"), appended("c", "c"), synced("c"), fuse(0))
			refused(t, d, c, api.ErrDown)
			counts(t, d, 4, 5)
			run(t, d, restart(kept))
			lists(t, d, "a", "c")
			reads(t, d, "a", "123"[:2+kept])
			reads(t, d, "c", "c")
			counts(t, d, 3+kept, 5)
		}
	}
}

// But the bytes of an Append are behind the file then, and may be lost.
func TestP102FuseAppend(t *testing.T) {
	for kept := range 5 {
		d := run(t, made(t, 6), appended("a", "12"), synced("a"), appended("a", "3"), fuse(0))
		refused(t, d, appended("a", "4567"), api.ErrFull)
		refused(t, d, appended("a", "456"), api.ErrDown)
		counts(t, d, 6, 3)
		run(t, d, restart(kept))
		reads(t, d, "a", "123456"[:2+kept])
		counts(t, d, 2+kept, 3)
	}
	for kept := range 3 {
		d := run(t, made(t, plenty), appended("b", "b"), fuse(0))
		refused(t, d, appended("a", "12"), api.ErrDown)
		counts(t, d, 3, 1)
		run(t, d, restart(kept, 1))
		lists(t, d, "a", "b")
		reads(t, d, "a", "12"[:kept])
		reads(t, d, "b", "b")
	}
	// Of no bytes too, as an Append that is done makes a file of none.
	d := run(t, made(t, plenty), fuse(0))
	refused(t, d, appended("a", ""), api.ErrDown)
	run(t, d, restart())
	lists(t, d, "a")
	reads(t, d, "a", "")
}

func TestP102Append(t *testing.T) {
	d := run(t, made(t, plenty), appended("a", ""), appended("b", "1"), appended("b", ""), appended("b", "23"), appended("a", "x"))
	lists(t, d, "a", "b")
	reads(t, d, "a", "x")
	reads(t, d, "b", "123")
	counts(t, d, 4, 5)
	run(t, d, restart())
	lists(t, d, "a", "b")
	reads(t, d, "a", "")
	reads(t, d, "b", "")
	if d.Append("c", nil) != api.OK {
		t.Error("Append of nil")
	}
	reads(t, d, "c", "")
}

func TestP102Sync(t *testing.T) {
	d := run(t, made(t, plenty), appended("a", "12"), appended("b", "12"), synced("a"), synced("a"), appended("a", "3"), restart())
	reads(t, d, "a", "12")
	reads(t, d, "b", "")
	run(t, d, appended("a", "3"), synced("a"), appended("a", ""), restart())
	reads(t, d, "a", "123")
	run(t, d, appended("c", ""), synced("c"), restart())
	reads(t, d, "c", "")
	counts(t, d, 3, 10)
}

// Example 2, and that safe bytes stay so under another name; what was under it is gone, bytes and safety.
func TestP102Rename(t *testing.T) {
	d := run(t, made(t, plenty), appended("a", "12"), renamed("a", "b"))
	lists(t, d, "b")
	reads(t, d, "b", "12")
	run(t, d, restart(1))
	reads(t, d, "b", "1")

	d = run(t, made(t, plenty), appended("a", "12"), synced("a"), appended("a", "3"), renamed("a", "b"), restart())
	lists(t, d, "b")
	reads(t, d, "b", "12")

	d = run(t, made(t, plenty), appended("a", "12"), appended("b", "safe"), synced("b"), renamed("a", "b"))
	lists(t, d, "b")
	reads(t, d, "b", "12")
	counts(t, d, 2, 4)
	refused(t, d, synced("a"), api.ErrNone)
	run(t, d, restart(1))
	reads(t, d, "b", "1")

	d = run(t, made(t, plenty), appended("a", "1"), synced("a"), appended("b", "loose"), renamed("a", "b"), appended("b", "2"), restart())
	lists(t, d, "b")
	reads(t, d, "b", "1")
	counts(t, d, 1, 5)
	run(t, d, appended("a", "new"))
	reads(t, d, "a", "new")
	reads(t, d, "b", "1")
}

func TestP102RenameToItself(t *testing.T) {
	d := run(t, made(t, plenty), appended("a", "12"), synced("a"), appended("a", "3"), renamed("a", "a"))
	lists(t, d, "a")
	reads(t, d, "a", "123")
	counts(t, d, 3, 4)
	run(t, d, restart())
	reads(t, d, "a", "12")
	run(t, d, fuse(1), renamed("a", "a"))
	refused(t, d, renamed("a", "a"), api.ErrDown)
}

// That a file is gone, renamed or cut is safe at once, and makes room.
func TestP102RemoveAndCutAreSafe(t *testing.T) {
	d := run(t, made(t, 4), appended("a", "1234"), synced("a"), cut("a", 4), cut("a", 3), restart(9))
	reads(t, d, "a", "123")
	counts(t, d, 3, 4)
	run(t, d, appended("b", "x"), removed("a"), restart(1))
	lists(t, d, "b")
	reads(t, d, "b", "x")
	counts(t, d, 1, 6)
	run(t, d, appended("a", "567"))
	reads(t, d, "a", "567")
	run(t, d, cut("a", 0), cut("a", 0), restart(3))
	reads(t, d, "a", "")
	counts(t, d, 1, 9)
	run(t, d, appended("a", "abc"), synced("a"), renamed("a", "b"), appended("c", "d"), restart(1))
	lists(t, d, "b", "c")
	reads(t, d, "b", "abc")
}

// What a file that was removed had of safety is not its namesake's.
func TestP102RemovedAndMadeAgain(t *testing.T) {
	d := run(t, made(t, plenty), appended("a", "123"), synced("a"), removed("a"), appended("a", "45"), restart(1))
	reads(t, d, "a", "4")
	refused(t, run(t, d, removed("a")), removed("a"), api.ErrNone)
	lists(t, d)
}

// At each size: what is left of the loose bytes is loose, and what is appended behind safe ones too.
func TestP102CutEverySize(t *testing.T) {
	const row = "123456"
	for safe := range len(row) + 1 {
		for size := range len(row) + 1 {
			for kept := range len(row) + 3 {
				d := run(t, made(t, plenty), appended("a", row[:safe]), synced("a"), appended("a", row[safe:]), cut("a", size), appended("a", "xy"))
				now := row[:size] + "xy"
				reads(t, d, "a", now)
				left := min(safe, size)
				run(t, d, restart(kept))
				reads(t, d, "a", now[:left+kept%(len(now)-left+1)])
			}
		}
	}
}

func TestP103Read(t *testing.T) {
	d := run(t, made(t, plenty), appended("a", "12"), synced("a"), appended("a", "3"), appended("b", ""), appended("0", "\x00\xff"))
	reads(t, d, "a", "123")
	reads(t, d, "b", "")
	reads(t, d, "0", "\x00\xff")
	for name, want := range map[string]api.Errno{"": api.ErrName, "A": api.ErrName, "a ": api.ErrName, "c": api.ErrNone, "aa": api.ErrNone} {
		if b, e := d.Read(name); len(b) > 0 || e != want {
			t.Errorf("Read(%q): %q, %v", name, b, e)
		}
	}
	counts(t, d, 5, 5)
	run(t, d, fuse(0))
	refused(t, d, synced("a"), api.ErrDown)
	for _, name := range []string{"", "A", "a", "c"} {
		if b, e := d.Read(name); len(b) > 0 || e != api.ErrDown {
			t.Errorf("without power: Read(%q): %q, %v", name, b, e)
		}
	}
	if names, e := d.List(); len(names) > 0 || e != api.ErrDown {
		t.Errorf("without power: List: %q, %v", names, e)
	}
	counts(t, d, 5, 5)
}

func TestP103ListRises(t *testing.T) {
	names := []string{"b", "a", "aa", "a-", "a.", "a0", "0", "9", "-", ".", "10", "z", "a-z", "log-1-10", "log-1-2", "log-1-1", strings.Repeat("a", 64), strings.Repeat("a", 63)}
	want := slices.Clone(names)
	sort.Slice(want, func(i, j int) bool { return bytes.Compare([]byte(want[i]), []byte(want[j])) < 0 })
	r := rand.New(rand.NewSource(103))
	for range 50 {
		r.Shuffle(len(names), func(i, j int) { names[i], names[j] = names[j], names[i] })
		d := made(t, plenty)
		for _, name := range names {
			run(t, d, appended(name, ""))
		}
		lists(t, d, want...)
	}
	if want[0] != "-" || want[1] != "." || want[2] != "0" || want[3] != "10" || want[4] != "9" {
		t.Error("the order that is asked for:", want)
	}
}

// What looks at a disk is no step: it is not counted, and takes nothing of a fuse.
func TestP103LooksAreNoSteps(t *testing.T) {
	d := run(t, made(t, plenty), fuse(1))
	for range 10 {
		told(d, "a", "A")
		d.Used()
	}
	counts(t, d, 0, 0)
	run(t, d, appended("a", "1"))
	told(d, "a")
	counts(t, d, 1, 1)
	refused(t, d, appended("a", "2"), api.ErrDown)
	run(t, d, restart(2))
	counts(t, d, 2, 1)
}

func TestP104Fuse(t *testing.T) {
	for steps := range 30 {
		d := run(t, made(t, plenty), appended("a", ""), fuse(steps))
		for range steps {
			run(t, d, appended("a", "x"))
		}
		refused(t, d, synced("a"), api.ErrDown)
		counts(t, d, steps, steps+1)
		for _, x := range []struct {
			steps int
			e     api.Errno
		}{{-1, api.ErrArg}, {math.MinInt, api.ErrArg}, {0, api.ErrDown}, {1, api.ErrDown}, {math.MaxInt, api.ErrDown}} {
			refused(t, d, fuse(x.steps), x.e)
		}
		run(t, d, restart(), appended("a", "y"), synced("a"), synced("a"))
	}
}

// A fuse replaces the one that there was, whatever was left of it; one that is refused does not.
func TestP104FuseReplaces(t *testing.T) {
	d := run(t, made(t, plenty), fuse(0), fuse(3), appended("a", "1"), fuse(2), synced("a"))
	refused(t, d, fuse(-1), api.ErrArg)
	run(t, d, synced("a"))
	refused(t, d, fuse(-5), api.ErrArg)
	refused(t, d, synced("a"), api.ErrDown)
	counts(t, d, 1, 3)

	d = run(t, made(t, plenty), fuse(5), appended("a", "1"), fuse(0))
	refused(t, d, synced("a"), api.ErrDown)

	d = run(t, made(t, plenty), fuse(math.MaxInt))
	for range 100 {
		run(t, d, appended("a", "1"))
	}
}

// Example 1.
func TestP104RefusedTakesNothing(t *testing.T) {
	d := run(t, made(t, plenty), fuse(2), appended("a", "12"))
	for _, c := range []call{appended("A", ""), appended("a", strings.Repeat("x", plenty)), synced("b"), renamed("b", "a"), renamed("a", "A"), removed("b"), cut("a", 3), cut("a", -1)} {
		if e := c.on(d); e == api.OK || e == api.ErrDown {
			t.Errorf("%v: %v", c, e)
		}
	}
	counts(t, d, 2, 1)
	run(t, d, synced("a"))
	refused(t, d, synced("a"), api.ErrDown)
	counts(t, d, 2, 2)
}

func TestP105Runs(t *testing.T) {
	for _, x := range []struct {
		keep []int
		want string
	}{{[]int{1}, "1234"}, {nil, "123"}, {[]int{}, "123"}, {[]int{5}, "12345"}} {
		d := run(t, made(t, plenty), appended("a", "123"), synced("a"), appended("a", "45"), restart(x.keep...))
		reads(t, d, "a", x.want)
		run(t, d, restart(1, 1))
		reads(t, d, "a", x.want)
	}
}

func TestP105EveryKeep(t *testing.T) {
	const row = "abcdefghij"
	for safe := range 4 {
		for loose := 1; safe+loose <= len(row); loose++ {
			for keep := -3; keep < 40; keep++ {
				d := run(t, made(t, plenty), appended("a", row[:safe]), synced("a"), appended("a", row[safe:safe+loose]), restart(keep))
				left := safe
				if keep > 0 {
					left += keep % (loose + 1)
				}
				reads(t, d, "a", row[:left])
				counts(t, d, left, 3)
				run(t, d, restart(0, 0))
				reads(t, d, "a", row[:left])
			}
		}
	}
	for keep, want := range map[int]string{math.MaxInt: "ab"[:math.MaxInt%3], math.MinInt: "", math.MinInt + 1: "", -2: "", 1 << 31: "ab"[:(1<<31)%3]} {
		d := run(t, made(t, plenty), appended("a", "ab"), restart(keep))
		reads(t, d, "a", want)
	}
}

// Only files that have loose bytes are counted, by their names' order; what keep says beyond them is not looked at.
func TestP105WhichKeep(t *testing.T) {
	build := func() *Disk {
		return run(t, made(t, plenty),
			appended("d", "ddd"), appended("c", "ccc"), synced("c"), appended("b", "bb"), synced("b"), appended("b", "b"), appended("a", ""), appended("a.", "aaa"))
	}
	for _, x := range []struct {
		keep    []int
		a, b, d string
	}{
		{nil, "", "bb", ""},
		{[]int{1}, "a", "bb", ""},
		{[]int{2, 1}, "aa", "bbb", ""},
		{[]int{3, 0, 2}, "aaa", "bb", "dd"},
		{[]int{-1, 3, 3}, "", "bbb", "ddd"},
		{[]int{4, -7, 5, 1, 1, 1}, "", "bb", "d"},
		{[]int{0, 0, 1, 3, 3}, "", "bb", "d"},
	} {
		d := run(t, build(), restart(x.keep...))
		lists(t, d, "a", "a.", "b", "c", "d")
		for name, want := range map[string]string{"a": "", "a.": x.a, "b": x.b, "c": "ccc", "d": x.d} {
			reads(t, d, name, want)
		}
		counts(t, d, len(x.a+x.b+x.d)+3, 8)
		run(t, d, restart(), restart(1, 1, 1, 1, 1))
		counts(t, d, len(x.a+x.b+x.d)+3, 8)
	}
}

// Whether the power was on or off, it is on, without a fuse, and what was lost has left room.
func TestP105PowerAndFuse(t *testing.T) {
	for _, off := range []bool{false, true} {
		d := run(t, made(t, 3), appended("a", "123"), fuse(0))
		if off {
			refused(t, d, synced("a"), api.ErrDown)
		}
		run(t, d, restart(1), appended("a", "45"), synced("a"), appended("b", ""), renamed("b", "c"), removed("c"))
		reads(t, d, "a", "145")
		counts(t, d, 3, 6)
		refused(t, d, appended("a", "6"), api.ErrFull)
		run(t, d, fuse(1), synced("a"))
		refused(t, d, synced("a"), api.ErrDown)
	}
}

// plain is a disk of bytes that each know whether they are safe, in rows without a map: the chapter's words, and nothing of the program.
type plain struct {
	room  int
	names []string
	rows  [][]grain
	steps int
	off   bool
	fuse  int // below 0: none
}

type grain struct {
	b    byte
	safe bool
}

func (p *plain) at(name string) int { return slices.Index(p.names, name) }

func (p *plain) used() (n int) {
	for _, row := range p.rows {
		n += len(row)
	}
	return n
}

func (p *plain) text(name string) string {
	var b []byte
	for _, g := range p.rows[p.at(name)] {
		b = append(b, g.b)
	}
	return string(b)
}

func (p *plain) remove(name string) {
	i := p.at(name)
	p.names, p.rows = slices.Delete(p.names, i, i+1), slices.Delete(p.rows, i, i+1)
}

func plainName(name string) bool {
	return name != "" && len(name) <= 64 && strings.Trim(name, "abcdefghijklmnopqrstuvwxyz0123456789.-") == ""
}

func (p *plain) fault(c call) api.Errno {
	switch {
	case c.do == "fuse" && c.n < 0:
		return api.ErrArg
	case p.off:
		return api.ErrDown
	case c.do == "fuse":
		return api.OK
	case !plainName(c.name) || c.do == "rename" && !plainName(c.to):
		return api.ErrName
	case c.do != "append" && p.at(c.name) < 0:
		return api.ErrNone
	case c.do == "append" && p.used()+len(c.b) > p.room:
		return api.ErrFull
	case c.do == "cut" && (c.n < 0 || c.n > len(p.rows[p.at(c.name)])):
		return api.ErrArg
	}
	return api.OK
}

func (p *plain) done(c call) api.Errno {
	if c.do == "restart" {
		p.restart(c.keep)
		return api.OK
	}
	if e := p.fault(c); e != api.OK {
		return e
	}
	if c.do == "fuse" {
		p.fuse = c.n
		return api.OK
	}
	if c.do == "append" {
		p.append(c)
	}
	if p.fuse == 0 {
		p.off = true
		return api.ErrDown
	}
	p.fuse, p.steps = p.fuse-1, p.steps+1
	p.step(c)
	return api.OK
}

func (p *plain) append(c call) {
	if p.at(c.name) < 0 {
		p.names, p.rows = append(p.names, c.name), append(p.rows, nil)
	}
	for _, b := range []byte(c.b) {
		p.rows[p.at(c.name)] = append(p.rows[p.at(c.name)], grain{b: b})
	}
}

func (p *plain) step(c call) {
	switch c.do {
	case "sync":
		for i := range p.rows[p.at(c.name)] {
			p.rows[p.at(c.name)][i].safe = true
		}
	case "rename":
		if c.to != c.name && p.at(c.to) >= 0 {
			p.remove(c.to)
		}
		p.names[p.at(c.name)] = c.to
	case "remove":
		p.remove(c.name)
	case "cut":
		p.rows[p.at(c.name)] = p.rows[p.at(c.name)][:c.n]
	}
}

func (p *plain) restart(keep []int) {
	order := slices.Clone(p.names)
	sort.Strings(order)
	next := 0
	for _, name := range order {
		row := p.rows[p.at(name)]
		loose := 0
		for _, g := range row {
			if !g.safe {
				loose++
			}
		}
		if loose == 0 {
			continue
		}
		kept := 0
		if next < len(keep) && keep[next] >= 0 {
			kept = keep[next] % (loose + 1)
		}
		next++
		row = row[:len(row)-loose+kept]
		for i := range row {
			row[i].safe = true
		}
		p.rows[p.at(name)] = row
	}
	p.off, p.fuse = false, -1
}

// told is what told tells of a disk.
func (p *plain) told(names ...string) string {
	var s strings.Builder
	list, e := slices.Clone(p.names), api.OK
	sort.Strings(list)
	if p.off {
		list, e = nil, api.ErrDown
	}
	fmt.Fprint(&s, list, e, p.used(), p.steps)
	for _, name := range append(list, names...) {
		text, e := "", api.OK
		switch {
		case p.off:
			e = api.ErrDown
		case !plainName(name):
			e = api.ErrName
		case p.at(name) < 0:
			e = api.ErrNone
		default:
			text = p.text(name)
		}
		fmt.Fprintf(&s, " %s=%q,%d", name, text, e)
	}
	return s.String()
}

var poolOfNames = []string{"a", "b", "c", "a-", "a.", "0", "log-1-1"}

func randomName(r *rand.Rand) string {
	if r.Intn(25) == 0 {
		return []string{"", "A", "é", strings.Repeat("a", 65), "a b"}[r.Intn(5)]
	}
	return poolOfNames[r.Intn(len(poolOfNames))]
}

func randomKeep(r *rand.Rand) (keep []int) {
	for range r.Intn(8) {
		keep = append(keep, r.Intn(30)-5)
	}
	return keep
}

func randomCall(r *rand.Rand) call {
	c := call{name: randomName(r), to: randomName(r), n: r.Intn(12) - 1}
	c.do = []string{"append", "append", "append", "append", "append", "sync", "sync", "rename", "remove", "cut"}[r.Intn(10)]
	b := make([]byte, r.Intn(6))
	r.Read(b)
	c.b = string(b)
	return c
}

// randomCalls are steps with now and then a fuse, and a Restart, mostly not far behind it.
func randomCalls(r *rand.Rand, n int) (calls []call) {
	for range n {
		switch x := r.Intn(30); {
		case x < 2:
			calls = append(calls, fuse(r.Intn(8)-1))
		case x < 5:
			calls = append(calls, restart(randomKeep(r)...))
		default:
			calls = append(calls, randomCall(r))
		}
	}
	return calls
}

func TestP105Walks(t *testing.T) {
	r := rand.New(rand.NewSource(105))
	seen := map[api.Errno]int{}
	for range 2000 {
		room := []int{0, 5, 20, 60, plenty}[r.Intn(5)]
		d, p := made(t, room), &plain{room: room, fuse: -1}
		calls := randomCalls(r, 60)
		for i, c := range calls {
			got, want := c.on(d), p.done(c)
			seen[want]++
			if got != want {
				t.Fatalf("room %d: %v: %v, not %v", room, calls[:i+1], got, want)
			}
			if got, want := told(d, "a", "b", "A", ""), p.told("a", "b", "A", ""); got != want {
				t.Fatalf("room %d: %v: %s, not %s", room, calls[:i+1], got, want)
			}
		}
	}
	for _, e := range []api.Errno{api.OK, api.ErrArg, api.ErrDown, api.ErrName, api.ErrNone, api.ErrFull} {
		if seen[e] < 500 {
			t.Error("one-sided:", seen)
		}
	}
}

// witness tells of each file what of it was safe, as far as Sync, Restart and what takes bytes away were answered.
type witness struct{ safe, whole map[string]string }

func (w witness) saw(c call, d *Disk, e api.Errno) {
	switch {
	case c.do == "restart":
		for name := range w.whole {
			b, _ := d.Read(name)
			w.safe[name], w.whole[name] = string(b), string(b)
		}
	case c.do == "append" && (e == api.OK || e == api.ErrDown):
		w.whole[c.name] += c.b
	case e != api.OK:
	case c.do == "sync":
		w.safe[c.name] = w.whole[c.name]
	case c.do == "rename" && c.name != c.to:
		w.safe[c.to], w.whole[c.to] = w.safe[c.name], w.whole[c.name]
		delete(w.safe, c.name)
		delete(w.whole, c.name)
	case c.do == "remove":
		delete(w.safe, c.name)
		delete(w.whole, c.name)
	case c.do == "cut":
		w.whole[c.name] = w.whole[c.name][:c.n]
		w.safe[c.name] = w.safe[c.name][:min(c.n, len(w.safe[c.name]))]
	}
}

// holds asks that each file begins with what was safe of it, and has all of it and more of what was appended, or lost nothing.
func (w witness) holds(t *testing.T, d *Disk, lost bool, calls []call) {
	t.Helper()
	for name, safe := range w.safe {
		if _, there := w.whole[name]; !there && safe != "" {
			t.Fatal("the witness is wrong:", name)
		}
	}
	for name, whole := range w.whole {
		b, e := d.Read(name)
		if e != api.OK || !strings.HasPrefix(string(b), w.safe[name]) || !strings.HasPrefix(whole, string(b)) {
			t.Fatalf("%v: Read(%q): %q, %v; safe was %q of %q", calls, name, b, e, w.safe[name], whole)
		}
		if !lost && string(b) != whole {
			t.Fatalf("%v: Read(%q): %q; there was no Restart, and it was %q", calls, name, b, whole)
		}
	}
	if list, _ := d.List(); len(list) != len(w.whole) {
		t.Fatalf("%v: %q are there, not %d", calls, list, len(w.whole))
	}
}

// The power fails behind each number of steps, and comes back with something of the loose bytes; what was safe is there.
func TestP106SafeStays(t *testing.T) {
	r := rand.New(rand.NewSource(106))
	for range 300 {
		calls := make([]call, 30)
		for i := range calls {
			calls[i] = randomCall(r)
		}
		for steps := range 15 {
			d, w := made(t, plenty), witness{map[string]string{}, map[string]string{}}
			run(t, d, fuse(steps))
			for _, c := range calls {
				e := c.on(d)
				w.saw(c, d, e)
				if e == api.ErrDown {
					break
				}
				w.holds(t, d, false, calls)
			}
			c := restart(randomKeep(r)...)
			c.on(d)
			w.holds(t, d, true, calls)
			w.saw(c, d, api.OK)
			for _, c := range append(calls, restart()) {
				w.saw(c, d, c.on(d))
			}
			w.holds(t, d, false, calls)
		}
	}
}

// Without a Restart no byte is lost, however many steps come behind it.
func TestP106NoByteIsLost(t *testing.T) {
	r := rand.New(rand.NewSource(107))
	d := made(t, 16777216)
	want := map[string]string{}
	total := 0
	for i := range 3000 {
		name := poolOfNames[r.Intn(len(poolOfNames))]
		b := strings.Repeat(string(rune('a'+i%26)), r.Intn(300))
		run(t, d, appended(name, b))
		want[name] += b
		total += len(b)
		if r.Intn(4) == 0 {
			run(t, d, synced(name))
		}
	}
	for name, text := range want {
		reads(t, d, name, text)
	}
	if d.Used() != total {
		t.Errorf("Used: %d, not %d", d.Used(), total)
	}
}

func TestR2ArgumentsAreNotKept(t *testing.T) {
	d := made(t, plenty)
	whole := []byte("12345678")
	room := append(bytes.Clone(whole), "spare"...)
	b := room[:8]
	if e := d.Append("a", b); e != api.OK || string(room) != "12345678spare" {
		t.Fatal(e, string(room))
	}
	copy(room, "XXXXXXXXXXXXX")
	reads(t, d, "a", "12345678")
	run(t, d, appended("a", "9"))
	reads(t, d, "a", "123456789")
	if string(room) != "XXXXXXXXXXXXX" {
		t.Errorf("the argument was written to: %q", room)
	}
	keep := []int{2, 3, 4, 5}
	d.Restart(keep[:2])
	if !slices.Equal(keep, []int{2, 3, 4, 5}) {
		t.Error("keep was changed:", keep)
	}
	reads(t, d, "a", "12")
}

func TestR2NamesAreNotKept(t *testing.T) {
	for _, last := range []string{"append", "append again", "sync", "cut", "rename"} {
		d := made(t, plenty)
		memory := []byte("abc")
		name := unsafe.String(&memory[0], 3)
		run(t, d, appended(strings.Clone(name), "1"))
		switch last {
		case "append":
			d.Remove("abc")
			d.Append(name, []byte("1"))
		case "append again":
			d.Append(name, nil)
		case "sync":
			d.Sync(name)
		case "cut":
			d.Cut(name, 1)
		case "rename":
			d.Rename(name, name)
		}
		copy(memory, "xyz")
		lists(t, d, "abc")
		reads(t, d, "abc", "1")
		refused(t, d, synced("xyz"), api.ErrNone)
		run(t, d, appended("abc", "2"))
		lists(t, d, "abc")
		reads(t, d, "abc", "12")
	}
}

// overwrite fills an answer with its spare room, and so tells whose memory it is.
func overwrite(b []byte) {
	b = b[:cap(b)]
	for i := range b {
		b[i] = '#'
	}
}

func TestR2AnswersAreNew(t *testing.T) {
	d := made(t, plenty)
	text := ""
	for i := range 40 {
		b, e := d.Read("a")
		if (e != api.OK) != (i == 0) || string(b) != text {
			t.Fatal(e, string(b))
		}
		other, _ := d.Read("a")
		overwrite(b)
		if string(other) != text {
			t.Fatal("two answers share memory")
		}
		text += string(rune('a' + i%26))
		run(t, d, appended("a", text[i:]))
		overwrite(other)
		reads(t, d, "a", text)
	}
	for size := len(text); size >= 0; size-- {
		run(t, d, cut("a", size))
		b, _ := d.Read("a")
		overwrite(b)
		reads(t, d, "a", text[:size])
	}
	run(t, d, appended("b", "1"), appended("c", "2"))
	one, _ := d.List()
	two, _ := d.List()
	one = one[:cap(one)]
	for i := range one {
		one[i] = "#"
	}
	if !slices.Equal(two, []string{"a", "b", "c"}) {
		t.Error("two lists share memory:", two)
	}
	lists(t, d, "a", "b", "c")
	three, _ := d.List()
	if unsafe.StringData(two[0]) == unsafe.StringData(three[0]) {
		t.Error("two lists share a name's memory")
	}
}

// A file that took another's bytes over by Rename shares none with one that is made under the old name.
func TestR2FilesShareNothing(t *testing.T) {
	d := run(t, made(t, plenty), appended("a", "12345"), appended("a", "6"), cut("a", 2), renamed("a", "b"), appended("a", "xy"), appended("b", "34"), appended("a", "z"))
	reads(t, d, "a", "xyz")
	reads(t, d, "b", "1234")
	run(t, d, restart(2, 3), appended("a", "!"), appended("b", "?"))
	reads(t, d, "a", "xy!")
	reads(t, d, "b", "123?")
}

// What was cut off or lost is not held in memory.
func TestCutBytesAreLetGo(t *testing.T) {
	d := run(t, made(t, 1<<20), appended("a", strings.Repeat("x", 1<<20)), cut("a", 3))
	if n := cap(d.files["a"].row); n > 100 {
		t.Error("behind Cut:", n)
	}
	run(t, d, appended("b", strings.Repeat("x", 1<<19)), restart(0, 2))
	if n := cap(d.files["b"].row); n > 100 {
		t.Error("behind Restart:", n)
	}
}

func TestR4DisksAreApart(t *testing.T) {
	r := rand.New(rand.NewSource(4))
	for range 300 {
		calls := randomCalls(r, 60)
		one, two, other := made(t, 60), made(t, 60), made(t, 60)
		for _, c := range calls {
			a := c.on(one)
			randomCall(r).on(other)
			if b := c.on(two); a != b || told(one, "a") != told(two, "a") {
				t.Fatalf("%v: %v, %v", calls, a, b)
			}
		}
	}
}

// With many files a map goes through them in ever another order: which keep is whose must not hang on it.
func TestR4OrderOfMaps(t *testing.T) {
	var first string
	for range 30 {
		d := made(t, plenty)
		var keep []int
		for i := range 60 {
			run(t, d, appended(fmt.Sprint("f", i), "12345"))
			keep = append(keep, i)
		}
		now := told(run(t, d, restart(keep...)))
		if first == "" {
			first = now
		}
		if now != first {
			t.Fatalf("%s, not %s", now, first)
		}
	}
}
