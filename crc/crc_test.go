package crc

import (
	"bytes"
	"encoding/binary"
	"hash/crc32"
	"math/bits"
	"math/rand"
	"testing"
)

// In the tests' names stands which promise they hold.

// random is n bytes, the same for every run of a test.
func random(r *rand.Rand, n int) []byte {
	b := make([]byte, n)
	r.Read(b)
	return b
}

// fillings are bytes of one length, of kinds that tell mistakes apart.
func fillings(r *rand.Rand, n int) [][]byte {
	return [][]byte{
		make([]byte, n),
		bytes.Repeat([]byte{0xff}, n),
		bytes.Repeat([]byte{0x80}, n),
		bytes.Repeat([]byte{0x01}, n),
		random(r, n),
	}
}

// changed is a row with another laid over it by xor, from a place on.
func changed(row []byte, at int, with ...byte) []byte {
	row = bytes.Clone(row)
	for i, v := range with {
		row[at+i] ^= v
	}
	return row
}

// bitByBit is the sum as the chapter's words have it, bit by bit, with a register of bools that shares nothing with the program.
func bitByBit(sum uint32, b []byte) uint32 {
	var register [32]bool
	for i := range register {
		register[i] = sum>>i&1 == 0
	}
	for _, v := range b {
		for i := range 8 {
			register[i] = register[i] != (v>>i&1 == 1)
		}
		for range 8 {
			fellOut := register[0]
			copy(register[:], register[1:])
			register[31] = false
			for i := range register {
				if fellOut && uint32(0xedb88320)>>i&1 == 1 {
					register[i] = !register[i]
				}
			}
		}
	}
	sum = 0
	for i, bit := range register {
		if !bit {
			sum |= 1 << i
		}
	}
	return sum
}

// edgeSums are sums from which More is gone on.
func edgeSums(r *rand.Rand) []uint32 {
	sums := []uint32{0, 1, 0xffffffff, 0xfffffffe, 0x80000000, 0x7fffffff, 0xedb88320, 0x12477cdf, 0xcbf43926, 0x12345678}
	for i := range 32 {
		sums = append(sums, 1<<i, ^uint32(1<<i), r.Uint32())
	}
	return sums
}

func TestP91Runs(t *testing.T) {
	for _, x := range []struct {
		text string
		want uint32
	}{
		{"", 0},
		{"123456789", 0xcbf43926},
		{"\x00", 0xd202ef8d},
	} {
		if sum := Sum([]byte(x.text)); sum != x.want {
			t.Errorf("Sum(%q): %08x, not %08x", x.text, sum, x.want)
		}
	}
	if more, sum := More(0, []byte("a")), Sum([]byte("a")); more != sum {
		t.Errorf("More(0, a): %08x, Sum(a): %08x", more, sum)
	}
}

// Sums that are known from elsewhere; that of "ab" stands in the log's chapter.
func TestP91Known(t *testing.T) {
	for _, x := range []struct {
		text string
		want uint32
	}{
		{"a", 0xe8b7be43},
		{"ab", 0x9e83486d},
		{"abc", 0x352441c2},
		{"The quick brown fox jumps over the lazy dog", 0x414fa339},
		{"\xff", 0xff000000},
		{"\xff\xff\xff\xff", 0xffffffff},
		{"\x00\x00\x00\x00", 0x2144df1c},
	} {
		if sum := Sum([]byte(x.text)); sum != x.want {
			t.Errorf("Sum(%q): %08x, not %08x", x.text, sum, x.want)
		}
	}
}

func TestP91EveryOneAndTwoBytes(t *testing.T) {
	for v := range 1 << 8 {
		b := []byte{byte(v)}
		if sum := Sum(b); sum != crc32.ChecksumIEEE(b) || sum != bitByBit(0, b) {
			t.Errorf("Sum(%x): %08x", b, sum)
		}
	}
	for v := range 1 << 16 {
		b := []byte{byte(v >> 8), byte(v)}
		if sum := Sum(b); sum != crc32.ChecksumIEEE(b) {
			t.Errorf("Sum(%x): %08x", b, sum)
		}
	}
}

func TestP91EveryLength(t *testing.T) {
	r := rand.New(rand.NewSource(1))
	for n := range 300 {
		for _, b := range fillings(r, n) {
			if sum := Sum(b); sum != crc32.ChecksumIEEE(b) || sum != bitByBit(0, b) {
				t.Errorf("Sum(%x): %08x", b, sum)
			}
		}
	}
	for _, n := range []int{1<<16 - 1, 1 << 16, 1<<16 + 1, 1 << 20, 1<<20 + 1} {
		for _, b := range fillings(r, n) {
			if sum := Sum(b); sum != crc32.ChecksumIEEE(b) {
				t.Errorf("of %d bytes: %08x", n, sum)
			}
		}
	}
}

// More takes any number for a sum, not only one that Sum told.
func TestP91MoreFromEverySum(t *testing.T) {
	r := rand.New(rand.NewSource(2))
	for _, sum := range edgeSums(r) {
		for n := range 40 {
			for _, b := range fillings(r, n) {
				if more := More(sum, b); more != crc32.Update(sum, crc32.IEEETable, b) || more != bitByBit(sum, b) {
					t.Errorf("More(%08x, %x): %08x", sum, b, more)
				}
			}
		}
		for v := range 1 << 8 {
			b := []byte{byte(v)}
			if more := More(sum, b); more != bitByBit(sum, b) {
				t.Errorf("More(%08x, %x): %08x", sum, b, more)
			}
		}
	}
}

// Example 1, and that Sum of none is 0.
func TestP92MoreOfNone(t *testing.T) {
	r := rand.New(rand.NewSource(3))
	for _, none := range [][]byte{nil, {}, make([]byte, 0, 9), []byte("abc")[:0]} {
		if sum := Sum(none); sum != 0 {
			t.Errorf("Sum of none: %08x", sum)
		}
		for _, x := range edgeSums(r) {
			if more := More(x, none); more != x {
				t.Errorf("More(%08x, none): %08x", x, more)
			}
		}
	}
}

func TestP92EveryCut(t *testing.T) {
	r := rand.New(rand.NewSource(4))
	for n := range 60 {
		for _, b := range fillings(r, n) {
			whole := Sum(b)
			for one := range n + 1 {
				if more := More(Sum(b[:one]), b[one:]); more != whole {
					t.Errorf("%x, cut at %d: %08x, not %08x", b, one, more, whole)
				}
				two := one + r.Intn(n-one+1)
				if more := More(More(Sum(b[:one]), b[one:two]), b[two:]); more != whole {
					t.Errorf("%x, cut at %d and %d: %08x, not %08x", b, one, two, more, whole)
				}
			}
		}
	}
}

func TestP92ManyPieces(t *testing.T) {
	r := rand.New(rand.NewSource(5))
	var all []byte
	sum := Sum(nil)
	for i := range 300 {
		piece := random(r, r.Intn(50))
		all = append(all, piece...)
		sum = More(sum, piece)
		if sum != Sum(all) || sum != crc32.ChecksumIEEE(all) {
			t.Fatalf("behind piece %d: %08x", i, sum)
		}
	}
	sum = Sum(nil)
	for i := range all {
		sum = More(sum, all[i:i+1])
	}
	if sum != Sum(all) {
		t.Errorf("byte by byte: %08x", sum)
	}
}

// Each change of one byte, of two that are neighbours, and of the first and the last of four.
func TestP92EveryChangeOfTwoBytes(t *testing.T) {
	r := rand.New(rand.NewSource(6))
	for _, n := range []int{4, 9} {
		row := random(r, n)
		sum := Sum(row)
		for at := range n {
			for v := 1; v < 1<<16; v++ {
				low, high := byte(v), byte(v>>8)
				if at+1 < n && Sum(changed(row, at, low, high)) == sum {
					t.Fatalf("%x: %04x at %d is not seen", row, v, at)
				}
				if at+3 < n && Sum(changed(row, at, low, 0, 0, high)) == sum {
					t.Fatalf("%x: %04x, apart, at %d is not seen", row, v, at)
				}
				if v < 1<<8 && Sum(changed(row, at, low)) == sum {
					t.Fatalf("%x: %02x at %d is not seen", row, v, at)
				}
			}
		}
	}
}

func TestP92RandomChangesOfFourBytes(t *testing.T) {
	r := rand.New(rand.NewSource(7))
	for range 100000 {
		row := random(r, 4+r.Intn(30))
		with := random(r, 1+r.Intn(4))
		other := changed(row, r.Intn(len(row)-len(with)+1), with...)
		if bytes.Equal(row, other) {
			continue
		}
		if Sum(row) == Sum(other) {
			t.Fatalf("%x and %x have one sum", row, other)
		}
	}
}

// What a change does to a sum hangs on the change alone, and two at once do what both do: so that the next test speaks of all rows and all changes.
func TestP92ChangesAddUp(t *testing.T) {
	r := rand.New(rand.NewSource(8))
	for range 20000 {
		n := r.Intn(40)
		a, b, c := random(r, n), random(r, n), random(r, n)
		if Sum(a)^Sum(b)^Sum(c) != Sum(changed(changed(a, 0, b...), 0, c...)) {
			t.Fatalf("%x, %x, %x", a, b, c)
		}
	}
}

// None of the 2^32 - 1 changes of four bytes in a row leaves the sum as it was, if no choice of the 32 bits' own changes adds up to none.
func TestP92NoChangeOfFourBytesIsLost(t *testing.T) {
	r := rand.New(rand.NewSource(9))
	for _, n := range []int{4, 5, 8, 33, 1000} {
		row := random(r, n)
		for _, at := range []int{0, (n - 4) / 2, n - 4} {
			var kept [32]uint32 // by their highest bits
			for bit := range 32 {
				var with [4]byte
				with[bit/8] = 1 << (bit % 8)
				change := Sum(row) ^ Sum(changed(row, at, with[:]...))
				for change != 0 && kept[bits.Len32(change)-1] != 0 {
					change ^= kept[bits.Len32(change)-1]
				}
				if change == 0 {
					t.Fatalf("%d bytes, at %d: bit %d adds nothing", n, at, bit)
				}
				kept[bits.Len32(change)-1] = change
			}
		}
	}
}

// Example 2: the polynomial has 33 bits, so that it lies over five bytes; where it is laid over a row, the sum is the same.
func TestP92FiveBytesByChance(t *testing.T) {
	r := rand.New(rand.NewSource(10))
	var with [8]byte
	binary.LittleEndian.PutUint64(with[:], 0xedb88320<<1|1)
	for n := 5; n < 50; n++ {
		for at := range n - 4 {
			row := random(r, n)
			if other := changed(row, at, with[:5]...); Sum(row) != Sum(other) {
				t.Errorf("%x and %x have not one sum", row, other)
			}
		}
	}
}

// A row and its sum behind it, the lowest byte first, all have one sum: no bit of what is told is out of its place.
func TestP92SumBehindItsRow(t *testing.T) {
	r := rand.New(rand.NewSource(11))
	for n := range 100 {
		row := random(r, n)
		if sum := Sum(binary.LittleEndian.AppendUint32(row, Sum(row))); sum != 0x2144df1c {
			t.Errorf("%x: %08x", row, sum)
		}
	}
}

func TestR2NothingHandedInIsChanged(t *testing.T) {
	r := rand.New(rand.NewSource(12))
	for n := range 70 {
		whole := append(random(r, n), bytes.Repeat([]byte{0xa5}, 100)...)
		before := bytes.Clone(whole)
		Sum(whole[:n])
		More(0x12345678, whole[:n])
		if !bytes.Equal(whole, before) {
			t.Errorf("%d bytes: the argument, or its spare room, was changed", n)
		}
	}
}

// An answer hangs neither on spare room nor on the calls ahead of it.
func TestR4NothingIsKept(t *testing.T) {
	r := rand.New(rand.NewSource(13))
	for n := range 70 {
		whole := random(r, n+20)
		sum, more := Sum(whole[:n]), More(7, whole[:n])
		r.Read(whole[n:])
		Sum(whole)
		More(r.Uint32(), whole)
		if Sum(whole[:n]) != sum || Sum(bytes.Clone(whole[:n])) != sum || More(7, whole[:n]) != more {
			t.Errorf("%d bytes: another answer", n)
		}
	}
}
