package crc_test

import (
	"bytes"
	"hash/crc32"
	"math/bits"
	"strings"
	"testing"

	"vivarium/crc"
)

// row: so many bytes that look mixed, the same ones for the same seed.
func row(long int, seed uint32) []byte {
	out := make([]byte, long)
	for i := range out {
		seed = seed*1664525 + 1013904223
		out[i] = byte(seed >> 24)
	}
	return out
}

// states: what may be handed to Add and End, some of them no state that Start leads to soon.
func states() []uint32 {
	out := []uint32{0, 1, 2, 0x7fffffff, 0x80000000, 0xedb88320, 0xdeadbeef, 0xfffffffe, 0xffffffff}
	for bit := range 32 {
		out = append(out, 1<<bit)
	}
	return out
}

// byTheDocument: a state behind one byte, bit by bit as the document words it.
func byTheDocument(state uint32, one byte) uint32 {
	state ^= uint32(one)
	for range 8 {
		fell := state % 2
		state /= 2
		if fell == 1 {
			state ^= 0xedb88320
		}
	}
	return state
}

// spare: b with spare room behind it that has bytes 0xee.
func spare(b ...byte) []byte {
	room := append(bytes.Clone(b), bytes.Repeat([]byte{0xee}, 32)...)
	return room[:len(b)]
}

// untouched: does b, made by spare, still have these bytes, and its spare room, too?
func untouched(b []byte, want ...byte) bool {
	room := b[:cap(b)]
	return bytes.Equal(b, want) && bytes.Equal(room[len(b):len(b)+32], bytes.Repeat([]byte{0xee}, 32))
}

// P2.1

func TestStartHasAllBits(t *testing.T) {
	if got := crc.Start(); got != 0xffffffff {
		t.Errorf("Start() = %#x", got)
	}
}

func TestAddOfOneByte(t *testing.T) {
	for _, state := range states() {
		for one := range 256 {
			want := byTheDocument(state, byte(one))
			if got := crc.Add(state, byte(one)); got != want {
				t.Errorf("Add(%#x, %d) = %#x, not %#x", state, one, got, want)
			}
		}
	}
}

func TestAddOfBytesZeroAnd255(t *testing.T) {
	for _, c := range []struct {
		state uint32
		one   byte
		want  uint32
	}{
		{0, 0, 0},
		{0, 1, 0x77073096},
		{0, 128, 0xedb88320},
		{0, 255, 0x2d02ef8d},
		{0xffffffff, 0, 0x2dfd1072},
		{0xffffffff, 255, 0x00ffffff},
		{0xff, 255, 0},
		{0xff, 0, 0x2d02ef8d},
		{0x100, 0, 1},
	} {
		if got := crc.Add(c.state, c.one); got != c.want {
			t.Errorf("Add(%#x, %d) = %#x, not %#x", c.state, c.one, got, c.want)
		}
	}
}

func TestAddOfNoBytesIsTheState(t *testing.T) {
	for _, state := range states() {
		for _, got := range []uint32{crc.Add(state), crc.Add(state, nil...), crc.Add(state, []byte{}...), crc.Add(state, spare()...)} {
			if got != state {
				t.Errorf("Add(%#x) of no bytes = %#x", state, got)
			}
		}
	}
}

func TestAddGoesByteByByte(t *testing.T) {
	for _, state := range states() {
		for long := range 40 {
			b := row(long, state)
			want := state
			for _, one := range b {
				want = byTheDocument(want, one)
			}
			if got := crc.Add(state, b...); got != want {
				t.Errorf("Add(%#x) of %d bytes = %#x, not %#x", state, long, got, want)
			}
		}
	}
}

func TestAStateIsHandedOn(t *testing.T) {
	b := row(24, 5)
	for _, state := range states() {
		whole := crc.Add(state, b...)
		for i := range len(b) + 1 {
			for j := i; j <= len(b); j++ {
				got := crc.Add(crc.Add(crc.Add(state, b[:i]...), b[i:j]...), b[j:]...)
				if got != whole {
					t.Errorf("Add(%#x) in three calls, parted at %d and %d = %#x, not %#x", state, i, j, got, whole)
				}
			}
		}
	}
}

func TestStatesDoNotMix(t *testing.T) {
	one, two := crc.Start(), crc.Start()
	for i := range 9 {
		one = crc.Add(one, "123456789"[i])
		two = crc.Add(two, 0)
	}
	if crc.End(one) != 0xcbf43926 || crc.End(two) != crc.Of(make([]byte, 9)) {
		t.Errorf("two states, in turn: %#x %#x", crc.End(one), crc.End(two))
	}
}

func TestEndTurnsAllBits(t *testing.T) {
	for _, state := range states() {
		if got := crc.End(state); got != ^state {
			t.Errorf("End(%#x) = %#x", state, got)
		}
	}
	if crc.End(crc.Start()) != 0 || crc.End(0) != 0xffffffff || crc.End(0x12345678) != 0xedcba987 {
		t.Error("End")
	}
}

func TestOfKnownBytes(t *testing.T) {
	for _, c := range []struct {
		text string
		want uint32
	}{
		{"", 0},
		{"123456789", 0xcbf43926},
		{"a", 0xe8b7be43},
		{"abc", 0x352441c2},
		{"The quick brown fox jumps over the lazy dog", 0x414fa339},
		{"\x00", 0xd202ef8d},
		{"\xff", 0xff000000},
		{"\xff\xff\xff\xff", 0xffffffff},
		{strings.Repeat("\x00", 4), 0x2144df1c},
		{strings.Repeat("\x00", 32), 0x190a55ad},
		{strings.Repeat("\xff", 32), 0xff6cab0b},
	} {
		if got := crc.Of([]byte(c.text)); got != c.want {
			t.Errorf("Of(%q) = %#x, not %#x", c.text, got, c.want)
		}
	}
}

func TestOfNothing(t *testing.T) {
	for _, parts := range [][][]byte{nil, {}, {nil}, {{}}, {nil, {}, nil}, {spare()}, make([][]byte, 1000)} {
		if got := crc.Of(parts...); got != 0 {
			t.Errorf("Of %d parts without bytes = %#x", len(parts), got)
		}
	}
	if got := crc.Of(); got != 0 {
		t.Errorf("Of() = %#x", got)
	}
}

func TestOfIsEndOfAddToStart(t *testing.T) {
	longs := []int{0, 1, 2, 3, 4, 5, 7, 8, 9, 15, 16, 17, 31, 63, 64, 255, 256, 257, 511, 512, 513, 4096, 1<<16 - 1, 1 << 16, 1 << 20}
	for _, long := range longs {
		for _, b := range [][]byte{row(long, 1), row(long, 99), make([]byte, long), bytes.Repeat([]byte{255}, long)} {
			got := crc.Of(b)
			if want := crc.End(crc.Add(crc.Start(), b...)); got != want {
				t.Errorf("Of %d bytes = %#x; End of Add to Start = %#x", long, got, want)
			}
			if want := crc32.ChecksumIEEE(b); got != want {
				t.Errorf("Of %d bytes = %#x, not %#x", long, got, want)
			}
		}
	}
}

func TestOfTakesPartsInOrder(t *testing.T) {
	if crc.Of([]byte("1234"), []byte("56789")) != 0xcbf43926 {
		t.Error("parts in order")
	}
	if crc.Of([]byte("56789"), []byte("1234")) != crc.Of([]byte("567891234")) || crc.Of([]byte("567891234")) == 0xcbf43926 {
		t.Error("parts in another order")
	}
}

func TestArgumentsStayAsTheyAre(t *testing.T) {
	one, two := spare(1, 2, 3), spare(0, 255)
	list := [][]byte{one, nil, two, {7}}
	parts := list[:3]
	want := crc.Of([]byte{1, 2, 3, 0, 255})
	for range 2 {
		if got := crc.Of(parts...); got != want {
			t.Errorf("Of = %#x, not %#x", got, want)
		}
		if got := crc.End(crc.Add(crc.Start(), one...)); got != crc.Of([]byte{1, 2, 3}) {
			t.Errorf("Add = %#x", got)
		}
	}
	if !untouched(one, 1, 2, 3) || !untouched(two, 0, 255) {
		t.Error("bytes were changed:", one[:cap(one)], two[:cap(two)])
	}
	if &list[0][0] != &one[0] || list[1] != nil || &list[2][0] != &two[0] || !bytes.Equal(list[3], []byte{7}) {
		t.Error("the list of parts was changed:", list)
	}
}

func TestNothingIsKeptOfArguments(t *testing.T) {
	b := []byte("123456789")
	state := crc.Add(crc.Start(), b...)
	clear(b)
	if crc.End(state) != 0xcbf43926 || crc.Of(b) != crc.Of(make([]byte, 9)) || crc.Of([]byte("123456789")) != 0xcbf43926 {
		t.Error("a sum hangs on bytes of an earlier call")
	}
}

// P2.2

func TestPartingPlaysNoPart(t *testing.T) {
	b := row(13, 3)
	want := crc.Of(b)
	for cuts := range 1 << (len(b) - 1) {
		var parts [][]byte
		from := 0
		for i := 1; i < len(b); i++ {
			if cuts>>(i-1)&1 == 1 {
				parts = append(parts, b[from:i])
				from = i
			}
		}
		parts = append(parts, b[from:])
		if got := crc.Of(parts...); got != want {
			t.Fatalf("Of %d parts (cuts %#x) = %#x, not %#x", len(parts), cuts, got, want)
		}
	}
}

func TestEmptyPartsPlayNoPart(t *testing.T) {
	b := row(9, 8)
	want := crc.Of(b)
	for i := range len(b) + 1 {
		for _, none := range [][]byte{nil, {}, spare()} {
			if got := crc.Of(none, b[:i], none, none, b[i:], none); got != want {
				t.Errorf("Of with empty parts, parted at %d = %#x, not %#x", i, got, want)
			}
		}
	}
}

func TestManyPartsAreAsOne(t *testing.T) {
	b := row(5000, 21)
	ones := make([][]byte, len(b))
	for i := range b {
		ones[i] = b[i : i+1]
	}
	if got, want := crc.Of(ones...), crc.Of(b); got != want {
		t.Errorf("Of %d parts = %#x, of one %#x", len(ones), got, want)
	}
	same := []byte{4, 5}
	if crc.Of(same, same, same) != crc.Of([]byte{4, 5, 4, 5, 4, 5}) {
		t.Error("one list, several times")
	}
}

// turned: b, of which those bits are turned that turns has, its lowest bit being bit from of b (the lowest bit of a byte first).
func turned(b []byte, from int, turns uint32) []byte {
	out := bytes.Clone(b)
	for i := range 32 {
		if turns>>i&1 == 1 {
			out[(from+i)/8] ^= 1 << ((from + i) % 8)
		}
	}
	return out
}

// patterns: turnings of up to 32 bits in a row, the first of which is turned: one and two of them, all in a row, all but one, and mixed ones.
func patterns() []uint32 {
	out := []uint32{0xedb88321, 0x04c11db7, 0xdb710641, 0x55555555, 0xaaaaaaab, 0x0f0f0f0f, 0xf0f0f0f1, 0x01010101}
	for i := range 32 {
		out = append(out, 1|1<<i, 0xffffffff>>i, 0xffffffff&^(1<<i)|1)
	}
	for i, b := 0, row(400, 77); i < len(b); i += 4 {
		out = append(out, (uint32(b[i])|uint32(b[i+1])<<8|uint32(b[i+2])<<16|uint32(b[i+3])<<24)>>(i/4%24)|1)
	}
	return out
}

func TestTurnedBitsAreSeen(t *testing.T) {
	for _, long := range []int{1, 2, 3, 4, 5, 6, 8, 11, 64} {
		for _, b := range [][]byte{row(long, 4), make([]byte, long), bytes.Repeat([]byte{255}, long)} {
			sum := crc.Of(b)
			for from := range 8 * long {
				for _, turns := range patterns() {
					if from+bits.Len32(turns) > 8*long {
						continue
					}
					if got := crc.Of(turned(b, from, turns)); got == sum {
						t.Fatalf("of %d bytes, bits from %d on turned by %#x: still %#x", long, from, turns, sum)
					}
				}
			}
		}
	}
}

func TestTurnedBitsAreSeenInASector(t *testing.T) {
	b := row(512, 6)
	sum := crc.Of(b)
	last := 8 * len(b)
	for _, turns := range patterns() {
		long := bits.Len32(turns)
		for near := range 40 {
			for _, from := range []int{near, last/2 + near, last - long - near} {
				if got := crc.Of(turned(b, from, turns)); got == sum {
					t.Fatalf("bits from %d on turned by %#x: still %#x", from, turns, sum)
				}
			}
		}
	}
}

func TestTurnedBitsAreSeenAcrossParts(t *testing.T) {
	b := row(10, 12)
	sum := crc.Of(b[:5], b[5:])
	for from := range 80 {
		for _, turns := range patterns() {
			if from+bits.Len32(turns) > 80 {
				continue
			}
			other := turned(b, from, turns)
			if crc.Of(other[:5], other[5:]) == sum || crc.Of(other[:1], nil, other[1:]) == sum {
				t.Fatalf("bits from %d on turned by %#x: still %#x", from, turns, sum)
			}
		}
	}
}

// All turnings of two bytes are turnings of up to 16 bits in a row: no two sums are alike.
func TestTwoBytesHaveSumsOfTheirOwn(t *testing.T) {
	for _, around := range [][2][]byte{{nil, nil}, {row(3, 1), nil}, {nil, row(5, 2)}, {row(2, 3), row(7, 4)}} {
		seen := make(map[uint32]int, 1<<16)
		for n := range 1 << 16 {
			sum := crc.Of(around[0], []byte{byte(n), byte(n >> 8)}, around[1])
			if m, ok := seen[sum]; ok {
				t.Fatalf("%#x and %#x have the sum %#x", m, n, sum)
			}
			seen[sum] = n
		}
	}
}
