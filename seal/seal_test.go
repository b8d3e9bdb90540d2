package seal_test

import (
	"bytes"
	"encoding/binary"
	"hash/crc32"
	"math"
	"testing"

	"vivarium/api"
	"vivarium/seal"
)

// row: so many bytes that look mixed, the same ones for the same seed.
func row(long int, seed uint32) []byte {
	out := make([]byte, long)
	for i := range out {
		seed = seed*1664525 + 1013904223
		out[i] = byte(seed >> 24)
	}
	return out
}

// spare: b with spare room behind it that has bytes 0xee.
func spare(b []byte) []byte {
	room := append(bytes.Clone(b), bytes.Repeat([]byte{0xee}, 64)...)
	return room[:len(b)]
}

// untouched: does b, made by spare, still have these bytes, and its spare room, too?
func untouched(b, want []byte) bool {
	room := b[:cap(b)]
	return bytes.Equal(b, want) && bytes.Equal(room[len(b):len(b)+64], bytes.Repeat([]byte{0xee}, 64))
}

// overwrite: all of b's bytes, its spare room too, are n from now on.
func overwrite(b []byte, n byte) {
	b = b[:cap(b)]
	for i := range b {
		b[i] = n
	}
}

// near: the number from 0 to high that is meant by n.
func near(n, high int) int {
	switch {
	case n < 0:
		return 0
	case n > high:
		return high
	}
	return n
}

// stored: what of x is put.
func stored(x api.Seal) api.Seal {
	body := x.Body
	if len(body) > 472 {
		body = body[:472]
	}
	return api.Seal{Epoch: near(x.Epoch, 1<<48), No: near(x.No, 1<<48), Kind: near(x.Kind, 255), Body: body}
}

// summed: s with the sum of its bytes where the sum stands, whatever they are.
func summed(s []byte) []byte {
	sum := crc32.Update(crc32.ChecksumIEEE(s[:16]), crc32.IEEETable, s[20:])
	binary.LittleEndian.PutUint32(s[16:], sum)
	return s
}

// byTheDocument: the sector of x, as the document words it.
func byTheDocument(x api.Seal) []byte {
	x = stored(x)
	s := make([]byte, 512)
	binary.LittleEndian.PutUint64(s[0:], uint64(x.Epoch))
	binary.LittleEndian.PutUint64(s[8:], uint64(x.No))
	s[20] = byte(x.Kind)
	binary.LittleEndian.PutUint16(s[22:], uint16(len(x.Body)))
	copy(s[24:496], x.Body)
	binary.LittleEndian.PutUint64(s[496:], uint64(x.No))
	binary.LittleEndian.PutUint64(s[504:], uint64(x.Epoch))
	return summed(s)
}

// same: are all fields of both the same (nil and empty are alike)?
func same(x, y api.Seal) bool {
	return x.Epoch == y.Epoch && x.No == y.No && x.Kind == y.Kind && bytes.Equal(x.Body, y.Body)
}

// none: is x what stands beside false?
func none(x api.Seal) bool {
	return x.Epoch == 0 && x.No == 0 && x.Kind == 0 && len(x.Body) == 0
}

// stamps: numbers that are put as an epoch or as a No, or that are too small or too great.
func stamps() []int {
	return []int{math.MinInt, math.MinInt + 1, -1 << 48, -2, -1, 0, 1, 255, 256, 0x010203040506, 1<<48 - 1, 1 << 48, 1<<48 + 1, 1 << 49, 1 << 60, math.MaxInt}
}

func kinds() []int {
	return []int{math.MinInt, -256, -2, -1, 0, api.KindLog, api.KindPage, api.KindSuper, 127, 128, 254, 255, 256, 257, 512, 1 << 40, math.MaxInt}
}

// longs: how long bodies are; 65536 and what is near to it are 0 and some in the two bytes that tell the length.
func longs() []int {
	return []int{0, 1, 2, 7, 8, 9, 255, 256, 257, 464, 471, 472, 473, 480, 512, 1000, 65535, 65536, 65537, 70000}
}

// bodies: each of longs, of mixed bytes, of bytes 0 and of bytes 255; and nil.
func bodies() [][]byte {
	out := [][]byte{nil}
	for _, long := range longs() {
		out = append(out, row(long, uint32(long)), make([]byte, long), bytes.Repeat([]byte{255}, long))
	}
	return out
}

// seals: what may be handed to Put, right or not.
func seals() []api.Seal {
	var out []api.Seal
	for _, epoch := range stamps() {
		for _, no := range stamps() {
			out = append(out, api.Seal{Epoch: epoch, No: no, Kind: 2, Body: []byte("ab")})
		}
	}
	for _, kind := range kinds() {
		out = append(out, api.Seal{Epoch: 9, No: 4, Kind: kind, Body: row(30, 4)})
	}
	for _, body := range bodies() {
		out = append(out, api.Seal{Epoch: 77, No: 300, Kind: 1, Body: body}, api.Seal{Body: body})
	}
	return out
}

// P3.1

func TestPutPutsEachPartInItsPlace(t *testing.T) {
	s := seal.Put(api.Seal{Epoch: 0x060504030201, No: 0x0f0e0d0c0b0a, Kind: 200, Body: bytes.Repeat([]byte{0x99}, 258)})
	if len(s) != 512 {
		t.Fatal("bytes:", len(s))
	}
	for _, c := range []struct {
		at   int
		want []byte
	}{
		{0, []byte{1, 2, 3, 4, 5, 6, 0, 0}},
		{8, []byte{10, 11, 12, 13, 14, 15, 0, 0}},
		{20, []byte{200, 0, 2, 1}},
		{24, bytes.Repeat([]byte{0x99}, 258)},
		{24 + 258, make([]byte, 472-258)},
		{496, []byte{10, 11, 12, 13, 14, 15, 0, 0}},
		{504, []byte{1, 2, 3, 4, 5, 6, 0, 0}},
	} {
		if got := s[c.at : c.at+len(c.want)]; !bytes.Equal(got, c.want) {
			t.Errorf("from place %d on: %v, not %v", c.at, got, c.want)
		}
	}
	sum := crc32.ChecksumIEEE(append(bytes.Clone(s[:16]), s[20:]...))
	if got := binary.LittleEndian.Uint32(s[16:]); got != sum {
		t.Errorf("the sum: %#x, not %#x", got, sum)
	}
}

func TestTheDocumentsExample(t *testing.T) {
	s := seal.Put(api.Seal{Epoch: 3, No: 5})
	if s[0] != 3 || s[504] != 3 || s[8] != 5 || s[496] != 5 {
		t.Error(s[:24], s[496:])
	}
}

func TestPutIsAsTheDocumentWordsIt(t *testing.T) {
	for _, x := range seals() {
		if got, want := seal.Put(x), byTheDocument(x); !bytes.Equal(got, want) {
			t.Errorf("Put of epoch %d, number %d, kind %d, %d bytes: %v, not %v", x.Epoch, x.No, x.Kind, len(x.Body), got, want)
		}
	}
}

func TestPutTakesTheNearestEpochAndNo(t *testing.T) {
	great := []byte{0, 0, 0, 0, 0, 0, 1, 0}
	for _, c := range []struct {
		n    int
		want []byte
	}{
		{math.MinInt, make([]byte, 8)},
		{-1, make([]byte, 8)},
		{0, make([]byte, 8)},
		{1, []byte{1, 0, 0, 0, 0, 0, 0, 0}},
		{api.MaxEpoch - 1, []byte{255, 255, 255, 255, 255, 255, 0, 0}},
		{api.MaxEpoch, great},
		{api.MaxEpoch + 1, great},
		{math.MaxInt, great},
	} {
		s := seal.Put(api.Seal{Epoch: c.n, No: 7})
		if !bytes.Equal(s[:8], c.want) || !bytes.Equal(s[504:], c.want) || s[8] != 7 || s[496] != 7 {
			t.Errorf("epoch %d: %v %v", c.n, s[:16], s[496:])
		}
		s = seal.Put(api.Seal{Epoch: 7, No: c.n})
		if !bytes.Equal(s[8:16], c.want) || !bytes.Equal(s[496:504], c.want) || s[0] != 7 || s[504] != 7 {
			t.Errorf("number %d: %v %v", c.n, s[:16], s[496:])
		}
	}
}

func TestPutTakesTheNearestKind(t *testing.T) {
	for _, kind := range kinds() {
		if s := seal.Put(api.Seal{Kind: kind}); int(s[20]) != near(kind, 255) || s[21] != 0 {
			t.Errorf("kind %d: %v", kind, s[20:22])
		}
	}
}

func TestPutTakesTheFirstBytesOfBody(t *testing.T) {
	for _, body := range bodies() {
		s := seal.Put(api.Seal{Body: body})
		stays := min(len(body), 472)
		if int(binary.LittleEndian.Uint16(s[22:])) != stays {
			t.Errorf("a body of %d bytes has %v as its length", len(body), s[22:24])
		}
		if !bytes.Equal(s[24:24+stays], body[:stays]) || !bytes.Equal(s[24+stays:], make([]byte, 488-stays)) {
			t.Errorf("a body of %d bytes: %v", len(body), s[24:])
		}
	}
}

func TestPutSeesNoSpareRoom(t *testing.T) {
	x := api.Seal{Epoch: 2, Body: spare([]byte{1, 2, 3})}
	if !bytes.Equal(seal.Put(x), seal.Put(api.Seal{Epoch: 2, Body: []byte{1, 2, 3}})) {
		t.Error("spare room of a body is put")
	}
}

func TestPutLeavesItsArgument(t *testing.T) {
	for _, long := range longs() {
		want := row(long, 3)
		body := spare(want)
		x := api.Seal{Epoch: -1, No: 1 << 60, Kind: 999, Body: body}
		s := seal.Put(x)
		once := bytes.Clone(s)
		overwrite(s, 0x55)
		if !untouched(body, want) {
			t.Errorf("a body of %d bytes was changed, or is shared", long)
		}
		if again := seal.Put(x); !bytes.Equal(again, once) {
			t.Errorf("a body of %d bytes: Put of the same is another one", long)
		}
		s = seal.Put(x)
		overwrite(body, 0x77)
		if !bytes.Equal(s, once) {
			t.Errorf("a sector shares the memory of its body of %d bytes", long)
		}
	}
}

// P3.2

func TestGetOfOtherLengths(t *testing.T) {
	s := seal.Put(api.Seal{Epoch: 5, No: 6, Kind: 7, Body: []byte("eight")})
	for _, b := range [][]byte{nil, {}, s[:1], s[:24], s[:511], s[1:], append(bytes.Clone(s), 0), append([]byte{0}, s...), append(bytes.Clone(s), s...)} {
		if x, ok := seal.Get(b); ok || !none(x) {
			t.Errorf("Get of %d bytes = %v %v", len(b), x, ok)
		}
	}
	if x, ok := seal.Get(s[:512]); !ok || !same(x, api.Seal{Epoch: 5, No: 6, Kind: 7, Body: []byte("eight")}) {
		t.Error("Get of 512 bytes:", x, ok)
	}
	for _, long := range []int{0, 1, 511, 513} {
		if x, ok := seal.Get(spare(append(bytes.Clone(s), 0)[:long])); ok || !none(x) {
			t.Errorf("Get of %d bytes with spare room = %v %v", long, x, ok)
		}
	}
}

func TestGetOfOneChangedByte(t *testing.T) {
	s := seal.Put(api.Seal{Epoch: 258, No: 7, Kind: 2, Body: row(100, 1)})
	for i := range s {
		for by := 1; by < 256; by++ {
			s[i] ^= byte(by)
			if x, ok := seal.Get(s); ok || !none(x) {
				t.Fatalf("byte %d changed by %#x: %v %v", i, by, x, ok)
			}
			s[i] ^= byte(by)
		}
	}
	for _, x := range []api.Seal{{}, {Epoch: 1 << 48, No: 1 << 48, Kind: 255, Body: row(472, 9)}, {Body: []byte{0}}, {No: 3}} {
		s := seal.Put(x)
		for i := range s {
			for _, by := range []byte{1, 4, 128, 255} {
				s[i] ^= by
				if y, ok := seal.Get(s); ok || !none(y) {
					t.Fatalf("%v: byte %d changed by %#x: %v %v", x, i, by, y, ok)
				}
				s[i] ^= by
			}
		}
	}
}

// Bytes that have the right sum, but that nothing is put as.
func TestGetOfOtherBytesWithTheirSum(t *testing.T) {
	base := seal.Put(api.Seal{Epoch: 258, No: 7, Kind: 2, Body: []byte("hello")})
	set := func(at int, b ...byte) func(s []byte) {
		return func(s []byte) { copy(s[at:], b) }
	}
	both := func(one, two int, n uint64) func(s []byte) {
		return func(s []byte) {
			binary.LittleEndian.PutUint64(s[one:], n)
			binary.LittleEndian.PutUint64(s[two:], n)
		}
	}
	for _, c := range []struct {
		name   string
		change func(s []byte)
	}{
		{"another epoch at the front", set(0, 3)},
		{"another epoch at the back", set(504, 3)},
		{"another number at the front", set(8, 8)},
		{"another number at the back", set(496, 8)},
		{"an epoch above the greatest", both(0, 504, 1<<48+1)},
		{"an epoch far above the greatest", both(0, 504, 1<<62)},
		{"an epoch of -1", both(0, 504, 1<<64-1)},
		{"the least epoch", both(0, 504, 1<<63)},
		{"a number above the greatest", both(8, 496, 1<<48+1)},
		{"a number far above the greatest", both(8, 496, 1<<62)},
		{"a number of -1", both(8, 496, 1<<64-1)},
		{"the least number", both(8, 496, 1<<63)},
		{"a byte 1 behind the kind", set(21, 1)},
		{"a byte 255 behind the kind", set(21, 255)},
		{"a length that leaves a byte out", set(22, 4)},
		{"no length", set(22, 0)},
		{"a byte behind the body", set(29, 1)},
		{"a byte at the end of the body's room", set(495, 1)},
	} {
		s := bytes.Clone(base)
		c.change(s)
		if x, ok := seal.Get(summed(s)); ok || !none(x) {
			t.Errorf("%s: %v %v", c.name, x, ok)
		}
	}
	if x, ok := seal.Get(summed(bytes.Clone(base))); !ok || x.Epoch != 258 {
		t.Error("nothing changed:", x, ok)
	}
}

func TestGetOfEachLength(t *testing.T) {
	body := row(472, 5)
	for long := range 1 << 16 {
		if long > 600 && long%97 != 0 && long < 1<<16-300 {
			continue
		}
		s := seal.Put(api.Seal{Epoch: 1, Body: body})
		binary.LittleEndian.PutUint16(s[22:], uint16(long))
		if x, ok := seal.Get(summed(s)); ok != (long == 472) || !ok && !none(x) {
			t.Errorf("472 bytes that are told as %d: %v", long, ok)
		}
	}
	// With bytes 0 alone behind what is told, a length up to 472 is one that was put.
	for long := range 480 {
		s := seal.Put(api.Seal{Epoch: 1, Body: body[:3]})
		binary.LittleEndian.PutUint16(s[22:], uint16(long))
		x, ok := seal.Get(summed(s))
		if ok != (long >= 3 && long <= 472) || ok && len(x.Body) != long || !ok && !none(x) {
			t.Errorf("3 bytes that are told as %d: %v", long, ok)
		}
	}
}

func TestGetOfBytesThatWereNeverPut(t *testing.T) {
	for _, s := range [][]byte{make([]byte, 512), bytes.Repeat([]byte{255}, 512), row(512, 1), row(512, 2), summed(row(512, 3)), summed(bytes.Repeat([]byte{255}, 512))} {
		if x, ok := seal.Get(s); ok || !none(x) {
			t.Errorf("Get of %v.. = %v", s[:24], x)
		}
	}
	// Bytes 0 with their sum are what Put of nothing has.
	if x, ok := seal.Get(summed(make([]byte, 512))); !ok || !none(x) {
		t.Error("Get of bytes 0 with their sum:", x, ok)
	}
}

func TestGetLeavesItsArgument(t *testing.T) {
	for _, long := range []int{0, 1, 100, 471, 472} {
		body := row(long, 8)
		want := seal.Put(api.Seal{Epoch: 8, No: 9, Kind: 3, Body: body})
		s := spare(want)
		x, ok := seal.Get(s)
		if !ok || !untouched(s, want) {
			t.Errorf("a body of %d bytes: %v; was the sector changed?", long, ok)
		}
		overwrite(x.Body, 0x55)
		if !untouched(s, want) {
			t.Errorf("Get hands out memory of the sector: a body of %d bytes", long)
		}
		x, _ = seal.Get(s)
		y, _ := seal.Get(s)
		overwrite(y.Body, 0x33)
		overwrite(s, 0x77)
		if !bytes.Equal(x.Body, body) {
			t.Errorf("Get shares its body of %d bytes", long)
		}
	}
	wild := row(512, 1)
	s := spare(wild)
	if seal.Get(s); !untouched(s, wild) {
		t.Error("a sector that is no seal was changed")
	}
}

// P3.3

// words: what may stand in 8 bytes, and what Epochs tells of it.
func words() map[uint64]int {
	return map[uint64]int{
		0: 0, 1: 1, 258: 258, 0x060504030201: 0x060504030201,
		1<<48 - 1: 1<<48 - 1, 1 << 48: 1 << 48, 1<<48 + 1: -1, 1 << 49: -1, 1<<48 | 1<<56: -1,
		1<<63 - 1: -1, 1 << 63: -1, 1<<63 | 5: -1, 1<<64 - 2: -1, 1<<64 - 1: -1,
	}
}

func TestEpochsOfBothEnds(t *testing.T) {
	for _, fill := range []byte{0, 9, 255} {
		for a, front := range words() {
			for b, back := range words() {
				s := bytes.Repeat([]byte{fill}, 512)
				binary.LittleEndian.PutUint64(s, a)
				binary.LittleEndian.PutUint64(s[504:], b)
				if x, y := seal.Epochs(s); x != front || y != back {
					t.Errorf("Epochs of %#x and %#x = %d %d, not %d %d", a, b, x, y, front, back)
				}
				if got, want := seal.Top(s), max(front, back, 0); got != want {
					t.Errorf("Top of %#x and %#x = %d, not %d", a, b, got, want)
				}
			}
		}
	}
}

func TestTopIsTheGreaterOne(t *testing.T) {
	const wrong = 1<<48 + 1
	for _, c := range []struct {
		front, back uint64
		want        int
	}{
		{3, 4, 4}, {4, 3, 4}, {5, 5, 5}, {0, 0, 0}, {0, 1, 1}, {wrong, 2, 2}, {2, wrong, 2}, {wrong, 0, 0}, {0, wrong, 0},
		{wrong, wrong, 0}, {1<<64 - 1, 1 << 63, 0}, {1<<64 - 1, 7, 7}, {1 << 48, 1<<48 - 1, 1 << 48}, {1<<48 - 1, 1 << 48, 1 << 48},
	} {
		s := make([]byte, 512)
		binary.LittleEndian.PutUint64(s, c.front)
		binary.LittleEndian.PutUint64(s[504:], c.back)
		if got := seal.Top(s); got != c.want {
			t.Errorf("Top of %#x and %#x = %d, not %d", c.front, c.back, got, c.want)
		}
	}
}

func TestEpochsOfOtherLengths(t *testing.T) {
	s := bytes.Repeat([]byte{2, 0, 0, 0, 0, 0, 0, 0}, 128)
	for _, long := range []int{0, 1, 7, 8, 9, 16, 504, 511, 513, 520, 1024} {
		if a, b := seal.Epochs(s[:long]); a != -1 || b != -1 || seal.Top(s[:long]) != 0 {
			t.Errorf("of %d bytes: %d %d, %d", long, a, b, seal.Top(s[:long]))
		}
	}
	if a, b := seal.Epochs(nil); a != -1 || b != -1 || seal.Top(nil) != 0 {
		t.Errorf("of nil: %d %d, %d", a, b, seal.Top(nil))
	}
	if a, b := seal.Epochs(s[:512]); a != 2 || b != 2 || seal.Top(s[:512]) != 2 {
		t.Errorf("of 512 bytes: %d %d, %d", a, b, seal.Top(s[:512]))
	}
}

func TestEpochsOfWhatWasPut(t *testing.T) {
	for _, x := range seals() {
		s, want := seal.Put(x), near(x.Epoch, 1<<48)
		if a, b := seal.Epochs(s); a != want || b != want || seal.Top(s) != want {
			t.Errorf("epoch %d: %d %d, %d", x.Epoch, a, b, seal.Top(s))
		}
	}
}

func TestEpochsLeaveTheirArgument(t *testing.T) {
	for _, long := range []int{0, 511, 512, 513} {
		want := row(long, 2)
		s := spare(want)
		seal.Epochs(s)
		seal.Top(s)
		if !untouched(s, want) {
			t.Errorf("%d bytes were changed", long)
		}
	}
}

// P3.4

// whole: the first 512 bytes of b, and bytes 0, if there are fewer.
func whole(b []byte) []byte {
	out := make([]byte, 512)
	copy(out, b)
	return out
}

// torn: a Tear, word by word.
func torn(old, next []byte, k int) []byte {
	out, over := whole(old), whole(next)
	for word := range 64 {
		if k > word || k < 0 && word-64 >= k {
			copy(out[8*word:8*word+8], over[8*word:8*word+8])
		}
	}
	return out
}

func tears() []int {
	out := []int{math.MinInt, math.MinInt + 1, -1 << 61, -1 << 32, -512, -128, 128, 512, 1 << 32, 1 << 61, 1<<61 + 1, math.MaxInt - 1, math.MaxInt}
	for k := -66; k <= 66; k++ {
		out = append(out, k)
	}
	return out
}

// sectors: what may be torn, some of it too short or too long.
func sectors() [][]byte {
	return [][]byte{
		nil, {}, {1}, {1, 2, 3, 4, 5, 6, 7, 8, 9}, row(100, 1), row(504, 2), row(511, 3), row(512, 4), row(513, 5), row(600, 6), row(70000, 7),
		seal.Put(api.Seal{Epoch: 3, No: 2, Body: row(472, 8)}),
	}
}

func TestTear(t *testing.T) {
	for i, old := range sectors() {
		for j, next := range sectors() {
			for _, k := range tears() {
				if got := seal.Tear(old, next, k); !bytes.Equal(got, torn(old, next, k)) {
					t.Errorf("Tear of sectors %d and %d by %d: %v", i, j, k, got)
				}
			}
		}
	}
}

func TestTearTakesWordsOfNext(t *testing.T) {
	old, next := bytes.Repeat([]byte{1}, 512), bytes.Repeat([]byte{2}, 512)
	for _, c := range []struct{ k, from, to int }{
		{0, 0, 0}, {1, 0, 8}, {2, 0, 16}, {63, 0, 504}, {64, 0, 512}, {65, 0, 512}, {math.MaxInt, 0, 512},
		{-1, 504, 512}, {-2, 496, 512}, {-63, 8, 512}, {-64, 0, 512}, {-65, 0, 512}, {math.MinInt, 0, 512},
	} {
		want := bytes.Clone(old)
		copy(want[c.from:c.to], next[c.from:c.to])
		if got := seal.Tear(old, next, c.k); !bytes.Equal(got, want) {
			t.Errorf("Tear by %d: %v", c.k, got)
		}
	}
}

func TestTearOfSectorsOfOtherLengths(t *testing.T) {
	seven, nine := bytes.Repeat([]byte{7}, 600), bytes.Repeat([]byte{9}, 511)
	if got := seal.Tear(nil, seven, 1); !bytes.Equal(got, append(bytes.Repeat([]byte{7}, 8), make([]byte, 504)...)) {
		t.Error("old is nil:", got)
	}
	if got := seal.Tear(seven, nil, -1); !bytes.Equal(got, append(bytes.Repeat([]byte{7}, 504), make([]byte, 8)...)) {
		t.Error("next is nil:", got)
	}
	if got := seal.Tear(nil, nil, 5); !bytes.Equal(got, make([]byte, 512)) {
		t.Error("both are nil:", got)
	}
	if got := seal.Tear(seven, nine, 0); !bytes.Equal(got, seven[:512]) {
		t.Error("old is longer:", got)
	}
	if got := seal.Tear(seven, nine, 64); !bytes.Equal(got, append(bytes.Clone(nine), 0)) {
		t.Error("next is shorter:", got)
	}
	if got := seal.Tear([]byte{1, 2}, seven, -1); !bytes.Equal(got[:10], []byte{1, 2, 0, 0, 0, 0, 0, 0, 0, 0}) || !bytes.Equal(got[504:], seven[:8]) {
		t.Error("old is shorter:", got)
	}
	if got := seal.Tear(spare([]byte{1}), spare([]byte{2}), 1); !bytes.Equal(got, append([]byte{2}, make([]byte, 511)...)) {
		t.Error("spare room is torn:", got)
	}
}

func TestTearLeavesItsArguments(t *testing.T) {
	for _, long := range []int{0, 5, 511, 512, 513, 600} {
		for _, k := range []int{-65, -64, -1, 0, 1, 64, 65} {
			one, two := row(long, 1), row(long, 2)
			old, next := spare(one), spare(two)
			got := seal.Tear(old, next, k)
			want := bytes.Clone(got)
			overwrite(got, 0x55)
			if !untouched(old, one) || !untouched(next, two) {
				t.Errorf("of %d bytes, by %d: they were changed, or are shared", long, k)
			}
			got = seal.Tear(old, next, k)
			overwrite(old, 0x77)
			overwrite(next, 0x77)
			if !bytes.Equal(got, want) {
				t.Errorf("of %d bytes, by %d: the answer is shared", long, k)
			}
		}
	}
	one := row(512, 9)
	for _, k := range tears() {
		if got := seal.Tear(one, one, k); !bytes.Equal(got, row(512, 9)) {
			t.Errorf("of one sector and itself, by %d: %v", k, got)
		}
	}
}

// P3.5

func TestWhatWasPutIsGot(t *testing.T) {
	for _, x := range seals() {
		s := seal.Put(x)
		for range 2 {
			if y, ok := seal.Get(s); !ok || !same(y, stored(x)) {
				t.Errorf("Get of Put of epoch %d, number %d, kind %d, %d bytes = %v %v", x.Epoch, x.No, x.Kind, len(x.Body), y, ok)
			}
		}
		y, _ := seal.Get(s)
		if !bytes.Equal(seal.Put(y), s) {
			t.Errorf("Put of Get of Put of epoch %d, number %d, kind %d, %d bytes is another one", x.Epoch, x.No, x.Kind, len(x.Body))
		}
	}
}

// A sum alone would not do: each torn sector here is given the sum that it ought to have.
func TestTearsOfOtherEpochsAreNoSeal(t *testing.T) {
	body := row(472, 1)
	next := api.Seal{Epoch: 8, No: 7, Kind: 2, Body: body}
	olds := [][]byte{nil, {9}, make([]byte, 512), bytes.Repeat([]byte{255}, 512), row(512, 3), row(100, 4)}
	for _, epoch := range []int{-1, 0, 1, 7, 9, 264, 1 << 48, 1 << 60} {
		for _, no := range []int{0, 6, 7, 8} {
			olds = append(olds,
				seal.Put(api.Seal{Epoch: epoch, No: no, Kind: 2, Body: body}),
				seal.Put(api.Seal{Epoch: epoch, No: no, Kind: 1, Body: row(9, 5)}),
				seal.Put(api.Seal{Epoch: epoch, No: no}))
		}
	}
	olds = append(olds, seal.Tear(olds[len(olds)-1], seal.Put(api.Seal{Epoch: 6, No: 7}), 32)) // other epochs at both ends
	for i, old := range olds {
		if a, b := seal.Epochs(whole(old)); a == 8 || b == 8 {
			t.Fatal("an old sector has the epoch of the next one:", i)
		}
		for k := -63; k <= 63; k++ {
			if k == 0 {
				continue
			}
			m := seal.Tear(old, seal.Put(next), k)
			if x, ok := seal.Get(m); ok || !none(x) {
				t.Errorf("old %d, torn by %d: %v", i, k, x)
			}
			if x, ok := seal.Get(summed(m)); ok || !none(x) {
				t.Errorf("old %d, torn by %d, with its sum: %v", i, k, x)
			}
		}
	}
}

func TestTearsAtTheLimitsOfEpochsAreNoSeal(t *testing.T) {
	for _, epoch := range stamps() {
		for _, other := range stamps() {
			x := api.Seal{Epoch: epoch, No: 1, Kind: 3, Body: row(40, 6)}
			y := api.Seal{Epoch: other, No: 1, Kind: 3, Body: row(40, 6)}
			if near(epoch, 1<<48) == near(other, 1<<48) {
				continue
			}
			for k := -63; k <= 63; k++ {
				if _, ok := seal.Get(seal.Tear(seal.Put(x), seal.Put(y), k)); ok != (k == 0) {
					t.Errorf("epochs %d and %d, torn by %d: %v", epoch, other, k, ok)
				}
			}
		}
	}
}

func TestTearsOfOneEpochAreOneOfBoth(t *testing.T) {
	all := [][]byte{nil, row(1, 1), row(100, 2), row(464, 3), row(472, 4), make([]byte, 472)}
	for _, epoch := range []int{0, 5, 1 << 48} {
		for _, nos := range [][2]int{{3, 4}, {4, 3}, {0, 1}, {1, 0}, {1 << 48, 1<<48 - 1}, {0, 1 << 48}, {1, 257}} {
			for _, one := range all {
				for _, two := range all {
					old := seal.Put(api.Seal{Epoch: epoch, No: nos[0], Kind: 2, Body: one})
					next := seal.Put(api.Seal{Epoch: epoch, No: nos[1], Kind: 2, Body: two})
					oneOfBoth(t, old, next)
				}
			}
		}
	}
}

// oneOfBoth: the words at both ends are alike: a tear that leaves out no more than such a word is one of both whole, and no other one is a seal.
func oneOfBoth(t *testing.T, old, next []byte) {
	t.Helper()
	for k := -65; k <= 65; k++ {
		m := seal.Tear(old, next, k)
		_, ok := seal.Get(m)
		switch {
		case k >= -1 && k <= 1:
			if !ok || !bytes.Equal(m, old) {
				t.Errorf("torn by %d: %v, and not the old one", k, ok)
			}
		case k <= -63 || k >= 63:
			if !ok || !bytes.Equal(m, next) {
				t.Errorf("torn by %d: %v, and not the next one", k, ok)
			}
		case ok:
			t.Errorf("torn by %d: a seal", k)
		default:
			if _, ok := seal.Get(summed(m)); ok {
				t.Errorf("torn by %d, with its sum: a seal", k)
			}
		}
	}
}
