package part_test

import (
	"bytes"
	"encoding/binary"
	"fmt"
	"math"
	"slices"
	"testing"

	"vivarium/geom"
	"vivarium/part"
)

// What the document says of these.
const (
	front  = 12  // bytes of a piece that are not the record's own
	own    = 460 // bytes of a record that one piece takes
	whole  = 472 // bytes that a piece has at most
	many   = 1024
	epochs = 1 << 48
)

// seqs: numbers of records, those that may be and those that may not, near the edges and far off.
var seqs = []int{0, 1, 2, 255, 256, 257, 258, 65535, 65536, 1<<32 - 1, 1 << 32, 0x010203040506, epochs - 256, epochs - 2, epochs - 1, epochs,
	epochs + 1, epochs + 2, epochs + 256, 1<<49 - 1, 1 << 49, 1 << 56, 1 << 62, math.MaxInt - 1, math.MaxInt,
	-1, -2, -255, -256, -65536, -1 << 32, -epochs + 1, -epochs, -epochs - 1, -1 << 62, math.MinInt, math.MinInt + 1, math.MinInt + 256}

// longs: how long records may be, near the edges of pieces, and what fills 256 or all of them.
var longs = []int{0, 1, 2, 11, 12, 13, 100, 458, 459, 460, 461, 462, 471, 472, 473, 919, 920, 921, 922, 943, 944, 945, 1379, 1380, 1381,
	255 * own, 255*own + 1, 256*own - 1, 256 * own, 256*own + 1, 257*own + 7, 1023*own - 1, 1023 * own, 1023*own + 1, 1024*own - 1, 1024 * own}

// tooLongs: how long records may not be; some take so many pieces that the low bytes of these are of few.
var tooLongs = []int{1024*own + 1, 1024*own + 2, 1025*own - 1, 1025 * own, 1025*own + 1, 2048 * own, 65535 * own, 65536 * own, 65536*own + 1, 65537*own + 1}

// chance: numbers that look mixed, the same ones for the same seed.
type chance uint64

// below: the next number from 0 on, below n.
func (c *chance) below(n int) int {
	*c = *c*6364136223846793005 + 1442695040888963407
	return int(uint64(*c)>>33) % n
}

// data: n bytes, none of them 0, each piece's first ones others than those of its neighbours.
func data(n int) []byte {
	b := make([]byte, n)
	for i := range b {
		b[i] = byte(1 + i%251)
	}
	return b
}

// spare: b's bytes with spare room behind them that has bytes 0xee.
func spare(b []byte) []byte {
	room := append(bytes.Clone(b), bytes.Repeat([]byte{0xee}, 600)...)
	return room[:len(b)]
}

// untouched: does b, made by spare, still have these bytes, and its spare room, too?
func untouched(b, want []byte) bool {
	return bytes.Equal(b, want) && bytes.Equal(b[len(b):len(b)+600], bytes.Repeat([]byte{0xee}, 600))
}

// overwrite: all of b's bytes, its spare room too, are n from now on.
func overwrite(b []byte, n byte) {
	b = b[:cap(b)]
	for i := range b {
		b[i] = n
	}
}

// copies: the same pieces in memory of their own.
func copies(l [][]byte) [][]byte {
	var out [][]byte
	for _, p := range l {
		out = append(out, bytes.Clone(p))
	}
	return out
}

// alike: do both have the same pieces? (Nil and empty ones are.)
func alike(a, b [][]byte) bool {
	return slices.EqualFunc(a, b, bytes.Equal)
}

// said: pieces as a text that is not too long.
func said(l [][]byte) string {
	s := fmt.Sprintf("%d pieces:", len(l))
	for _, p := range l[:min(len(l), 6)] {
		s += fmt.Sprintf(" [%x and %d bytes]", p[:min(len(p), front)], max(len(p)-front, 0))
	}
	return s
}

// What the document says, in other words.

// begun: what a piece begins with, and b.
func begun(place, count int, seq uint64, b []byte) []byte {
	p := binary.LittleEndian.AppendUint16(nil, uint16(place))
	p = binary.LittleEndian.AppendUint16(p, uint16(count))
	return append(binary.LittleEndian.AppendUint64(p, seq), b...)
}

// nearest: the number that is meant by any seq.
func nearest(seq int) uint64 {
	switch {
	case seq < 0:
		return 0
	case seq > epochs:
		return epochs
	}
	return uint64(seq)
}

// pieces: what Split is to tell: as long as there is more than a piece takes, one is cut off.
func pieces(seq int, b []byte) [][]byte {
	var bodies [][]byte
	for len(b) > own {
		bodies = append(bodies, b[:own])
		b = b[own:]
	}
	bodies = append(bodies, b)
	if len(bodies) > many {
		return nil
	}
	var l [][]byte
	for place, body := range bodies {
		l = append(l, begun(place, len(bodies), nearest(seq), body))
	}
	return l
}

// header: what Head tells.
type header struct {
	place, count, seq int
	ok                bool
}

// headOf: what Head tells of piece.
func headOf(piece []byte) header {
	place, count, seq, ok := part.Head(piece)
	return header{place, count, seq, ok}
}

// headed: what Head is to tell.
func headed(piece []byte) header {
	if len(piece) < 12 || len(piece) > 472 {
		return header{}
	}
	place, count, seq := binary.LittleEndian.Uint16(piece), binary.LittleEndian.Uint16(piece[2:]), binary.LittleEndian.Uint64(piece[4:])
	if count == 0 || count > 1024 || place >= count || seq > 1<<48 {
		return header{}
	}
	return header{int(place), int(count), int(seq), true}
}

// joined: what Join is to tell: each piece of its own is what it has to be.
func joined(l [][]byte) (seq int, b []byte, ok bool) {
	for i, p := range l {
		h := headed(p)
		switch last := i == len(l)-1; {
		case !h.ok, h.place != i, h.count != len(l), h.seq != headed(l[0]).seq:
			return 0, nil, false
		case !last && len(p) != 472, last && i > 0 && len(p) == 12:
			return 0, nil, false
		}
		seq, b = h.seq, append(b, p[12:]...)
	}
	if len(l) == 0 {
		return 0, nil, false
	}
	return seq, b, true
}

// splits: Split tells what it is to tell.
func splits(t *testing.T, seq int, b []byte) {
	t.Helper()
	if got, want := part.Split(seq, b), pieces(seq, b); !alike(got, want) {
		t.Errorf("Split(%d, %d bytes) = %s, not %s", seq, len(b), said(got), said(want))
	}
}

// heads: Head tells what it is to tell.
func heads(t *testing.T, piece []byte) {
	t.Helper()
	if got, want := headOf(piece), headed(piece); got != want {
		t.Errorf("Head of %x.., %d bytes, = %v, not %v", piece[:min(len(piece), 20)], len(piece), got, want)
	}
}

// joins: Join tells what it is to tell, and what it joined is split into just these pieces. Whether it joined them?
func joins(t *testing.T, why string, l [][]byte) bool {
	t.Helper()
	seq, b, ok := part.Join(l)
	wantSeq, want, wantOK := joined(l)
	if seq != wantSeq || !bytes.Equal(b, want) || ok != wantOK {
		t.Errorf("%s: Join of %s = %d, %d bytes, %v, not %d, %d bytes, %v", why, said(l), seq, len(b), ok, wantSeq, len(want), wantOK)
	}
	if ok && !alike(part.Split(seq, b), l) {
		t.Errorf("%s: %s are joined, but that record is split in another way", why, said(l))
	}
	return ok
}

// refuses: Join tells that l is no record.
func refuses(t *testing.T, why string, l [][]byte) {
	t.Helper()
	if joins(t, why, l) {
		t.Errorf("%s: joined: %s", why, said(l))
	}
}

// P17.1

func TestSplitOfTheDocument(t *testing.T) {
	for _, b := range [][]byte{nil, {}, spare(nil)} {
		if l := part.Split(7, b); !alike(l, [][]byte{{0, 0, 1, 0, 7, 0, 0, 0, 0, 0, 0, 0}}) {
			t.Error(said(l))
		}
	}
}

func TestSplitOfEachLength(t *testing.T) {
	for _, n := range longs {
		for _, seq := range []int{0, 7, 0x010203040506, epochs} {
			splits(t, seq, data(n))
		}
		if got := len(part.Split(1, data(n))); got != geom.Need(n) || got == 0 {
			t.Errorf("Split of %d bytes: %d pieces, not %d", n, got, geom.Need(n))
		}
	}
	for n := range 4 * own {
		splits(t, n, data(n))
	}
}

func TestSplitOfEachSeq(t *testing.T) {
	for _, seq := range seqs {
		for _, n := range []int{0, 1, 460, 461, 1380} {
			splits(t, seq, data(n))
		}
	}
	for bit := range 64 {
		splits(t, 1<<bit, data(461))
		splits(t, 1<<bit-1, data(461))
		splits(t, -1<<bit, data(461))
	}
}

func TestSplitTakesTheNearestSeq(t *testing.T) {
	lowest, highest := part.Split(0, data(500)), part.Split(epochs, data(500))
	for _, seq := range []int{-1, -epochs, math.MinInt} {
		if l := part.Split(seq, data(500)); !alike(l, lowest) {
			t.Errorf("Split(%d): %s", seq, said(l))
		}
	}
	for _, seq := range []int{epochs + 1, math.MaxInt} {
		if l := part.Split(seq, data(500)); !alike(l, highest) {
			t.Errorf("Split(%d): %s", seq, said(l))
		}
	}
	if alike(lowest, highest) || alike(highest, part.Split(epochs-1, data(500))) {
		t.Error("unlike numbers, but the same pieces")
	}
}

func TestSplitFillsAllPieces(t *testing.T) {
	l := part.Split(3, data(many*own))
	if len(l) != many {
		t.Fatalf("%d pieces", len(l))
	}
	for i, p := range l {
		if len(p) != whole || headOf(p) != (header{i, many, 3, true}) {
			t.Errorf("piece %d: %v, %d bytes", i, headOf(p), len(p))
		}
	}
	if l := part.Split(3, data(many*own-1)); len(l) != many || len(l[many-1]) != whole-1 {
		t.Error("one byte less:", said(l))
	}
}

func TestSplitOfTooMuchIsNothing(t *testing.T) {
	for _, n := range tooLongs {
		for _, seq := range []int{-1, 0, epochs + 1} {
			if l := part.Split(seq, make([]byte, n)); len(l) != 0 {
				t.Errorf("Split of %d bytes: %s", n, said(l))
			}
		}
	}
}

func TestSplitSeesNoSpareRoom(t *testing.T) {
	for _, n := range []int{0, 1, 459, 460, 461, 920} {
		if got, want := part.Split(4, spare(data(n))), pieces(4, data(n)); !alike(got, want) {
			t.Errorf("%d bytes: %s, not %s", n, said(got), said(want))
		}
	}
}

// P17.2: Head

func TestHeadTellsWhatAPieceBeginsWith(t *testing.T) {
	for _, c := range []struct {
		piece []byte
		want  header
	}{
		{[]byte{0, 0, 1, 0, 7, 0, 0, 0, 0, 0, 0, 0}, header{0, 1, 7, true}},
		{[]byte{2, 0, 3, 0, 2, 1, 0, 0, 0, 0, 0, 0, 99}, header{2, 3, 258, true}},
		{[]byte{255, 3, 0, 4, 6, 5, 4, 3, 2, 1, 0, 0}, header{1023, 1024, 0x010203040506, true}},
		{[]byte{1, 1, 2, 1, 0, 0, 0, 0, 0, 0, 1, 0}, header{257, 258, epochs, true}},
		{[]byte{0, 0, 1, 4, 0, 0, 0, 0, 0, 0, 0, 0}, header{}},
		{[]byte{0, 0, 1, 0, 1, 0, 0, 0, 0, 0, 1, 0}, header{}},
		{[]byte{0, 0, 1, 0, 0, 0, 0, 0, 0, 0, 0, 128}, header{}},
	} {
		if got := headOf(c.piece); got != c.want {
			t.Errorf("Head of %v = %v, not %v", c.piece, got, c.want)
		}
	}
}

func TestHeadOfEachLength(t *testing.T) {
	long := begun(3, 5, 77, data(70000))
	for n := range 600 {
		heads(t, long[:n])
		if got, want := headOf(long[:n]).ok, n >= 12 && n <= 472; got != want {
			t.Errorf("Head of %d bytes: %v", n, got)
		}
	}
	for _, n := range []int{944, 1024, 65536, 65536 + 11, 65536 + 12, 65536 + 472} {
		heads(t, long[:n])
	}
	for _, b := range [][]byte{nil, {}} {
		if got := headOf(b); got != (header{}) {
			t.Errorf("Head of nothing = %v", got)
		}
	}
}

func TestHeadSeesNoSpareRoom(t *testing.T) {
	long := begun(3, 5, 77, data(500))
	for _, n := range []int{0, 1, 11, 12, 472} {
		if got, want := headOf(long[:n]), headed(slices.Clip(bytes.Clone(long[:n]))); got != want || want.ok != (n >= 12) {
			t.Errorf("Head of %d bytes with more behind = %v", n, got)
		}
	}
}

func TestHeadOfEachCountAndPlace(t *testing.T) {
	counts := []int{0, 1, 2, 3, 255, 256, 257, 511, 512, 1022, 1023, 1024, 1025, 1026, 1279, 1280, 2048, 4096, 32767, 32768, 65534, 65535}
	for _, count := range counts {
		places := []int{0, 1, 255, 256, 257, 1023, 1024, 1025, 32768, 65535}
		for near := -2; near <= 2; near++ {
			places = append(places, count+near)
		}
		for _, place := range places {
			for _, seq := range []uint64{0, 5, epochs} {
				heads(t, begun(place, count, seq, nil))
				heads(t, begun(place, count, seq, data(own)))
			}
		}
	}
	for place := range 1025 {
		if got, want := headOf(begun(place, 1024, 9, nil)).ok, place < 1024; got != want {
			t.Errorf("place %d of 1024: %v", place, got)
		}
	}
}

func TestHeadOfEachSeq(t *testing.T) {
	numbers := []uint64{0, 1, 255, 256, epochs - 1, epochs, epochs + 1, 1 << 49, 1<<63 - 1, 1 << 63, 1<<63 + 1, 1<<63 + epochs, 1<<63 + epochs + 1, math.MaxUint64 - 1, math.MaxUint64}
	for bit := range 64 {
		numbers = append(numbers, 1<<bit, 1<<bit-1, 1<<bit+1, 1<<bit|1<<63, 1<<bit|epochs)
	}
	for _, seq := range numbers {
		heads(t, begun(1, 2, seq, data(3)))
		if got, want := headOf(begun(0, 1, seq, nil)).ok, seq <= epochs; got != want {
			t.Errorf("seq %d: %v", seq, got)
		}
	}
}

func TestHeadIsNotAskedOfTheRecord(t *testing.T) {
	for _, body := range [][]byte{nil, {0}, {255}, bytes.Repeat([]byte{0}, own), bytes.Repeat([]byte{255}, own), data(own)} {
		if got := headOf(begun(4, 9, 300, body)); got != (header{4, 9, 300, true}) {
			t.Errorf("Head with %d bytes behind = %v", len(body), got)
		}
	}
}

func TestHeadOfMixedBytes(t *testing.T) {
	c := chance(3)
	for range 20000 {
		p := make([]byte, c.below(20))
		for i := range p {
			p[i] = byte(c.below(256) >> c.below(9))
		}
		heads(t, p)
	}
}

// P17.2: Join

func TestJoinOfNothing(t *testing.T) {
	for _, l := range [][][]byte{nil, {}, part.Split(1, data(700))[:0], {nil}, {{}}, {nil, nil}} {
		refuses(t, "nothing", l)
	}
}

func TestJoinOfOnePiece(t *testing.T) {
	for n := range whole + 60 {
		l := [][]byte{begun(0, 1, 6, data(n))}
		if got, want := joins(t, "one piece", l), n <= own; got != want {
			t.Errorf("one piece with %d bytes of the record: %v", n, got)
		}
		refuses(t, "the first of two", [][]byte{begun(0, 2, 6, data(n))})
		refuses(t, "the second of two", [][]byte{begun(1, 2, 6, data(n))})
	}
	for n := range front {
		refuses(t, "too short", [][]byte{begun(0, 1, 6, nil)[:n]})
	}
}

func TestJoinOfTwoPiecesOfEachLength(t *testing.T) {
	near := []int{0, 1, 2, 11, 12, 229, 230, 231, 458, 459, 460, 461, 472, 473, 920}
	for _, first := range near {
		for _, last := range near {
			l := [][]byte{begun(0, 2, 8, data(first)), begun(1, 2, 8, data(last))}
			if got, want := joins(t, "two", l), first == own && last >= 1 && last <= own; got != want {
				t.Errorf("pieces with %d and %d bytes of the record: %v", first, last, got)
			}
			for _, within := range near {
				l := [][]byte{begun(0, 3, 8, data(first)), begun(1, 3, 8, data(within)), begun(2, 3, 8, data(last))}
				if got, want := joins(t, "three", l), first == own && within == own && last >= 1 && last <= own; got != want {
					t.Errorf("pieces with %d, %d and %d bytes of the record: %v", first, within, last, got)
				}
			}
		}
	}
}

func TestJoinOfOtherBeginnings(t *testing.T) {
	numbers := []int{0, 1, 2, 3, 4, 5, 255, 256, 257, 258, 259, 1023, 1024, 1025, 65535}
	for _, n := range []int{0, 7, 461, 460 * 3, 257 * own} {
		l := part.Split(258, data(n))
		for _, i := range []int{0, 1, len(l) / 2, len(l) - 2, len(l) - 1} {
			if i < 0 || i >= len(l) {
				continue
			}
			h := headOf(l[i])
			change := func(why string, place, count int, seq uint64) {
				changed := slices.Clone(l)
				changed[i] = begun(place, count, seq, l[i][front:])
				if got, want := joins(t, why, changed), bytes.Equal(changed[i], l[i]) || len(l) == 1 && place == 0 && count == 1 && seq <= epochs; got != want {
					t.Errorf("%s of piece %d of %d: %v", why, i, len(l), got)
				}
			}
			for _, other := range numbers {
				change("another place", other, h.count, uint64(h.seq))
				change("another count", h.place, other, uint64(h.seq))
				change("another seq", h.place, h.count, uint64(other))
			}
			for _, seq := range []uint64{epochs, epochs + 1, 1 << 63, 1<<63 | 258, math.MaxUint64} {
				change("a seq far off", h.place, h.count, seq)
			}
		}
	}
}

func TestJoinOfEachChangedByte(t *testing.T) {
	l := part.Split(300, data(1000))
	for i, p := range l {
		for at := range front {
			for n := range 256 {
				changed := copies(l)
				changed[i][at] = byte(n)
				if got, want := joins(t, "a byte changed", changed), byte(n) == p[at]; got != want {
					t.Errorf("byte %d of piece %d is %d: %v", at, i, n, got)
				}
			}
		}
	}
	one := part.Split(300, data(100))
	for at := range front {
		for n := range 256 {
			changed := copies(one)
			changed[0][at] = byte(n)
			joins(t, "a byte of one piece changed", changed)
		}
	}
}

func TestJoinTakesTheRecordsBytesAsTheyAre(t *testing.T) {
	l := part.Split(300, data(1000))
	for i, p := range l {
		for _, at := range []int{front, front + 1, len(p) - 1} {
			changed := copies(l)
			changed[i][at] ^= 0x55
			_, b, ok := part.Join(changed)
			want := data(1000)
			want[i*own+at-front] ^= 0x55
			if !ok || !bytes.Equal(b, want) {
				t.Errorf("byte %d of piece %d changed: %v", at, i, ok)
			}
		}
	}
}

func TestJoinOfEveryChoice(t *testing.T) {
	var pool [][]byte
	for _, r := range []struct{ seq, long int }{{5, 921}, {6, 921}, {5, 920}, {5, 461}, {5, 460}, {5, 0}} {
		pool = append(pool, part.Split(r.seq, data(r.long))...)
	}
	pool = append(pool, nil, begun(1, 2, 5, nil), begun(2, 3, 5, data(own+1)))
	found := 0
	var try func(l [][]byte)
	try = func(l [][]byte) {
		if joins(t, "a choice", l) {
			found++
		}
		if len(l) == 4 {
			return
		}
		for _, p := range pool {
			try(append(slices.Clip(l), p))
		}
	}
	try(nil)
	// Two of three pieces, and two of one; of two pieces four, as those of 920 bytes and of 461 begin with the same one, which is in the pool twice.
	if found != 8 {
		t.Errorf("%d choices are joined, not 8", found)
	}
}

func TestJoinOfManyPieces(t *testing.T) {
	for _, n := range []int{5 * own, 256 * own, 257*own - 9, 1023*own + 1, many * own} {
		l := part.Split(9, data(n))
		if !joins(t, "as split", l) {
			t.Errorf("%d bytes: not joined", n)
		}
		mid, end := len(l)/2, len(l)-1
		for why, x := range map[string][][]byte{
			"without the first":    l[1:],
			"without one within":   slices.Delete(slices.Clone(l), mid, mid+1),
			"without the last":     l[:end],
			"the first twice":      slices.Insert(slices.Clone(l), 0, l[0]),
			"one within twice":     slices.Insert(slices.Clone(l), mid, l[mid]),
			"the last twice":       append(slices.Clone(l), l[end]),
			"all twice":            append(slices.Clone(l), l...),
			"one more":             append(slices.Clone(l), begun(len(l), len(l)+1, 9, []byte{1})),
			"nil ahead":            slices.Insert(slices.Clone(l), 0, nil),
			"nil behind":           append(slices.Clone(l), nil),
			"without bytes behind": append(slices.Clone(l), begun(len(l), len(l), 9, nil)),
			"another one's last":   append(slices.Clone(l[:end]), part.Split(10, data(n))[end]),
			"another one's first":  slices.Insert(slices.Clone(l[1:]), 0, part.Split(8, data(n))[0]),
			"one within cut":       slices.Replace(slices.Clone(l), mid, mid+1, l[mid][:whole-1]),
			"the last left empty":  slices.Replace(slices.Clone(l), end, end+1, l[end][:front]),
		} {
			refuses(t, fmt.Sprintf("%d pieces, %s", len(l), why), x)
		}
		turned := slices.Clone(l)
		slices.Reverse(turned)
		refuses(t, "the other way round", turned)
		for _, i := range []int{0, mid - 1, mid, end - 1} {
			x := slices.Clone(l)
			x[i], x[i+1] = x[i+1], x[i]
			refuses(t, "two neighbours changed", x)
		}
	}
}

func TestJoinOfMoreThanMayBe(t *testing.T) {
	for _, count := range []int{1025, 65536, 65537} {
		var l [][]byte
		for place := range count {
			l = append(l, begun(place, count, 9, data(own)))
		}
		refuses(t, "too many pieces", l)
		for _, c := range []int{1, 1024} {
			for place := range l {
				l[place] = begun(place%c, c, 9, nil)
			}
			refuses(t, "too many pieces without bytes", l)
		}
	}
}

func TestJoinSeesNoSpareRoom(t *testing.T) {
	b := data(1000)
	l := part.Split(4, b)
	for i, p := range l {
		l[i] = spare(p)
	}
	if seq, got, ok := part.Join(l); seq != 4 || !bytes.Equal(got, b) || !ok {
		t.Error(seq, len(got), ok)
	}
	l[2] = l[2][:front]
	refuses(t, "the record's bytes stand in the spare room", l)
	l[2] = l[2][:front-1]
	refuses(t, "a byte of the beginning stands in the spare room", l)
	refuses(t, "the last piece stands in the spare room", part.Split(4, b)[:2])
}

// P17.3

func TestWhatIsSplitIsJoined(t *testing.T) {
	for _, n := range longs {
		for _, seq := range seqs {
			if n > 2000 && seq > 2 && seq < epochs {
				continue
			}
			b := data(n)
			got, x, ok := part.Join(part.Split(seq, b))
			if uint64(got) != nearest(seq) || !bytes.Equal(x, b) || !ok {
				t.Errorf("Split(%d, %d bytes) is joined to %d, %d bytes, %v", seq, n, got, len(x), ok)
			}
		}
	}
	for n := range 5 * own {
		if seq, x, ok := part.Join(part.Split(n, data(n))); seq != n || !bytes.Equal(x, data(n)) || !ok {
			t.Errorf("%d bytes are joined to %d, %d bytes, %v", n, seq, len(x), ok)
		}
	}
	for _, n := range tooLongs {
		refuses(t, "too much", part.Split(1, make([]byte, n)))
	}
}

func TestMixedPiecesAreJoinedIfTheyAreARecord(t *testing.T) {
	c, found := chance(11), 0
	for range 6000 {
		l := part.Split(3, data(c.below(4*own+1)))
		i := c.below(len(l))
		place, count, seq, body := i, len(l), uint64(3), l[i][front:]
		switch c.below(10) {
		case 0:
			place = c.below(5)
		case 1:
			count = 1 + c.below(5)
		case 2:
			seq = uint64(2 + c.below(3))
		case 3:
			body = data(c.below(own + 3))
		case 4:
			body = data(own * c.below(2))
		}
		l[i] = begun(place, count, seq, body)
		if joins(t, "mixed", l) {
			found++
		}
	}
	if found < 3000 || found > 5000 {
		t.Errorf("%d of 6000 are joined: too few, or too many, of one kind", found)
	}
}

// Memory.

func TestWhatIsHandedInStays(t *testing.T) {
	for _, n := range []int{0, 1, 459, 460, 461, 920, 1000} {
		b := spare(data(n))
		l := part.Split(5, b)
		if !untouched(b, data(n)) {
			t.Errorf("Split changes its %d bytes", n)
		}
		want := copies(l)
		room := make([][]byte, len(l), len(l)+3)
		for i, p := range l {
			room[i] = spare(p)
		}
		part.Join(room)
		for i, p := range room {
			part.Head(p)
			if !untouched(p, want[i]) {
				t.Errorf("Join or Head changes piece %d of %d bytes", i, n)
			}
		}
		for _, p := range room[len(l):cap(room)] {
			if p != nil {
				t.Error("Join writes into the spare room of its list")
			}
		}
		room[len(l)-1] = nil
		part.Join(room)
		for i, p := range room[:len(l)-1] {
			if !untouched(p, want[i]) {
				t.Errorf("Join changes piece %d of %d bytes, though they are no record", i, n)
			}
		}
	}
}

func TestSplitTellsNewMemory(t *testing.T) {
	for _, n := range []int{0, 1, 460, 461, 921, 2000} {
		b := spare(data(n))
		l := part.Split(5, b)
		overwrite(b, 0x77)
		if !alike(l, pieces(5, data(n))) {
			t.Errorf("pieces of %d bytes share memory with them", n)
		}
		b = spare(data(n))
		l = part.Split(5, b)
		for _, p := range l {
			overwrite(p, 0x66)
		}
		if !untouched(b, data(n)) {
			t.Errorf("%d bytes share memory with their pieces", n)
		}
	}
}

func TestPiecesShareNoMemory(t *testing.T) {
	for _, n := range []int{461, 921, 2000, 40 * own} {
		want := pieces(5, data(n))
		for i := range want {
			l := part.Split(5, data(n))
			overwrite(l[i], 0x66)
			for k, p := range l {
				if k != i && !bytes.Equal(p, want[k]) {
					t.Errorf("piece %d and piece %d of %d bytes share memory", i, k, n)
				}
			}
			l = part.Split(5, data(n))
			_ = append(l[i], data(front+1)...)
			if !alike(l, want) {
				t.Errorf("what grows piece %d of %d bytes changes others", i, n)
			}
		}
	}
}

func TestTwoSplitsShareNoMemory(t *testing.T) {
	a, b := part.Split(5, data(1000)), part.Split(5, data(1000))
	for i := range a {
		overwrite(a[i], 0x66)
		a[i] = nil
	}
	if !alike(b, pieces(5, data(1000))) {
		t.Error("what is done to one answer changes the other")
	}
}

func TestJoinTellsNewMemory(t *testing.T) {
	for _, n := range []int{1, 460, 461, 921, 2000} {
		l := part.Split(5, data(n))
		_, b, _ := part.Join(l)
		overwrite(b, 0x66)
		if !alike(l, pieces(5, data(n))) {
			t.Errorf("pieces share memory with the %d bytes that were joined", n)
		}
		_, b, _ = part.Join(l)
		for _, p := range l {
			overwrite(p, 0x77)
		}
		if !bytes.Equal(b, data(n)) {
			t.Errorf("the %d bytes that were joined share memory with the pieces", n)
		}
	}
}
