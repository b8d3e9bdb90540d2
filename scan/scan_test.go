package scan_test

import (
	"bytes"
	"encoding/binary"
	"fmt"
	"hash/crc32"
	"math"
	"slices"
	"testing"

	"vivarium/api"
	"vivarium/frame"
	"vivarium/part"
	"vivarium/scan"
	"vivarium/seal"
)

// What the document says of these.
const (
	size    = 512 // bytes of a sector
	front   = 12  // bytes of a piece that are not the record's own
	own     = 460 // bytes of a record that one piece takes
	epochs  = 1 << 48
	longest = 5893 // bytes of the greatest frame
	many    = 13   // pieces of that one
)

// far: numbers that are far off.
var far = []int{math.MinInt, math.MinInt + 1, math.MinInt + 4, -1 << 62, -epochs - 1, -epochs, -1 << 32, 1 << 32, epochs + 2, 1 << 49, 1 << 62, math.MaxInt - 4, math.MaxInt - 1, math.MaxInt}

// chance: numbers that look mixed, the same ones for the same seed.
type chance uint64

// below: the next number from 0 on, below n.
func (c *chance) below(n int) int {
	*c = *c*6364136223846793005 + 1442695040888963407
	return int(uint64(*c)>>33) % n
}

// mixed: n bytes that look mixed.
func (c *chance) mixed(n int) []byte {
	b := make([]byte, n)
	for i := range b {
		b[i] = byte(c.below(256))
	}
	return b
}

// layout: one that may be, of so many sectors of the log.
func layout(log int) api.Conf {
	return api.Conf{Log: log, Pages: 8, Entities: 9, Gens: 9, Comps: []api.Comp{{Name: "pos", Size: 2}}}
}

// blank: n sectors of bytes 0.
func blank(n int) [][]byte {
	l := make([][]byte, n)
	for i := range l {
		l[i] = make([]byte, size)
	}
	return l
}

// record: a frame of just long bytes, other ones for another salt.
func record(long, salt int) []byte {
	var l []api.Cmd
	set := func(n int) {
		l = append(l, api.Cmd{Do: api.DoSet, ID: api.ID{Index: salt, Gen: len(l)}, Comp: 1, Data: bytes.Repeat([]byte{byte(1 + salt%255)}, n)})
	}
	left := long - 5
	for ; left >= 92; left -= 92 {
		set(64)
	}
	if left >= 28 {
		set(left - 28)
		left = 0
	}
	for range left {
		l = append(l, api.Cmd{Do: api.DoSpawn})
	}
	b, e := frame.Put(l)
	if e != api.OK || len(b) != long {
		panic(fmt.Sprint("no frame of ", long, " bytes"))
	}
	return b
}

// begun: what a piece begins with, and b.
func begun(place, count int, seq uint64, b []byte) []byte {
	p := binary.LittleEndian.AppendUint16(nil, uint16(place))
	p = binary.LittleEndian.AppendUint16(p, uint16(count))
	return append(binary.LittleEndian.AppendUint64(p, seq), b...)
}

// sealed: a sector of the log.
func sealed(epoch, no int, body []byte) []byte {
	return seal.Put(api.Seal{Epoch: epoch, No: no, Kind: api.KindLog, Body: body})
}

// lay: record b stands in l from lsn on. It tells the place behind it.
func lay(l [][]byte, epoch, lsn, seq int, b []byte) int {
	for i, p := range part.Split(seq, b) {
		l[(lsn+i)%len(l)] = sealed(epoch, lsn+i, p)
	}
	return lsn + len(part.Split(seq, b))
}

// copies: the same sectors in memory of their own.
func copies(l [][]byte) [][]byte {
	out := make([][]byte, len(l))
	for i, s := range l {
		out[i] = bytes.Clone(s)
	}
	return out
}

// with: l with another sector at a place, in a list of its own.
func with(l [][]byte, at int, s []byte) [][]byte {
	out := slices.Clone(l)
	out[at] = s
	return out
}

// spare: b's bytes with spare room behind them that has bytes 0xee.
func spare(b []byte) []byte {
	room := append(bytes.Clone(b), bytes.Repeat([]byte{0xee}, 600)...)
	return room[:len(b)]
}

// untouched: does b, made by spare, still have these bytes, and its spare room, too?
func untouched(b, want []byte) bool {
	return bytes.Equal(b, want) && bytes.Equal(b[len(b):len(b)+600], bytes.Repeat([]byte{0xee}, 600))
}

// overwrite: all of b's bytes, its spare room too, are n from now on.
func overwrite(b []byte, n byte) {
	b = b[:cap(b)]
	for i := range b {
		b[i] = n
	}
}

// What the document says, in other words.

// stamp: what stands in the 8 bytes at a place, as an epoch; 0, if it can be none.
func stamp(s []byte, at int) int {
	n := binary.LittleEndian.Uint64(s[at:])
	if n > epochs {
		return 0
	}
	return int(n)
}

// topped: what Top is to tell.
func topped(l [][]byte) int {
	all := []int{0}
	for _, s := range l {
		if len(s) == size {
			all = append(all, stamp(s, 0), stamp(s, 504))
		}
	}
	return slices.Max(all)
}

// holds: the seal that a sector has.
func holds(s []byte) (api.Seal, bool) {
	if len(s) != size {
		return api.Seal{}, false
	}
	word := binary.LittleEndian.Uint64
	long := int(binary.LittleEndian.Uint16(s[22:]))
	sum := crc32.ChecksumIEEE(append(bytes.Clone(s[:16]), s[20:]...))
	switch {
	case word(s) != word(s[504:]), word(s[8:]) != word(s[496:]), word(s) > epochs, word(s[8:]) > epochs, sum != binary.LittleEndian.Uint32(s[16:]):
		return api.Seal{}, false
	case s[21] != 0, long > 472, !bytes.Equal(s[24+long:496], make([]byte, 472-long)):
		return api.Seal{}, false
	}
	return api.Seal{Epoch: int(word(s)), No: int(word(s[8:])), Kind: int(s[20]), Body: bytes.Clone(s[24 : 24+long])}, true
}

// had: what Has is to tell, on a layout that may be.
func had(c api.Conf, l [][]byte, lsn int) (api.Seal, bool) {
	if len(l) != c.Log {
		return api.Seal{}, false
	}
	// A place can be in one sector alone, whichever it is.
	for at, s := range l {
		if len(s) != size || binary.LittleEndian.Uint64(s[8:]) != uint64(lsn) || (lsn-at)%c.Log != 0 {
			continue
		}
		if x, ok := holds(s); ok && x.Kind == 1 {
			return x, true
		}
	}
	return api.Seal{}, false
}

// found: what One tells.
type found struct {
	b          []byte
	count, own int
	ok         bool
}

// oned: what One is to tell, on a layout that may be.
func oned(c api.Conf, l [][]byte, lsn, epoch, seq, most int) found {
	first, ok := had(c, l, lsn)
	if !ok || first.Epoch < epoch || len(first.Body) < front || seq < 0 || seq > epochs {
		return found{}
	}
	count := int(binary.LittleEndian.Uint16(first.Body[2:]))
	if count == 0 || count > 1024 || count > most {
		return found{}
	}
	var b []byte
	for i := range count {
		x, ok := had(c, l, lsn+i)
		left, is := bytes.CutPrefix(x.Body, begun(i, count, uint64(seq), nil))
		switch {
		case !ok, !is, x.Epoch != first.Epoch, i < count-1 && len(left) != own, i > 0 && len(left) == 0:
			return found{}
		}
		b = append(b, left...)
	}
	if _, e := frame.Get(b); e != api.OK {
		return found{}
	}
	return found{b, count, first.Epoch, true}
}

// scanned: what Scan is to tell, on a layout that may be.
func scanned(c api.Conf, l [][]byte, head, epoch, seq int) api.Tail {
	one := oned(c, l, head, epoch, seq, c.Log)
	t := api.Tail{LSN: head, Epoch: epoch, Seq: seq}
	for free := c.Log; one.ok && one.count <= free; one = oned(c, l, t.LSN, t.Epoch, t.Seq, free) {
		free -= one.count
		t = api.Tail{Records: append(t.Records, one.b), LSN: t.LSN + one.count, Epoch: one.own, Seq: t.Seq + 1}
	}
	return t
}

func sameSeal(a, b api.Seal) bool {
	return a.Epoch == b.Epoch && a.No == b.No && a.Kind == b.Kind && bytes.Equal(a.Body, b.Body)
}

func (a found) same(b found) bool {
	return bytes.Equal(a.b, b.b) && a.count == b.count && a.own == b.own && a.ok == b.ok
}

func sameTail(a, b api.Tail) bool {
	return a.LSN == b.LSN && a.Epoch == b.Epoch && a.Seq == b.Seq && slices.EqualFunc(a.Records, b.Records, bytes.Equal)
}

func (a found) String() string {
	return fmt.Sprintf("%d bytes, %d, %d, %v", len(a.b), a.count, a.own, a.ok)
}

// told: a tail as a text that is not too long.
func told(t api.Tail) string {
	s := fmt.Sprintf("%d records, LSN %d, Epoch %d, Seq %d:", len(t.Records), t.LSN, t.Epoch, t.Seq)
	for _, b := range t.Records[:min(len(t.Records), 6)] {
		s += fmt.Sprintf(" %d bytes", len(b))
	}
	return s
}

// has: Has tells what it is to tell. Whether it told a seal?
func has(t *testing.T, why string, c api.Conf, l [][]byte, lsn int) bool {
	t.Helper()
	got, ok := scan.Has(c, l, lsn)
	want, wantOK := had(c, l, lsn)
	if !sameSeal(got, want) || ok != wantOK {
		t.Errorf("%s: Has of %d = %v, %v, not %v, %v", why, lsn, got, ok, want, wantOK)
	}
	return ok
}

// asked: what One tells.
func asked(c api.Conf, l [][]byte, lsn, epoch, seq, most int) found {
	b, count, own, ok := scan.One(c, l, lsn, epoch, seq, most)
	return found{b, count, own, ok}
}

// one: One tells what it is to tell. Whether it told a record?
func one(t *testing.T, why string, c api.Conf, l [][]byte, lsn, epoch, seq, most int) bool {
	t.Helper()
	got, want := asked(c, l, lsn, epoch, seq, most), oned(c, l, lsn, epoch, seq, most)
	if !got.same(want) {
		t.Errorf("%s: One of lsn %d, epoch %d, seq %d, most %d = %v, not %v", why, lsn, epoch, seq, most, got, want)
	}
	return got.ok
}

// takes: One tells that there is a record, with as many pieces as the log has sectors at most.
func takes(t *testing.T, why string, c api.Conf, l [][]byte, lsn, epoch, seq int) {
	t.Helper()
	if !one(t, why, c, l, lsn, epoch, seq, c.Log) {
		t.Errorf("%s: no record of lsn %d, epoch %d, seq %d", why, lsn, epoch, seq)
	}
}

// refuses: One tells that there is no record, however many pieces it may have.
func refuses(t *testing.T, why string, c api.Conf, l [][]byte, lsn, epoch, seq int) {
	t.Helper()
	for _, most := range []int{c.Log, math.MaxInt} {
		if one(t, why, c, l, lsn, epoch, seq, most) {
			t.Errorf("%s: a record of lsn %d, epoch %d, seq %d, most %d", why, lsn, epoch, seq, most)
		}
	}
}

// scans: Scan tells what it is to tell, in no more steps than there are sectors. It tells how many records.
func scans(t *testing.T, why string, c api.Conf, l [][]byte, head, epoch, seq int) int {
	t.Helper()
	got, want := scan.Scan(c, l, head, epoch, seq), scanned(c, l, head, epoch, seq)
	if !sameTail(got, want) {
		t.Errorf("%s: Scan from lsn %d, epoch %d, seq %d = %s\nnot %s", why, head, epoch, seq, told(got), told(want))
	}
	if n := len(got.Records); n > len(l) || got.LSN-head < n || got.LSN-head > len(l) {
		t.Errorf("%s: Scan from lsn %d of %d sectors = %s", why, head, len(l), told(got))
	}
	return len(got.Records)
}

// tells: Scan tells so many records, and they are right.
func tells(t *testing.T, why string, c api.Conf, l [][]byte, head, epoch, seq, want int) {
	t.Helper()
	if got := scans(t, why, c, l, head, epoch, seq); got != want {
		t.Errorf("%s: Scan from lsn %d, epoch %d, seq %d: %d records, not %d", why, head, epoch, seq, got, want)
	}
}

// nothing: none of the three tells anything of what may not be.
func nothing(t *testing.T, why string, c api.Conf, l [][]byte, lsn int) {
	t.Helper()
	for _, seq := range []int{lsn, 0} {
		if x, ok := scan.Has(c, l, lsn); ok || !sameSeal(x, api.Seal{}) {
			t.Errorf("%s: Has of %d = %v, %v", why, lsn, x, ok)
		}
		if x := asked(c, l, lsn, 0, seq, math.MaxInt); !x.same(found{}) {
			t.Errorf("%s: One of %d = %v", why, lsn, x)
		}
		if x := scan.Scan(c, l, lsn, 3, seq); !sameTail(x, api.Tail{LSN: lsn, Epoch: 3, Seq: seq}) {
			t.Errorf("%s: Scan of %d = %s", why, lsn, told(x))
		}
	}
}

// P18.1: Top

func TestTopOfNone(t *testing.T) {
	for _, l := range [][][]byte{nil, {}, {nil}, {{}}, blank(1), blank(5), {nil, nil, make([]byte, size)}} {
		if got := scan.Top(l); got != 0 {
			t.Errorf("Top of %d sectors without an epoch = %d", len(l), got)
		}
	}
}

func TestTopIsTheGreatest(t *testing.T) {
	for n := 1; n < 6; n++ {
		for at := range n {
			for _, epoch := range []int{1, 2, 6, 7, 255, 256, 1 << 32, epochs - 1, epochs} {
				l := blank(n)
				for i := range l {
					l[i] = sealed(min(5, epoch-1), i, nil)
				}
				for _, s := range [][]byte{sealed(epoch, at, nil), seal.Tear(l[at], sealed(epoch, at, nil), 1), seal.Tear(l[at], sealed(epoch, at, nil), -1)} {
					if got := scan.Top(with(l, at, s)); got != epoch {
						t.Errorf("Top of %d sectors, %d of epoch %d, = %d", n, at, epoch, got)
					}
				}
			}
		}
	}
}

func TestTopOfOtherSectors(t *testing.T) {
	for _, n := range []int{0, 1, 8, 504, 511, 513, 1024} {
		l := [][]byte{bytes.Repeat([]byte{1}, n), sealed(3, 0, nil)}
		if got := scan.Top(l); got != 3 {
			t.Errorf("Top with a sector of %d bytes = %d", n, got)
		}
	}
	long := append(sealed(9, 0, nil), 0)
	if got := scan.Top([][]byte{long, long[:511], long[1:512]}); got != 0 {
		t.Errorf("Top of too long and too short sectors = %d", got)
	}
	if got := scan.Top([][]byte{long[:512]}); got != 9 {
		t.Errorf("Top of a sector that has spare room = %d", got)
	}
}

func TestTopOfEachStamp(t *testing.T) {
	numbers := []uint64{0, 1, 2, epochs - 1, epochs, epochs + 1, 1 << 49, 1 << 63, 1<<63 + 1, 1<<63 + epochs, math.MaxUint64}
	for _, ahead := range numbers {
		for _, behind := range numbers {
			s := make([]byte, size)
			binary.LittleEndian.PutUint64(s, ahead)
			binary.LittleEndian.PutUint64(s[504:], behind)
			for _, l := range [][][]byte{{s}, {s, sealed(2, 0, nil)}, {sealed(2, 0, nil), s}} {
				if got, want := scan.Top(l), topped(l); got != want {
					t.Errorf("Top of %d and %d = %d, not %d", ahead, behind, got, want)
				}
			}
		}
	}
}

func TestTopOfMixedSectors(t *testing.T) {
	c := chance(1)
	for range 500 {
		var l [][]byte
		for range c.below(6) {
			s := c.mixed(size - 1 + c.below(8)/6)
			for _, at := range []int{0, 504} {
				if c.below(3) > 0 {
					copy(s[at:], binary.LittleEndian.AppendUint64(nil, uint64(c.below(1000)))[:min(8, len(s)-at)])
				}
			}
			l = append(l, s)
		}
		if got, want := scan.Top(l), topped(l); got != want {
			t.Errorf("Top = %d, not %d", got, want)
		}
	}
}

// P18.1: Has

func TestHasOfEachPlace(t *testing.T) {
	for _, log := range []int{2, 3, 4, 7, 1024} {
		c := layout(log)
		for _, from := range []int{0, 1, log - 1, log, log + 1, 5*log - 1, epochs - log + 1} {
			l := blank(log)
			for i := range log {
				lay(l, 3, from+i, i, record(5+i%20, i))
			}
			for _, lsn := range []int{from - log - 1, from - log, from - 1, from, from + 1, from + log/2, from + log - 1, from + log, from + log + 1, from + 2*log} {
				if got, want := has(t, "all laid", c, l, lsn), lsn >= from && lsn < from+log; got != want {
					t.Errorf("%d places from %d on: Has of %d: %v", log, from, lsn, got)
				}
			}
		}
	}
}

func TestHasTellsTheSealAsItIs(t *testing.T) {
	c := layout(4)
	for _, epoch := range []int{0, 1, 255, 256, epochs - 1, epochs} {
		for _, body := range [][]byte{nil, {0}, {1}, {0, 0, 1}, bytes.Repeat([]byte{9}, 471), bytes.Repeat([]byte{0}, 472), bytes.Repeat([]byte{7}, 472)} {
			l := with(blank(4), 2, sealed(epoch, 6, body))
			x, ok := scan.Has(c, l, 6)
			if !ok || !sameSeal(x, api.Seal{Epoch: epoch, No: 6, Kind: 1, Body: body}) {
				t.Errorf("epoch %d, %d bytes: Has = %v, %v", epoch, len(body), x, ok)
			}
		}
	}
}

func TestHasOfOtherNumbers(t *testing.T) {
	c := layout(4)
	for _, lsn := range []int{0, 1, 3, 4, 5, 8, 255, 256, 257, epochs - 4, epochs - 1, epochs} {
		for _, off := range []int{-8, -4, -3, -1, 0, 1, 3, 4, 8, 256, 1 << 32} {
			for at := range 4 {
				l := with(blank(4), at, sealed(3, lsn+off, []byte("x")))
				want := off == 0 && at == lsn%4 || lsn == 0 && off < 0 && at == 0 || lsn == epochs && off > 0 && at == 0
				if got := has(t, "another number", c, l, lsn); got != want {
					t.Errorf("Has of %d, if sector %d has number %d: %v", lsn, at, lsn+off, got)
				}
			}
		}
	}
}

func TestHasOfOtherKinds(t *testing.T) {
	c := layout(4)
	for kind := range 256 {
		l := with(blank(4), 1, seal.Put(api.Seal{Epoch: 3, No: 5, Kind: kind, Body: []byte("x")}))
		if got, want := has(t, "another kind", c, l, 5), kind == 1; got != want {
			t.Errorf("Has of kind %d: %v", kind, got)
		}
	}
}

func TestHasOfLSNsThatMayNotBe(t *testing.T) {
	for _, log := range []int{2, 3, 4, 5} {
		c := layout(log)
		for _, lsn := range append([]int{-1, -2, -log, epochs + 1, epochs + log}, far...) {
			if lsn >= 0 && lsn <= epochs {
				continue
			}
			for _, no := range []int{0, lsn, epochs, max(lsn, 0) % log} {
				l := blank(log)
				for i := range l {
					l[i] = sealed(3, no, part.Split(0, record(5, 0))[0])
				}
				nothing(t, "an lsn that may not be", c, l, lsn)
			}
		}
	}
}

func TestHasOfTheLastPlace(t *testing.T) {
	for _, log := range []int{2, 3, 4, 5, 1024} {
		l := blank(log)
		lay(l, 3, epochs, 7, record(5, 0))
		if !has(t, "the last place", layout(log), l, epochs) {
			t.Errorf("Log %d: no seal of the greatest lsn", log)
		}
	}
}

func TestHasOfEachNumberOfSectors(t *testing.T) {
	for _, log := range []int{2, 4, 1023, 1024} {
		for _, n := range []int{0, 1, 2, log - 2, log - 1, log, log + 1, log + 2, 2 * log} {
			l := blank(n)
			for i := range l {
				l[i] = sealed(3, i, part.Split(i, record(5, i))[0])
			}
			for _, lsn := range []int{0, 1, n - 1, log - 1} {
				if n == log {
					takes(t, "as many as the log has", layout(log), l, lsn, 0, lsn)
					continue
				}
				nothing(t, fmt.Sprintf("%d sectors of a log of %d", n, log), layout(log), l, lsn)
			}
		}
	}
	nothing(t, "nil", layout(2), nil, 0)
	nothing(t, "sectors in the spare room", layout(4), blank(4)[:3], 0)
}

// wrong: layouts that may not be; each is of four sectors of the log, if not of fewer, or more, than may be.
func wrong() map[string]api.Conf {
	all := map[string]api.Conf{"nothing": {}}
	change := func(why string, how func(c *api.Conf)) {
		c := layout(4)
		how(&c)
		all[why] = c
	}
	for _, n := range append([]int{-4, -1, 0, 1, 1025, 1026, 2048}, far...) {
		change(fmt.Sprint("Log ", n), func(c *api.Conf) { c.Log = n })
	}
	for _, n := range append([]int{-1, 0, 3, 1025}, far...) {
		change(fmt.Sprint("Pages ", n), func(c *api.Conf) { c.Pages = n })
	}
	for _, n := range append([]int{-1, 0, 1025}, far...) {
		change(fmt.Sprint("Entities ", n), func(c *api.Conf) { c.Entities = n })
	}
	for _, n := range append([]int{-1, 0, 1<<30 + 1}, far...) {
		change(fmt.Sprint("Gens ", n), func(c *api.Conf) { c.Gens = n })
	}
	change("too many components", func(c *api.Conf) {
		for i := range 32 {
			c.Comps = append(c.Comps, api.Comp{Name: fmt.Sprint("c", i)})
		}
	})
	change("no name", func(c *api.Conf) { c.Comps[0].Name = "" })
	change("a name that is none", func(c *api.Conf) { c.Comps[0].Name = "Pos" })
	change("the same name", func(c *api.Conf) { c.Comps = append(c.Comps, c.Comps[0]) })
	change("a size that is none", func(c *api.Conf) { c.Comps[0].Size = 65 })
	change("a size below 0", func(c *api.Conf) { c.Comps[0].Size = -1 })
	return all
}

func TestLayoutsThatMayNotBe(t *testing.T) {
	for why, c := range wrong() {
		counts := []int{0, 1, 4}
		if c.Log >= 0 && c.Log < 5000 {
			counts = append(counts, c.Log)
		}
		for _, n := range counts {
			l := blank(n)
			for i := range l {
				l[i] = sealed(3, i, part.Split(i, record(5, i))[0])
			}
			for _, lsn := range append([]int{-1, 0, 1, 3, 4, epochs, epochs + 1}, far...) {
				nothing(t, why, c, l, lsn)
			}
		}
	}
}

func TestLayoutsAtTheirEdges(t *testing.T) {
	comps := make([]api.Comp, 32)
	for i := range comps {
		comps[i] = api.Comp{Name: fmt.Sprint("c", i), Size: 64 * (i % 2)}
	}
	for _, c := range []api.Conf{
		{Log: 2, Pages: 4, Entities: 1, Gens: 1},
		{Log: 1024, Pages: 1024, Entities: 1024, Gens: 1 << 30, Comps: comps},
	} {
		l := blank(c.Log)
		lay(l, 3, c.Log+1, 6, record(5, 0))
		takes(t, "a layout at its edge", c, l, c.Log+1, 3, 6)
		tells(t, "a layout at its edge", c, l, c.Log+1, 3, 6, 1)
	}
}

func TestSectorsThatAreNoSeals(t *testing.T) {
	c := layout(4)
	s := sealed(3, 5, part.Split(0, record(5, 0))[0])
	long := append(bytes.Clone(s), make([]byte, 1000)...)
	for _, n := range []int{0, 1, 24, 511, 513, 1024} {
		nothing(t, fmt.Sprint("a sector of ", n, " bytes"), c, with(blank(4), 1, long[:n]), 5)
	}
	nothing(t, "no sector", c, with(blank(4), 1, nil), 5)
	nothing(t, "bytes 0", c, blank(4), 5)
	takes(t, "a sector that has spare room", c, with(blank(4), 1, long[:512]), 5, 0, 0)
	for at := range size {
		for _, bit := range []byte{1, 128} {
			x := bytes.Clone(s)
			x[at] ^= bit
			nothing(t, fmt.Sprint("byte ", at, " changed"), c, with(blank(4), 1, x), 5)
		}
	}
	for k := -64; k <= 64; k++ {
		for _, old := range [][]byte{make([]byte, size), sealed(2, 5, part.Split(0, record(9, 0))[0]), sealed(2, 1, nil)} {
			l := with(blank(4), 1, seal.Tear(old, s, k))
			got, whole := has(t, "torn", c, l, 5), k == 64 || k == -64
			if x, ok := scan.Has(c, l, 5); got != (whole || k == 0 && bytes.Equal(old[8:10], []byte{5, 0})) || ok && x.Epoch == 3 != whole {
				t.Errorf("torn by %d: %v, %v", k, x, ok)
			}
		}
	}
}

// P18.2

// begins: records are laid from here on: at the log's first sector, within it, so that they go round, and far behind.
func begins(log int) []int {
	return []int{0, 1, log - 1, log, log + 1, 3*log - 2, 1 << 32, epochs - 20}
}

func TestOneOfEachLength(t *testing.T) {
	for _, log := range []int{2, 3, 4, 12, 13, 14, 100, 1024} {
		c := layout(log)
		for _, long := range []int{5, 6, 32, 33, 100, 459, 460, 461, 471, 472, 473, 919, 920, 921, 1379, 1380, 1381, 5519, 5520, 5521, 5892, longest} {
			for _, lsn := range begins(log) {
				l, b := blank(log), record(long, 3)
				count := (long + own - 1) / own
				lay(l, 7, lsn, 9, b)
				got := asked(c, l, lsn, 7, 9, log)
				if count <= log && !got.same(found{b, count, 7, true}) || count > log && got.ok {
					t.Errorf("Log %d, lsn %d, %d bytes: One = %v", log, lsn, long, got)
				}
				one(t, "as many pieces as that takes", c, l, lsn, 7, 9, math.MaxInt)
			}
		}
	}
}

func TestOneOfEachMost(t *testing.T) {
	c := layout(16)
	for count, long := range map[int]int{1: 5, 2: 461, 3: 1380, 12: 5520, many: longest} {
		l := blank(16)
		lay(l, 7, 11, 9, record(long, 3))
		for _, most := range append([]int{-1, 0, 1, 2, 3, 11, 12, 13, 14, 15, 16, 17, 1024, 1025, -count, count - 1, count, count + 1}, far...) {
			if got, want := one(t, "most", c, l, 11, 7, 9, most), most >= count; got != want {
				t.Errorf("%d pieces, of %d at most: %v", count, most, got)
			}
		}
	}
}

func TestOneOfEachEpoch(t *testing.T) {
	c := layout(4)
	for _, its := range []int{0, 1, 2, 255, 256, 1 << 32, epochs - 1, epochs} {
		for _, long := range []int{5, 1000} {
			l, b := blank(4), record(long, 3)
			lay(l, its, 6, 9, b)
			for _, epoch := range append([]int{its - 2, its - 1, its, its + 1, its + 2, -1, 0, epochs, epochs + 1}, far...) {
				got := asked(c, l, 6, epoch, 9, 4)
				want := found{}
				if epoch <= its {
					want = found{b, (long + own - 1) / own, its, true}
				}
				if !got.same(want) {
					t.Errorf("epoch %d, and of it at least %d: One = %v", its, epoch, got)
				}
			}
		}
	}
}

func TestOneOfEachSeq(t *testing.T) {
	c := layout(4)
	for _, its := range []int{0, 1, 2, 255, 256, 257, 65536, 1 << 32, epochs - 1, epochs} {
		for _, long := range []int{5, 1000} {
			l := blank(4)
			lay(l, 3, 6, its, record(long, 3))
			for _, seq := range append([]int{its - 1, its, its + 1, its + 256, its + 65536, -1, 0, 1, epochs, epochs + 1, -its}, far...) {
				if got, want := one(t, "seq", c, l, 6, 1, seq, 4), seq == its; got != want {
					t.Errorf("seq %d, asked for %d: %v", its, seq, got)
				}
			}
		}
	}
	// Of seqs that may not be there are no pieces, though their bytes are easily made.
	for _, seq := range []int{-1, epochs + 1, math.MinInt, math.MaxInt} {
		l := with(blank(4), 2, sealed(3, 6, begun(0, 1, uint64(seq), record(5, 0))))
		refuses(t, "a seq that may not be", c, l, 6, 0, seq)
	}
}

func TestOneOfEachLSN(t *testing.T) {
	c := layout(4)
	for _, lsn := range []int{0, 1, 2, 3, 4, 5, 8, epochs - 4, epochs - 3, epochs - 2} {
		l := blank(4)
		lay(l, 3, lsn, 9, record(1000, 3))
		for off := -5; off <= 5; off++ {
			if got, want := one(t, "lsn", c, l, lsn+off, 1, 9, 4), off == 0; got != want {
				t.Errorf("lsn %d, asked for %d: %v", lsn, lsn+off, got)
			}
		}
		for _, n := range far {
			refuses(t, "an lsn far off", c, l, n, 1, 9)
		}
	}
}

func TestOneAtTheLastPlace(t *testing.T) {
	for _, log := range []int{3, 4, 5} {
		c := layout(log)
		for count := 1; count <= 3; count++ {
			for over := range 3 {
				l := blank(log)
				lay(l, 3, epochs-count+1+over, 9, record(count*own-9, 3))
				if got, want := one(t, "the last place", c, l, epochs-count+1+over, 1, 9, log), over == 0; got != want {
					t.Errorf("%d pieces, %d of them past the greatest lsn: %v", count, over, got)
				}
			}
		}
	}
}

func TestOneOfRecordsThatGoRoundThemselves(t *testing.T) {
	for _, log := range []int{2, 3, 4, 11} {
		for count := log + 1; count <= many; count++ {
			b := record(min(count*own, longest), 3)
			for _, lsn := range begins(log) {
				l := blank(log)
				for i := range count {
					l[(lsn+i)%log] = sealed(3, lsn+i, part.Split(9, b)[i])
					refuses(t, "more pieces than sectors", layout(log), l, lsn, 0, 9)
				}
				// The first ones instead of those behind.
				for i := range log {
					l[(lsn+i)%log] = sealed(3, lsn+i, part.Split(9, b)[i])
				}
				refuses(t, "more pieces than sectors", layout(log), l, lsn, 0, 9)
			}
		}
	}
}

func TestOneOfWhatIsNoFirstPiece(t *testing.T) {
	c, b := layout(4), record(5, 3)
	for seq := range 2 {
		for why, body := range map[string][]byte{
			"nothing":             nil,
			"a byte":              {0},
			"a frame":             b,
			"11 bytes":            begun(0, 1, uint64(seq), nil)[:11],
			"12 bytes 0":          make([]byte, 12),
			"472 bytes 0":         make([]byte, 472),
			"of no pieces":        begun(0, 0, uint64(seq), b),
			"of none, no frame":   begun(0, 0, uint64(seq), nil),
			"of too many":         begun(0, 1025, uint64(seq), b),
			"of 65535":            begun(0, 65535, uint64(seq), b),
			"the second of two":   begun(1, 2, uint64(seq), b),
			"the second of one":   begun(1, 1, uint64(seq), b),
			"the last of many":    begun(1023, 1024, uint64(seq), b),
			"the first of two":    begun(0, 2, uint64(seq), b),
			"the first of many":   begun(0, 1024, uint64(seq), b),
			"no frame":            begun(0, 1, uint64(seq), nil),
			"a frame with a tail": begun(0, 1, uint64(seq), append(bytes.Clone(b), 0)),
			"a frame cut short":   begun(0, 1, uint64(seq), b[:4]),
		} {
			l := with(blank(4), 2, sealed(3, 6, body))
			refuses(t, why, c, l, 6, 0, seq)
			l[3] = sealed(3, 7, begun(1, 2, uint64(seq), b))
			refuses(t, why, c, l, 6, 0, seq)
		}
		takes(t, "one piece", c, with(blank(4), 2, sealed(3, 6, begun(0, 1, uint64(seq), b))), 6, 0, seq)
	}
}

func TestOneBeginsWithTheFirstPiece(t *testing.T) {
	c, l := layout(4), blank(4)
	lay(l, 3, 5, 9, record(1000, 3))
	takes(t, "from the first piece on", c, l, 5, 3, 9)
	refuses(t, "from the second piece on", c, l, 6, 3, 9)
	refuses(t, "from the last piece on", c, l, 7, 3, 9)
	// The last piece, and a record ahead of it that had the same number.
	l[1] = sealed(3, 5, part.Split(9, record(400, 3))[0])
	takes(t, "a shorter one over the first piece", c, l, 5, 3, 9)
	refuses(t, "what is left of the longer one", c, l, 6, 3, 10)
}

// others: sectors that may not stand in place i of the record of those pieces; it lies from lsn on, by epoch 3 and seq 9.
func others(l [][]byte, lsn, i int) map[string][]byte {
	no, count := lsn+i, len(l)
	body := l[i][front:]
	all := map[string][]byte{
		"missing":            make([]byte, size),
		"nil":                nil,
		"a byte too short":   sealed(3, no, l[i])[:511],
		"a byte too long":    append(sealed(3, no, l[i]), 0),
		"epoch 0":            sealed(0, no, l[i]),
		"one log above":      sealed(3, no+16, l[i]),
		"one log below":      sealed(3, no-16, l[i]),
		"number above":       sealed(3, no+1, l[i]),
		"number below":       sealed(3, no-1, l[i]),
		"of no bytes":        sealed(3, no, nil),
		"cut to 11 bytes":    sealed(3, no, l[i][:11]),
		"cut to 12 bytes":    sealed(3, no, l[i][:12]),
		"cut by a byte":      sealed(3, no, l[i][:len(l[i])-1]),
		"place above":        sealed(3, no, begun(i+1, count, 9, body)),
		"place below":        sealed(3, no, begun(i-1, count, 9, body)),
		"place 0, or 1":      sealed(3, no, begun(max(0, 1-i), count, 9, body)),
		"count above":        sealed(3, no, begun(i, count+1, 9, body)),
		"count below":        sealed(3, no, begun(i, count-1, 9, body)),
		"count 0":            sealed(3, no, begun(i, 0, 9, body)),
		"seq above":          sealed(3, no, begun(i, count, 10, body)),
		"seq below":          sealed(3, no, begun(i, count, 8, body)),
		"seq 0":              sealed(3, no, begun(i, count, 0, body)),
		"a kind that is 0":   seal.Put(api.Seal{Epoch: 3, No: no, Body: l[i]}),
		"a page":             seal.Put(api.Seal{Epoch: 3, No: no, Kind: api.KindPage, Body: l[i]}),
		"a superblock":       seal.Put(api.Seal{Epoch: 3, No: no, Kind: api.KindSuper, Body: l[i]}),
		"another first byte": sealed(3, no, begun(i, count, 9, append([]byte{body[0] ^ 1}, body[1:]...))),
		"another last byte":  sealed(3, no, append(bytes.Clone(l[i][:len(l[i])-1]), l[i][len(l[i])-1]^1)),
	}
	if len(l[i]) < 472 {
		all["a byte more"] = sealed(3, no, append(bytes.Clone(l[i]), 0))
	}
	for _, epoch := range []int{2, 4, 5, epochs} {
		if count > 1 {
			all[fmt.Sprint("epoch ", epoch)] = sealed(epoch, no, l[i])
		}
	}
	return all
}

func TestOneWithAnotherPiece(t *testing.T) {
	c := layout(16)
	for _, long := range []int{5, 40, 461, 920, 1000, 1380, longest} {
		b := record(long, 3)
		for _, lsn := range []int{16, 18, 30, 31, 45} {
			l, pieces := blank(16), part.Split(9, b)
			lay(l, 3, lsn, 9, b)
			takes(t, "as laid", c, l, lsn, 1, 9)
			for i := range pieces {
				for why, s := range others(pieces, lsn, i) {
					refuses(t, fmt.Sprintf("%d bytes, piece %d: %s", long, i, why), c, with(l, (lsn+i)%16, s), lsn, 1, 9)
				}
			}
		}
	}
}

func TestOneIsOfOneEpochThatIsHighEnough(t *testing.T) {
	c, b := layout(4), record(1000, 3)
	for all := range 27 {
		l, e := blank(4), []int{2 + all%3, 2 + all/3%3, 2 + all/9}
		for i, p := range part.Split(9, b) {
			l[(6+i)%4] = sealed(e[i], 6+i, p)
		}
		for epoch := range 7 {
			if got, want := one(t, "epochs", c, l, 6, epoch, 9, 4), e[0] == e[1] && e[1] == e[2] && epoch <= e[0]; got != want {
				t.Errorf("pieces of epochs %v, at least %d: %v", e, epoch, got)
			}
		}
	}
}

func TestOneAsksTheFrame(t *testing.T) {
	c := layout(4)
	for _, long := range []int{5, 6, 60, 460, 461, 1000} {
		b := record(long, 3)
		for _, at := range []int{0, 1, len(b) / 2, len(b) - 5, len(b) - 4, len(b) - 1} {
			x := bytes.Clone(b)
			x[at] ^= 4
			l := blank(4)
			lay(l, 3, 6, 9, x)
			refuses(t, "a byte of the record changed", c, l, 6, 0, 9)
		}
		for _, x := range [][]byte{b[:len(b)-1], append(bytes.Clone(b), 0), append(bytes.Clone(b), b...), b[1:], nil} {
			l := blank(4)
			lay(l, 3, 6, 9, x)
			refuses(t, "bytes more or less", c, l, 6, 0, 9)
		}
	}
	// Of a right sum, but not a frame.
	for _, body := range [][]byte{{65}, {1, 9}, {0, 0}, {1}, {2, 0}, bytes.Repeat([]byte{64}, 500)} {
		l := blank(4)
		lay(l, 3, 6, 9, binary.LittleEndian.AppendUint32(bytes.Clone(body), crc32.ChecksumIEEE(body)))
		refuses(t, "no frame, though of a right sum", c, l, 6, 0, 9)
	}
}

func TestOneOfRecordsThatAreTooLongForAFrame(t *testing.T) {
	c := layout(1024)
	for _, count := range []int{many + 1, 256, 257, 1023, 1024} {
		b := bytes.Repeat([]byte{1}, count*own)
		copy(b[len(b)-4:], binary.LittleEndian.AppendUint32(nil, crc32.ChecksumIEEE(b[:len(b)-4])))
		l := blank(1024)
		lay(l, 3, 600, 9, b)
		refuses(t, "too long for a frame", c, l, 600, 0, 9)
	}
}

// P18.3

func TestScanOfTheDocument(t *testing.T) {
	for _, log := range []int{2, 3, 1024} {
		for _, n := range append([]int{-1, 0, 1, log, epochs - 1, epochs, epochs + 1}, far...) {
			for _, x := range [][3]int{{n, 0, 0}, {0, n, 0}, {0, 0, n}, {n, n, n}} {
				tells(t, "bytes 0", layout(log), blank(log), x[0], x[1], x[2], 0)
			}
		}
	}
}

// full: a log that is full of records of so many pieces, the last one of fewer, if it takes fewer. It tells how many there are.
func full(log, pieces, epoch, head, seq int) ([][]byte, int) {
	l, n, lsn := blank(log), 0, head
	for lsn < head+log {
		take := min(pieces, head+log-lsn)
		lsn = lay(l, epoch, lsn, seq+n, record(take*own-9+n%9, n))
		n++
	}
	return l, n
}

func TestScanOfFullLogs(t *testing.T) {
	for _, log := range []int{2, 3, 4, 5, 12, 13, 14, 40, 1024} {
		for _, pieces := range []int{1, 2, 3, 12} {
			if log == 1024 && pieces == 2 {
				continue
			}
			for _, head := range begins(log)[:6] {
				l, n := full(log, pieces, 7, head, 9)
				tells(t, "full", layout(log), l, head, 7, 9, n)
				if x := scan.Scan(layout(log), l, head, 1, 9); x.LSN != head+log || x.Epoch != 7 || x.Seq != 9+n {
					t.Errorf("Log %d, full from %d on: %s", log, head, told(x))
				}
				tells(t, "full, of too small a seq", layout(log), l, head, 7, 8, 0)
				tells(t, "full, of too small an epoch", layout(log), l, head, 8, 9, 0)
				tells(t, "full, one place ahead", layout(log), l, head-1, 7, 9, 0)
				tells(t, "full, one place behind", layout(log), l, head+1, 7, 9, 0)
				tells(t, "full, one lap behind", layout(log), l, head+log, 7, 9, 0)
			}
		}
	}
}

func TestScanWithoutOneSector(t *testing.T) {
	for _, pieces := range []int{1, 2, 3} {
		for head := 12; head < 24; head++ {
			l, n := full(12, pieces, 7, head, 9)
			tells(t, "full", layout(12), l, head, 1, 9, n)
			for i := range 12 {
				for why, s := range map[string][]byte{"missing": make([]byte, size), "of another lap": sealed(7, head+i-12, nil), "of a lesser epoch": nil} {
					if s == nil {
						x, _ := seal.Get(l[(head+i)%12])
						x.Epoch--
						s = seal.Put(x)
					}
					want := i / pieces
					if x, _ := seal.Get(s); i == 0 && pieces == 1 && x.Epoch == 6 {
						// It is told as it is, and those behind, as theirs is greater.
						want = n
					}
					tells(t, fmt.Sprintf("sector %d %s", i, why), layout(12), with(l, (head+i)%12, s), head, 1, 9, want)
				}
			}
		}
	}
}

func TestScanGoesOnBehindEachRecord(t *testing.T) {
	c, l := layout(10), blank(10)
	a, b, d := record(5, 1), record(1000, 2), record(500, 3)
	lsn := lay(l, 4, lay(l, 4, lay(l, 4, 28, 0, a), 1, b), 2, d)
	x := scan.Scan(c, l, 28, 0, 0)
	if !sameTail(x, api.Tail{Records: [][]byte{a, b, d}, LSN: 34, Epoch: 4, Seq: 3}) || lsn != 34 {
		t.Error(told(x))
	}
	tells(t, "from the second on", c, l, 29, 0, 1, 2)
	tells(t, "from the third on", c, l, 32, 0, 2, 1)
	tells(t, "from behind the third on", c, l, 34, 0, 3, 0)
	tells(t, "from within the second on", c, l, 30, 0, 1, 0)
	tells(t, "the second, but the first one's seq", c, l, 29, 0, 0, 0)
	lay(l, 4, 35, 3, record(5, 4))
	tells(t, "a gap of a sector", c, l, 28, 0, 0, 3)
	lay(l, 4, 34, 4, record(5, 4))
	tells(t, "a gap of a seq", c, l, 28, 0, 0, 3)
	lay(l, 4, 34, 2, record(5, 4))
	tells(t, "the same seq again", c, l, 28, 0, 0, 3)
	lay(l, 4, 34, 3, record(5, 4))
	tells(t, "no gap", c, l, 28, 0, 0, 4)
}

func TestScanOfEpochs(t *testing.T) {
	c := layout(4)
	for all := range 81 {
		e, l := []int{2 + all%3, 2 + all/3%3, 2 + all/9%3, 2 + all/27}, blank(4)
		for i := range e {
			lay(l, e[i], 6+i, 9+i, record(5+i, i))
		}
		for epoch := range 6 {
			want, least := 0, epoch
			for want < 4 && e[want] >= least {
				least = e[want]
				want++
			}
			tells(t, fmt.Sprintf("epochs %v, at least %d", e, epoch), c, l, 6, epoch, 9, want)
			if x := scan.Scan(c, l, 6, epoch, 9); x.Epoch != least {
				t.Errorf("epochs %v, at least %d: %s", e, epoch, told(x))
			}
		}
		for _, epoch := range far {
			scans(t, "an epoch far off", c, l, 6, epoch, 9)
		}
	}
}

func TestScanOfHeadsThatMayNotBe(t *testing.T) {
	c := layout(4)
	l, _ := full(4, 1, 7, 0, 0)
	tells(t, "full", c, l, 0, 0, 0, 4)
	for _, head := range append([]int{-1, -3, -4, -5, epochs + 1}, far...) {
		tells(t, "a head that may not be", c, l, head, 0, 0, 0)
	}
}

func TestScanUpToTheLastPlace(t *testing.T) {
	for _, log := range []int{3, 4, 5} {
		for ahead := range 5 {
			l, head := blank(log), epochs-ahead
			for i := range min(ahead+2, log) {
				lay(l, 3, head+i, 9+i, record(5+i, i))
			}
			want := min(ahead+1, log)
			tells(t, "up to the last place", layout(log), l, head, 0, 9, want)
			if x := scan.Scan(layout(log), l, head, 0, 9); x.LSN != head+want {
				t.Errorf("Log %d, from %d ahead of the last place on: %s", log, ahead, told(x))
			}
		}
	}
}

func TestScanUpToTheLastSeq(t *testing.T) {
	c := layout(6)
	for ahead := range 4 {
		l, seq := blank(6), epochs-ahead
		for i := range 6 {
			// Those behind the last one have its number again, as Split tells no greater one.
			lay(l, 3, 8+i, seq+i, record(5+i, i))
		}
		tells(t, "up to the last seq", c, l, 8, 0, seq, ahead+1)
		if x := scan.Scan(c, l, 8, 0, seq); x.Seq != epochs+1 {
			t.Error(told(x))
		}
		l[(8+ahead+1)%6] = sealed(3, 8+ahead+1, begun(0, 1, epochs+1, record(5, 0)))
		tells(t, "a seq that may not be", c, l, 8, 0, seq, ahead+1)
	}
	l := with(blank(6), 2, sealed(3, 8, begun(0, 1, math.MaxUint64, record(5, 0))))
	l[3] = sealed(3, 9, begun(0, 1, 0, record(5, 0)))
	tells(t, "a seq of -1", c, l, 8, 0, -1, 0)
	tells(t, "a seq of 0 behind it", c, l, 9, 0, 0, 1)
}

func TestScanUpToTheLastEpoch(t *testing.T) {
	l := blank(4)
	for i := range 4 {
		lay(l, epochs-2+min(i, 2), 8+i, i, record(5, i))
	}
	tells(t, "up to the last epoch", layout(4), l, 8, 0, 0, 4)
	tells(t, "of the last epoch alone", layout(4), l, 10, epochs, 2, 2)
	tells(t, "above the last epoch", layout(4), l, 8, epochs+1, 0, 0)
	if x := scan.Top(l); x != epochs {
		t.Error(x)
	}
}

func TestScanOfEveryChoice(t *testing.T) {
	// Sectors of a log of three: what each of them may have, in all ways.
	c := layout(3)
	small, double, round := record(7, 1), record(500, 2), record(900, 3)
	pool := make([][][]byte, 3)
	add := func(epoch, lsn, seq int, b []byte) {
		for i, p := range part.Split(seq, b) {
			pool[(lsn+i)%3] = append(pool[(lsn+i)%3], sealed(epoch, lsn+i, p))
		}
	}
	for epoch := 1; epoch <= 2; epoch++ {
		for i := range 3 {
			add(epoch, 4+i, 5+i, small)
			add(epoch, 4+i, 5+i, double)
		}
	}
	add(2, 7, 6, small)
	add(2, 5, 5, round)
	for at := range pool {
		pool[at] = append(pool[at], make([]byte, size))
	}
	count := make([]int, 4)
	for _, x := range pool[0] {
		for _, y := range pool[1] {
			for _, z := range pool[2] {
				l := [][]byte{x, y, z}
				count[scans(t, "a choice", c, l, 4, 1, 5)]++
				for head := 3; head < 8; head++ {
					for seq := head - 1; seq < head+3; seq++ {
						scans(t, "a choice", c, l, head, 2, seq)
						ones(t, c, l, head, seq)
					}
				}
			}
		}
	}
	for n, have := range count {
		if have == 0 {
			t.Errorf("none of %d choices has %d records", len(pool[0])*len(pool[1])*len(pool[2]), n)
		}
	}
}

// ones: One tells what it is to tell, whatever it may take.
func ones(t *testing.T, c api.Conf, l [][]byte, lsn, seq int) {
	t.Helper()
	for most := range c.Log + 2 {
		one(t, "a choice", c, l, lsn, 1, seq, most)
	}
}

// tempting: a sector of the log's place lsn that looks as if it belonged there, and may.
func (c *chance) tempting(log, lsn, seq, epoch int) []byte {
	b := record(5+c.below(1200), c.below(9))
	l := part.Split(max(0, seq-1+c.below(4)), b)
	p := l[c.below(len(l))]
	if c.below(2) == 0 {
		p = l[0]
	}
	no := lsn
	if c.below(4) == 0 {
		no += log * (c.below(3) - 1)
	}
	x := api.Seal{Epoch: c.below(epoch + 2), No: no, Kind: api.KindLog, Body: p}
	if c.below(8) == 0 {
		x.Kind = c.below(5)
	}
	return seal.Put(x)
}

// any: sectors of a log whose records begin at head, with seq: whatever may stand there.
func (c *chance) any(log, head, seq int) [][]byte {
	l := blank(log)
	for i := range l {
		at := (head + i) % log
		switch c.below(6) {
		case 0:
			l[at] = c.mixed(size)
		case 1, 2, 3:
			l[at] = c.tempting(log, head+i, seq+i, 4)
		case 4:
			l[at] = seal.Tear(c.tempting(log, head+i, seq+i, 4), c.tempting(log, head+i, seq+i, 4), c.below(131)-65)
		}
	}
	return l
}

func TestScanOfMixedLogs(t *testing.T) {
	c := chance(5)
	count := make([]int, 20)
	for range 1500 {
		log, head, seq := 2+c.below(7), c.below(30), c.below(4)
		l := c.any(log, head, seq)
		lsn, epoch := head, 1
		for n := c.below(5); n > 0 && lsn < head+log; n-- {
			lsn = lay(l, epoch, lsn, seq+c.below(40)/39, record(5+c.below(min(1300, (head+log-lsn)*own-4)), n))
			seq, epoch = seq+1, max(0, epoch+c.below(5)/2-c.below(12)/11)
		}
		if c.below(3) == 0 {
			at := c.below(log)
			l[at] = seal.Tear(l[at], c.tempting(log, head+at, seq, 4), c.below(131)-65)
		}
		for from := head - 1; from < head+3; from++ {
			for number := range 8 {
				count[scans(t, "mixed", layout(log), l, from, c.below(4), number)]++
			}
		}
		for lsn := range head + log + 2 {
			has(t, "mixed", layout(log), l, lsn)
		}
	}
	for n, have := range count[:5] {
		if have < 10 {
			t.Errorf("%d mixed logs have %d records", have, n)
		}
	}
}

// P18.4

// fate: what becomes of the sector old over which next is written.
type fate func(old, next []byte) []byte

func came(old, next []byte) []byte { return next }
func lost(old, next []byte) []byte { return old }

// torn: the sector has so many words of what is written, at its front, or at its back.
func torn(k int) fate {
	return func(old, next []byte) []byte { return seal.Tear(old, next, k) }
}

// place: what Scan is asked of.
type place struct {
	head, epoch, seq int
}

// follow: new records are laid behind what Scan tells, by one epoch, the n-th sector with the n-th fate, and those behind came through; then Scan tells what P18.4 says. It tells what the log has become.
func follow(t *testing.T, why string, c api.Conf, l [][]byte, from place, epoch int, news [][]byte, fates ...fate) [][]byte {
	t.Helper()
	if epoch <= scan.Top(l) || epoch < from.epoch || epoch > epochs {
		t.Fatalf("%s: the test lays by an epoch that may not be", why)
	}
	before := scan.Scan(c, l, from.head, from.epoch, from.seq)
	want, lsn, all := before, before.LSN, true
	l = slices.Clone(l)
	for i, b := range news {
		for _, p := range part.Split(before.Seq+i, b) {
			how := came
			if len(fates) > 0 {
				how, fates = fates[0], fates[1:]
			}
			next := sealed(epoch, lsn, p)
			l[lsn%c.Log] = how(l[lsn%c.Log], next)
			all = all && bytes.Equal(l[lsn%c.Log], next)
			lsn++
		}
		if all {
			want = api.Tail{Records: append(slices.Clip(want.Records), b), LSN: lsn, Epoch: epoch, Seq: before.Seq + i + 1}
		}
	}
	if lsn-from.head > c.Log {
		t.Fatalf("%s: the test lays more than is free", why)
	}
	if got := scan.Scan(c, l, from.head, from.epoch, from.seq); !sameTail(got, want) {
		t.Errorf("%s: from lsn %d, epoch %d, seq %d: %s\nbefore: %s\nnot: %s", why, from.head, from.epoch, from.seq, told(got), told(before), told(want))
	}
	scans(t, why, c, l, from.head, from.epoch, from.seq)
	return l
}

// base: a log, and what Scan is asked of it; four of its sectors are free at least.
type base struct {
	why  string
	c    api.Conf
	l    [][]byte
	from place
}

// bases: logs of seven sectors that have told nothing, something, and what looks as if it would go on.
func bases() []base {
	c := layout(7)
	var all []base
	add := func(why string, l [][]byte, from place) {
		all = append(all, base{why, c, l, from})
	}
	add("bytes 0", blank(7), place{5, 0, 3})
	add("bytes 0, from the beginning on", blank(7), place{})
	told := blank(7)
	lay(told, 4, lay(told, 2, 5, 3, record(5, 1)), 4, record(900, 2))
	add("three sectors told", told, place{5, 1, 3})
	ghosts := copies(told)
	for lsn := 9; lsn < 12; lsn++ {
		lay(ghosts, 4, lsn, lsn-4, record(20, lsn))
	}
	add("one is missing, and more lie behind", ghosts, place{5, 1, 3})
	second := copies(told)
	lay(second, 4, 8, 5, record(900, 7))
	second[1] = make([]byte, size)
	lay(second, 3, 10, 6, record(900, 8))
	add("a first piece is missing", second, place{5, 1, 3})
	lap, _ := full(7, 2, 4, 5, 0)
	add("a full lap, all told of the next one", lap, place{12, 4, 4})
	lesser := copies(told)
	lay(lesser, 3, 8, 5, record(900, 7))
	lay(lesser, 3, 10, 6, record(5, 8))
	lay(lesser, 3, 11, 7, record(5, 8))
	add("what lies behind is of a lesser epoch", lesser, place{5, 1, 3})
	c2 := chance(8)
	add("mixed bytes", [][]byte{c2.mixed(512), c2.mixed(512), c2.mixed(512), c2.mixed(512), c2.mixed(512), c2.mixed(512), c2.mixed(512)}, place{3, 0, 0})
	return all
}

// above: an epoch above all that the log has, so small as mixed bytes let it be, and no smaller than what Scan was asked of.
func above(l [][]byte, from place) int {
	return max(scan.Top(l), from.epoch) + 1
}

// groups: the records that are laid, of four sectors in all.
func groups() map[string][][]byte {
	return map[string][][]byte{
		"1 1 1 1": {record(5, 11), record(20, 12), record(33, 13), record(460, 14)},
		"2 2":     {record(900, 11), record(461, 12)},
		"1 2 1":   {record(20, 11), record(900, 12), record(20, 13)},
		"3 1":     {record(1000, 11), record(20, 12)},
		"1 3":     {record(20, 11), record(1380, 12)},
		"4":       {record(1500, 11)},
	}
}

func TestNewRecordsByEachTear(t *testing.T) {
	ks := slices.Clone(far)
	for k := -66; k <= 66; k++ {
		ks = append(ks, k)
	}
	for _, b := range bases() {
		for group, news := range groups() {
			for i := range 4 {
				for _, k := range ks {
					fates := []fate{came, came, came, came}
					fates[i] = torn(k)
					follow(t, fmt.Sprintf("%s: %s: sector %d torn by %d", b.why, group, i, k), b.c, b.l, b.from, above(b.l, b.from), news, fates...)
				}
			}
		}
	}
}

func TestNewRecordsOfEachFate(t *testing.T) {
	ways := []fate{came, lost, torn(1), torn(-63)}
	for _, b := range bases() {
		for group, news := range groups() {
			for all := range 256 {
				fates := []fate{ways[all%4], ways[all/4%4], ways[all/16%4], ways[all/64]}
				follow(t, fmt.Sprintf("%s: %s: fates %d", b.why, group, all), b.c, b.l, b.from, above(b.l, b.from), news, fates...)
			}
		}
	}
}

func TestNewRecordsOverWhatTheLogHasBecome(t *testing.T) {
	ways := []fate{came, lost, torn(2)}
	c := layout(5)
	news := [][][]byte{{record(20, 11), record(900, 12)}, {record(900, 11), record(20, 12)}, {record(20, 11), record(20, 12), record(20, 13)}, {record(1000, 11)}}
	for first := range 27 {
		for _, some := range news {
			from := place{8, 1, 4}
			l := blank(5)
			lay(l, 1, 8, 4, record(5, 1))
			l = follow(t, fmt.Sprintf("first %d", first), c, l, from, 2, some, ways[first%3], ways[first/3%3], ways[first/9])
			if x := scan.Scan(c, l, 8, 1, 4); x.LSN > 10 {
				// There is no room for as many behind: they are laid behind a snapshot.
				from = place{x.LSN, x.Epoch, x.Seq}
			}
			for next := range 27 {
				for _, other := range news {
					follow(t, fmt.Sprintf("first %d, next %d", first, next), c, l, from, 3, other, ways[next%3], ways[next/3%3], ways[next/9])
				}
			}
		}
	}
}

func TestWhatDidNotComeBackIsNeverSeenAgain(t *testing.T) {
	c, from := layout(8), place{8, 1, 0}
	// The second of three didn't come through, so the third isn't told, either when another second one is.
	three := [][]byte{record(5, 1), record(6, 2), record(7, 3)}
	l := follow(t, "one life", c, blank(8), from, 2, three, came, lost, came)
	tells(t, "one life", c, l, 8, 1, 0, 1)
	l = follow(t, "another life", c, l, from, 3, [][]byte{record(8, 4)}, came)
	tells(t, "another life", c, l, 8, 1, 0, 2)
	if has(t, "the third", c, l, 10); !bytes.Equal(l[2], sealed(2, 10, part.Split(2, three[2])[0])) {
		t.Error("the third does not lie there any more")
	}
	// The other way round: the halves of two records that have the same places and numbers are never one.
	long, same := record(900, 1), record(900, 1)
	l = follow(t, "one life", c, blank(8), from, 2, [][]byte{long}, came, lost)
	l = follow(t, "another life", c, l, from, 3, [][]byte{same}, lost, came)
	tells(t, "two halves", c, l, 8, 1, 0, 0)
	l = follow(t, "one life", c, blank(8), from, 2, [][]byte{long}, lost, came)
	l = follow(t, "another life", c, l, from, 3, [][]byte{same}, came, lost)
	tells(t, "two halves", c, l, 8, 1, 0, 0)
	l = follow(t, "a third life", c, l, from, 4, [][]byte{same}, came, came)
	tells(t, "both halves", c, l, 8, 1, 0, 1)
}

func TestNewRecordsUpToTheLastEpoch(t *testing.T) {
	for _, top := range []int{0, 1, epochs - 3, epochs - 2, epochs - 1} {
		for _, epoch := range []int{top + 1, top + 2, epochs - 1, epochs} {
			if epoch <= top || epoch > epochs {
				continue
			}
			l := blank(5)
			lay(l, top, 7, 3, record(20, 1))
			lay(l, top, 9, 5, record(20, 1))
			for k := -64; k <= 64; k++ {
				follow(t, fmt.Sprintf("top %d, epoch %d, torn by %d", top, epoch, k), layout(5), l, place{7, 0, 3}, epoch, [][]byte{record(20, 2), record(900, 3)}, came, torn(k))
				follow(t, fmt.Sprintf("top %d, epoch %d, torn by %d", top, epoch, k), layout(5), l, place{7, top, 3}, epoch, [][]byte{record(20, 2), record(900, 3)}, torn(k))
			}
		}
	}
}

func TestNewRecordsUpToTheLastPlaceAndSeq(t *testing.T) {
	for k := -64; k <= 64; k++ {
		l := blank(5)
		lay(l, 2, epochs-3, epochs-3, record(20, 1))
		follow(t, fmt.Sprint("torn by ", k), layout(5), l, place{epochs - 3, 1, epochs - 3}, 3, [][]byte{record(20, 2), record(20, 3), record(20, 4)}, came, torn(k))
		follow(t, fmt.Sprint("torn by ", k), layout(5), l, place{epochs - 3, 1, epochs - 3}, 3, [][]byte{record(20, 2), record(900, 3)}, came, came, torn(k))
	}
}

func TestNewRecordsOverStampsThatAreNoEpochs(t *testing.T) {
	for _, n := range []uint64{epochs + 1, 1 << 49, 1 << 63, math.MaxUint64} {
		l := blank(4)
		for _, s := range l {
			binary.LittleEndian.PutUint64(s, n)
			binary.LittleEndian.PutUint64(s[504:], n)
		}
		for k := -64; k <= 64; k++ {
			follow(t, fmt.Sprintf("stamps %d, torn by %d", n, k), layout(4), l, place{6, 0, 2}, 1, [][]byte{record(20, 2), record(900, 3)}, came, torn(k))
		}
	}
}

// some: records of no more than so many sectors in all.
func (c *chance) some(free int) [][]byte {
	var news [][]byte
	for free > 0 && c.below(6) > 0 {
		b := record(5+c.below(min(1400, free*own-4)), c.below(9))
		news = append(news, b)
		free -= len(part.Split(0, b))
	}
	return news
}

// fates: those of so many sectors.
func (c *chance) fates(n int) []fate {
	var all []fate
	bad := 1 + c.below(8)
	for range n {
		switch {
		case c.below(bad) == 0:
			all = append(all, came)
		case c.below(2) == 0:
			all = append(all, lost)
		default:
			all = append(all, torn(c.below(131)-65))
		}
	}
	return all
}

func TestManyLives(t *testing.T) {
	c := chance(12)
	count := make([]int, 20)
	for range 800 {
		log, from := 2+c.below(9), place{c.below(30), c.below(3), c.below(5)}
		l := c.any(log, from.head, from.seq)
		for life := range 8 {
			x := scan.Scan(layout(log), l, from.head, from.epoch, from.seq)
			if c.below(3) == 0 {
				// A snapshot is made: the log begins behind all that is told.
				from = place{x.LSN, x.Epoch, x.Seq}
			}
			count[len(x.Records)]++
			epoch := above(l, from)
			if epoch > epochs {
				break
			}
			l = follow(t, fmt.Sprint("life ", life), layout(log), l, from, epoch, c.some(log-(x.LSN-from.head)), c.fates(log)...)
		}
	}
	for n, have := range count[:6] {
		if have < 50 {
			t.Errorf("%d lives begin with %d records", have, n)
		}
	}
}

// Memory, and the same answer again.

// spared: l in a list that has spare room, each of its sectors, too.
func spared(l [][]byte) [][]byte {
	out := make([][]byte, len(l), len(l)+3)
	for i, s := range l {
		out[i] = spare(s)
	}
	return out
}

func TestWhatIsHandedInStays(t *testing.T) {
	want := blank(6)
	lay(want, 3, lay(want, 3, 8, 4, record(900, 1)), 5, record(20, 2))
	want[0] = sealed(2, 12, part.Split(7, record(900, 1))[0])
	want = append(want[:5], []byte{})
	l, c := spared(want), layout(6)
	wantComps := slices.Clone(c.Comps)
	for _, head := range []int{-1, 7, 8, 9, 10, 11, 12, 13, epochs + 1} {
		for seq := 3; seq < 9; seq++ {
			scan.Top(l)
			scan.Has(c, l, head)
			scan.One(c, l, head, 0, seq, 6)
			scan.Scan(c, l, head, 0, seq)
			scan.Scan(layout(5), l, head, 0, seq)
		}
	}
	for i, s := range l {
		if !untouched(s, want[i]) {
			t.Errorf("sector %d has changed", i)
		}
	}
	for _, s := range l[len(l):cap(l)] {
		if s != nil {
			t.Error("the spare room of the sectors' list has changed")
		}
	}
	if !slices.Equal(c.Comps, wantComps) {
		t.Error("the layout has changed")
	}
}

func TestAnswersAreNewMemory(t *testing.T) {
	c, want := layout(6), blank(6)
	records := [][]byte{record(900, 1), record(20, 2), record(1000, 3)}
	lsn := 8
	for i, b := range records {
		lsn = lay(want, 3, lsn, 4+i, b)
	}
	changed := func(why string, l [][]byte) {
		t.Helper()
		for i, s := range l {
			if !untouched(s, want[i]) {
				t.Errorf("%s shares memory with sector %d", why, i)
			}
		}
	}
	l := spared(want)
	for i := range 6 {
		x, _ := scan.Has(c, l, 8+i)
		overwrite(x.Body, 0x77)
		changed("what Has tells", l)
	}
	for i, lsn := range []int{8, 10, 11} {
		overwrite(asked(c, l, lsn, 0, 4+i, 6).b, 0x77)
		changed("what One tells", l)
	}
	for i := range records {
		x := scan.Scan(c, l, 8, 0, 4)
		overwrite(x.Records[i], 0x77)
		changed("what Scan tells", l)
		for k, b := range x.Records {
			if k != i && !bytes.Equal(b, records[k]) {
				t.Errorf("records %d and %d share memory", i, k)
			}
		}
	}
	x, y := scan.Scan(c, l, 8, 0, 4), scan.Scan(c, l, 8, 0, 4)
	body, _ := scan.Has(c, l, 9)
	b := asked(c, l, 8, 0, 4, 6).b
	for i := range x.Records {
		overwrite(x.Records[i], 0x77)
		x.Records[i] = nil
	}
	for _, s := range l {
		overwrite(s, 0x66)
	}
	if !slices.EqualFunc(y.Records, records, bytes.Equal) || !bytes.Equal(b, records[0]) || !bytes.Equal(body.Body, part.Split(4, records[0])[1]) {
		t.Error("an answer shares memory with another one, or with the sectors")
	}
}

func TestTheSameAnswerAgain(t *testing.T) {
	c := chance(3)
	for range 200 {
		log, head, seq := 2+c.below(6), c.below(20), c.below(4)
		l, k := c.any(log, head, seq), layout(log)
		x := scan.Scan(k, l, head, 0, seq)
		scan.Scan(k, c.any(log, head, seq), head, 0, seq)
		// Sectors of the same bytes, in other memory, with spare room.
		if y := scan.Scan(k, spared(l), head, 0, seq); !sameTail(x, y) {
			t.Errorf("%s, and again: %s", told(x), told(y))
		}
	}
}
