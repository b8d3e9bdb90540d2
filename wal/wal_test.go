package wal_test

import (
	"bytes"
	"encoding/binary"
	"fmt"
	"hash/crc32"
	"math"
	"slices"
	"strings"
	"testing"

	"vivarium/api"
	"vivarium/disk"
	"vivarium/frame"
	"vivarium/scan"
	"vivarium/seal"
	"vivarium/wal"
)

// What the document says of these.
const (
	size    = 512 // bytes of a sector
	own     = 460 // bytes of a record that one sector takes
	epochs  = 1 << 48
	longest = 1024 // sectors of the greatest log
)

// far: numbers that are far off.
var far = []int{math.MinInt, math.MinInt + 1, math.MinInt + 7, -1 << 62, -epochs - 1, -epochs, -1 << 32, epochs + 2, 1 << 49, 1 << 62, math.MaxInt - 7, math.MaxInt - 1, math.MaxInt}

// lengths: those that the edges between one sector and the next have, and some between them.
var lengths = []int{0, 1, 2, 11, 12, 13, 200, 459, 460, 461, 472, 919, 920, 921, 1379, 1380, 1381}

// chance: numbers that look mixed, the same ones for the same seed.
type chance uint64

// below: the next number from 0 on, below n.
func (c *chance) below(n int) int {
	*c = *c*6364136223846793005 + 1442695040888963407
	return int(uint64(*c)>>33) % n
}

// row: n bytes that look mixed.
func row(n, seed int) []byte {
	c := chance(seed)
	b := make([]byte, n)
	for i := range b {
		b[i] = byte(c.below(256))
	}
	return b
}

// layout: one that may be, of so many sectors of the log.
func layout(log int) api.Conf {
	return api.Conf{Log: log, Pages: 4, Entities: 9, Gens: 9, Comps: []api.Comp{{Name: "pos", Size: 2}}}
}

// sectors: how many sectors a disk of layout c has.
func sectors(c api.Conf) int {
	return 2 + c.Log + c.Pages
}

// framed: a frame of just long bytes, other ones for another salt, where there is room for that.
func framed(long, salt int) []byte {
	var l []api.Cmd
	left := long - 5
	for ; left >= 92; left -= 92 {
		l = append(l, api.Cmd{Do: api.DoSet, ID: api.ID{Index: salt}, Data: bytes.Repeat([]byte{byte(salt)}, 64)})
	}
	if left >= 28 {
		l = append(l, api.Cmd{Do: api.DoSet, ID: api.ID{Index: salt}, Data: make([]byte, left-28)})
		left = 0
	}
	for range left {
		l = append(l, api.Cmd{Do: api.DoSpawn})
	}
	b, e := frame.Put(l)
	if e != api.OK || len(b) != long {
		panic(fmt.Sprint("no frame of ", long, " bytes"))
	}
	return b
}

// spare: b's bytes with spare room behind them that has bytes 0xee.
func spare(b []byte) []byte {
	room := append(bytes.Clone(b), bytes.Repeat([]byte{0xee}, 600)...)
	return room[:len(b)]
}

// untouched: does b, made by spare, still have these bytes, and its spare room, too?
func untouched(b, want []byte) bool {
	return bytes.Equal(b, want) && bytes.Equal(b[len(b):len(b)+600], bytes.Repeat([]byte{0xee}, 600))
}

// overwrite: all of b's bytes, its spare room too, are n from now on.
func overwrite(b []byte, n byte) {
	b = b[:cap(b)]
	for i := range b {
		b[i] = n
	}
}

// What the document says, in other words.

// pieces: what record b is cut into (17).
func pieces(seq int, b []byte) [][]byte {
	var l [][]byte
	count := max(1, (len(b)+own-1)/own)
	for i := range count {
		p := binary.LittleEndian.AppendUint16(nil, uint16(i))
		p = binary.LittleEndian.AppendUint16(p, uint16(count))
		p = binary.LittleEndian.AppendUint64(p, uint64(seq))
		l = append(l, append(p, b[i*own:min(len(b), (i+1)*own)]...))
	}
	return l
}

// sealed: the sector of a place of the log (3).
func sealed(epoch, lsn int, body []byte) []byte {
	le := binary.LittleEndian
	front := le.AppendUint64(le.AppendUint64(nil, uint64(epoch)), uint64(lsn))
	rest := le.AppendUint16([]byte{1, 0}, uint16(len(body)))
	rest = append(append(rest, body...), make([]byte, 472-len(body))...)
	rest = le.AppendUint64(le.AppendUint64(rest, uint64(lsn)), uint64(epoch))
	sum := crc32.ChecksumIEEE(slices.Concat(front, rest))
	return slices.Concat(le.AppendUint32(front, sum), rest)
}

// may: may a log of c lie so on a disk that fits?
func may(c api.Conf, epoch, head, tail, seq int) bool {
	for _, n := range []int{epoch, head, tail, seq} {
		if n < 0 || n > epochs {
			return false
		}
	}
	return head <= tail && tail-head <= c.Log
}

// twin: a log on a disk, and both of them by the document's words.
type twin struct {
	t                      *testing.T
	why                    string
	c                      api.Conf
	d                      *disk.Disk
	x                      *wal.Log
	epoch, head, tail, seq int
	last, safe             [][]byte // sector by sector: as it was written last, and as it is safe
	dirty                  []bool
	writes                 int
	fuse                   int
	off                    bool
}

// over: a log of layout c on a disk that has these bytes already.
func over(t *testing.T, why string, c api.Conf, old []byte, epoch, head, tail, seq int) *twin {
	t.Helper()
	w := &twin{t: t, why: why, c: c, d: disk.Of(old), epoch: epoch, head: head, tail: tail, seq: seq, fuse: -1}
	for s := range slices.Chunk(bytes.Clone(old), size) {
		w.last, w.safe, w.dirty = append(w.last, s), append(w.safe, s), append(w.dirty, false)
	}
	w.x = wal.New(w.d, c, epoch, head, tail, seq)
	if w.x == nil {
		t.Fatalf("%s: no log of epoch %d, head %d, tail %d, seq %d", why, epoch, head, tail, seq)
	}
	w.same("new")
	return w
}

// on: a log of so many sectors on a disk of bytes 0.
func on(t *testing.T, why string, log, epoch, head, tail, seq int) *twin {
	t.Helper()
	return over(t, why, layout(log), make([]byte, sectors(layout(log))*size), epoch, head, tail, seq)
}

// same: the log and the disk are as the document's words have it.
func (w *twin) same(what string) {
	w.t.Helper()
	got := []int{w.x.Epoch(), w.x.Head(), w.x.Tail(), w.x.Seq(), w.x.Room()}
	want := []int{w.epoch, w.head, w.tail, w.seq, w.c.Log - w.tail + w.head}
	if !slices.Equal(got, want) {
		w.t.Errorf("%s: %s: epoch, head, tail, seq, room are %d, not %d", w.why, what, got, want)
	}
	var dirty []int
	for i, is := range w.dirty {
		if is {
			dirty = append(dirty, i)
		}
	}
	if !slices.Equal(w.d.Dirty(), dirty) || w.d.Writes() != w.writes || w.d.Off() != w.off {
		w.t.Errorf("%s: %s: sectors %d are not safe, behind %d writes, off is %v; not %d, %d, %v", w.why, what, w.d.Dirty(), w.d.Writes(), w.d.Off(), dirty, w.writes, w.off)
	}
	if !bytes.Equal(w.d.Bytes(), slices.Concat(w.safe...)) {
		w.t.Errorf("%s: %s: other bytes are safe", w.why, what)
	}
}

// written: all sectors are as they were written last. (They are read, so it burns a fuse.)
func (w *twin) written(what string) {
	w.t.Helper()
	for i, s := range w.last {
		if got, e := w.d.Read(i); e != api.OK || !bytes.Equal(got, s) {
			w.t.Errorf("%s: %s: %v of sector %d, or other bytes", w.why, what, e, i)
		}
	}
}

// burn: the power fails behind n more operations.
func (w *twin) burn(n int) {
	w.d.Fuse(n)
	w.fuse = n
}

// powered: is one more operation done?
func (w *twin) powered() bool {
	if w.fuse == 0 {
		w.off = true
	}
	w.fuse--
	return !w.off
}

// append: Append tells what it is to tell, and does that.
func (w *twin) append(b []byte) api.Errno {
	w.t.Helper()
	want, l := api.OK, pieces(w.seq, b)
	if len(l) > w.c.Log-(w.tail-w.head) || w.tail+len(l)-1 >= epochs || w.seq == epochs {
		want, l = api.ErrLog, nil
	}
	for i, p := range l {
		if !w.powered() {
			want = api.ErrPower
			break
		}
		at := 2 + (w.tail+i)%w.c.Log
		w.last[at], w.dirty[at] = sealed(w.epoch, w.tail+i, p), true
		w.writes++
	}
	if want == api.OK {
		w.tail, w.seq = w.tail+len(l), w.seq+1
	}
	what := fmt.Sprintf("Append of %d bytes", len(b))
	if e := w.x.Append(b); e != want {
		w.t.Errorf("%s: %s = %v, not %v (head %d, tail %d, seq %d)", w.why, what, int(e), int(want), w.head, w.tail, w.seq)
	}
	w.same(what)
	return want
}

// sync: Sync tells what it is to tell, and does that.
func (w *twin) sync() api.Errno {
	w.t.Helper()
	want := api.ErrPower
	if w.powered() {
		want = api.OK
		w.safe = slices.Clone(w.last)
		clear(w.dirty)
	}
	if e := w.x.Sync(); e != want {
		w.t.Errorf("%s: Sync = %v, not %v", w.why, int(e), int(want))
	}
	w.same("Sync")
	return want
}

// truncate: Truncate does what it is to do.
func (w *twin) truncate() {
	w.t.Helper()
	w.head = w.tail
	w.x.Truncate()
	w.same("Truncate")
}

// load: Load tells what it is to tell, which it tells.
func (w *twin) load() [][]byte {
	w.t.Helper()
	want := w.last[2 : 2+w.c.Log]
	done := 0
	for done < w.c.Log && w.powered() {
		done++
	}
	reads := w.d.Reads()
	l, e := wal.Load(w.d, w.c)
	switch {
	case done < w.c.Log && (e != api.ErrPower || len(l) > 0), done == w.c.Log && (e != api.OK || !slices.EqualFunc(l, want, bytes.Equal)):
		w.t.Errorf("%s: Load = %d sectors, %v, or other bytes; %d Reads are to be done", w.why, len(l), int(e), done)
	}
	if got := w.d.Reads() - reads; got != done {
		w.t.Errorf("%s: Load has done %d Reads, not %d", w.why, got, done)
	}
	w.same("Load")
	return l
}

// P19.1: New

func TestNewHasWhatItIsHanded(t *testing.T) {
	some := []int{0, 1, 7, epochs - 1, epochs}
	for _, log := range []int{2, 3, 4, 7, longest} {
		if log == longest {
			some = []int{0, epochs}
		}
		for _, epoch := range some {
			for _, seq := range some {
				for _, taken := range []int{0, 1, log - 1, log} {
					for _, head := range []int{0, 1, log - 1, log, 3*log + 1, epochs - log - 1, epochs - taken} {
						on(t, fmt.Sprint("log ", log), log, epoch, head, head+taken, seq)
					}
				}
			}
		}
	}
}

func TestNewOfNumbersThatMayNotBe(t *testing.T) {
	c := layout(4)
	d := disk.New(sectors(c))
	some := append([]int{-2, -1, 0, 1, 3, 4, 5, 6, 9, 10, epochs - 5, epochs - 4, epochs - 1, epochs, epochs + 1}, far...)
	few := append([]int{-1, 0, 5, epochs - 1, epochs, epochs + 1}, far...)
	nils, logs := 0, 0
	for _, head := range some {
		for _, tail := range some {
			for _, epoch := range few {
				for _, seq := range few {
					want := may(c, epoch, head, tail, seq)
					if got := wal.New(d, c, epoch, head, tail, seq) != nil; got != want {
						t.Errorf("New of epoch %d, head %d, tail %d, seq %d: %v, not %v", epoch, head, tail, seq, got, want)
					}
					if want {
						logs++
					} else {
						nils++
					}
				}
			}
		}
	}
	if nils < 200000 || logs < 300 {
		t.Error(nils, "of nil,", logs, "logs")
	}
}

func TestNewOfPlacesByTheLogsLength(t *testing.T) {
	for _, log := range []int{2, 3, 8, 1023, longest} {
		c := layout(log)
		d := disk.New(sectors(c))
		for _, head := range []int{0, 1, log, 5*log + 3, epochs - log - 2, epochs - log - 1, epochs - log, epochs - log + 1, epochs - 1, epochs} {
			for _, n := range []int{-1, 0, 1, log - 1, log, log + 1, log + 2, 2 * log} {
				want := may(c, 1, head, head+n, 1)
				if x := wal.New(d, c, 1, head, head+n, 1); (x != nil) != want || want && x.Room() != log-n {
					t.Errorf("New of a log of %d, head %d, tail %d: %v, with room %d", log, head, head+n, x != nil, x.Room())
				}
			}
		}
	}
}

// wrong: layouts that may not be, each for one reason.
func wrong() map[string]api.Conf {
	out := map[string]api.Conf{"none": {}}
	add := func(why string, change func(c *api.Conf)) {
		c := layout(4)
		change(&c)
		out[why] = c
	}
	add("a log of 1", func(c *api.Conf) { c.Log = 1 })
	add("a log of 0", func(c *api.Conf) { c.Log = 0 })
	add("a log of -1", func(c *api.Conf) { c.Log = -1 })
	add("a log of 1025", func(c *api.Conf) { c.Log = longest + 1 })
	add("3 pages", func(c *api.Conf) { c.Pages = 3 })
	add("1025 pages", func(c *api.Conf) { c.Pages = 1025 })
	add("no entities", func(c *api.Conf) { c.Entities = 0 })
	add("1025 entities", func(c *api.Conf) { c.Entities = 1025 })
	add("no generations", func(c *api.Conf) { c.Gens = 0 })
	add("too many generations", func(c *api.Conf) { c.Gens = 1<<30 + 1 })
	add("no name", func(c *api.Conf) { c.Comps[0].Name = "" })
	add("a wrong name", func(c *api.Conf) { c.Comps[0].Name = "Pos" })
	add("too long a name", func(c *api.Conf) { c.Comps[0].Name = strings.Repeat("p", 17) })
	add("a name twice", func(c *api.Conf) { c.Comps = append(c.Comps, api.Comp{Name: "hp"}, api.Comp{Name: "pos"}) })
	add("a size of -1", func(c *api.Conf) { c.Comps[0].Size = -1 })
	add("a size of 65", func(c *api.Conf) { c.Comps[0].Size = 65 })
	add("33 components", func(c *api.Conf) { c.Comps = comps(33) })
	return out
}

// comps: n components.
func comps(n int) []api.Comp {
	var l []api.Comp
	for i := range n {
		l = append(l, api.Comp{Name: fmt.Sprint("c", i), Size: i})
	}
	return l
}

func TestLayoutsThatMayNotBe(t *testing.T) {
	for why, c := range wrong() {
		// As many sectors as it would take, and as one that may be takes.
		for _, n := range []int{sectors(c), sectors(layout(4))} {
			d := disk.New(n)
			if wal.New(d, c, 0, 0, 0, 0) != nil {
				t.Errorf("%s: New of a disk of %d sectors tells a log", why, n)
			}
			if l, e := wal.Load(d, c); e != api.ErrArg || len(l) > 0 {
				t.Errorf("%s: Load of a disk of %d sectors = %d sectors, %d", why, n, len(l), int(e))
			}
			if d.Reads() != 0 || d.Writes() != 0 {
				t.Errorf("%s: the disk was used", why)
			}
		}
	}
}

func TestLayoutsThatMayBe(t *testing.T) {
	for i, c := range []api.Conf{
		{Log: 2, Pages: 4, Entities: 1, Gens: 1},
		{Log: 2, Pages: 1024, Entities: 1024, Gens: 1 << 30, Comps: comps(32)},
		{Log: 1024, Pages: 4, Entities: 5, Gens: 1, Comps: []api.Comp{{Name: "abcdefghijklmno_"}}},
		{Log: 1024, Pages: 1024, Entities: 1024, Gens: 1 << 30, Comps: comps(32)},
	} {
		w := over(t, fmt.Sprint("layout ", i), c, row(sectors(c)*size, i), 3, 1, 1, 0)
		w.append(row(920, 1))
		w.append(row(1, 2))
		w.load()
		w.written("Append")
	}
}

func TestDisksThatDoNotFit(t *testing.T) {
	for _, log := range []int{2, 4, longest} {
		c := layout(log)
		for _, n := range []int{0, 1, 2, 2 + log, sectors(c) - 2, sectors(c) - 1, sectors(c), sectors(c) + 1, sectors(c) + 2, 4096} {
			d := disk.New(n)
			fits := n == sectors(c)
			if got := wal.New(d, c, 0, 0, 0, 0) != nil; got != fits {
				t.Errorf("New of a log of %d on %d sectors: %v", log, n, got)
			}
			l, e := wal.Load(d, c)
			if fits && (e != api.OK || len(l) != log || d.Reads() != log) || !fits && (e != api.ErrArg || len(l) > 0 || d.Reads() > 0) {
				t.Errorf("Load of a log of %d on %d sectors: %d sectors, %d", log, n, len(l), int(e))
			}
		}
	}
}

func TestNoDisk(t *testing.T) {
	for _, c := range []api.Conf{layout(4), {}} {
		if wal.New(nil, c, 0, 0, 0, 0) != nil {
			t.Error("New tells a log without a disk")
		}
		if l, e := wal.Load(nil, c); e != api.ErrNil || len(l) > 0 {
			t.Errorf("Load without a disk = %d sectors, %d", len(l), int(e))
		}
	}
}

func TestNewDoesNothingToTheDisk(t *testing.T) {
	c := layout(4)
	d := disk.Of(row(sectors(c)*size, 1))
	d.Write(3, row(size, 2))
	old, reads, writes := d.Bytes(), d.Reads(), d.Writes()
	stays := func(why string, off bool) {
		t.Helper()
		if !bytes.Equal(d.Bytes(), old) || d.Reads() != reads || d.Writes() != writes || !slices.Equal(d.Dirty(), []int{3}) || d.Off() != off {
			t.Errorf("New, where %s, has done something to the disk", why)
		}
	}
	d.Fuse(0)
	if wal.New(d, c, 0, 0, 0, 0) == nil {
		t.Error("no log, where a fuse is burnt")
	}
	stays("a fuse is burnt", false)
	wal.New(d, c, -1, 0, 0, 0)
	wal.New(d, layout(5), 0, 0, 0, 0)
	stays("there is no log", false)
	if d.Sync() != api.ErrPower || wal.New(d, c, 9, 5, 6, 7) == nil {
		t.Error("no log, where the power is off")
	}
	stays("the power is off", true)
}

// P19.1: Load

func TestLoadTellsTheLogsSectorsInOrder(t *testing.T) {
	for _, log := range []int{2, 3, 7, longest} {
		c := layout(log)
		w := over(t, fmt.Sprint("log ", log), c, row(sectors(c)*size, log), 0, 0, 0, 0)
		if l := w.load(); len(l) != log {
			t.Errorf("Load of a log of %d: %d sectors", log, len(l))
		}
	}
}

func TestLoadTellsWhatIsNotSafe(t *testing.T) {
	w := on(t, "not safe", 3, 4, 2, 2, 6)
	w.append(row(900, 1))
	if l := w.load(); len(l) != 3 || !bytes.Equal(l[2], sealed(4, 2, pieces(6, row(900, 1))[0])) || !bytes.Equal(l[0], sealed(4, 3, pieces(6, row(900, 1))[1])) {
		t.Error("Load does not tell what was written last")
	}
	w.sync()
	w.load()
}

func TestLoadByEachReadThatFails(t *testing.T) {
	for _, log := range []int{2, 5} {
		for fuse := range log + 3 {
			c := layout(log)
			w := over(t, fmt.Sprintf("log %d, fuse %d", log, fuse), c, row(sectors(c)*size, 1), 0, 0, 0, 0)
			w.burn(fuse)
			w.load()
			if w.off != (fuse < log) {
				t.Errorf("fuse %d, log %d: off is %v", fuse, log, w.off)
			}
			w.load()
			w.load()
		}
	}
}

func TestLoadsFirstErrorIsNoReads(t *testing.T) {
	c := layout(4)
	d := disk.New(sectors(c) + 1)
	d.Fuse(0)
	for range 2 {
		if _, e := wal.Load(d, c); e != api.ErrArg {
			t.Error("Load tells", int(e), "of a disk that does not fit")
		}
	}
	if d.Off() {
		t.Error("Load has used a disk that does not fit")
	}
	if d.Sync() != api.ErrPower {
		t.Error("the power is on")
	}
	if _, e := wal.Load(d, c); e != api.ErrArg {
		t.Error("Load tells", int(e), "of a disk that does not fit, and is off")
	}
}

// P19.2

func TestAppendOfEachLength(t *testing.T) {
	for _, log := range []int{2, 3, 4, 5, 8} {
		for head := range 2*log + 1 {
			for _, n := range append([]int{log*own - 1, log * own, log*own + 1, (log+1)*own + 1}, lengths...) {
				w := on(t, fmt.Sprintf("log %d, head %d", log, head), log, 9, head, head, 3)
				e := w.append(row(n, n))
				if (e == api.OK) != (n <= log*own) {
					t.Errorf("the test takes %d bytes as %d", n, e)
				}
				w.written("Append")
				w.append(nil)
				w.append(row(n, n+1))
			}
		}
	}
}

func TestAppendByTheBytes(t *testing.T) {
	c := layout(4)
	d := disk.New(sectors(c))
	x := wal.New(d, c, 7, 5, 5, 258)
	if e := x.Append(append(bytes.Repeat([]byte{1}, 460), 2, 3)); e != api.OK {
		t.Fatal(e)
	}
	for i, want := range []struct {
		lsn  byte
		body []byte
	}{{5, append([]byte{0, 0, 2, 0, 2, 1, 0, 0, 0, 0, 0, 0}, bytes.Repeat([]byte{1}, 460)...)}, {6, []byte{1, 0, 2, 0, 2, 1, 0, 0, 0, 0, 0, 0, 2, 3}}} {
		s, _ := d.Read(3 + i)
		if !bytes.Equal(s[:16], []byte{7, 0, 0, 0, 0, 0, 0, 0, want.lsn, 0, 0, 0, 0, 0, 0, 0}) || !bytes.Equal(s[496:], []byte{want.lsn, 0, 0, 0, 0, 0, 0, 0, 7, 0, 0, 0, 0, 0, 0, 0}) {
			t.Errorf("stamps of place %d: %d, %d", want.lsn, s[:16], s[496:])
		}
		if x, ok := seal.Get(s); !ok || x.Kind != 1 || x.Epoch != 7 || x.No != int(want.lsn) || !bytes.Equal(x.Body, want.body) {
			t.Errorf("place %d: %v, %v", want.lsn, x, ok)
		}
	}
	if x.Head() != 5 || x.Tail() != 7 || x.Seq() != 259 || x.Room() != 2 || x.Epoch() != 7 {
		t.Error(x.Head(), x.Tail(), x.Seq(), x.Room(), x.Epoch())
	}
}

func TestAppendOfTheMostPieces(t *testing.T) {
	most := longest * own
	for _, head := range []int{0, 1, 700} {
		w := on(t, fmt.Sprint("head ", head), longest, 1, head, head, 0)
		for _, n := range []int{most + 1, most + own, most + own + 1, 65535*own + 1, 65536 * own, 65536*own + 1, 65537 * own} {
			if w.append(make([]byte, n)) != api.ErrLog {
				t.Error("the test takes", n, "bytes")
			}
		}
		w.append(row(most, head))
		w.written("Append")
		w.append(nil)
		w.truncate()
		w.append(row(most-own, head))
		w.append(row(most, head))
		w.append(row(own+1, head))
		w.append(row(own, head))
		w.written("Append")
	}
	// Where there is less room than pieces may be.
	w := on(t, "one is taken", longest, 1, 5, 6, 0)
	w.append(row(most, 1))
	w.append(row(most-own, 1))
	w = on(t, "the log is shorter", longest-1, 1, 5, 5, 0)
	w.append(row(most, 1))
	w.append(row(most-own, 1))
}

func TestAppendByTheRoom(t *testing.T) {
	for _, log := range []int{2, 4, 7} {
		for taken := range log + 1 {
			for _, head := range []int{0, 3, 11} {
				for _, n := range lengths {
					w := on(t, fmt.Sprintf("log %d, %d taken", log, taken), log, 2, head, head+taken, 5)
					w.append(row(n, n))
					w.written("Append")
				}
			}
		}
	}
}

func TestAppendUntilTheLogIsFull(t *testing.T) {
	for _, n := range []int{0, 460, 461, 921} {
		for head := range 8 {
			w := on(t, fmt.Sprint("records of ", n), 7, 3, head, head, 1)
			count := 0
			for w.append(row(n, count)) == api.OK {
				count++
			}
			if want := 7 / len(pieces(0, row(n, 0))); count != want {
				t.Errorf("%d records of %d bytes, not %d", count, n, want)
			}
			for w.append(nil) == api.OK {
			}
			if w.x.Room() != 0 {
				t.Error("there is room left")
			}
			w.written("Append")
		}
	}
}

func TestAppendUpToTheLastPlace(t *testing.T) {
	for _, log := range []int{2, 5} {
		for left := range 7 {
			for _, n := range []int{0, 1, 460, 461, 920, 921, 1380, 1381, 1841} {
				why := fmt.Sprintf("log %d, %d places left", log, left)
				w := on(t, why, log, 1, epochs-left, epochs-left, 8)
				w.append(row(n, n))
				w.written("Append")
				w.append(nil)
				w.append(row(461, 3))
				w.truncate()
				w.append(row(n, 4))
				w.append(nil)
				w.written("Append")
			}
		}
	}
	w := on(t, "no place left", 4, 1, epochs-1, epochs-1, 8)
	if w.append(nil) != api.OK || w.x.Tail() != epochs || w.append(nil) != api.ErrLog {
		t.Error("the last place is not the one below MaxEpoch")
	}
	w.truncate()
	if w.x.Room() != 4 || w.append(nil) != api.ErrLog {
		t.Error("a place behind the last one is taken")
	}
}

func TestAppendUpToTheLastNumber(t *testing.T) {
	for _, left := range []int{0, 1, 2, 3} {
		for _, n := range []int{0, 1, 460, 461} {
			w := on(t, fmt.Sprint(left, " numbers left"), 6, 1, 2, 3, epochs-left)
			for i := range 4 {
				if e := w.append(row(n, i)); e == api.OK && i >= left {
					t.Error("a number behind the last one is taken")
				}
			}
			w.truncate()
			w.append(row(n, 9))
			w.written("Append")
		}
	}
}

func TestAppendByEachEpoch(t *testing.T) {
	for _, epoch := range []int{0, 1, 255, 256, 1 << 32, epochs - 1, epochs} {
		w := on(t, fmt.Sprint("epoch ", epoch), 4, epoch, 6, 7, 2)
		w.append(row(500, 1))
		w.written("Append")
		w.append(row(5, 1))
		w.written("Append")
	}
}

func TestAppendByEachWriteThatFails(t *testing.T) {
	for _, n := range []int{0, 460, 461, 920, 921, 1841} {
		for fuse := range len(pieces(0, row(n, 0))) + 2 {
			for _, head := range []int{0, 3, 6} {
				why := fmt.Sprintf("%d bytes, fuse %d, head %d", n, fuse, head)
				c := layout(7)
				w := over(t, why, c, row(sectors(c)*size, fuse), 4, head, head, 2)
				w.append(row(461, 1))
				w.burn(fuse)
				w.append(row(n, 2))
				// From the first error on there is no power, but a question about room comes ahead of it.
				for range 2 {
					w.append(row(n, 3))
					w.append(row(7*own, 4))
					w.sync()
				}
				w.truncate()
				w.append(row(n, 5))
				w.burn(-1)
				w.d.Crash([]api.Fate{{Kept: 9}, {Kept: 9}, {Kept: 9}, {Kept: 9}, {Kept: 9}, {Kept: 9}, {Kept: 9}})
				w.off = false
				w.safe = slices.Clone(w.last)
				clear(w.dirty)
				w.same("Crash")
				w.written("Crash")
			}
		}
	}
}

func TestWhatStaysOfAnAppendThatFailed(t *testing.T) {
	c := layout(5)
	d := disk.New(sectors(c))
	x := wal.New(d, c, 4, 8, 8, 2)
	d.Fuse(2)
	if e := x.Append(row(1380, 1)); e != api.ErrPower || x.Tail() != 8 || x.Head() != 8 || x.Seq() != 2 || x.Room() != 5 || x.Epoch() != 4 {
		t.Error(int(e), x.Tail(), x.Head(), x.Seq(), x.Room(), x.Epoch())
	}
	if !slices.Equal(d.Dirty(), []int{5, 6}) || d.Writes() != 2 {
		t.Error("not the first two pieces are written:", d.Dirty())
	}
	d.Crash([]api.Fate{{Kept: 1}, {Kept: 1}})
	l, _ := wal.Load(d, c)
	for i, p := range pieces(2, row(1380, 1))[:2] {
		if !bytes.Equal(l[3+i], sealed(4, 8+i, p)) {
			t.Error("piece", i, "is not there")
		}
	}
	for i := range 3 {
		if !bytes.Equal(l[i], make([]byte, size)) {
			t.Error("something is written to sector", i)
		}
	}
}

func TestNoRoomAsksForNoPower(t *testing.T) {
	w := on(t, "no power", 3, 4, 1, 3, 2)
	w.burn(0)
	for _, n := range []int{461, 1381, 471041} {
		if w.append(row(n, 1)) != api.ErrLog || w.off {
			t.Error(n, "bytes ask for power")
		}
	}
	if w.append(nil) != api.ErrPower || w.append(row(461, 1)) != api.ErrLog {
		t.Error("other errors")
	}
}

func TestSync(t *testing.T) {
	w := on(t, "Sync", 4, 4, 1, 1, 2)
	w.sync()
	w.append(row(461, 1))
	w.append(nil)
	if len(w.d.Dirty()) != 3 {
		t.Error("Append has made something safe")
	}
	// All that waits on the disk is safe, not the log's alone.
	w.d.Write(0, row(size, 5))
	w.last[0], w.dirty[0] = row(size, 5), true
	w.writes++
	w.sync()
	if len(w.d.Dirty()) != 0 {
		t.Error("Sync has made nothing safe")
	}
	w.d.Crash(nil)
	w.same("Crash")
	w.written("Crash")
	w.append(nil)
	w.burn(0)
	w.sync()
	w.sync()
	if !slices.Equal(w.d.Dirty(), []int{2}) {
		t.Error("Sync without power has made something safe")
	}
}

func TestSyncIsOneOperation(t *testing.T) {
	for fuse := range 4 {
		w := on(t, fmt.Sprint("fuse ", fuse), 4, 4, 1, 1, 2)
		w.append(row(900, 1))
		w.burn(fuse)
		for range 4 {
			w.sync()
		}
	}
}

// P19.3

func TestTruncate(t *testing.T) {
	for _, log := range []int{2, 3, 7} {
		for head := range log + 2 {
			for taken := range log + 1 {
				w := on(t, fmt.Sprintf("log %d, head %d, %d taken", log, head, taken), log, 3, head, head+taken, 5)
				w.burn(0)
				w.truncate()
				w.truncate()
				if w.d.Off() || w.x.Room() != log {
					t.Error("Truncate asks for power, or has left something")
				}
				w.burn(-1)
				w.append(row(log*own, 1))
				w.append(nil)
				w.truncate()
				w.truncate()
				w.append(nil)
				w.append(row(461, 2))
				w.truncate()
				w.append(row(461, 3))
				w.written("Truncate")
			}
		}
	}
}

func TestTruncateOfOneSharesNothingWithAnother(t *testing.T) {
	a, b := on(t, "a", 4, 3, 5, 7, 5), on(t, "b", 4, 8, 1, 4, 2)
	a.truncate()
	b.same("Truncate of another log")
	b.append(row(20, 1))
	a.same("Append to another log")
	a.written("Append to another log")
}

func TestNil(t *testing.T) {
	var x *wal.Log
	for _, b := range [][]byte{nil, {1}, make([]byte, longest*own+1)} {
		if e := x.Append(b); e != api.ErrNil {
			t.Error("Append =", int(e))
		}
	}
	if e := x.Sync(); e != api.ErrNil {
		t.Error("Sync =", int(e))
	}
	x.Truncate()
	if x.Room() != 0 || x.Head() != 0 || x.Tail() != 0 || x.Seq() != 0 || x.Epoch() != 0 {
		t.Error(x.Room(), x.Head(), x.Tail(), x.Seq(), x.Epoch())
	}
}

func TestTheZeroValueEndsAndDoesNotPanic(t *testing.T) {
	var x wal.Log
	x.Append(nil)
	x.Append(make([]byte, 1000))
	x.Sync()
	x.Truncate()
	x.Room()
	x.Head()
	x.Tail()
	x.Seq()
	x.Epoch()
}

func TestLongRuns(t *testing.T) {
	c := chance(19)
	count := map[api.Errno]int{}
	for run := range 150 {
		log := 2 + c.below(9)
		head := []int{c.below(40), c.below(1 << 40), epochs - c.below(60)}[c.below(3)]
		tail := min(head+c.below(log+1), epochs)
		seq := []int{c.below(9), epochs - c.below(40)}[c.below(2)]
		k := layout(log)
		w := over(t, fmt.Sprint("run ", run), k, row(sectors(k)*size, run), c.below(5), head, tail, seq)
		if c.below(4) == 0 {
			w.burn(c.below(60))
		}
		for range 80 {
			switch c.below(9) {
			case 0:
				w.truncate()
			case 1:
				count[w.sync()]++
			case 2:
				w.load()
			default:
				count[w.append(row(c.below(log*own*2/3), c.below(99)))]++
			}
		}
		if !w.off && w.fuse < 0 {
			w.written("all")
		}
	}
	for _, e := range []api.Errno{api.OK, api.ErrLog, api.ErrPower} {
		if count[e] < 300 {
			t.Errorf("%d calls tell %d", count[e], int(e))
		}
	}
}

// P19.4

// tells: Scan of Load, from the head on, with the number of the first record, tells just these records, the first ones of which other logs had appended.
func (w *twin) tells(epoch int, records [][]byte) {
	w.t.Helper()
	l, e := wal.Load(w.d, w.c)
	if e != api.OK {
		w.t.Fatalf("%s: Load = %d", w.why, int(e))
	}
	got := scan.Scan(w.c, l, w.x.Head(), epoch, w.x.Seq()-len(records))
	if !slices.EqualFunc(got.Records, records, bytes.Equal) || got.LSN != w.x.Tail() || got.Seq != w.x.Seq() {
		w.t.Errorf("%s: Scan from %d, by epoch %d, tells %d records, LSN %d, seq %d; not %d, %d, %d", w.why, w.x.Head(), epoch, len(got.Records), got.LSN, got.Seq, len(records), w.x.Tail(), w.x.Seq())
	}
	if len(records) > 0 && got.Epoch > w.epoch {
		w.t.Errorf("%s: Scan tells epoch %d", w.why, got.Epoch)
	}
}

// told: it tells just what was appended, by whichever epoch that is asked for, up to the log's own. Where nothing was, the log's own is asked for alone: what lies behind may be of any lesser one.
func (w *twin) told(records [][]byte) {
	w.t.Helper()
	w.tells(w.epoch, records)
	if len(records) == 0 {
		return
	}
	for _, epoch := range []int{0, w.epoch / 2, w.epoch - 1} {
		w.tells(max(0, epoch), records)
	}
}

// someFrames: so many sectors of a log are taken at most by these frames.
func (c *chance) someFrames(free int) [][]byte {
	var l [][]byte
	for free > 0 && c.below(7) > 0 {
		b := framed(5+c.below(min(1400, free*own-4)), c.below(200))
		free -= len(pieces(0, b))
		l = append(l, b)
	}
	return l
}

func TestToldOverBytes0(t *testing.T) {
	for _, log := range []int{2, 3, 5} {
		for head := range log + 3 {
			for _, long := range []int{5, 460, 461, 920, 921} {
				for _, epoch := range []int{0, 1, epochs} {
					w := on(t, fmt.Sprintf("log %d, head %d, frames of %d", log, head, long), log, epoch, head, head, 4)
					var all [][]byte
					for i := range 2 * log {
						if b := framed(long, i); w.append(b) == api.OK {
							all = append(all, b)
						}
						w.told(all)
						if i == log {
							w.truncate()
							all = nil
							w.told(nil)
						}
					}
				}
			}
		}
	}
}

func TestToldUpToTheLastPlaceAndNumber(t *testing.T) {
	for left := range 6 {
		for _, seq := range []int{0, epochs - 3, epochs - 1} {
			w := on(t, fmt.Sprintf("%d left, seq %d", left, seq), 4, 2, epochs-left, epochs-left, seq)
			var all [][]byte
			for i := range 5 {
				if b := framed(5+300*i, i); w.append(b) == api.OK {
					all = append(all, b)
				}
				w.told(all)
			}
		}
	}
}

func TestToldWhenNothingIsSafeAndWhenAllIs(t *testing.T) {
	w := on(t, "safe", 6, 3, 4, 4, 7)
	all := [][]byte{framed(5, 1), framed(900, 2)}
	for _, b := range all {
		w.append(b)
	}
	w.told(all)
	w.sync()
	w.d.Crash(nil)
	w.told(all)
	all = append(all, framed(20, 3))
	w.append(all[2])
	w.told(all)
}

func TestNotToldIfAWriteFailed(t *testing.T) {
	for _, long := range []int{5, 461, 1000} {
		count := len(pieces(0, framed(long, 2)))
		for fuse := range count {
			w := on(t, fmt.Sprintf("a frame of %d, fuse %d", long, fuse), 6, 3, 4, 4, 7)
			w.append(framed(20, 1))
			w.burn(fuse)
			w.append(framed(long, 2))
			w.d.Crash([]api.Fate{{Kept: 1}, {Kept: 1}, {Kept: 1}, {Kept: 1}})
			w.told([][]byte{framed(20, 1)})
		}
	}
}

// tempting: sectors of a log of epochs below top that look as if they went on behind any place: of each place the first piece, or all pieces, of a record of the number that is awaited there; whole, or torn over one another.
func (c *chance) tempting(log, head, seq, top int) []byte {
	l := make([][]byte, log)
	lsn := head
	for i := range log {
		b := framed(5+c.below(1000), c.below(200))
		p := pieces(seq+c.below(1+i), b)
		p0 := p[c.below(len(p))]
		if c.below(3) > 0 {
			p0 = pieces(seq+i, framed(20, i))[0]
		}
		s := sealed(c.below(top), lsn+i, p0)
		if c.below(4) == 0 {
			other := sealed(c.below(top), lsn+i-log*c.below(2), pieces(seq+i, framed(30, i))[0])
			s = seal.Tear(s, other, c.below(127)-63)
		}
		l[(lsn+i)%log] = s
	}
	k := layout(log)
	return slices.Concat(row(2*size, 1), slices.Concat(l...), row(k.Pages*size, 2))
}

func TestToldOverWhatTempts(t *testing.T) {
	c := chance(7)
	for run := range 400 {
		log, head, seq, epoch := 2+c.below(7), 9+c.below(12), c.below(5), 1+c.below(4)
		w := over(t, fmt.Sprint("run ", run), layout(log), c.tempting(log, head, seq, epoch), epoch, head, head, seq)
		w.told(nil)
		for range 1 + c.below(3) {
			var all [][]byte
			for _, b := range c.someFrames(log) {
				w.append(b)
				all = append(all, b)
				w.told(all)
			}
			w.truncate()
			w.told(nil)
		}
	}
}

func TestToldBehindOneOfALesserEpoch(t *testing.T) {
	// Just what would go on is there already, by the epoch ahead of the log's own.
	for _, long := range []int{5, 461, 921} {
		for log := 4; log < 9; log++ {
			old := on(t, "old", log, 2, 3, 3, 1)
			for i := 0; old.append(framed(long, i)) == api.OK; i++ {
			}
			old.sync()
			w := over(t, fmt.Sprintf("log %d, frames of %d", log, long), layout(log), old.d.Bytes(), 3, 3, 3, 1)
			w.told(nil)
			b := framed(long, 99)
			w.append(b)
			w.told([][]byte{b})
			// By its own epoch, it would be told.
			if l, _ := wal.Load(old.d, old.c); old.seq > 2 && len(scan.Scan(old.c, l, 3, 2, 1).Records) != old.seq-1 {
				t.Error("the test's old log tells too few records")
			}
		}
	}
}

// fates: what stays of so many sectors, at most one write of each of which is not safe.
func (c *chance) fates(n int) []api.Fate {
	var l []api.Fate
	for range n {
		l = append(l, []api.Fate{{Kept: 1}, {}, {Torn: c.below(127) - 63}, {Kept: 9}}[c.below(4)])
	}
	return l
}

// life: a log goes on behind what Scan tells of its disk, with an epoch above all that are there, until its power fails, or is taken off.
func (c *chance) life(t *testing.T, why string, d *disk.Disk, k api.Conf, from api.Tail) api.Tail {
	t.Helper()
	l, e := wal.Load(d, k)
	if e != api.OK {
		t.Fatalf("%s: Load = %d", why, int(e))
	}
	back := scan.Scan(k, l, from.LSN, from.Epoch, from.Seq)
	w := over(t, why, k, d.Bytes(), max(scan.Top(l), from.Epoch)+1, from.LSN, back.LSN, back.Seq)
	all := back.Records
	if len(all) > 0 {
		w.tells(from.Epoch, all)
	}
	if c.below(3) == 0 {
		from, all = api.Tail{LSN: back.LSN, Epoch: w.epoch, Seq: back.Seq}, nil
		w.truncate()
		w.told(nil)
	}
	for _, b := range c.someFrames(w.x.Room()) {
		w.append(b)
		all = append(all, b)
		// Those that were there were appended by lesser epochs, the least of which is asked for.
		w.tells(from.Epoch, all)
		if c.below(4) == 0 {
			w.sync()
		}
	}
	w.burn(c.below(9))
	w.append(framed(5+c.below(2000), 1))
	w.d.Crash(c.fates(k.Log))
	*d = *disk.Of(w.d.Bytes())
	return from
}

func TestToldInManyLives(t *testing.T) {
	c := chance(21)
	for run := range 150 {
		k := layout(2 + c.below(9))
		d := disk.New(sectors(k))
		from := api.Tail{LSN: c.below(30), Seq: c.below(4)}
		for life := range 8 {
			from = c.life(t, fmt.Sprintf("run %d, life %d", run, life), d, k, from)
		}
	}
}

// Memory, and the same answer again.

func TestWhatIsHandedInStays(t *testing.T) {
	c := layout(5)
	c.Comps = append(make([]api.Comp, 0, 4), api.Comp{Name: "pos", Size: 2}, api.Comp{Name: "hp", Size: 1})
	all := slices.Clone(c.Comps[:4])
	d := disk.New(sectors(c))
	x := wal.New(d, c, 1, 3, 3, 2)
	for _, n := range []int{0, 5, 460, 461, 1000, 3000} {
		b := spare(row(n, n))
		x.Append(b)
		x.Sync()
		wal.Load(d, c)
		if !untouched(b, row(n, n)) {
			t.Errorf("a record of %d bytes, or its spare room, has changed", n)
		}
		x.Truncate()
	}
	if !slices.Equal(c.Comps[:4], all) {
		t.Error("the components, or their spare room, have changed")
	}
}

func TestNothingHandedInIsKept(t *testing.T) {
	w := on(t, "kept", 5, 1, 3, 3, 2)
	b := spare(row(1000, 1))
	want := bytes.Clone(b)
	if w.append(b) != api.OK {
		t.Fatal("no room")
	}
	overwrite(b, 0x77)
	w.written("change of the record")
	if l, _ := wal.Load(w.d, w.c); !bytes.Equal(l[3], sealed(1, 3, pieces(2, want)[0])) {
		t.Error("the record is kept")
	}
	// A list of components that may not be any more changes nothing of what a log tells.
	w.c.Comps[0] = api.Comp{Name: "!", Size: -1}
	w.append(row(20, 2))
	w.truncate()
	w.append(row(500, 3))
	w.written("change of the layout")
}

func TestAnswersAreNewMemory(t *testing.T) {
	c := layout(5)
	old := row(sectors(c)*size, 3)
	w := over(t, "memory", c, old, 1, 3, 3, 2)
	w.append(row(700, 1))
	for i := range 5 {
		l, again := w.load(), w.load()
		overwrite(l[i], 0x77)
		for k := range 5 {
			if k != i && !bytes.Equal(l[k], w.last[2+k]) {
				t.Errorf("sectors %d and %d share memory", i, k)
			}
			if !bytes.Equal(again[k], w.last[2+k]) {
				t.Errorf("answers share memory with sector %d", k)
			}
		}
		for k := range l[:cap(l)] {
			l[:cap(l)][k] = nil
		}
		if len(again[i]) != size {
			t.Error("lists of answers share memory")
		}
		w.load()
		w.written("change of an answer")
	}
}

func TestTheSameAnswerAgain(t *testing.T) {
	for range 3 {
		w := on(t, "again", 5, 1, 3, 3, 2)
		w.append(row(700, 1))
		w.append(row(1500, 1))
		w.sync()
		w.truncate()
		w.append(row(1500, 1))
		w.written("again")
		w.load()
	}
}

// The document's examples.

func TestExamples(t *testing.T) {
	c := layout(4)
	x := wal.New(disk.New(sectors(c)), c, 0, 0, 0, 0)
	if e := x.Append(make([]byte, 1000)); e != api.OK || x.Tail() != 3 || x.Room() != 1 {
		t.Error(int(e), x.Tail(), x.Room())
	}
	if e := x.Append(make([]byte, 1000)); e != api.ErrLog || x.Tail() != 3 {
		t.Error(int(e), x.Tail())
	}
}
