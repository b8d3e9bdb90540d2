package disk_test

import (
	"bytes"
	"fmt"
	"math"
	"slices"
	"testing"

	"vivarium/api"
	"vivarium/disk"
)

// chance: numbers that look mixed, the same ones for the same seed.
type chance uint64

// below: the next number from 0 on, below n.
func (c *chance) below(n int) int {
	*c = *c*6364136223846793005 + 1442695040888963407
	return int(uint64(*c)>>33) % n
}

// one: the next one of l.
func one[T any](c *chance, l []T) T {
	return l[c.below(len(l))]
}

// row: so many mixed bytes.
func row(long int, seed int) []byte {
	c := chance(seed)
	out := make([]byte, long)
	for i := range out {
		out[i] = byte(c.below(256))
	}
	return out
}

// full: a sector of this byte alone.
func full(b byte) []byte {
	return bytes.Repeat([]byte{b}, 512)
}

// spare: b with spare room behind it that has bytes 0xee.
func spare(b []byte) []byte {
	room := append(bytes.Clone(b), bytes.Repeat([]byte{0xee}, 64)...)
	return room[:len(b)]
}

// untouched: does b, made by spare, still have these bytes, and its spare room, too?
func untouched(b, want []byte) bool {
	room := b[:cap(b)]
	return bytes.Equal(b, want) && bytes.Equal(room[len(b):len(b)+64], bytes.Repeat([]byte{0xee}, 64))
}

// overwrite: all of l's parts, its spare room too, are x from now on.
func overwrite[T any](l []T, x T) {
	l = l[:cap(l)]
	for i := range l {
		l[i] = x
	}
}

// written: the sector that b is written as.
func written(b []byte) []byte {
	out := make([]byte, 512)
	copy(out, b)
	return out
}

// torn: old, of which the first k words are next's, or, if k is below 0, the last -k; word by word, as the document words it.
func torn(old, next []byte, k int) []byte {
	out := bytes.Clone(old)
	for word := range 64 {
		if word < k || k < 0 && word-64 >= k {
			copy(out[word*8:word*8+8], next[word*8:word*8+8])
		}
	}
	return out
}

// stays: what is safe behind a crash of a sector on which old was safe, with these writes, and this fate.
func stays(old []byte, writes [][]byte, fate api.Fate) []byte {
	kept := max(0, min(fate.Kept, len(writes)))
	all := append([][]byte{old}, writes...)
	if kept < len(writes) && fate.Torn != 0 {
		return torn(all[kept], all[kept+1], fate.Torn)
	}
	return all[kept]
}

// twin: a device by the document's words, without a map.
type twin struct {
	safe          [][]byte
	writes        [][][]byte
	fused, off    bool
	fuse          int
	reads, wrotes int
}

func newTwin(b []byte) *twin {
	w := &twin{}
	for len(b) >= 512 && len(w.safe) < 4096 {
		w.safe = append(w.safe, bytes.Clone(b[:512]))
		w.writes = append(w.writes, nil)
		b = b[512:]
	}
	return w
}

// done: would this be done, and is it?
func (w *twin) done() bool {
	if !w.off && w.fused && w.fuse == 0 {
		w.off = true
	}
	if !w.off && w.fused {
		w.fuse--
	}
	return !w.off
}

func (w *twin) last(i int) []byte {
	if n := len(w.writes[i]); n > 0 {
		return w.writes[i][n-1]
	}
	return w.safe[i]
}

func (w *twin) read(i int) ([]byte, api.Errno) {
	switch {
	case i < 0 || i >= len(w.safe):
		return nil, api.ErrRange
	case !w.done():
		return nil, api.ErrPower
	}
	w.reads++
	return w.last(i), api.OK
}

func (w *twin) write(i int, b []byte) api.Errno {
	switch {
	case i < 0 || i >= len(w.safe):
		return api.ErrRange
	case !w.done():
		return api.ErrPower
	}
	w.wrotes++
	w.writes[i] = append(w.writes[i], written(b))
	return api.OK
}

func (w *twin) sync() api.Errno {
	if !w.done() {
		return api.ErrPower
	}
	for i := range w.safe {
		w.safe[i] = w.last(i)
		w.writes[i] = nil
	}
	return api.OK
}

func (w *twin) lay(n int) {
	w.fused, w.fuse = n >= 0, n
}

func (w *twin) crash(fates []api.Fate) {
	for i := range w.safe {
		if len(w.writes[i]) == 0 {
			continue
		}
		fate := api.Fate{}
		if len(fates) > 0 {
			fate, fates = fates[0], fates[1:]
		}
		w.safe[i] = stays(w.safe[i], w.writes[i], fate)
		w.writes[i] = nil
	}
	w.off, w.fused = false, false
}

func (w *twin) dirty() []int {
	var out []int
	for i, l := range w.writes {
		if len(l) > 0 {
			out = append(out, i)
		}
	}
	return out
}

// alike: does d tell what its twin tells?
func (w *twin) alike(t *testing.T, d *disk.Disk, name string) {
	t.Helper()
	if d.Size() != len(w.safe) || d.Off() != w.off || d.Reads() != w.reads || d.Writes() != w.wrotes {
		t.Fatalf("%s: %d sectors, off %v, %d reads, %d writes; not %d, %v, %d, %d", name, d.Size(), d.Off(), d.Reads(), d.Writes(), len(w.safe), w.off, w.reads, w.wrotes)
	}
	if got, want := d.Dirty(), w.dirty(); !slices.Equal(got, want) {
		t.Fatalf("%s: dirty are %v, not %v", name, got, want)
	}
	if got, want := d.Bytes(), slices.Concat(w.safe...); !bytes.Equal(got, want) {
		t.Fatalf("%s: other bytes are safe from place %d on", name, unlike(got, want))
	}
}

// unlike: the first place at which both have not the same.
func unlike(a, b []byte) int {
	for i := range min(len(a), len(b)) {
		if a[i] != b[i] {
			return i
		}
	}
	return min(len(a), len(b))
}

// told: what all calls tell that change nothing.
type told struct {
	size, reads, writes int
	off                 bool
	dirty, safe         string
}

func tell(d *disk.Disk) told {
	return told{d.Size(), d.Reads(), d.Writes(), d.Off(), fmt.Sprint(d.Dirty()), string(d.Bytes())}
}

// must: that is done.
func must(t *testing.T, e api.Errno) {
	t.Helper()
	if e != api.OK {
		t.Fatal("error", int(e))
	}
}

// has: does a Read of sector i tell this?
func has(t *testing.T, d *disk.Disk, i int, want []byte) {
	t.Helper()
	b, e := d.Read(i)
	if e != api.OK || !bytes.Equal(b, want) {
		t.Errorf("sector %d: error %d, %d bytes, others from place %d on", i, int(e), len(b), unlike(b, want))
	}
}

// kepts: what may stand in Kept, where there are so many writes.
func kepts(n int) []int {
	return []int{math.MinInt, -2, -1, 0, 1, 2, 3, n - 1, n, n + 1, 99, math.MaxInt}
}

// torns: what may stand in Torn.
func torns() []int {
	return []int{math.MinInt, math.MinInt + 1, -1000, -66, -65, -64, -63, -32, -2, -1, 0, 1, 2, 3, 32, 62, 63, 64, 65, 66, 1000, math.MaxInt}
}

// P4.1

func TestNewHasTheNearestNumber(t *testing.T) {
	for _, c := range []struct{ n, want int }{
		{math.MinInt, 0}, {-4096, 0}, {-1, 0}, {0, 0}, {1, 1}, {2, 2}, {3, 3}, {511, 511}, {512, 512}, {4095, 4095}, {4096, 4096}, {4097, 4096}, {1 << 20, 4096}, {math.MaxInt, 4096},
	} {
		d := disk.New(c.n)
		if d.Size() != c.want || !bytes.Equal(d.Bytes(), make([]byte, c.want*512)) {
			t.Errorf("New(%d) has %d sectors, %d bytes", c.n, d.Size(), len(d.Bytes()))
		}
		if len(d.Dirty()) != 0 || d.Off() || d.Reads() != 0 || d.Writes() != 0 {
			t.Errorf("New(%d): %v %v %d %d", c.n, d.Dirty(), d.Off(), d.Reads(), d.Writes())
		}
		for i := range c.want {
			has(t, d, i, make([]byte, 512))
		}
		if _, e := d.Read(c.want); e != api.ErrRange {
			t.Errorf("New(%d): Read(%d): error %d", c.n, c.want, int(e))
		}
	}
}

func TestOfHasWholeSectors(t *testing.T) {
	for _, long := range []int{0, 1, 511, 512, 513, 1023, 1024, 1025, 1536, 4095 * 512, 4096*512 - 1, 4096 * 512, 4096*512 + 1, 4096*512 + 511, 4097 * 512, 4100*512 + 7} {
		b := row(long, long)
		d := disk.Of(b)
		want := min(long/512, 4096)
		if d.Size() != want || !bytes.Equal(d.Bytes(), b[:want*512]) {
			t.Errorf("Of %d bytes: %d sectors, %d bytes", long, d.Size(), len(d.Bytes()))
		}
		if len(d.Dirty()) != 0 || d.Off() || d.Reads() != 0 || d.Writes() != 0 {
			t.Errorf("Of %d bytes: %v %v %d %d", long, d.Dirty(), d.Off(), d.Reads(), d.Writes())
		}
		for i := range want {
			has(t, d, i, b[i*512:i*512+512])
		}
		if _, e := d.Read(want); e != api.ErrRange {
			t.Errorf("Of %d bytes: Read(%d): error %d", long, want, int(e))
		}
	}
	if d := disk.Of(nil); d == nil || d.Size() != 0 || len(d.Bytes()) != 0 || d.Sync() != api.OK {
		t.Error("Of nil")
	}
	if d := disk.Of(spare(row(512, 1))[:300]); d.Size() != 0 {
		t.Error("Of counts spare room")
	}
}

func TestADeviceOfNoSectors(t *testing.T) {
	for _, d := range []*disk.Disk{disk.New(0), disk.New(-1), disk.Of(nil), disk.Of([]byte{1})} {
		if _, e := d.Read(0); e != api.ErrRange || d.Write(0, nil) != api.ErrRange {
			t.Error("sector 0 of none")
		}
		d.Fuse(1)
		if d.Sync() != api.OK || d.Sync() != api.ErrPower || !d.Off() || len(d.Dirty()) != 0 {
			t.Error("Sync without a sector")
		}
		d.Crash([]api.Fate{{Kept: 1, Torn: 1}})
		if d.Sync() != api.OK || d.Off() || len(d.Bytes()) != 0 || d.Size() != 0 {
			t.Error("Crash without a sector")
		}
	}
}

func TestOfKeepsNothingOfItsArgument(t *testing.T) {
	for _, long := range []int{0, 5, 512, 1024, 1300} {
		want := row(long, 3)
		b := spare(want)
		d := disk.Of(b)
		for i := range d.Size() {
			must(t, d.Write(i, full(7)))
		}
		must(t, d.Sync())
		overwrite(d.Bytes(), 5)
		if !untouched(b, want) {
			t.Errorf("Of changed the %d bytes that it was handed", long)
		}
		d = disk.Of(b)
		overwrite(b, 0x77)
		if !bytes.Equal(d.Bytes(), want[:long/512*512]) {
			t.Errorf("Of kept the %d bytes that it was handed", long)
		}
	}
}

// P4.2

func TestReadTellsWhatWasWrittenLast(t *testing.T) {
	d := disk.Of(slices.Concat(full(1), full(2), full(3)))
	for n := range 20 {
		must(t, d.Write(1, full(byte(100+n))))
		has(t, d, 0, full(1))
		has(t, d, 1, full(byte(100+n)))
		has(t, d, 2, full(3))
		if got := d.Dirty(); !slices.Equal(got, []int{1}) {
			t.Error("dirty:", got)
		}
		if !bytes.Equal(d.Bytes(), slices.Concat(full(1), full(2), full(3))) {
			t.Error("a write is safe ahead of Sync")
		}
	}
	must(t, d.Sync())
	has(t, d, 1, full(119))
	if !bytes.Equal(d.Bytes(), slices.Concat(full(1), full(119), full(3))) || len(d.Dirty()) != 0 {
		t.Error("Sync makes something else safe than what was written last")
	}
	must(t, d.Write(1, full(9)))
	has(t, d, 1, full(9))
	if d.Reads() != 62 || d.Writes() != 21 {
		t.Error(d.Reads(), d.Writes())
	}
}

func TestWriteIsACut(t *testing.T) {
	for _, long := range []int{0, 1, 7, 8, 9, 256, 511, 512, 513, 1023, 1024, 70000} {
		b := row(long, long+1)
		d := disk.Of(bytes.Repeat([]byte{0xaa}, 3*512))
		must(t, d.Write(1, b))
		has(t, d, 1, written(b))
		has(t, d, 0, full(0xaa))
		has(t, d, 2, full(0xaa))
		must(t, d.Sync())
		has(t, d, 1, written(b))
		if !bytes.Equal(d.Bytes(), slices.Concat(full(0xaa), written(b), full(0xaa))) {
			t.Errorf("%d bytes: others are safe", long)
		}
	}
	d := disk.Of(full(0xaa))
	must(t, d.Write(0, nil))
	has(t, d, 0, full(0))
	if !slices.Equal(d.Dirty(), []int{0}) {
		t.Error("nil was not written")
	}
	must(t, d.Write(0, spare([]byte{1, 2, 3})))
	has(t, d, 0, written([]byte{1, 2, 3}))
}

func TestPlacesWithoutASector(t *testing.T) {
	for _, n := range []int{0, 1, 2, 5, 4096} {
		d := disk.New(n)
		for _, i := range []int{math.MinInt, math.MinInt / 512, -4096, -2, -1, n, n + 1, n + 4096, 4097, math.MaxInt/512 + 1, math.MaxInt} {
			was := tell(d)
			if b, e := d.Read(i); e != api.ErrRange || len(b) != 0 {
				t.Errorf("Read(%d) of %d sectors: %d bytes, error %d", i, n, len(b), int(e))
			}
			if e := d.Write(i, full(1)); e != api.ErrRange {
				t.Errorf("Write(%d) of %d sectors: error %d", i, n, int(e))
			}
			if tell(d) != was {
				t.Errorf("sector %d of %d: something has changed", i, n)
			}
		}
		if n == 0 {
			continue
		}
		must(t, d.Write(0, full(4)))
		must(t, d.Write(n-1, full(6)))
		has(t, d, n-1, full(6))
		must(t, d.Sync())
		if b := d.Bytes(); b[511] != 4 && n > 1 || b[len(b)-512] != 6 || b[len(b)-1] != 6 {
			t.Errorf("the first and the last one of %d sectors", n)
		}
	}
}

func TestSyncOfManySectors(t *testing.T) {
	d := disk.New(4096)
	want := make([]byte, 0, 4096*512)
	for i := range 4096 {
		must(t, d.Write(4095-i, full(1)))
		must(t, d.Write(4095-i, row(512, 4095-i)))
		want = append(want, row(512, i)...)
	}
	if got := d.Dirty(); len(got) != 4096 || got[0] != 0 || got[4095] != 4095 || !slices.IsSorted(got) {
		t.Error("dirty:", len(got))
	}
	must(t, d.Sync())
	if !bytes.Equal(d.Bytes(), want) || len(d.Dirty()) != 0 || d.Writes() != 2*4096 {
		t.Error("Sync of all sectors")
	}
}

func TestSyncWithoutWrites(t *testing.T) {
	d := disk.Of(row(1024, 1))
	was := tell(d)
	for range 3 {
		must(t, d.Sync())
	}
	if tell(d) != was {
		t.Error("a Sync without writes changes something")
	}
}

func TestWritesOfTheSameBytes(t *testing.T) {
	d := disk.Of(full(3))
	must(t, d.Write(0, full(3)))
	if !slices.Equal(d.Dirty(), []int{0}) || d.Writes() != 1 {
		t.Error("a write of what is safe is none:", d.Dirty())
	}
	must(t, d.Write(0, full(4)))
	must(t, d.Write(0, full(4)))
	d.Crash([]api.Fate{{Kept: 1, Torn: 64}})
	has(t, d, 0, full(4))
}

func TestNoAnswerIsTheDevicesMemory(t *testing.T) {
	d := disk.Of(slices.Concat(full(1), full(2)))
	w := newTwin(slices.Concat(full(1), full(2)))
	spoil := func() {
		for i := range 2 {
			b, _ := d.Read(i)
			overwrite(b, 0x55)
			w.read(i)
		}
		overwrite(d.Bytes(), 0x66)
		overwrite(d.Dirty(), 1)
	}
	same := func(name string) {
		t.Helper()
		w.alike(t, d, name)
		for i := range 2 {
			b, _ := w.read(i)
			has(t, d, i, b)
		}
	}
	spoil()
	same("safe")
	for n := range 3 {
		must(t, d.Write(1, full(byte(n+9))))
		w.write(1, full(byte(n+9)))
		spoil()
		same("written")
	}
	before, _ := d.Read(1)
	w.read(1)
	d.Crash([]api.Fate{{Kept: 2, Torn: 5}})
	w.crash([]api.Fate{{Kept: 2, Torn: 5}})
	overwrite(before, 0x44)
	same("crashed")
	must(t, d.Write(0, full(8)))
	w.write(0, full(8))
	before, _ = d.Read(0)
	w.read(0)
	must(t, d.Sync())
	w.sync()
	overwrite(before, 0x33)
	spoil()
	same("made safe")
}

func TestWhatWasToldStays(t *testing.T) {
	d := disk.Of(slices.Concat(full(1), full(2)))
	must(t, d.Write(1, full(3)))
	zero, _ := d.Read(0)
	first, _ := d.Read(1)
	safe, dirty := d.Bytes(), d.Dirty()
	must(t, d.Write(0, full(4)))
	must(t, d.Write(1, full(5)))
	must(t, d.Sync())
	must(t, d.Write(1, full(6)))
	d.Crash([]api.Fate{{Torn: 9}})
	if !bytes.Equal(zero, full(1)) || !bytes.Equal(first, full(3)) || !bytes.Equal(safe, slices.Concat(full(1), full(2))) || !slices.Equal(dirty, []int{1}) {
		t.Error("an answer was changed behind")
	}
	again, _ := d.Read(0)
	other, _ := d.Read(0)
	overwrite(again, 0x22)
	if !bytes.Equal(other, full(4)) {
		t.Error("two answers share memory")
	}
}

func TestWriteKeepsNothingOfItsArgument(t *testing.T) {
	for _, long := range []int{0, 3, 511, 512, 513, 1024} {
		want := row(long, 4)
		b := spare(want)
		d := disk.New(1)
		must(t, d.Write(0, b))
		got, _ := d.Read(0)
		overwrite(got, 0x55)
		if !untouched(b, want) {
			t.Errorf("Write changed the %d bytes that it was handed", long)
		}
		overwrite(b, 0x77)
		has(t, d, 0, written(want))
		d.Crash([]api.Fate{{Kept: 1}})
		has(t, d, 0, written(want))
		overwrite(b, 0x11)
		must(t, d.Write(0, b))
		must(t, d.Write(0, full(9)))
		overwrite(b, 0x99)
		d.Crash([]api.Fate{{Kept: 1}})
		has(t, d, 0, written(bytes.Repeat([]byte{0x11}, long)))
		must(t, d.Write(0, b))
		must(t, d.Sync())
		overwrite(b, 0x33)
		has(t, d, 0, written(bytes.Repeat([]byte{0x99}, long)))
	}
}

// P4.3

// operations: each of those that burn a fuse, on sector 0.
func operations() map[string]func(d *disk.Disk) api.Errno {
	return map[string]func(d *disk.Disk) api.Errno{
		"Read":  func(d *disk.Disk) api.Errno { _, e := d.Read(0); return e },
		"Write": func(d *disk.Disk) api.Errno { return d.Write(0, full(9)) },
		"Sync":  func(d *disk.Disk) api.Errno { return d.Sync() },
	}
}

func TestEachOperationBurnsTheFuse(t *testing.T) {
	for first, do := range operations() {
		for second, then := range operations() {
			for _, n := range []int{0, 1, 2, 3, 100} {
				d := disk.New(2)
				d.Fuse(n)
				for range n {
					if do(d) != api.OK || d.Off() {
						t.Errorf("%s ahead of the end of a fuse of %d", first, n)
					}
				}
				was := tell(d)
				if e := then(d); e != api.ErrPower || !d.Off() {
					t.Errorf("%s behind %d times %s: error %d, off %v", second, n, first, int(e), d.Off())
				}
				was.off = true
				if tell(d) != was {
					t.Errorf("%s was done though the power fails", second)
				}
				if e := do(d); e != api.ErrPower || tell(d) != was {
					t.Errorf("%s was done though the power is off: error %d", first, int(e))
				}
			}
		}
	}
}

func TestFuseOfNumbersBelowNone(t *testing.T) {
	for _, n := range []int{math.MinInt, -1 << 40, -2, -1} {
		d := disk.New(1)
		d.Fuse(n)
		for name, do := range operations() {
			for range 50 {
				if do(d) != api.OK || d.Off() {
					t.Fatalf("%s behind Fuse(%d)", name, n)
				}
			}
		}
		d.Fuse(0)
		d.Fuse(n)
		if d.Write(0, nil) != api.OK || d.Off() {
			t.Errorf("Fuse(0), Fuse(%d): the power fails", n)
		}
	}
	d := disk.New(1)
	d.Fuse(math.MaxInt)
	for range 50 {
		if d.Sync() != api.OK || d.Off() {
			t.Fatal("the greatest fuse")
		}
	}
}

func TestWhatIsNotDoneBurnsNoFuse(t *testing.T) {
	d := disk.New(2)
	none := func() {
		for _, i := range []int{math.MinInt, -1, 2, 3, math.MaxInt} {
			if _, e := d.Read(i); e != api.ErrRange || d.Write(i, full(1)) != api.ErrRange {
				t.Errorf("sector %d: error %d", i, int(e))
			}
		}
		d.Size()
		d.Dirty()
		d.Bytes()
		d.Reads()
		d.Writes()
	}
	d.Fuse(2)
	none()
	must(t, d.Write(1, full(2)))
	none()
	must(t, d.Sync())
	none()
	if d.Off() {
		t.Error("the power fails though nothing is done")
	}
	if _, e := d.Read(0); e != api.ErrPower || !d.Off() {
		t.Error("behind two that were done:", int(e))
	}
	none()
	if !d.Off() || d.Reads() != 0 || d.Writes() != 1 {
		t.Error("behind the end:", d.Off(), d.Reads(), d.Writes())
	}
}

func TestAFuseIsLaidAgain(t *testing.T) {
	for _, c := range []struct{ first, done, second int }{
		{0, 0, 0}, {0, 0, 1}, {0, 0, 2}, {1, 0, 0}, {1, 1, 1}, {2, 1, 2}, {2, 1, 0}, {2, 2, 5}, {5, 1, 1}, {100, 3, 2}, {-1, 4, 1}, {-9, 0, 0}, {1, 1, -1}, {0, 0, -1}, {3, 2, -4},
	} {
		d := disk.New(1)
		d.Fuse(c.first)
		for range c.done {
			must(t, d.Write(0, nil))
		}
		d.Fuse(c.second)
		ends := c.second
		if ends < 0 {
			ends = 1000
		}
		for n := range 20 {
			want := api.OK
			if n >= ends {
				want = api.ErrPower
			}
			if e := d.Sync(); e != want || d.Off() != (n >= ends) {
				t.Errorf("Fuse(%d), %d done, Fuse(%d), %d done: error %d, off %v", c.first, c.done, c.second, n, int(e), d.Off())
			}
		}
	}
}

func TestWhatIsToldWhileThePowerIsOff(t *testing.T) {
	d := disk.Of(slices.Concat(full(1), full(2), full(3)))
	must(t, d.Write(2, full(5)))
	must(t, d.Write(0, full(4)))
	has(t, d, 2, full(5))
	d.Fuse(0)
	if d.Off() {
		t.Error("a fuse of 0 fails though nothing would be done")
	}
	if d.Write(1, full(6)) != api.ErrPower || !d.Off() {
		t.Error("the power is on")
	}
	check := func() {
		t.Helper()
		if d.Size() != 3 || d.Reads() != 1 || d.Writes() != 2 || !d.Off() || !slices.Equal(d.Dirty(), []int{0, 2}) {
			t.Error(d.Size(), d.Reads(), d.Writes(), d.Off(), d.Dirty())
		}
		if !bytes.Equal(d.Bytes(), slices.Concat(full(1), full(2), full(3))) {
			t.Error("other bytes are safe")
		}
	}
	check()
	for i := range 3 {
		if b, e := d.Read(i); e != api.ErrPower || len(b) != 0 {
			t.Errorf("Read(%d): %d bytes, error %d", i, len(b), int(e))
		}
		if e := d.Write(i, full(7)); e != api.ErrPower {
			t.Errorf("Write(%d): error %d", i, int(e))
		}
	}
	for _, i := range []int{-1, 3} {
		if b, e := d.Read(i); e != api.ErrRange || len(b) != 0 || d.Write(i, nil) != api.ErrRange {
			t.Errorf("sector %d while the power is off: error %d", i, int(e))
		}
	}
	if d.Sync() != api.ErrPower {
		t.Error("Sync while the power is off")
	}
	for _, n := range []int{-1, 0, 1, 5} {
		d.Fuse(n)
		if d.Sync() != api.ErrPower {
			t.Errorf("Fuse(%d) lets the power come back", n)
		}
		check()
	}
	d.Crash([]api.Fate{{Kept: 1}, {Kept: 1}})
	if d.Off() || d.Sync() != api.OK || d.Reads() != 1 || d.Writes() != 2 || len(d.Dirty()) != 0 {
		t.Error("behind Crash:", d.Off(), d.Reads(), d.Writes(), d.Dirty())
	}
	has(t, d, 0, full(4))
	has(t, d, 1, full(2))
	has(t, d, 2, full(5))
}

func TestCrashTakesTheFuseAway(t *testing.T) {
	for _, n := range []int{0, 1, 2, 7} {
		for _, done := range []int{0, 1, 2, 3, 9} {
			d := disk.New(1)
			d.Fuse(n)
			for range done {
				d.Sync()
			}
			d.Crash(nil)
			for range 30 {
				if d.Off() || d.Write(0, nil) != api.OK || d.Sync() != api.OK {
					t.Fatalf("Fuse(%d), %d times Sync, Crash: the power fails", n, done)
				}
			}
			d.Fuse(1)
			if d.Sync() != api.OK || d.Sync() != api.ErrPower {
				t.Errorf("Fuse(%d), %d times Sync, Crash, Fuse(1)", n, done)
			}
		}
	}
}

func TestTheDocumentsExample(t *testing.T) {
	d := disk.New(1)
	must(t, d.Write(0, full(1)))
	d.Crash([]api.Fate{{Kept: 0, Torn: 2}})
	has(t, d, 0, written(bytes.Repeat([]byte{1}, 16)))
}

func TestEachFate(t *testing.T) {
	old := row(512, 50)
	for n := range 5 {
		var writes [][]byte
		for i := range n {
			writes = append(writes, row(512, 60+i))
		}
		for _, kept := range kepts(n) {
			for _, k := range torns() {
				for _, off := range []bool{false, true} {
					d := disk.Of(old)
					for _, b := range writes {
						must(t, d.Write(0, b))
					}
					if off {
						d.Fuse(0)
						d.Sync()
					}
					fate := api.Fate{Kept: kept, Torn: k}
					d.Crash([]api.Fate{fate})
					if got, want := d.Bytes(), stays(old, writes, fate); !bytes.Equal(got, want) {
						t.Errorf("%d writes, off %v, %+v: others from place %d on", n, off, fate, unlike(got, want))
					}
					if d.Off() || len(d.Dirty()) != 0 || d.Reads() != 0 || d.Writes() != n {
						t.Errorf("%d writes, %+v: %v %v %d %d", n, fate, d.Off(), d.Dirty(), d.Reads(), d.Writes())
					}
					has(t, d, 0, stays(old, writes, fate))
				}
			}
		}
	}
}

// What stays, told in bytes that were written down here.
func TestSomeFatesByTheirBytes(t *testing.T) {
	part := func(n int, a, b byte) []byte {
		return append(bytes.Repeat([]byte{a}, n), bytes.Repeat([]byte{b}, 512-n)...)
	}
	for _, c := range []struct {
		fate api.Fate
		want []byte
	}{
		{api.Fate{}, full(10)},
		{api.Fate{Kept: 1}, full(11)},
		{api.Fate{Kept: 2}, full(12)},
		{api.Fate{Kept: 3}, full(13)},
		{api.Fate{Kept: 4}, full(13)},
		{api.Fate{Kept: -1}, full(10)},
		{api.Fate{Kept: -1, Torn: 1}, part(8, 11, 10)},
		{api.Fate{Torn: 1}, part(8, 11, 10)},
		{api.Fate{Torn: -1}, part(504, 10, 11)},
		{api.Fate{Kept: 1, Torn: 3}, part(24, 12, 11)},
		{api.Fate{Kept: 1, Torn: -3}, part(488, 11, 12)},
		{api.Fate{Kept: 2, Torn: 63}, part(504, 13, 12)},
		{api.Fate{Kept: 2, Torn: -63}, part(8, 12, 13)},
		{api.Fate{Kept: 1, Torn: 64}, full(12)},
		{api.Fate{Kept: 1, Torn: 65}, full(12)},
		{api.Fate{Kept: 1, Torn: -64}, full(12)},
		{api.Fate{Kept: 1, Torn: -65}, full(12)},
		{api.Fate{Kept: 3, Torn: 1}, full(13)},
		{api.Fate{Kept: 3, Torn: -64}, full(13)},
		{api.Fate{Kept: 9, Torn: 64}, full(13)},
	} {
		d := disk.Of(full(10))
		for b := byte(11); b < 14; b++ {
			must(t, d.Write(0, full(b)))
		}
		d.Crash([]api.Fate{c.fate})
		if got := d.Bytes(); !bytes.Equal(got, c.want) {
			t.Errorf("%+v: others from place %d on", c.fate, unlike(got, c.want))
		}
	}
}

func TestFatesGoSectorBySectorRising(t *testing.T) {
	all := []api.Fate{{Kept: 1}, {Kept: 2, Torn: 7}, {Kept: 0, Torn: -3}, {Kept: 1, Torn: 1}, {Kept: 5}, {Torn: 64}}
	orders := [][]int{{1, 3, 4, 6}, {6, 4, 3, 1}, {4, 1, 6, 3}, {3}, {}, {0, 1, 2, 3, 4, 5, 6, 7}, {7, 0}}
	for _, order := range orders {
		for n := range len(all) + 1 {
			start := row(8*512, n)
			d, w := disk.Of(start), newTwin(start)
			for turn := range 3 {
				for _, i := range order {
					b := row(512, 100*turn+i)
					must(t, d.Write(i, b))
					w.write(i, b)
				}
			}
			w.alike(t, d, fmt.Sprint(order, " ahead"))
			d.Crash(all[:n])
			w.crash(all[:n])
			w.alike(t, d, fmt.Sprint(order, " behind a crash with ", n, " fates"))
		}
	}
}

func TestSectorsWithoutWritesTakeNoFate(t *testing.T) {
	d := disk.New(4)
	must(t, d.Write(0, full(1)))
	must(t, d.Sync())
	has(t, d, 2, full(0))
	must(t, d.Write(3, full(3)))
	must(t, d.Write(1, full(2)))
	d.Crash([]api.Fate{{}, {Kept: 1}})
	if want := slices.Concat(full(1), full(0), full(0), full(3)); !bytes.Equal(d.Bytes(), want) {
		t.Error("others from place", unlike(d.Bytes(), want), "on")
	}
}

func TestCrashWithoutFatesLosesAllThatIsNotSafe(t *testing.T) {
	room := []api.Fate{{Kept: 9, Torn: 9}}
	for _, fates := range [][]api.Fate{nil, {}, room[:0]} {
		start := row(3*512, 9)
		d := disk.Of(start)
		for n := range 5 {
			must(t, d.Write(n%3, full(byte(n))))
		}
		d.Crash(fates)
		if !bytes.Equal(d.Bytes(), start) || len(d.Dirty()) != 0 || d.Off() {
			t.Error("something stays without a fate")
		}
		for i := range 3 {
			has(t, d, i, start[i*512:i*512+512])
		}
	}
}

func TestCrashLeavesItsArgument(t *testing.T) {
	want := []api.Fate{{Kept: -5, Torn: 99}, {Kept: 99, Torn: -99}, {Kept: 1, Torn: 1}, {Kept: 2, Torn: 2}}
	fates := slices.Clone(want)
	d := disk.New(4)
	for i := range 4 {
		must(t, d.Write(i, full(1)))
	}
	d.Crash(fates[:3])
	if !slices.Equal(fates, want) {
		t.Error("Crash changed what it was handed:", fates)
	}
	if b := d.Bytes(); b[3*512] != 0 {
		t.Error("spare room is a fate")
	}
}

func TestCrashWithMoreAndFewerFates(t *testing.T) {
	fates := make([]api.Fate, 5000)
	overwrite(fates, api.Fate{Kept: 1})
	for _, n := range []int{0, 1, 4095, 4096, 4097, 5000} {
		d := disk.New(4096)
		for i := range 4096 {
			must(t, d.Write(4095-i, []byte{1}))
		}
		d.Crash(fates[:n])
		b := d.Bytes()
		for i := range 4096 {
			if stays := b[i*512] == 1; stays != (i < n) {
				t.Fatalf("%d fates: does sector %d stay? %v", n, i, stays)
			}
		}
	}
}

func TestCrashTwiceInARow(t *testing.T) {
	d := disk.Of(full(1))
	must(t, d.Write(0, full(2)))
	must(t, d.Write(0, full(3)))
	d.Crash([]api.Fate{{Kept: 1, Torn: 4}})
	was := tell(d)
	for _, fates := range [][]api.Fate{nil, {{}}, {{Kept: 1}}, {{Kept: 2, Torn: -7}}, {{Torn: 64}}} {
		d.Crash(fates)
		if tell(d) != was {
			t.Errorf("a second crash with %v changes something", fates)
		}
	}
	// Writes behind a crash begin with what it left.
	must(t, d.Write(0, full(5)))
	d.Crash([]api.Fate{{Torn: 1}})
	has(t, d, 0, slices.Concat(bytes.Repeat([]byte{5}, 8), bytes.Repeat([]byte{3}, 24), bytes.Repeat([]byte{2}, 480)))
}

func TestCrashBeginsWithWhatWasSafe(t *testing.T) {
	d := disk.New(1)
	must(t, d.Write(0, full(1)))
	must(t, d.Write(0, full(2)))
	must(t, d.Sync())
	must(t, d.Write(0, full(3)))
	d.Crash([]api.Fate{{Kept: 0, Torn: -1}})
	has(t, d, 0, append(bytes.Repeat([]byte{2}, 504), bytes.Repeat([]byte{3}, 8)...))
}

// P4.4

func TestReadsAndWritesCountWhatIsDone(t *testing.T) {
	d := disk.New(2)
	count := func(name string, reads, writes int) {
		t.Helper()
		if d.Reads() != reads || d.Writes() != writes {
			t.Errorf("%s: %d reads, %d writes; not %d and %d", name, d.Reads(), d.Writes(), reads, writes)
		}
	}
	count("new", 0, 0)
	d.Read(0)
	d.Read(1)
	d.Read(0)
	count("Read", 3, 0)
	d.Write(0, nil)
	d.Write(0, full(1))
	count("Write", 3, 2)
	d.Read(2)
	d.Read(-1)
	d.Write(2, nil)
	d.Write(-1, nil)
	count("no sector", 3, 2)
	d.Sync()
	d.Bytes()
	d.Dirty()
	count("Sync", 3, 2)
	d.Fuse(1)
	d.Read(1)
	d.Read(1)
	d.Write(1, nil)
	d.Sync()
	count("Fuse", 4, 2)
	d.Crash(nil)
	count("Crash", 4, 2)
	d.Read(1)
	d.Write(1, nil)
	count("behind Crash", 5, 3)
}

func TestDirtyIsRising(t *testing.T) {
	// Many turns: a map is ranged over in another order each time.
	for turn := range 50 {
		d := disk.New(64)
		want := []int{}
		for i := range 64 {
			if (i*7+turn)%3 != 0 {
				want = append(want, i)
			}
		}
		for n := range want {
			must(t, d.Write(want[(n*5+turn)%len(want)], full(1)))
			must(t, d.Write(want[len(want)-1-n], full(2)))
		}
		got := d.Dirty()
		if !slices.IsSorted(got) || !slices.Equal(got, slices.Compact(slices.Clone(got))) {
			t.Fatal("not rising:", got)
		}
		if !slices.Equal(got, want) {
			t.Fatal("dirty:", got, "not", want)
		}
	}
}

func TestBytesTellsWhatIsSafeAlone(t *testing.T) {
	start := row(4*512, 2)
	d := disk.Of(start)
	must(t, d.Write(2, full(1)))
	if !bytes.Equal(d.Bytes(), start) {
		t.Error("a write is safe")
	}
	d.Fuse(0)
	d.Sync()
	if !bytes.Equal(d.Bytes(), start) {
		t.Error("a Sync that is not done makes something safe")
	}
	d.Crash([]api.Fate{{Kept: 1}})
	copy(start[2*512:], full(1))
	if !bytes.Equal(d.Bytes(), start) {
		t.Error("what a crash left is not safe")
	}
}

func TestNil(t *testing.T) {
	var d *disk.Disk
	for range 2 {
		for _, i := range []int{math.MinInt, -1, 0, 1, 4096, math.MaxInt} {
			if b, e := d.Read(i); e != api.ErrNil || len(b) != 0 {
				t.Errorf("Read(%d) = %v, error %d", i, b, int(e))
			}
			if e := d.Write(i, full(1)); e != api.ErrNil {
				t.Errorf("Write(%d): error %d", i, int(e))
			}
		}
		if e := d.Sync(); e != api.ErrNil {
			t.Errorf("Sync: error %d", int(e))
		}
		if d.Size() != 0 || d.Off() || len(d.Dirty()) != 0 || len(d.Bytes()) != 0 || d.Reads() != 0 || d.Writes() != 0 {
			t.Error(d.Size(), d.Off(), d.Dirty(), d.Bytes(), d.Reads(), d.Writes())
		}
		for _, n := range []int{-1, 0, 5} {
			d.Fuse(n)
		}
		d.Crash(nil)
		d.Crash([]api.Fate{{Kept: 1, Torn: 1}})
	}
}

// What the zero value tells is open, but nothing panics.
func TestTheZeroValueEnds(t *testing.T) {
	d := &disk.Disk{}
	for _, n := range []int{-1, 0, 3} {
		d.Fuse(n)
		for i := -1; i < 3; i++ {
			d.Read(i)
			d.Write(i, full(1))
		}
		d.Sync()
		d.Crash([]api.Fate{{Kept: 1, Torn: 1}})
		d.Size()
		d.Off()
		d.Dirty()
		d.Bytes()
		d.Reads()
		d.Writes()
	}
}

// P4.5

func TestNoFateChangesWhatIsSafe(t *testing.T) {
	for _, kept := range kepts(2) {
		for _, k := range torns() {
			start := row(3*512, 12)
			d := disk.Of(start)
			must(t, d.Write(1, full(1)))
			must(t, d.Sync())
			copy(start[512:], full(1))
			must(t, d.Write(2, full(2)))
			fates := make([]api.Fate, 6)
			overwrite(fates, api.Fate{Kept: kept, Torn: k})
			for range 2 {
				d.Crash(fates)
				if got := d.Bytes(); !bytes.Equal(got[:1024], start[:1024]) {
					t.Errorf("%+v changes what is safe at place %d", fates[0], unlike(got, start))
				}
			}
		}
	}
}

func TestBehindSyncACrashChangesNothing(t *testing.T) {
	for _, kept := range kepts(3) {
		for _, k := range torns() {
			for _, off := range []bool{false, true} {
				d := disk.Of(row(4*512, 21))
				for n := range 3 {
					must(t, d.Write(n, row(512, n)))
					must(t, d.Write(0, row(512, 30+n)))
				}
				must(t, d.Sync())
				was := tell(d)
				if off {
					d.Fuse(0)
					d.Write(1, full(1))
				}
				fates := make([]api.Fate, 5)
				overwrite(fates, api.Fate{Kept: kept, Torn: k})
				d.Crash(fates)
				if tell(d) != was {
					t.Errorf("off %v: a crash with %+v changes something", off, fates[0])
				}
			}
		}
	}
}

// All of them

// step: the same is done to both, and tells the same.
func step(t *testing.T, c *chance, d *disk.Disk, w *twin, n int) string {
	t.Helper()
	i := c.below(n+3) - 1
	switch c.below(12) {
	case 0, 1, 2, 3, 4:
		b := row(one(c, []int{0, 3, 8, 100, 511, 512, 513, 600}), c.below(1<<30))
		if got, want := d.Write(i, b), w.write(i, b); got != want {
			t.Fatalf("Write(%d): error %d, not %d", i, int(got), int(want))
		}
		return "Write"
	case 5, 6, 7:
		got, e := d.Read(i)
		want, f := w.read(i)
		if e != f || !bytes.Equal(got, want) {
			t.Fatalf("Read(%d): error %d, not %d; others from place %d on", i, int(e), int(f), unlike(got, want))
		}
		return "Read"
	case 8:
		if got, want := d.Sync(), w.sync(); got != want {
			t.Fatalf("Sync: error %d, not %d", int(got), int(want))
		}
		return "Sync"
	case 9, 10:
		k := one(c, []int{-3, -1, 0, 1, 2, 5, 9, 20})
		d.Fuse(k)
		w.lay(k)
		return "Fuse"
	}
	fates := make([]api.Fate, c.below(n+2))
	for k := range fates {
		fates[k] = api.Fate{Kept: one(c, kepts(3)), Torn: one(c, torns())}
	}
	d.Crash(fates)
	w.crash(fates)
	return "Crash"
}

func TestLongRuns(t *testing.T) {
	for seed := range 150 {
		c := chance(seed)
		n := c.below(6)
		start := row(n*512+c.below(512), seed)
		d, w := disk.Of(start), newTwin(start)
		w.alike(t, d, "new")
		for turn := range 200 {
			w.alike(t, d, fmt.Sprint("run ", seed, ", turn ", turn, ", ", step(t, &c, d, w, n)))
		}
	}
}

func TestTheSameCallsTellTheSame(t *testing.T) {
	run := func() told {
		d := disk.New(40)
		for i := range 200 {
			d.Write(i*13%40, row(512, i))
		}
		d.Crash([]api.Fate{{Kept: 1}, {Kept: 2, Torn: 9}, {Torn: -4}, {Kept: 4, Torn: 1}, {Kept: 3}, {Torn: 64}, {Kept: 2}, {Kept: 1, Torn: -63}})
		for i := range 60 {
			d.Write(i*7%40, row(512, -i))
		}
		return tell(d)
	}
	first := run()
	for range 50 {
		if run() != first {
			t.Fatal("the same calls on two devices tell not the same")
		}
	}
}
