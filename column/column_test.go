package column_test

import (
	"bytes"
	"fmt"
	"math"
	"slices"
	"strings"
	"testing"

	"vivarium/api"
	"vivarium/column"
)

// chance: numbers that look mixed, the same ones for the same seed.
type chance uint64

// below: the next number from 0 on, below n.
func (c *chance) below(n int) int {
	*c = *c*6364136223846793005 + 1442695040888963407
	return int(uint64(*c)>>33) % n
}

// one: the next one of l.
func one[T any](c *chance, l []T) T {
	return l[c.below(len(l))]
}

// data: n mixed bytes.
func (c *chance) data(n int) []byte {
	out := make([]byte, n)
	for i := range out {
		out[i] = byte(c.below(256))
	}
	return out
}

// brief: a value as a text that is not too long to be read.
func brief(v any) string {
	s := fmt.Sprint(v)
	if len(s) > 300 {
		return fmt.Sprintf("%s.. (%d signs)", s[:300], len(s))
	}
	return s
}

// twin: a column by the document's words: a list of rows, each a text of its own.
type twin struct {
	size int
	rows []string
}

func (w *twin) there(i int) bool {
	return i >= 0 && i < len(w.rows)
}

func (w *twin) add(data string) api.Errno {
	switch {
	case len(data) != w.size:
		return api.ErrSize
	case len(w.rows) >= 1024:
		return api.ErrFull
	}
	w.rows = append(w.rows, data)
	return api.OK
}

func (w *twin) set(i int, data string) api.Errno {
	switch {
	case !w.there(i):
		return api.ErrRange
	case len(data) != w.size:
		return api.ErrSize
	}
	w.rows[i] = data
	return api.OK
}

func (w *twin) get(i int) (string, api.Errno) {
	if !w.there(i) {
		return "", api.ErrRange
	}
	return w.rows[i], api.OK
}

func (w *twin) drop(i int) api.Errno {
	if !w.there(i) {
		return api.ErrRange
	}
	last := w.rows[len(w.rows)-1]
	rest := slices.Clone(w.rows[:len(w.rows)-1])
	if i < len(rest) {
		rest[i] = last
	}
	w.rows = rest
	return api.OK
}

func (w *twin) bytes() string {
	return strings.Join(w.rows, "")
}

// far: places where there never is a row.
var far = []int{math.MinInt, math.MinInt + 1, -1 << 58, -1 << 32, -1025, -1024, -64, -2, -1, 1024, 1025, 1 << 16, 1 << 32, 1<<32 + 1, 1 << 57, 1 << 58, math.MaxInt - 1, math.MaxInt}

// alike: does c tell what its twin tells, of each row, and of places where there is none?
func (w *twin) alike(t *testing.T, c *column.Column, name string) {
	t.Helper()
	w.sums(t, c, name)
	for _, i := range append([]int{len(w.rows), len(w.rows) + 1}, far...) {
		w.gets(t, c, i, name)
	}
	for i := range w.rows {
		w.gets(t, c, i, name)
	}
}

// sums: does c tell the Size, the Len and the Bytes of its twin?
func (w *twin) sums(t *testing.T, c *column.Column, name string) {
	t.Helper()
	if c.Size() != w.size || c.Len() != len(w.rows) {
		t.Fatalf("%s: Size %d, Len %d; not %d, %d", name, c.Size(), c.Len(), w.size, len(w.rows))
	}
	if got, want := string(c.Bytes()), w.bytes(); got != want {
		t.Fatalf("%s: Bytes %s, not %s", name, brief([]byte(got)), brief([]byte(want)))
	}
}

// gets: does c tell that row of its twin?
func (w *twin) gets(t *testing.T, c *column.Column, i int, name string) {
	t.Helper()
	got, e := c.Get(i)
	want, is := w.get(i)
	if string(got) != want || e != is {
		t.Fatalf("%s: Get(%d) = %v, error %d; not %v, %d", name, i, got, int(e), []byte(want), int(is))
	}
}

// told: all that can be told of c.
func told(c *column.Column) string {
	var s strings.Builder
	s.WriteString(fmt.Sprintln(c.Size(), c.Len()))
	s.Write(c.Bytes())
	for i := range c.Len() {
		row, e := c.Get(i)
		s.Write(row)
		s.WriteByte(byte(e))
	}
	return s.String()
}

// tells: this call told that error, and if it told one, all is as it was.
func tells(t *testing.T, c *column.Column, name string, want api.Errno, call func() api.Errno) {
	t.Helper()
	was := told(c)
	if e := call(); e != want {
		t.Fatalf("%s: error %d, not %d", name, int(e), int(want))
	}
	if want != api.OK && told(c) != was {
		t.Fatalf("%s: %s, not %s as before", name, brief([]byte(told(c))), brief([]byte(was)))
	}
}

// adds: Add of data tells that error.
func adds(t *testing.T, c *column.Column, data []byte, want api.Errno) {
	t.Helper()
	tells(t, c, fmt.Sprintf("Add of %d bytes to %d rows", len(data), c.Len()), want, func() api.Errno { return c.Add(data) })
}

// sets: Set of row i tells that error.
func sets(t *testing.T, c *column.Column, i int, data []byte, want api.Errno) {
	t.Helper()
	tells(t, c, fmt.Sprintf("Set(%d) of %d bytes in %d rows", i, len(data), c.Len()), want, func() api.Errno { return c.Set(i, data) })
}

// drops: Drop of row i tells that error.
func drops(t *testing.T, c *column.Column, i int, want api.Errno) {
	t.Helper()
	tells(t, c, fmt.Sprintf("Drop(%d) of %d rows", i, c.Len()), want, func() api.Errno { return c.Drop(i) })
}

// lacks: Get of row i tells that there is none.
func lacks(t *testing.T, c *column.Column, i int) {
	t.Helper()
	tells(t, c, fmt.Sprintf("Get(%d) of %d rows", i, c.Len()), api.ErrRange, func() api.Errno {
		row, e := c.Get(i)
		if len(row) != 0 {
			t.Fatalf("Get(%d) tells %v beside an error", i, row)
		}
		return e
	})
}

// has: c has these rows and no others.
func has(t *testing.T, c *column.Column, size int, rows ...string) {
	t.Helper()
	w := &twin{size: size, rows: rows}
	w.alike(t, c, fmt.Sprintf("%d rows of %d", len(rows), size))
}

// load: these may be.
func load(t *testing.T, size, rows int, b []byte) *column.Column {
	t.Helper()
	c, e := column.Load(size, rows, b)
	if c == nil || e != api.OK {
		t.Fatalf("Load(%d, %d, %d bytes): error %d, nothing %v", size, rows, len(b), int(e), c == nil)
	}
	return c
}

// none: these may not be.
func none(t *testing.T, size, rows int, b []byte) {
	t.Helper()
	if c, e := column.Load(size, rows, b); c != nil || e != api.ErrForm {
		t.Errorf("Load(%d, %d, %d bytes): error %d, nothing %v", size, rows, len(b), int(e), c == nil)
	}
}

// cut: b in rows of that size.
func cut(b []byte, size, rows int) []string {
	out := make([]string, rows)
	for i := range out {
		out[i] = string(b[i*size : (i+1)*size])
	}
	return out
}

// spare: these bytes, with spare room behind them that has 7s.
func spare(b []byte) []byte {
	room := append(slices.Clone(b), slices.Repeat([]byte{7}, 160)...)
	return room[:len(b)]
}

// untouched: has b, made by spare, still these bytes, and its spare room, too?
func untouched(b, want []byte) bool {
	room := b[:cap(b)]
	return bytes.Equal(b, want) && bytes.Equal(room[len(b):len(b)+160], slices.Repeat([]byte{7}, 160))
}

// overwrite: all of b, its spare room too, is v from now on.
func overwrite(b []byte, v byte) {
	b = b[:cap(b)]
	for i := range b {
		b[i] = v
	}
}

// manySizes: what is asked for, and what a row has.
var manySizes = []struct{ n, want int }{
	{math.MinInt, 0}, {math.MinInt + 1, 0}, {-1 << 32, 0}, {-65, 0}, {-64, 0}, {-2, 0}, {-1, 0}, {0, 0}, {1, 1}, {2, 2}, {3, 3}, {7, 7}, {8, 8}, {31, 31}, {32, 32}, {63, 63}, {64, 64}, {65, 64}, {66, 64}, {128, 64}, {256, 64}, {1 << 16, 64}, {1 << 32, 64}, {1<<32 + 1, 64}, {math.MaxInt - 1, 64}, {math.MaxInt, 64},
}

// manyRows: how many rows there may be.
var manyRows = []int{0, 1, 2, 3, 5, 63, 64, 65, 255, 256, 257, 1023, 1024}

// P8.1: New

func TestNewHasNoRows(t *testing.T) {
	for _, s := range manySizes {
		w := &twin{size: s.want}
		w.alike(t, column.New(s.n), fmt.Sprintf("New(%d)", s.n))
	}
}

func TestNewHasTheNearestSize(t *testing.T) {
	for _, s := range manySizes {
		c := column.New(s.n)
		for n := range 130 {
			want := api.ErrSize
			if n == s.want {
				want = api.OK
			}
			adds(t, c, make([]byte, n), want)
		}
		if c.Len() != 1 || len(c.Bytes()) != s.want || c.Size() != s.want {
			t.Errorf("New(%d): Len %d, %d bytes, Size %d", s.n, c.Len(), len(c.Bytes()), c.Size())
		}
	}
}

func TestNewOfEachSize(t *testing.T) {
	for n := -70; n <= 140; n++ {
		if got, want := column.New(n).Size(), min(max(n, 0), 64); got != want {
			t.Errorf("New(%d) has rows of %d, not of %d", n, got, want)
		}
	}
}

// P8.1: Load

func TestLoadHasTheseRows(t *testing.T) {
	g := chance(1)
	for _, s := range manySizes {
		for _, rows := range manyRows {
			b := g.data(rows * s.want)
			w := &twin{size: s.want, rows: cut(b, s.want, rows)}
			w.alike(t, load(t, s.n, rows, b), fmt.Sprintf("Load(%d, %d)", s.n, rows))
		}
	}
}

func TestLoadOfEachNumberOfRows(t *testing.T) {
	b := slices.Repeat([]byte{9}, 3*1040)
	for rows := -16; rows <= 1040; rows++ {
		if rows < 0 || rows > 1024 {
			none(t, 3, rows, b[:3*max(rows, 0)])
			none(t, 0, rows, nil)
			continue
		}
		if c := load(t, 3, rows, b[:3*rows]); c.Len() != rows {
			t.Errorf("Load of %d rows has %d", rows, c.Len())
		}
		if c := load(t, 0, rows, nil); c.Len() != rows || len(c.Bytes()) != 0 {
			t.Errorf("Load of %d rows without bytes has %d", rows, c.Len())
		}
	}
}

func TestLoadOfAsManyBytesAsAllRowsHave(t *testing.T) {
	for size := range 65 {
		for _, rows := range manyRows {
			n := size * rows
			load(t, size, rows, make([]byte, n))
			none(t, size, rows, make([]byte, n+1))
			none(t, size, rows, make([]byte, n+size+1))
			if n > 0 {
				none(t, size, rows, make([]byte, n-1))
				none(t, size, rows, nil)
				none(t, size, rows, make([]byte, n-size))
				none(t, size, rows, make([]byte, n+size))
				none(t, size, rows, make([]byte, 2*n))
			}
		}
	}
}

func TestLoadOfSmallOnesOfAllLengths(t *testing.T) {
	for size := -3; size <= 7; size++ {
		for rows := -3; rows <= 7; rows++ {
			for n := range 60 {
				if has := max(size, 0); rows >= 0 && n == rows*has {
					load(t, size, rows, make([]byte, n))
				} else {
					none(t, size, rows, make([]byte, n))
				}
			}
		}
	}
}

func TestLoadOfRowsThatMayNotBe(t *testing.T) {
	for _, rows := range []int{math.MinInt, math.MinInt + 1, -1 << 58, -1 << 32, -1024, -65, -64, -2, -1, 1025, 1026, 2048, 1 << 16, 1 << 32, 1<<32 + 1, 1 << 57, 1 << 58, 1 << 60, 1 << 61, 1 << 62, math.MaxInt - 1, math.MaxInt} {
		for _, s := range manySizes {
			for _, n := range []int{0, 1, s.want, 2 * s.want, 1024 * s.want, 1025 * s.want} {
				none(t, s.n, rows, make([]byte, n))
			}
		}
	}
}

func TestLoadTakesTheBytesOfTheNearestSize(t *testing.T) {
	g := chance(5)
	b := g.data(65 * 4)
	has(t, load(t, 65, 4, b[:64*4]), 64, cut(b, 64, 4)...)
	has(t, load(t, math.MaxInt, 3, b[:64*3]), 64, cut(b, 64, 3)...)
	none(t, 65, 4, b)
	has(t, load(t, -1, 4, nil), 0, "", "", "", "")
	has(t, load(t, math.MinInt, 2, []byte{}), 0, "", "")
	none(t, -1, 1, b[:1])
	none(t, -1, 4, b[:4])
	none(t, math.MinInt, 2, b[:2])
}

// P8.1: Size, Len, Bytes

func TestSizeLenAndBytesStepByStep(t *testing.T) {
	c := column.New(2)
	has(t, c, 2)
	adds(t, c, []byte("ab"), api.OK)
	has(t, c, 2, "ab")
	adds(t, c, []byte("cd"), api.OK)
	adds(t, c, []byte("ef"), api.OK)
	has(t, c, 2, "ab", "cd", "ef")
	sets(t, c, 1, []byte("CD"), api.OK)
	has(t, c, 2, "ab", "CD", "ef")
	drops(t, c, 0, api.OK)
	has(t, c, 2, "ef", "CD")
	adds(t, c, []byte("gh"), api.OK)
	has(t, c, 2, "ef", "CD", "gh")
	drops(t, c, 2, api.OK)
	has(t, c, 2, "ef", "CD")
	drops(t, c, 0, api.OK)
	has(t, c, 2, "CD")
	drops(t, c, 0, api.OK)
	has(t, c, 2)
	adds(t, c, []byte("ij"), api.OK)
	has(t, c, 2, "ij")
}

func TestAllCallsOnNil(t *testing.T) {
	var c *column.Column
	for _, i := range append([]int{0, 1}, far...) {
		row, e := c.Get(i)
		if len(row) != 0 || e != api.ErrNil || c.Drop(i) != api.ErrNil {
			t.Errorf("Get(%d) and Drop of nil: %v, %d, %d", i, row, int(e), int(c.Drop(i)))
		}
		for _, data := range [][]byte{nil, {}, {1}, make([]byte, 64), make([]byte, 65)} {
			if e := c.Set(i, data); e != api.ErrNil {
				t.Errorf("Set(%d) of nil, %d bytes: error %d", i, len(data), int(e))
			}
			if e := c.Add(data); e != api.ErrNil {
				t.Errorf("Add to nil, %d bytes: error %d", len(data), int(e))
			}
		}
	}
	if c.Size() != 0 || c.Len() != 0 || len(c.Bytes()) != 0 {
		t.Error("of nil:", c.Size(), c.Len(), c.Bytes())
	}
}

// P8.2: Add

func TestAddOfEachLength(t *testing.T) {
	g := chance(2)
	for size := range 65 {
		c, w := column.New(size), &twin{size: size}
		for range 3 {
			for n := range 131 {
				data := g.data(n)
				adds(t, c, data, w.add(string(data)))
			}
		}
		w.alike(t, c, fmt.Sprint("rows of ", size))
	}
}

func TestAddOfNothing(t *testing.T) {
	for _, s := range manySizes {
		want := api.ErrSize
		if s.want == 0 {
			want = api.OK
		}
		for _, nothing := range [][]byte{nil, {}, make([]byte, 0, 64), spare(nil)} {
			adds(t, column.New(s.n), nothing, want)
			c := load(t, s.n, 2, make([]byte, 2*s.want))
			adds(t, c, nothing, want)
		}
	}
}

func TestAddUpToAllRows(t *testing.T) {
	g := chance(3)
	for _, size := range []int{0, 1, 2, 8, 63, 64} {
		c, w := column.New(size), &twin{size: size}
		for i := range 1024 {
			data := g.data(size)
			if e, want := c.Add(data), w.add(string(data)); e != api.OK || want != api.OK || c.Len() != i+1 {
				t.Fatalf("Add of row %d: error %d, Len %d", i, int(e), c.Len())
			}
		}
		w.alike(t, c, fmt.Sprint("all rows of ", size))
		for range 3 {
			adds(t, c, g.data(size), api.ErrFull)
		}
		w.alike(t, c, fmt.Sprint("one row too many, of ", size))
		data := string(g.data(size))
		sets(t, c, 1023, []byte(data), w.set(1023, data))
		drops(t, c, 500, w.drop(500))
		adds(t, c, []byte(data), w.add(data))
		adds(t, c, []byte(data), api.ErrFull)
		w.alike(t, c, fmt.Sprint("all rows again, of ", size))
	}
}

func TestAddToAllRowsThatWereLoaded(t *testing.T) {
	for _, s := range manySizes {
		for _, rows := range []int{1022, 1023, 1024} {
			c := load(t, s.n, rows, make([]byte, rows*s.want))
			for range 1024 - rows {
				adds(t, c, make([]byte, s.want), api.OK)
			}
			adds(t, c, make([]byte, s.want), api.ErrFull)
			if c.Len() != 1024 || len(c.Bytes()) != 1024*s.want {
				t.Errorf("Load(%d, %d) and Add: Len %d, %d bytes", s.n, rows, c.Len(), len(c.Bytes()))
			}
		}
	}
}

// P8.2: Set and Get

func TestSetOfEachRow(t *testing.T) {
	g := chance(4)
	for _, size := range []int{0, 1, 2, 5, 64} {
		for _, rows := range []int{1, 2, 3, 9, 1024} {
			b := g.data(size * rows)
			c, w := load(t, size, rows, b), &twin{size: size, rows: cut(b, size, rows)}
			for i := range rows {
				data := string(g.data(size))
				if e, want := c.Set(i, []byte(data)), w.set(i, data); e != api.OK || want != api.OK {
					t.Fatalf("Set(%d) of %d rows: error %d", i, rows, int(e))
				}
				if rows < 10 || i%100 == 0 {
					w.alike(t, c, fmt.Sprintf("Set(%d) of %d rows of %d", i, rows, size))
				}
			}
			w.alike(t, c, fmt.Sprintf("%d rows of %d, all set", rows, size))
		}
	}
}

func TestSetOfOneByteOfEachRow(t *testing.T) {
	for _, size := range []int{1, 2, 3, 64} {
		for i := range 5 {
			for at := range size {
				c, w := load(t, size, 5, make([]byte, 5*size)), &twin{size: size, rows: cut(make([]byte, 5*size), size, 5)}
				data := make([]byte, size)
				data[at] = 255
				sets(t, c, i, data, w.set(i, string(data)))
				w.alike(t, c, fmt.Sprintf("byte %d of row %d, of %d", at, i, size))
			}
		}
	}
}

func TestWhereThereIsNoRow(t *testing.T) {
	for _, s := range manySizes {
		for _, rows := range []int{0, 1, 2, 5, 1023, 1024} {
			c := load(t, s.n, rows, make([]byte, rows*s.want))
			for _, i := range []int{rows, rows + 1, rows + 2, -1, -2, -rows, -rows - 1, math.MinInt, math.MaxInt} {
				if i >= 0 && i < rows {
					continue
				}
				lacks(t, c, i)
				sets(t, c, i, make([]byte, s.want), api.ErrRange)
				drops(t, c, i, api.ErrRange)
			}
		}
	}
}

func TestNoRowAtFarPlaces(t *testing.T) {
	for _, size := range []int{0, 1, 2, 64} {
		for _, rows := range []int{0, 1, 3} {
			c := load(t, size, rows, make([]byte, rows*size))
			for _, i := range far {
				lacks(t, c, i)
				sets(t, c, i, make([]byte, size), api.ErrRange)
				drops(t, c, i, api.ErrRange)
			}
		}
	}
}

func TestSetOfEachLength(t *testing.T) {
	g := chance(6)
	for size := range 65 {
		b := g.data(3 * size)
		c, w := load(t, size, 3, b), &twin{size: size, rows: cut(b, size, 3)}
		for n := range 131 {
			for _, i := range []int{0, 1, 2} {
				data := g.data(n)
				want := w.set(i, string(data))
				if (want == api.OK) != (n == size) {
					t.Fatal("the twin is wrong")
				}
				sets(t, c, i, data, want)
			}
		}
		w.alike(t, c, fmt.Sprint("rows of ", size))
	}
}

// P8.2: Drop

func TestDropOfEachRow(t *testing.T) {
	g := chance(7)
	for _, size := range []int{0, 1, 2, 3, 63, 64} {
		for rows := 1; rows <= 9; rows++ {
			for i := range rows {
				b := g.data(rows * size)
				c, w := load(t, size, rows, b), &twin{size: size, rows: cut(b, size, rows)}
				drops(t, c, i, w.drop(i))
				w.alike(t, c, fmt.Sprintf("Drop(%d) of %d rows of %d", i, rows, size))
			}
		}
	}
}

func TestDropOfRowsOfAllThatMayBe(t *testing.T) {
	g := chance(8)
	for _, size := range []int{0, 1, 64} {
		for _, i := range []int{0, 1, 511, 512, 1021, 1022, 1023} {
			b := g.data(1024 * size)
			c, w := load(t, size, 1024, b), &twin{size: size, rows: cut(b, size, 1024)}
			drops(t, c, i, w.drop(i))
			w.alike(t, c, fmt.Sprintf("Drop(%d) of all rows of %d", i, size))
			drops(t, c, 1023, api.ErrRange)
		}
	}
}

func TestDropOfTheOnlyRow(t *testing.T) {
	for _, s := range manySizes {
		c := column.New(s.n)
		for range 3 {
			adds(t, c, slices.Repeat([]byte{5}, s.want), api.OK)
			drops(t, c, 1, api.ErrRange)
			drops(t, c, 0, api.OK)
			has(t, c, s.want)
			drops(t, c, 0, api.ErrRange)
			lacks(t, c, 0)
			sets(t, c, 0, make([]byte, s.want), api.ErrRange)
		}
	}
}

func TestDropUntilThereIsNone(t *testing.T) {
	for seed := range 40 {
		g := chance(seed)
		size, rows := one(&g, []int{0, 1, 2, 7, 64}), 1+g.below(40)
		b := g.data(rows * size)
		c, w := load(t, size, rows, b), &twin{size: size, rows: cut(b, size, rows)}
		for range rows {
			i := one(&g, []int{0, c.Len() - 1, c.Len() / 2, g.below(c.Len())})
			drops(t, c, i, w.drop(i))
			w.alike(t, c, fmt.Sprint("run ", seed))
		}
		has(t, c, size)
		drops(t, c, 0, api.ErrRange)
	}
}

func TestTheLastRowIsGoneBehindADrop(t *testing.T) {
	c := load(t, 2, 3, []byte("abcdef"))
	drops(t, c, 2, api.OK)
	lacks(t, c, 2)
	sets(t, c, 2, []byte("xy"), api.ErrRange)
	drops(t, c, 2, api.ErrRange)
	adds(t, c, []byte("gh"), api.OK)
	has(t, c, 2, "ab", "cd", "gh")
}

// P8.2: which error is told first

func TestWhichErrorIsToldFirst(t *testing.T) {
	full := load(t, 3, 1024, make([]byte, 3*1024))
	for _, n := range []int{0, 1, 2, 4, 64, 65} {
		adds(t, full, make([]byte, n), api.ErrSize) // it is full, too
	}
	adds(t, full, make([]byte, 3), api.ErrFull)
	bare := load(t, 0, 1024, nil)
	adds(t, bare, make([]byte, 1), api.ErrSize)
	adds(t, bare, nil, api.ErrFull)
	for _, c := range []*column.Column{full, bare, column.New(3), load(t, 3, 2, make([]byte, 6))} {
		for _, n := range []int{1, 2, 4, 65} {
			sets(t, c, c.Len(), make([]byte, n), api.ErrRange) // data is of another length, too
			sets(t, c, -1, make([]byte, n), api.ErrRange)
			sets(t, c, math.MaxInt, make([]byte, n), api.ErrRange)
		}
	}
	var nobody *column.Column
	if nobody.Set(-1, make([]byte, 65)) != api.ErrNil || nobody.Drop(-1) != api.ErrNil || nobody.Add(make([]byte, 65)) != api.ErrNil {
		t.Error("of nil another error is told first")
	}
}

// P8.3

func TestTheDocumentsExample(t *testing.T) {
	c := column.New(2)
	adds(t, c, []byte{1, 2}, api.OK)
	adds(t, c, []byte{3, 4}, api.OK)
	adds(t, c, []byte{5, 6}, api.OK)
	drops(t, c, 0, api.OK)
	if !bytes.Equal(c.Bytes(), []byte{5, 6, 3, 4}) || c.Len() != 2 {
		t.Error(c.Bytes(), c.Len())
	}
}

func TestBytesAreTheRowsOneBehindTheOther(t *testing.T) {
	g := chance(9)
	for size := range 65 {
		c := column.New(size)
		for range 20 {
			adds(t, c, g.data(size), api.OK)
			var all []byte
			for i := range c.Len() {
				row, e := c.Get(i)
				if len(row) != size || e != api.OK {
					t.Fatalf("Get(%d) of %d rows of %d: %v, error %d", i, c.Len(), size, row, int(e))
				}
				all = append(all, row...)
			}
			if !bytes.Equal(all, c.Bytes()) {
				t.Fatalf("rows of %d: Bytes %s, not %s", size, brief(c.Bytes()), brief(all))
			}
		}
	}
}

func TestAllRowsButTheDroppedOneAreThere(t *testing.T) {
	g := chance(10)
	for run := range 60 {
		c, left := column.New(2), map[string]bool{}
		for n := range 1 + g.below(50) {
			row := string([]byte{byte(run), byte(n)})
			adds(t, c, []byte(row), api.OK)
			left[row] = true
		}
		for c.Len() > 0 {
			i := g.below(c.Len())
			row, _ := c.Get(i)
			drops(t, c, i, api.OK)
			delete(left, string(row))
			if c.Len() != len(left) {
				t.Fatalf("run %d: %d rows, not %d", run, c.Len(), len(left))
			}
			for k := range c.Len() {
				if row, _ := c.Get(k); !left[string(row)] {
					t.Fatalf("run %d: row %d is %v, which was dropped", run, k, row)
				}
			}
		}
	}
}

// step: one mixed call, on all of these and on their twin.
func step(t *testing.T, g *chance, w *twin, name string, all ...*column.Column) {
	t.Helper()
	data := g.data(one(g, []int{w.size, w.size, w.size, w.size, max(w.size-1, 0), w.size + 1, 0}))
	i := one(g, []int{g.below(len(w.rows) + 1), g.below(len(w.rows) + 1), g.below(len(w.rows) + 1), 0, len(w.rows) - 1, len(w.rows), -1, g.below(2000)})
	do := g.below(8)
	was := *w
	was.rows = slices.Clone(w.rows)
	for _, c := range all {
		*w = was
		w.rows = slices.Clone(was.rows)
		var got, want api.Errno
		switch {
		case do < 3:
			got, want = c.Add(data), w.add(string(data))
		case do < 6:
			got, want = c.Set(i, data), w.set(i, string(data))
		default:
			got, want = c.Drop(i), w.drop(i)
		}
		if got != want {
			t.Fatalf("%s: call %d at %d of %d bytes: error %d, not %d", name, do, i, len(data), int(got), int(want))
		}
		w.sums(t, c, name)
	}
}

func TestLongRuns(t *testing.T) {
	for seed := range 60 {
		g := chance(seed)
		s := one(&g, manySizes)
		c, w := column.New(s.n), &twin{size: s.want}
		for turn := range 300 {
			step(t, &g, w, fmt.Sprint("run ", seed, ", turn ", turn), c)
			if turn%10 == 0 {
				w.alike(t, c, fmt.Sprint("run ", seed, ", turn ", turn))
			}
		}
		w.alike(t, c, fmt.Sprint("run ", seed))
	}
}

func TestLongRunsWhereAlmostAllRowsAreThere(t *testing.T) {
	for seed := range 8 {
		g := chance(seed)
		size := []int{0, 1, 3, 64}[seed%4]
		rows := 1020 + g.below(5)
		b := g.data(rows * size)
		c, w := load(t, size, rows, b), &twin{size: size, rows: cut(b, size, rows)}
		for turn := range 60 {
			step(t, &g, w, fmt.Sprint("run ", seed, ", turn ", turn), c)
		}
		w.alike(t, c, fmt.Sprint("run ", seed))
	}
}

func TestLoadGoesOnTheSame(t *testing.T) {
	for seed := range 80 {
		g := chance(seed)
		s := one(&g, manySizes)
		first, w := column.New(s.n), &twin{size: s.want}
		for range g.below(60) {
			step(t, &g, w, fmt.Sprint("run ", seed), first)
		}
		was := told(first)
		second := load(t, s.n, first.Len(), first.Bytes())
		if told(first) != was || told(second) != was {
			t.Fatalf("run %d: %s and %s, not %s", seed, brief([]byte(told(first))), brief([]byte(told(second))), brief([]byte(was)))
		}
		for turn := range 60 {
			step(t, &g, w, fmt.Sprint("run ", seed, ", turn ", turn), first, second)
		}
		w.alike(t, first, fmt.Sprint("run ", seed, ", the first one"))
		w.alike(t, second, fmt.Sprint("run ", seed, ", the loaded one"))
	}
}

func TestWhatWasLoadedAddsSetsTellsAndDrops(t *testing.T) {
	for _, s := range manySizes {
		for _, rows := range []int{0, 1, 2, 1023} {
			g := chance(rows)
			b := g.data(rows * s.want)
			c, w := load(t, s.n, rows, b), &twin{size: s.want, rows: cut(b, s.want, rows)}
			data, other := string(g.data(s.want)), string(g.data(s.want))
			adds(t, c, []byte(data), w.add(data))
			w.gets(t, c, rows, "the row that was added")
			sets(t, c, 0, []byte(other), w.set(0, other))
			w.gets(t, c, 0, "the row that was set")
			w.sums(t, c, "added and set")
			adds(t, c, make([]byte, s.want+1), api.ErrSize)
			sets(t, c, 0, make([]byte, s.want+1), api.ErrSize)
			drops(t, c, 0, w.drop(0))
			w.alike(t, c, fmt.Sprintf("Load(%d, %d)", s.n, rows))
		}
	}
}

// What holds everywhere

func TestArgumentsStayAsTheyAre(t *testing.T) {
	for size := range 65 {
		g := chance(size)
		for n := range 131 {
			want := g.data(n)
			for _, call := range []func([]byte){
				func(b []byte) { column.Load(size, 2, b) },
				func(b []byte) { column.Load(size, 1, b) },
				func(b []byte) { column.Load(size, -1, b) },
				func(b []byte) { column.New(size).Add(b) },
				func(b []byte) { load(t, size, 3, make([]byte, 3*size)).Set(1, b) },
				func(b []byte) { load(t, size, 3, make([]byte, 3*size)).Set(3, b) },
				func(b []byte) { (*column.Column)(nil).Add(b) },
			} {
				b := spare(want)
				call(b)
				if !untouched(b, want) {
					t.Fatalf("rows of %d: what was handed in was changed: %s", size, brief(b[:cap(b)]))
				}
			}
		}
	}
}

func TestNothingThatIsHandedInIsKept(t *testing.T) {
	for _, size := range []int{1, 2, 64} {
		g := chance(size)
		b := g.data(4 * size)
		w := &twin{size: size, rows: cut(b, size, 4)}
		handed := spare(b)
		c := load(t, size, 4, handed)
		overwrite(handed, 1)
		w.alike(t, c, "Load, and its bytes overwritten")
		adding, setting := spare(g.data(size)), spare(g.data(size))
		adds(t, c, adding, w.add(string(adding)))
		sets(t, c, 2, setting, w.set(2, string(setting)))
		overwrite(adding, 2)
		overwrite(setting, 3)
		w.alike(t, c, "Add and Set, and their data overwritten")
	}
}

func TestLaterCallsChangeNothingThatWasHandedIn(t *testing.T) {
	for _, size := range []int{0, 1, 2, 64} {
		g := chance(size)
		b, d := g.data(3*size), g.data(size)
		handed, added := spare(b), spare(d)
		c := load(t, size, 3, handed)
		c.Add(added)
		for range 5 {
			c.Add(g.data(size))
		}
		for i := range c.Len() {
			c.Set(i, g.data(size))
		}
		for c.Len() > 0 {
			c.Drop(c.Len() / 2)
		}
		c.Add(g.data(size))
		if !untouched(handed, b) || !untouched(added, d) {
			t.Errorf("rows of %d: later calls changed what was handed in", size)
		}
	}
}

func TestAnswersAreNewMemory(t *testing.T) {
	for _, size := range []int{0, 1, 2, 64} {
		g := chance(size)
		c, w := column.New(size), &twin{size: size}
		for turn := range 120 {
			name := fmt.Sprint("rows of ", size, ", turn ", turn)
			step(t, &g, w, name, c)
			all, row := c.Bytes(), []byte(nil)
			if c.Len() > 0 {
				row, _ = c.Get(g.below(c.Len()))
				overwrite(row, 9)
			}
			overwrite(all, 8)
			overwrite(c.Bytes(), 7)
			w.alike(t, c, name+", answers overwritten")
			if bytes.ContainsFunc(row, func(r rune) bool { return r != 9 }) {
				t.Fatalf("%s: an answer was overwritten by another one", name)
			}
		}
	}
}

func TestAnswersStayAsTheyAre(t *testing.T) {
	c := load(t, 2, 3, []byte("abcdef"))
	all := c.Bytes()
	first, _ := c.Get(0)
	last, _ := c.Get(2)
	sets(t, c, 0, []byte("AB"), api.OK)
	sets(t, c, 2, []byte("EF"), api.OK)
	adds(t, c, []byte("gh"), api.OK)
	drops(t, c, 0, api.OK)
	drops(t, c, 0, api.OK)
	adds(t, c, []byte("ij"), api.OK)
	if string(all) != "abcdef" || string(first) != "ab" || string(last) != "ef" {
		t.Errorf("later calls changed answers: %s, %s, %s", all, first, last)
	}
}

func TestAnAnswerMayBeHandedIn(t *testing.T) {
	c := load(t, 2, 3, []byte("abcdef"))
	row, _ := c.Get(1)
	adds(t, c, row, api.OK)
	sets(t, c, 0, row, api.OK)
	has(t, c, 2, "cd", "cd", "ef", "cd")
	overwrite(row, 'x')
	has(t, c, 2, "cd", "cd", "ef", "cd")
	all := c.Bytes()
	other := load(t, 4, 2, all)
	sets(t, c, 3, all[2:4], api.OK)
	adds(t, c, all[4:6], api.OK)
	has(t, c, 2, "cd", "cd", "ef", "cd", "ef")
	has(t, other, 4, "cdcd", "efcd")
}

func TestTwoOfThemAreApart(t *testing.T) {
	b := []byte("abcdef")
	x, y := load(t, 2, 3, b), load(t, 2, 3, b)
	sets(t, x, 0, []byte("xx"), api.OK)
	drops(t, x, 1, api.OK)
	adds(t, x, []byte("yy"), api.OK)
	has(t, y, 2, "ab", "cd", "ef")
	has(t, x, 2, "xx", "ef", "yy")
	p, q := column.New(1), column.New(1)
	adds(t, p, []byte{1}, api.OK)
	adds(t, q, []byte{2}, api.OK)
	has(t, p, 1, "\x01")
	has(t, q, 1, "\x02")
}

func TestNilAndEmptyAreAlike(t *testing.T) {
	for _, nothing := range [][]byte{nil, {}, spare(nil)} {
		has(t, load(t, 5, 0, nothing), 5)
		has(t, load(t, 0, 2, nothing), 0, "", "")
		none(t, 5, 1, nothing)
		c := load(t, 0, 1, nothing)
		sets(t, c, 0, nothing, api.OK)
		adds(t, c, nothing, api.OK)
		has(t, c, 0, "", "")
		d := load(t, 5, 1, []byte("abcde"))
		sets(t, d, 0, nothing, api.ErrSize)
		adds(t, d, nothing, api.ErrSize)
	}
}

func TestZeroValueEnds(t *testing.T) {
	c := &column.Column{}
	for i := -2; i < 3; i++ {
		c.Get(i)
		c.Set(i, []byte{1})
		c.Drop(i)
		c.Add(nil)
		c.Add([]byte{1})
	}
	c.Size()
	c.Len()
	c.Bytes()
}

func TestTheSameCallsTellTheSame(t *testing.T) {
	run := func() string {
		c, w, g := column.New(6), &twin{size: 6}, chance(77)
		for range 200 {
			step(t, &g, w, "the same calls", c)
		}
		return told(c)
	}
	first := run()
	for range 20 {
		if run() != first {
			t.Fatal("the same calls on two of them tell not the same")
		}
	}
}
