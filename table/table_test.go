package table_test

import (
	"bytes"
	"fmt"
	"math"
	"slices"
	"strings"
	"testing"

	"vivarium/api"
	"vivarium/table"
)

// chance: numbers that look mixed, the same ones for the same seed.
type chance uint64

// below: the next number from 0 on, below n.
func (c *chance) below(n int) int {
	*c = *c*6364136223846793005 + 1442695040888963407
	return int(uint64(*c)>>33) % n
}

// one: the next one of l.
func one[T any](c *chance, l []T) T {
	return l[c.below(len(l))]
}

// data: n mixed bytes, none of them 0.
func (c *chance) data(n int) []byte {
	out := make([]byte, n)
	for i := range out {
		out[i] = byte(1 + c.below(255))
	}
	return out
}

// id: a mixed name.
func (c *chance) id() api.ID {
	return api.ID{Index: c.below(1 << 30), Gen: c.below(1 << 30)}
}

// brief: a value as a text that is not too long to be read.
func brief(v any) string {
	s := fmt.Sprint(v)
	if len(s) > 300 {
		return fmt.Sprintf("%s.. (%d signs)", s[:300], len(s))
	}
	return s
}

// sized: a layout of components of these sizes.
func sized(l ...int) api.Conf {
	c := api.Conf{Log: 2, Pages: 4, Entities: 1024, Gens: 1}
	for i, n := range l {
		c.Comps = append(c.Comps, api.Comp{Name: fmt.Sprint("c", i), Size: n})
	}
	return c
}

// many: a layout of n components of sizes from 0 to 6.
func many(n int) api.Conf {
	var l []int
	for i := range n {
		l = append(l, (i*5+3)%7)
	}
	return sized(l...)
}

// layouts: of few components and of many, of all sizes, some of them more than comp.Check lets be.
func layouts() []api.Conf {
	return []api.Conf{
		{},
		sized(),
		sized(0),
		sized(1),
		sized(64),
		sized(1, 2, 0),
		sized(0, 0, 0),
		sized(64, 64),
		sized(-1, 65, 0, 64, 3),
		sized(math.MinInt, math.MaxInt, -64, 66, 128, 256, 1<<32+1, -1<<32),
		many(31),
		many(32),
		many(33),
		many(63),
		many(64),
		many(65),
		many(100),
	}
}

// sigs: sets of few components and of many.
func sigs() []uint64 {
	return []uint64{0, 1, 2, 3, 4, 5, 6, 7, 8, 0xff, 1 << 31, 1 << 32, 1 << 62, 1 << 63, 1<<32 - 1, 1<<64 - 1, 0xaaaaaaaaaaaaaaaa, 0x5555555555555555, 0x8000000100000001, 1<<63 | 2}
}

// far: numbers of rows and of components that there never are.
var far = []int{math.MinInt, math.MinInt + 1, -1 << 58, -1 << 32, -1025, -1024, -65, -64, -63, -2, -1, 1024, 1025, 1 << 16, 1 << 32, 1<<32 + 1, 1 << 57, 1 << 58, math.MaxInt - 1, math.MaxInt}

// part: a component's data.
func part(k int, data string) api.Part {
	return api.Part{Comp: k, Data: []byte(data)}
}

// zeros: n bytes 0.
func zeros(n int) string {
	return strings.Repeat("\x00", n)
}

// line: a row by the document's words.
type line struct {
	id   api.ID
	data map[int]string
}

// twin: a table by the document's words: rows, each with texts of its own.
type twin struct {
	sizes map[int]int // by component of the table
	rows  []line
}

// newTwin: the twin of New.
func newTwin(c api.Conf, sig uint64) *twin {
	w := &twin{sizes: map[int]int{}}
	for k := range 64 {
		if sig>>k%2 == 1 && k < len(c.Comps) {
			w.sizes[k] = min(max(c.Comps[k].Size, 0), 64)
		}
	}
	return w
}

// comps: the components, rising.
func (w *twin) comps() []int {
	var l []int
	for k := range 64 {
		if _, ok := w.sizes[k]; ok {
			l = append(l, k)
		}
	}
	return l
}

func (w *twin) sig() uint64 {
	var s uint64
	for _, k := range w.comps() {
		s += 1 << k
	}
	return s
}

func (w *twin) ids() []api.ID {
	var l []api.ID
	for _, r := range w.rows {
		l = append(l, r.id)
	}
	return l
}

func (w *twin) column(k int) (string, bool) {
	if _, ok := w.sizes[k]; !ok {
		return "", false
	}
	var s strings.Builder
	for _, r := range w.rows {
		s.WriteString(r.data[k])
	}
	return s.String(), true
}

// cols: all columns, as Load takes them.
func (w *twin) cols() [][]byte {
	var l [][]byte
	for _, k := range w.comps() {
		s, _ := w.column(k)
		l = append(l, []byte(s))
	}
	return l
}

func (w *twin) there(row int) bool {
	return row >= 0 && row < len(w.rows)
}

func (w *twin) add(id api.ID, parts []api.Part) api.Errno {
	if len(w.rows) >= 1024 {
		return api.ErrFull
	}
	given := map[int]string{}
	for _, p := range slices.Backward(parts) {
		given[p.Comp] = string(p.Data) // the first one last
	}
	r := line{id: id, data: map[int]string{}}
	for k, size := range w.sizes {
		data, ok := given[k]
		if !ok {
			data = zeros(size)
		}
		if len(data) != size {
			return api.ErrSize
		}
		r.data[k] = data
	}
	w.rows = append(w.rows, r)
	return api.OK
}

func (w *twin) get(row, k int) (string, api.Errno) {
	if !w.there(row) {
		return "", api.ErrRange
	}
	if _, ok := w.sizes[k]; !ok {
		return "", api.ErrLacks
	}
	return w.rows[row].data[k], api.OK
}

func (w *twin) set(row, k int, data string) api.Errno {
	if _, e := w.get(row, k); e != api.OK {
		return e
	}
	if len(data) != w.sizes[k] {
		return api.ErrSize
	}
	w.rows[row].data[k] = data
	return api.OK
}

func (w *twin) parts(row int) ([]api.Part, api.Errno) {
	if !w.there(row) {
		return nil, api.ErrRange
	}
	var l []api.Part
	for _, k := range w.comps() {
		l = append(l, part(k, w.rows[row].data[k]))
	}
	return l, api.OK
}

func (w *twin) drop(row int) (api.ID, bool, api.Errno) {
	if !w.there(row) {
		return api.ID{}, false, api.ErrRange
	}
	end := w.rows[len(w.rows)-1]
	w.rows = slices.Clone(w.rows[:len(w.rows)-1])
	if row == len(w.rows) {
		return api.ID{}, false, api.OK
	}
	w.rows[row] = end
	return end.id, true, api.OK
}

// copied: another twin that is as this one.
func (w *twin) copied() *twin {
	out := &twin{sizes: w.sizes}
	for _, r := range w.rows {
		data := map[int]string{}
		for k, s := range r.data {
			data[k] = s
		}
		out.rows = append(out.rows, line{id: r.id, data: data})
	}
	return out
}

// told: all that can be told of x.
func told(x *table.Table) string {
	var s strings.Builder
	fmt.Fprintln(&s, x.Sig(), x.Len(), x.IDs())
	for k := range 66 {
		b, ok := x.Column(k)
		fmt.Fprintln(&s, ok, len(b))
		s.Write(b)
	}
	return s.String()
}

// same: are these the same parts?
func same(a, b []api.Part) bool {
	return slices.EqualFunc(a, b, func(p, q api.Part) bool { return p.Comp == q.Comp && bytes.Equal(p.Data, q.Data) })
}

// pair: a table and its twin, which are asked the same.
type pair struct {
	t    *testing.T
	x    *table.Table
	w    *twin
	name string
}

// made: what New makes.
func made(t *testing.T, c api.Conf, sig uint64) *pair {
	t.Helper()
	p := &pair{t, table.New(c, sig), newTwin(c, sig), fmt.Sprintf("New(%s, %x)", brief(c.Comps), sig)}
	p.sums()
	return p
}

// loaded: what Load makes of what w has.
func loaded(t *testing.T, c api.Conf, w *twin) *pair {
	t.Helper()
	name := fmt.Sprintf("Load(%s, %x, %d ids)", brief(c.Comps), w.sig(), len(w.rows))
	x, e := table.Load(c, w.sig(), w.ids(), w.cols())
	if x == nil || e != api.OK {
		t.Fatalf("%s: error %d, nothing %v", name, int(e), x == nil)
	}
	p := &pair{t, x, w.copied(), name}
	p.sums()
	return p
}

// filled: a twin of so many mixed rows.
func filled(g *chance, c api.Conf, sig uint64, rows int) *twin {
	w := newTwin(c, sig)
	for range rows {
		r := line{id: g.id(), data: map[int]string{}}
		for _, k := range w.comps() {
			r.data[k] = string(g.data(w.sizes[k]))
		}
		w.rows = append(w.rows, r)
	}
	return w
}

// refused: Load tells ErrForm of these.
func refused(t *testing.T, c api.Conf, sig uint64, ids []api.ID, cols [][]byte) {
	t.Helper()
	if x, e := table.Load(c, sig, ids, cols); x != nil || e != api.ErrForm {
		t.Fatalf("Load(%s, %x, %d ids, %d cols): error %d, nothing %v", brief(c.Comps), sig, len(ids), len(cols), int(e), x == nil)
	}
}

// sums: Sig, Len, IDs, and the Column of each component.
func (p *pair) sums() {
	p.t.Helper()
	if p.x.Sig() != p.w.sig() || p.x.Len() != len(p.w.rows) || !slices.Equal(p.x.IDs(), p.w.ids()) {
		p.t.Fatalf("%s: %x, %d rows of %s; not %x, %d, %s", p.name, p.x.Sig(), p.x.Len(), brief(p.x.IDs()), p.w.sig(), len(p.w.rows), brief(p.w.ids()))
	}
	for k := -2; k < 67; k++ {
		p.column(k)
	}
}

func (p *pair) column(k int) {
	p.t.Helper()
	got, ok := p.x.Column(k)
	want, is := p.w.column(k)
	if string(got) != want || ok != is {
		p.t.Fatalf("%s: Column(%d) = %s, %v; not %s, %v", p.name, k, brief(got), ok, brief([]byte(want)), is)
	}
}

// whole: all that can be asked: of each row, and of places where there is none.
func (p *pair) whole() {
	p.t.Helper()
	p.sums()
	n := len(p.w.rows)
	for row := range n {
		p.parts(api.OK, row)
		for k := -1; k < 65; k++ {
			_, e := p.w.get(row, k)
			p.gets(e, row, k)
		}
	}
	for _, row := range append([]int{n, n + 1}, far...) {
		p.parts(api.ErrRange, row)
		for _, k := range []int{-1, 0, 1, 63, 64} {
			p.gets(api.ErrRange, row, k)
		}
	}
	for _, k := range far {
		p.column(k)
		if n > 0 {
			p.gets(api.ErrLacks, 0, k)
			p.gets(api.ErrLacks, n-1, k)
		}
	}
}

// tells: this call told that error, which its twin tells, too; and if it is one, all is as it was.
func (p *pair) tells(name string, want, twins api.Errno, call func() api.Errno) {
	p.t.Helper()
	if twins != want {
		p.t.Fatalf("%s: %s: the twin tells %d, not %d", p.name, name, int(twins), int(want))
	}
	if want == api.OK {
		if e := call(); e != want {
			p.t.Fatalf("%s: %s: error %d", p.name, name, int(e))
		}
		return
	}
	was := told(p.x)
	if e := call(); e != want {
		p.t.Fatalf("%s: %s: error %d, not %d", p.name, name, int(e), int(want))
	}
	if told(p.x) != was {
		p.t.Fatalf("%s: %s: %s, not %s as before", p.name, name, brief([]byte(told(p.x))), brief([]byte(was)))
	}
}

func (p *pair) adds(want api.Errno, id api.ID, parts ...api.Part) {
	p.t.Helper()
	p.tells(fmt.Sprintf("Add of %s", brief(parts)), want, p.w.add(id, parts), func() api.Errno { return p.x.Add(id, parts) })
}

func (p *pair) sets(want api.Errno, row, k int, data string) {
	p.t.Helper()
	p.tells(fmt.Sprintf("Set(%d, %d) of %d bytes", row, k, len(data)), want, p.w.set(row, k, data), func() api.Errno { return p.x.Set(row, k, []byte(data)) })
}

func (p *pair) gets(want api.Errno, row, k int) {
	p.t.Helper()
	data, twins := p.w.get(row, k)
	got, e := p.x.Get(row, k)
	if e != want || twins != want || string(got) != data {
		p.t.Fatalf("%s: Get(%d, %d) = %v, error %d; not %v, %d, and %d of the twin", p.name, row, k, got, int(e), []byte(data), int(want), int(twins))
	}
}

func (p *pair) parts(want api.Errno, row int) {
	p.t.Helper()
	l, twins := p.w.parts(row)
	got, e := p.x.Parts(row)
	if e != want || twins != want || !same(got, l) {
		p.t.Fatalf("%s: Parts(%d) = %s, error %d; not %s, %d, and %d of the twin", p.name, row, brief(got), int(e), brief(l), int(want), int(twins))
	}
}

func (p *pair) drops(want api.Errno, row int) {
	p.t.Helper()
	id, is, twins := p.w.drop(row)
	p.tells(fmt.Sprintf("Drop(%d)", row), want, twins, func() api.Errno {
		moved, ok, e := p.x.Drop(row)
		if moved != id || ok != is {
			p.t.Fatalf("%s: Drop(%d) = %v, %v; not %v, %v", p.name, row, moved, ok, id, is)
		}
		return e
	})
}

// number: the name with that index.
func number(i int) api.ID {
	return api.ID{Index: i, Gen: 1}
}

// P9.1: New

func TestNewHasTheComponentsThatTheLayoutHas(t *testing.T) {
	for _, c := range layouts() {
		for _, sig := range sigs() {
			p := made(t, c, sig)
			p.whole()
			var want uint64
			for k := range min(len(c.Comps), 64) {
				want |= sig & (1 << k)
			}
			if p.x.Sig() != want {
				t.Errorf("%s: Sig %x, not %x", p.name, p.x.Sig(), want)
			}
		}
	}
}

func TestNewOfSetsOfASmallLayout(t *testing.T) {
	c := sized(1, 2, 0)
	for _, s := range []struct{ sig, want uint64 }{
		{0, 0}, {1, 1}, {2, 2}, {5, 5}, {7, 7}, // that it has
		{8, 0}, {1 << 63, 0}, {0xf8, 0}, // that it has not
		{9, 1}, {0xff, 7}, {0xfe, 6}, {1<<64 - 1, 7}, {1<<63 | 2, 2}, // both
	} {
		if got := table.New(c, s.sig).Sig(); got != s.want {
			t.Errorf("New with %x has %x, not %x", s.sig, got, s.want)
		}
	}
	for _, sig := range sigs() {
		if got := table.New(api.Conf{}, sig).Sig(); got != 0 {
			t.Errorf("New with %x of no components has %x", sig, got)
		}
		if got := table.New(many(64), sig).Sig(); got != sig {
			t.Errorf("New with %x of 64 components has %x", sig, got)
		}
	}
}

func TestNewAsksNothingElseOfTheLayout(t *testing.T) {
	comps := []api.Comp{{Name: "", Size: 1}, {Name: "NO NAME", Size: 2}, {Name: "NO NAME", Size: 3}}
	for _, c := range []api.Conf{
		{Comps: comps},
		{Log: -1, Pages: math.MinInt, Entities: -5, Gens: -5, Comps: comps},
		{Log: 1 << 40, Pages: math.MaxInt, Entities: 1, Gens: 1, Comps: comps},
	} {
		p := made(t, c, 7)
		p.adds(api.OK, number(1), part(0, "a"), part(1, "bb"), part(2, "ccc"))
		p.adds(api.OK, number(1)) // more than Entities lets be, and a name twice
		p.whole()
	}
}

func TestNewTakesTheNearestSize(t *testing.T) {
	for _, s := range []struct{ n, want int }{
		{math.MinInt, 0}, {-1 << 32, 0}, {-64, 0}, {-2, 0}, {-1, 0}, {0, 0}, {1, 1}, {2, 2}, {32, 32}, {63, 63}, {64, 64}, {65, 64}, {66, 64}, {128, 64}, {1 << 32, 64}, {1<<32 + 1, 64}, {math.MaxInt, 64},
	} {
		for n := range 130 {
			want := api.ErrSize
			if n == s.want {
				want = api.OK
			}
			p := made(t, sized(3, s.n, 3), 7)
			p.adds(want, number(1), part(1, string(make([]byte, n))))
			q := made(t, sized(3, s.n, 3), 2)
			q.adds(api.OK, number(1))
			q.sets(want, 0, 1, strings.Repeat("x", n))
			q.whole()
		}
	}
}

// P9.1: Load

func TestLoadHasTheseRows(t *testing.T) {
	g := chance(1)
	for _, c := range layouts() {
		for _, sig := range sigs() {
			for _, rows := range []int{0, 1, 2, 5} {
				loaded(t, c, filled(&g, c, sig, rows)).whole()
			}
		}
	}
}

func TestLoadOfManyRows(t *testing.T) {
	g := chance(2)
	for _, c := range []api.Conf{sized(), sized(0), sized(64), sized(1, 2, 0), sized(-1, 65)} {
		for _, rows := range []int{63, 64, 65, 255, 256, 1023, 1024} {
			loaded(t, c, filled(&g, c, 1<<64-1, rows)).whole()
		}
	}
}

func TestLoadOfTooManyRows(t *testing.T) {
	for _, c := range []api.Conf{sized(), sized(0), sized(1), sized(64), sized(1, 0, 2)} {
		for _, rows := range []int{1023, 1024, 1025, 1026, 2048, 4096} {
			w, ids := newTwin(c, 7), make([]api.ID, rows)
			var cols [][]byte
			for _, k := range w.comps() {
				cols = append(cols, make([]byte, rows*w.sizes[k]))
			}
			if rows > 1024 {
				refused(t, c, w.sig(), ids, cols)
				continue
			}
			if x, e := table.Load(c, w.sig(), ids, cols); e != api.OK || x.Len() != rows {
				t.Errorf("Load of %d rows: error %d, Len %d", rows, int(e), x.Len())
			}
		}
	}
}

func TestLoadOfComponentsThatTheLayoutHasNot(t *testing.T) {
	for _, n := range []int{0, 1, 2, 3, 31, 32, 33, 63} {
		c := sized(make([]int, n)...)
		for k := n; k < 64; k++ {
			for _, ids := range [][]api.ID{nil, {number(1)}} {
				refused(t, c, 1<<k, ids, [][]byte{nil})
				refused(t, c, 1<<k, ids, nil)
				if n > 0 {
					refused(t, c, 1<<k|1, ids, [][]byte{nil, nil})
					refused(t, c, 1<<k|1, ids, [][]byte{nil})
				}
			}
		}
	}
	g := chance(3)
	w := filled(&g, many(3), 7, 2)
	for _, cols := range [][][]byte{w.cols(), append(w.cols(), nil), append(w.cols(), w.cols()[0])} {
		refused(t, many(3), 15, w.ids(), cols)
		refused(t, many(3), 1<<63|7, w.ids(), cols)
	}
	refused(t, many(2), 7, w.ids(), w.cols())
}

func TestLoadOfTooFewAndTooManyCols(t *testing.T) {
	g := chance(4)
	for _, c := range []api.Conf{sized(), sized(0), sized(1), sized(1, 2, 0), sized(0, 0, 0), many(32), many(64), many(70)} {
		for _, sig := range []uint64{0, 1, 5, 1<<64 - 1} {
			for _, rows := range []int{0, 1, 3} {
				w := filled(&g, c, sig, rows)
				cols := w.cols()
				loaded(t, c, w)
				refused(t, c, w.sig(), w.ids(), append(w.cols(), nil))
				refused(t, c, w.sig(), w.ids(), append(w.cols(), []byte{}, nil))
				refused(t, c, w.sig(), w.ids(), append(w.cols(), make([]byte, rows)))
				for n := range cols {
					refused(t, c, w.sig(), w.ids(), cols[:n])
					refused(t, c, w.sig(), w.ids(), cols[n+1:])
				}
			}
		}
	}
}

func TestLoadOfColumnsOfOtherLengths(t *testing.T) {
	g := chance(5)
	for _, c := range []api.Conf{sized(0), sized(1), sized(64), sized(3, 0, 1), sized(-1, 65, 2), many(8)} {
		for _, rows := range []int{0, 1, 2, 5, 1024} {
			w := filled(&g, c, 0xff, rows)
			for i, col := range w.cols() {
				for _, n := range []int{0, 1, len(col) - 1, len(col), len(col) + 1, len(col) + rows, 2 * len(col), 64 * rows, 65 * rows, len(col) - rows} {
					cols := w.cols()
					cols[i] = make([]byte, max(n, 0))
					if len(cols[i]) != len(col) {
						refused(t, c, w.sig(), w.ids(), cols)
					}
				}
			}
			loaded(t, c, w)
		}
	}
}

func TestLoadOfColumnsByComponentRising(t *testing.T) {
	c := sized(1, 2, 0, 1)
	x, e := table.Load(c, 13, []api.ID{number(4), number(5)}, [][]byte{{1, 2}, nil, {3, 4}})
	if e != api.OK {
		t.Fatal(int(e))
	}
	for _, s := range []struct {
		k    int
		want string
	}{{0, "\x01\x02"}, {2, ""}, {3, "\x03\x04"}} {
		if b, ok := x.Column(s.k); string(b) != s.want || !ok {
			t.Errorf("Column(%d) = %v, %v", s.k, b, ok)
		}
	}
	if b, ok := x.Column(1); len(b) != 0 || ok {
		t.Error("Column of what it has not:", b, ok)
	}
	refused(t, c, 13, []api.ID{number(4), number(5)}, [][]byte{nil, {1, 2}, {3, 4}})
	refused(t, c, 7, []api.ID{number(4)}, [][]byte{{1, 2}, {3}, nil})
}

func TestLoadOfAnyNames(t *testing.T) {
	for _, ids := range [][]api.ID{
		{{}, {}, {}},
		{{Index: -1, Gen: -1}, {Index: math.MinInt, Gen: math.MaxInt}},
		{number(3), number(2), number(3), {Index: 3, Gen: 2}, number(1)},
	} {
		x, e := table.Load(sized(0), 1, ids, [][]byte{nil})
		if e != api.OK || !slices.Equal(x.IDs(), ids) || x.Len() != len(ids) {
			t.Errorf("Load of %v: error %d, %v", ids, int(e), x.IDs())
		}
	}
}

func TestWhatWasLoadedAddsSetsTellsAndDrops(t *testing.T) {
	g := chance(6)
	for _, c := range []api.Conf{sized(), sized(0), sized(0, 0), sized(64), sized(1, 2, 0), sized(-1, 65, 0), many(64)} {
		for _, rows := range []int{0, 1, 2, 7, 1023} {
			p := loaded(t, c, filled(&g, c, 1<<64-1, rows))
			var l []api.Part
			for _, k := range p.w.comps() {
				l = append(l, api.Part{Comp: k, Data: g.data(p.w.sizes[k])})
			}
			p.adds(api.OK, g.id(), l...)
			p.parts(api.OK, rows)
			for _, k := range p.w.comps() {
				p.sets(api.OK, 0, k, string(g.data(p.w.sizes[k])))
				p.sets(api.ErrSize, 0, k, zeros(p.w.sizes[k]+1))
				p.gets(api.OK, 0, k)
			}
			p.sets(api.ErrRange, rows+1, 0, "")
			p.sums()
			p.drops(api.OK, 0)
			p.drops(api.ErrRange, rows)
			p.sums()
			p.adds(api.OK, g.id())
			if rows == 1023 {
				p.adds(api.ErrFull, g.id())
			}
			p.sums()
		}
	}
}

// P9.1: Len, IDs, Column

func TestLenIDsAndColumnsStepByStep(t *testing.T) {
	p := made(t, sized(1, 2, 0), 7)
	p.adds(api.OK, number(7), part(0, "a"), part(1, "bc"))
	p.whole()
	p.adds(api.OK, number(3), part(1, "de"), part(0, "f"))
	p.adds(api.OK, number(5))
	p.whole()
	if a, _ := p.x.Column(0); string(a) != "af\x00" {
		t.Error(a)
	}
	if b, _ := p.x.Column(1); string(b) != "bcde\x00\x00" {
		t.Error(b)
	}
	if !slices.Equal(p.x.IDs(), []api.ID{number(7), number(3), number(5)}) || p.x.Len() != 3 {
		t.Error(p.x.IDs(), p.x.Len())
	}
	p.drops(api.OK, 0)
	p.whole()
	if a, _ := p.x.Column(0); string(a) != "\x00f" {
		t.Error(a)
	}
	if !slices.Equal(p.x.IDs(), []api.ID{number(5), number(3)}) || p.x.Len() != 2 {
		t.Error(p.x.IDs(), p.x.Len())
	}
}

func TestColumnOfWhatItHasAndHasNot(t *testing.T) {
	c := many(64)
	for _, sig := range sigs() {
		for _, rows := range []int{0, 1, 3} {
			p := made(t, c, sig)
			for i := range rows {
				p.adds(api.OK, number(i))
			}
			for k := -70; k < 140; k++ {
				b, ok := p.x.Column(k)
				has := k >= 0 && k < 64 && sig>>k%2 == 1
				if ok != has || has && len(b) != rows*((k*5+3)%7) || !has && len(b) != 0 {
					t.Fatalf("%x, %d rows: Column(%d) = %v, %v", sig, rows, k, b, ok)
				}
			}
			for _, k := range far {
				if b, ok := p.x.Column(k); len(b) != 0 || ok {
					t.Fatalf("Column(%d) = %v, %v", k, b, ok)
				}
			}
		}
	}
}

func TestTheSameNameInManyRows(t *testing.T) {
	p := made(t, sized(1), 1)
	for i := range 5 {
		p.adds(api.OK, number(1), part(0, string(rune('a'+i))))
	}
	p.whole()
	p.drops(api.OK, 1)
	p.whole()
	if moved, ok, e := p.x.Drop(0); moved != number(1) || !ok || e != api.OK {
		t.Error(moved, ok, int(e))
	}
}

func TestNamesAreNotLookedAt(t *testing.T) {
	p := made(t, sized(1), 1)
	for _, id := range []api.ID{{}, {Index: -1, Gen: -1}, {Index: math.MinInt, Gen: math.MaxInt}, {Index: 1 << 40, Gen: 1 << 50}} {
		p.adds(api.OK, id, part(0, "x"))
	}
	p.whole()
	p.drops(api.OK, 0)
	p.drops(api.OK, 0)
	p.whole()
}

// P9.2: Add

func TestAddOfNoParts(t *testing.T) {
	for _, c := range layouts() {
		for _, sig := range sigs() {
			p := made(t, c, sig)
			p.adds(api.OK, number(1))
			p.adds(api.OK, number(2))
			p.whole()
			for _, k := range p.w.comps() {
				if data, e := p.x.Get(1, k); string(data) != zeros(p.w.sizes[k]) || e != api.OK {
					t.Fatalf("%s: component %d is %v, error %d", p.name, k, data, int(e))
				}
			}
		}
	}
}

func TestAddOfPartsInAnyOrder(t *testing.T) {
	l := []api.Part{part(0, "a"), part(1, "bb"), part(2, ""), part(3, "dddd")}
	for n := range 256 { // all lists of four of these, some of them twice
		p := made(t, sized(1, 2, 0, 4), 15)
		p.adds(api.OK, number(9), l[n%4], l[n/4%4], l[n/16%4], l[n/64])
		p.whole()
	}
	p := made(t, sized(1, 2, 0, 4), 15)
	p.adds(api.OK, number(9), l[3], l[1], l[0], l[2])
	if got, e := p.x.Parts(0); !same(got, l) || e != api.OK {
		t.Error(got, int(e))
	}
}

func TestAddOfSomeParts(t *testing.T) {
	c := sized(1, 2, 3, 0, 64)
	for some := range 32 {
		for sig := range uint64(32) {
			p := made(t, c, sig)
			p.adds(api.OK, number(1), part(0, "a"), part(1, "bb"), part(2, "ccc"), part(4, strings.Repeat("e", 64)))
			var l []api.Part
			for k := range 5 {
				if some>>k%2 == 1 {
					l = append(l, api.Part{Comp: k, Data: slices.Repeat([]byte{byte(k + 1)}, c.Comps[k].Size)})
				}
			}
			p.adds(api.OK, number(2), l...)
			p.whole()
		}
	}
}

func TestAddOfComponentsThatTheTableHasNot(t *testing.T) {
	p := made(t, sized(1, 2, 3), 5)
	long := string(make([]byte, 100))
	for _, k := range append([]int{1, 3, 4, 31, 32, 63, 64, 65, 128}, far...) {
		for _, data := range []string{"", "a", "bb", long} {
			p.adds(api.OK, number(k), part(k, data))
			p.adds(api.OK, number(k), part(k, data), part(0, "x"), part(k, data+"y"), part(2, "zzz"))
			p.adds(api.ErrSize, number(k), part(k, data), part(0, "xx"))
		}
	}
	p.sums()
	q := made(t, sized(1, 2, 3), 0)
	q.adds(api.OK, number(1), part(0, long), part(1, ""), part(2, "a"))
	q.whole()
}

func TestAddOfTwoPartsOfOneComponent(t *testing.T) {
	for _, s := range []struct {
		first, second string
		want          api.Errno
	}{
		{"ab", "cd", api.OK}, {"ab", "", api.OK}, {"ab", "c", api.OK}, {"ab", "cde", api.OK},
		{"", "cd", api.ErrSize}, {"a", "cd", api.ErrSize}, {"abc", "cd", api.ErrSize}, {"a", "c", api.ErrSize}, {"", "", api.ErrSize},
	} {
		for k := range 3 {
			p := made(t, sized(2, 2, 2), 7)
			p.adds(s.want, number(1), part(k, s.first), part(k, s.second))
			p.adds(s.want, number(2), part((k+1)%3, "xy"), part(k, s.first), part((k+2)%3, "zz"), part(k, s.second), part(k, "cd"))
			p.whole()
			if data, _ := p.x.Get(1, k); s.want == api.OK && string(data) != "ab" {
				t.Errorf("of two parts the first one is %q, but %q was added", s.first, data)
			}
		}
	}
	p := made(t, sized(0, 2), 3)
	p.adds(api.OK, number(1), part(0, ""), part(0, "x"))
	p.adds(api.ErrSize, number(1), part(0, "x"), part(0, ""))
	p.whole()
}

func TestAddOfEachLength(t *testing.T) {
	g := chance(7)
	for size := range 65 {
		p := made(t, sized(1, size, 2), 7)
		for n := range 131 {
			want := api.ErrSize
			if n == size {
				want = api.OK
			}
			p.adds(want, g.id(), part(1, string(g.data(n))))
			p.adds(want, g.id(), part(2, "zz"), part(1, string(g.data(n))), part(0, "x"))
		}
		p.whole()
	}
}

func TestAddOfDataOneByteOffChangesNoColumn(t *testing.T) {
	c := sized(0, 1, 2, 64, 3)
	full := func() []api.Part {
		var l []api.Part
		for k, x := range c.Comps {
			l = append(l, api.Part{Comp: k, Data: slices.Repeat([]byte{9}, x.Size)})
		}
		return l
	}
	for k, x := range c.Comps {
		for _, n := range []int{x.Size - 1, x.Size + 1} {
			if n < 0 {
				continue
			}
			p := made(t, c, 31)
			p.adds(api.OK, number(1), full()...)
			l := full()
			l[k].Data = make([]byte, n)
			p.adds(api.ErrSize, number(2), l...)
			slices.Reverse(l)
			p.adds(api.ErrSize, number(2), l...)
			p.whole()
			p.adds(api.OK, number(3), full()...)
			p.whole()
		}
	}
}

func TestAddUpToAllRows(t *testing.T) {
	g := chance(8)
	for _, c := range []api.Conf{sized(), sized(0), sized(1), sized(1, 0, 64)} {
		p := made(t, c, 7)
		for i := range 1024 {
			p.adds(api.OK, g.id(), part(0, string(g.data(newTwin(c, 1).sizes[0]))))
			if p.x.Len() != i+1 {
				t.Fatalf("Add of row %d: Len %d", i, p.x.Len())
			}
		}
		p.whole()
		for range 3 {
			p.adds(api.ErrFull, g.id())
		}
		p.drops(api.OK, 500)
		p.adds(api.OK, g.id())
		p.adds(api.ErrFull, g.id())
		p.drops(api.OK, 1023)
		p.adds(api.OK, g.id())
		p.adds(api.ErrFull, g.id())
		p.sums()
	}
}

// P9.2: Get, Set and Parts

func TestWhereThereIsNoRow(t *testing.T) {
	g := chance(9)
	for _, c := range []api.Conf{sized(), sized(0), sized(1, 2, 0), many(64)} {
		for _, rows := range []int{0, 1, 2, 5, 1023, 1024} {
			if rows > 5 && len(c.Comps) > 3 {
				continue
			}
			p := loaded(t, c, filled(&g, c, 1<<64-1, rows))
			for _, row := range append([]int{rows, rows + 1, rows + 2, -rows, -rows - 1}, far...) {
				if p.w.there(row) {
					continue
				}
				p.parts(api.ErrRange, row)
				p.drops(api.ErrRange, row)
				for _, k := range []int{-1, 0, 1, 63, 64, math.MinInt, math.MaxInt} {
					p.gets(api.ErrRange, row, k)
					p.sets(api.ErrRange, row, k, "")
					p.sets(api.ErrRange, row, k, "a")
				}
			}
		}
	}
}

func TestEachRowOfEachComponent(t *testing.T) {
	g := chance(10)
	for _, c := range []api.Conf{sized(0), sized(64), sized(1, 2, 0), sized(-1, 65), many(64)} {
		for _, rows := range []int{1, 2, 3, 6} {
			p := loaded(t, c, filled(&g, c, 0xaaaaaaaaaaaaaa0f, rows))
			for row := range rows {
				for _, k := range p.w.comps() {
					p.sets(api.OK, row, k, string(g.data(p.w.sizes[k])))
					p.sums()
				}
			}
			p.whole()
		}
	}
}

func TestFirstAndLastRow(t *testing.T) {
	g := chance(11)
	c := sized(1, 2, 0)
	for _, rows := range []int{1, 2, 3, 1023, 1024} {
		p := loaded(t, c, filled(&g, c, 7, rows))
		for _, row := range []int{0, rows - 1} {
			p.gets(api.OK, row, 1)
			p.parts(api.OK, row)
			p.sets(api.OK, row, 1, "QR")
			p.gets(api.OK, row, 1)
			p.parts(api.OK, row)
			if data, _ := p.x.Get(row, 1); string(data) != "QR" {
				t.Errorf("row %d of %d: %q", row, rows, data)
			}
		}
		p.sums()
	}
}

func TestComponentsThatTheTableHasNot(t *testing.T) {
	g := chance(12)
	for _, c := range []api.Conf{sized(), sized(1), sized(1, 2, 0), many(32), many(64)} {
		for _, sig := range []uint64{0, 1, 5, 0xaaaaaaaaaaaaaaaa, 1<<64 - 1} {
			p := loaded(t, c, filled(&g, c, sig, 3))
			for _, k := range append([]int{0, 1, 2, 3, 31, 32, 62, 63, 64, 65, 66, 127, 128}, far...) {
				if _, has := p.w.sizes[k]; has {
					continue
				}
				for row := range 3 {
					p.gets(api.ErrLacks, row, k)
					for _, n := range []int{0, 1, 2, 65} {
						p.sets(api.ErrLacks, row, k, zeros(n))
					}
				}
			}
		}
	}
}

func TestSetOfEachLength(t *testing.T) {
	g := chance(13)
	for size := range 65 {
		c := sized(1, size, size)
		p := loaded(t, c, filled(&g, c, 7, 3))
		for n := range 131 {
			want := api.ErrSize
			if n == size {
				want = api.OK
			}
			for row := range 3 {
				p.sets(want, row, 1, string(g.data(n)))
			}
		}
		p.whole()
	}
}

func TestPartsAreByComponentRising(t *testing.T) {
	for _, sig := range sigs() {
		p := made(t, many(64), sig)
		p.adds(api.OK, number(1))
		l, e := p.x.Parts(0)
		if e != api.OK || len(l) != len(p.w.sizes) {
			t.Fatalf("%x: %d parts, error %d", sig, len(l), int(e))
		}
		for i, q := range l {
			if sig>>q.Comp%2 != 1 || i > 0 && l[i-1].Comp >= q.Comp || len(q.Data) != p.w.sizes[q.Comp] {
				t.Fatalf("%x: part %d is %v", sig, i, q)
			}
		}
	}
}

// P9.2: which error is told first

func TestWhichErrorIsToldFirst(t *testing.T) {
	c := sized(1, 2, 0)
	g := chance(14)
	full := loaded(t, c, filled(&g, c, 3, 1024))
	full.adds(api.ErrFull, number(1), part(0, "ab")) // data is of another length, too
	full.adds(api.ErrFull, number(1), part(1, ""))
	full.adds(api.ErrFull, number(1), part(0, "a"))
	some := loaded(t, c, filled(&g, c, 3, 2))
	some.adds(api.ErrSize, number(1), part(0, "ab"), part(1, "c"))
	for _, p := range []*pair{full, some, made(t, c, 3), made(t, c, 0)} {
		n := p.x.Len()
		for _, row := range []int{n, -1, math.MinInt, math.MaxInt} {
			p.sets(api.ErrRange, row, 2, "") // the table has not that component, too
			p.sets(api.ErrRange, row, -1, "ab")
			p.sets(api.ErrRange, row, 0, "ab") // data is of another length, too
			p.gets(api.ErrRange, row, 2)
			p.gets(api.ErrRange, row, 64)
		}
		if n > 0 {
			p.sets(api.ErrLacks, 0, 2, "ab") // not as long as the layout's component, too
			p.sets(api.ErrLacks, 0, 64, "ab")
			p.sets(api.ErrLacks, n-1, -1, "ab")
			p.sets(api.ErrSize, 0, 1, "a")
		}
	}
}

func TestAllCallsOnNil(t *testing.T) {
	var x *table.Table
	if b, ok := x.Column(0); x.Sig() != 0 || x.Len() != 0 || len(x.IDs()) != 0 || len(b) != 0 || ok {
		t.Error("of nil:", x.Sig(), x.Len(), x.IDs(), b, ok)
	}
	for _, row := range append([]int{0, 1}, far...) {
		if l, e := x.Parts(row); len(l) != 0 || e != api.ErrNil {
			t.Errorf("Parts(%d) of nil: %v, %d", row, l, int(e))
		}
		if moved, ok, e := x.Drop(row); moved != (api.ID{}) || ok || e != api.ErrNil {
			t.Errorf("Drop(%d) of nil: %v, %v, %d", row, moved, ok, int(e))
		}
		for _, k := range append([]int{0, 1, 63}, far...) {
			if b, e := x.Get(row, k); len(b) != 0 || e != api.ErrNil {
				t.Errorf("Get(%d, %d) of nil: %v, %d", row, k, b, int(e))
			}
			for _, data := range [][]byte{nil, {1}, make([]byte, 65)} {
				if e := x.Set(row, k, data); e != api.ErrNil {
					t.Errorf("Set(%d, %d) of nil: %d", row, k, int(e))
				}
			}
			if b, ok := x.Column(k); len(b) != 0 || ok {
				t.Errorf("Column(%d) of nil: %v, %v", k, b, ok)
			}
		}
	}
	for _, parts := range [][]api.Part{nil, {}, {part(0, "a")}, {part(-1, "a"), part(0, "")}} {
		if e := x.Add(number(1), parts); e != api.ErrNil {
			t.Errorf("Add to nil: %d", int(e))
		}
	}
}

// P9.3

func TestDropOfEachRow(t *testing.T) {
	g := chance(15)
	for _, c := range []api.Conf{sized(), sized(0), sized(1, 2, 0), sized(64, 65, -1), many(64)} {
		for rows := 1; rows <= 7; rows++ {
			for row := range rows {
				p := loaded(t, c, filled(&g, c, 1<<64-1, rows))
				p.drops(api.OK, row)
				p.whole()
			}
		}
	}
}

func TestDropTellsWhoseRowStandsThere(t *testing.T) {
	for _, s := range []struct {
		row   int
		moved api.ID
		ok    bool
		left  []api.ID
	}{
		{0, number(9), true, []api.ID{number(9), number(7), number(8)}},
		{1, number(9), true, []api.ID{number(6), number(9), number(8)}},
		{2, number(9), true, []api.ID{number(6), number(7), number(9)}},
		{3, api.ID{}, false, []api.ID{number(6), number(7), number(8)}},
	} {
		x, e := table.Load(sized(1), 1, []api.ID{number(6), number(7), number(8), number(9)}, [][]byte{{6, 7, 8, 9}})
		if e != api.OK {
			t.Fatal(int(e))
		}
		moved, ok, e := x.Drop(s.row)
		if moved != s.moved || ok != s.ok || e != api.OK || !slices.Equal(x.IDs(), s.left) {
			t.Errorf("Drop(%d): %v, %v, %d, %v", s.row, moved, ok, int(e), x.IDs())
		}
		b, _ := x.Column(0)
		for i, id := range s.left {
			if len(b) != 3 || b[i] != byte(id.Index) {
				t.Errorf("Drop(%d): %v", s.row, b)
			}
		}
	}
}

func TestDropOfTheOnlyRow(t *testing.T) {
	for _, c := range layouts() {
		p := made(t, c, 1<<64-1)
		for i := range 3 {
			p.adds(api.OK, number(i))
			p.drops(api.ErrRange, 1)
			if moved, ok, e := p.x.Drop(0); moved != (api.ID{}) || ok || e != api.OK {
				t.Errorf("%s: Drop of the only row: %v, %v, %d", p.name, moved, ok, int(e))
			}
			p.w.drop(0)
			p.whole()
			p.drops(api.ErrRange, 0)
			p.drops(api.ErrRange, -1)
			p.sets(api.ErrRange, 0, 0, "")
		}
	}
}

func TestDropOfRowsOfAllThatMayBe(t *testing.T) {
	g := chance(16)
	c := sized(1, 0, 64)
	for _, row := range []int{0, 1, 511, 512, 1021, 1022, 1023} {
		p := loaded(t, c, filled(&g, c, 7, 1024))
		p.drops(api.OK, row)
		p.whole()
		p.drops(api.ErrRange, 1023)
	}
}

func TestDropUntilThereIsNone(t *testing.T) {
	for seed := range 30 {
		g := chance(seed)
		c := one(&g, layouts())
		p := loaded(t, c, filled(&g, c, one(&g, sigs()), 1+g.below(30)))
		for p.x.Len() > 0 {
			p.drops(api.OK, one(&g, []int{0, p.x.Len() - 1, p.x.Len() / 2, g.below(p.x.Len())}))
			p.sums()
		}
		p.drops(api.ErrRange, 0)
		p.whole()
	}
}

func TestNothingOfADroppedRowComesBack(t *testing.T) {
	p := made(t, sized(2, 3), 3)
	p.adds(api.OK, number(1), part(0, "ab"), part(1, "cde"))
	p.adds(api.OK, number(2), part(0, "fg"), part(1, "hij"))
	p.drops(api.OK, 1)
	p.adds(api.OK, number(3))
	p.whole()
	if l, _ := p.x.Parts(1); !same(l, []api.Part{part(0, zeros(2)), part(1, zeros(3))}) {
		t.Error(l)
	}
}

// P9.4

func TestTheDocumentsExample(t *testing.T) {
	c := api.Conf{Comps: []api.Comp{{Name: "a", Size: 1}, {Name: "b", Size: 2}}}
	x := table.New(c, 2)
	if e := x.Add(number(1), []api.Part{part(0, "x")}); e != api.OK {
		t.Error(int(e))
	}
	if b, ok := x.Column(1); !bytes.Equal(b, []byte{0, 0}) || !ok {
		t.Error(b, ok)
	}
	if b, ok := x.Column(0); len(b) != 0 || ok {
		t.Error(b, ok)
	}
}

func TestAllRowsButTheDroppedOneHaveTheDataThatTheyHad(t *testing.T) {
	g := chance(17)
	c := sized(2, 0, 3)
	for run := range 30 {
		x, has := table.New(c, 7), map[api.ID]string{}
		for n := range 1 + g.below(40) {
			data := string(g.data(5))
			has[number(n)] = data
			if e := x.Add(number(n), []api.Part{part(2, data[2:]), part(0, data[:2])}); e != api.OK {
				t.Fatal(int(e))
			}
		}
		for x.Len() > 0 {
			row := g.below(x.Len())
			delete(has, x.IDs()[row])
			x.Drop(row)
			if x.Len() != len(has) {
				t.Fatalf("run %d: %d rows, not %d", run, x.Len(), len(has))
			}
			for i, id := range x.IDs() {
				a, _ := x.Get(i, 0)
				b, _ := x.Get(i, 2)
				if want, ok := has[id]; string(a)+string(b) != want || !ok {
					t.Fatalf("run %d: row %d of %v has %v %v, not %v", run, i, id, a, b, []byte(want))
				}
			}
		}
	}
}

// mixed: parts of some components, in a mixed order, now and then of another length, twice, or of what the table has not.
func (p *pair) mixed(g *chance) []api.Part {
	var l []api.Part
	for _, k := range append(p.w.comps(), p.w.comps()...) {
		if g.below(3) == 0 {
			continue
		}
		n := p.w.sizes[k]
		if g.below(10*len(p.w.sizes)) == 0 {
			n = one(g, []int{max(n-1, 0), n + 1, 0, 65})
		}
		l = append(l, api.Part{Comp: k, Data: g.data(n)})
	}
	for range g.below(3) {
		l = append(l, api.Part{Comp: one(g, []int{-1, 0, 1, 5, 40, 63, 64, math.MaxInt}), Data: g.data(g.below(4))})
	}
	for i := range l {
		j := g.below(i + 1)
		l[i], l[j] = l[j], l[i]
	}
	return l
}

// step: one mixed call on each of these, which are all as one twin is.
func step(t *testing.T, g *chance, all ...*pair) {
	t.Helper()
	p := all[0]
	n := len(p.w.rows)
	id, parts := g.id(), p.mixed(g)
	row := one(g, []int{g.below(n + 1), g.below(n + 1), g.below(n + 1), 0, n - 1, n, -1, g.below(2000)})
	k := one(g, append([]int{g.below(66) - 1, 0}, p.w.comps()...))
	data := string(g.data(one(g, []int{p.w.sizes[k], p.w.sizes[k], p.w.sizes[k], p.w.sizes[k], p.w.sizes[k] + 1, max(p.w.sizes[k]-1, 0)})))
	do := g.below(10)
	for _, p := range all {
		w := p.w.copied()
		switch {
		case do < 4:
			p.adds(w.add(id, parts), id, parts...)
		case do < 7:
			p.sets(w.set(row, k, data), row, k, data)
		default:
			_, _, e := w.drop(row)
			p.drops(e, row)
		}
		p.sums()
	}
}

func TestLongRuns(t *testing.T) {
	for seed := range 60 {
		g := chance(seed)
		p := made(t, one(&g, layouts()), one(&g, sigs()))
		p.name = fmt.Sprintf("run %d: %s", seed, p.name)
		for turn := range 150 {
			step(t, &g, p)
			if turn%25 == 0 {
				p.whole()
			}
		}
		p.whole()
	}
}

func TestLongRunsWhereAlmostAllRowsAreThere(t *testing.T) {
	for seed := range 6 {
		g := chance(seed)
		c := []api.Conf{sized(), sized(0, 1), sized(1, 64, 2)}[seed%3]
		p := loaded(t, c, filled(&g, c, 7, 1021+g.below(4)))
		p.name = fmt.Sprintf("run %d: %s", seed, p.name)
		for range 60 {
			step(t, &g, p)
		}
		p.whole()
	}
}

// tellsAgain: what Load makes of all that p's table tells.
func (p *pair) tellsAgain(c api.Conf) *pair {
	p.t.Helper()
	var cols [][]byte
	for k := range 64 {
		if b, ok := p.x.Column(k); ok {
			cols = append(cols, b)
		}
	}
	x, e := table.Load(c, p.x.Sig(), p.x.IDs(), cols)
	if x == nil || e != api.OK {
		p.t.Fatalf("%s: Load of what it tells: error %d", p.name, int(e))
	}
	if told(x) != told(p.x) {
		p.t.Fatalf("%s: Load of what it tells tells another", p.name)
	}
	return &pair{p.t, x, p.w.copied(), p.name + ", loaded"}
}

func TestLoadOfWhatATableTellsIsIt(t *testing.T) {
	for seed := range 60 {
		g := chance(seed)
		c := one(&g, layouts())
		first := made(t, c, one(&g, sigs()))
		for range g.below(80) {
			step(t, &g, first)
		}
		second := first.tellsAgain(c)
		second.whole()
		for range 40 {
			step(t, &g, first, second)
		}
		first.whole()
		second.whole()
	}
}

func TestLoadOfATableOfAllRows(t *testing.T) {
	g := chance(18)
	for _, c := range []api.Conf{sized(), sized(0), sized(64, 0, 1), sized(-1, 65)} {
		first := loaded(t, c, filled(&g, c, 7, 1024))
		second := first.tellsAgain(c)
		second.whole()
		second.adds(api.ErrFull, number(1))
		for range 5 {
			step(t, &g, first, second)
		}
	}
}

// What holds everywhere

// spare: these bytes, with spare room behind them that has 7s.
func spare(b []byte) []byte {
	room := append(slices.Clone(b), slices.Repeat([]byte{7}, 80)...)
	return room[:len(b)]
}

// untouched: has b, made by spare, still these bytes, and its spare room, too?
func untouched(b, want []byte) bool {
	return bytes.Equal(b, want) && bytes.Equal(b[len(b):len(b)+80], slices.Repeat([]byte{7}, 80))
}

// overwrite: all of l, its spare room too, is v from now on.
func overwrite[T any](l []T, v T) {
	l = l[:cap(l)]
	for i := range l {
		l[i] = v
	}
}

// things: all that is handed in to a call, with spare room each.
type things struct {
	c     api.Conf
	ids   []api.ID
	cols  [][]byte
	parts []api.Part
	data  []byte
}

// roomy: v's items, with spare room behind them that has some of that filling.
func roomy[T any](l []T, filling T) []T {
	room := append(slices.Clone(l), filling, filling, filling)
	return room[:len(l)]
}

// handed: what is handed in to calls on tables of components of sizes 1, 2 and 0: two ids, their columns, parts of a row.
func handed() *things {
	c := sized(1, 2, 0)
	c.Comps = roomy(c.Comps, api.Comp{Name: "spare", Size: 5})
	return &things{
		c:     c,
		ids:   roomy([]api.ID{number(4), number(5)}, number(77)),
		cols:  roomy([][]byte{spare([]byte("ab")), spare([]byte("cdef")), spare(nil)}, []byte("spare")),
		parts: roomy([]api.Part{{Comp: 1, Data: spare([]byte("gh"))}, {Comp: 0, Data: spare([]byte("i"))}, {Comp: 1, Data: spare([]byte("j"))}, {Comp: 9, Data: spare([]byte("k"))}}, part(8, "spare")),
		data:  spare([]byte("lm")),
	}
}

// text: all of these things, their spare room too.
func (s *things) text() string {
	var b strings.Builder
	fmt.Fprintln(&b, s.c.Log, s.c.Pages, s.c.Entities, s.c.Gens, s.c.Comps[:cap(s.c.Comps)], s.ids[:cap(s.ids)], s.data[:cap(s.data)])
	for _, col := range s.cols[:cap(s.cols)] {
		fmt.Fprintln(&b, len(col), col[:cap(col)])
	}
	for _, p := range s.parts[:cap(s.parts)] {
		fmt.Fprintln(&b, p.Comp, len(p.Data), p.Data[:cap(p.Data)])
	}
	return b.String()
}

// spoil: overwrites all of these things, their spare room too.
func (s *things) spoil() {
	overwrite(s.c.Comps, api.Comp{Name: "other", Size: 33})
	overwrite(s.ids, number(88))
	for _, col := range s.cols {
		overwrite(col, '!')
	}
	overwrite(s.cols, nil)
	for _, p := range s.parts {
		overwrite(p.Data, '?')
	}
	overwrite(s.parts, api.Part{})
	overwrite(s.data, '#')
}

func TestArgumentsStayAsTheyAre(t *testing.T) {
	for i, call := range []func(*things) *table.Table{
		func(s *things) *table.Table { return table.New(s.c, 7) },
		func(s *things) *table.Table { return table.New(s.c, 1<<63|5) },
		func(s *things) *table.Table { x, _ := table.Load(s.c, 7, s.ids, s.cols); return x },
		func(s *things) *table.Table { x, _ := table.Load(s.c, 15, s.ids, s.cols); return x },
		func(s *things) *table.Table { x, _ := table.Load(s.c, 7, s.ids[:1], s.cols); return x },
		func(s *things) *table.Table { x, _ := table.Load(s.c, 7, s.ids, s.cols[:2]); return x },
		func(s *things) *table.Table { x := table.New(s.c, 7); x.Add(number(1), s.parts); return x },
		func(s *things) *table.Table { x := table.New(s.c, 7); x.Add(number(1), s.parts[2:]); return x },
		func(s *things) *table.Table { x := table.New(s.c, 7); x.Add(number(1), s.parts[:2:2]); return x },
		func(s *things) *table.Table {
			x := table.New(s.c, 7)
			x.Add(number(1), nil)
			x.Set(0, 1, s.data)
			return x
		},
		func(s *things) *table.Table {
			x := table.New(s.c, 7)
			x.Add(number(1), nil)
			x.Set(0, 0, s.data)
			return x
		},
		func(s *things) *table.Table { x := table.New(s.c, 7); x.Set(0, 1, s.data); return x },
		func(s *things) *table.Table {
			var x *table.Table
			x.Add(number(1), s.parts)
			x.Set(0, 1, s.data)
			return x
		},
	} {
		s := handed()
		was := s.text()
		x := call(s)
		if s.text() != was {
			t.Fatalf("call %d changed what was handed in: %s, not %s", i, s.text(), was)
		}
		for range 5 { // nor do calls that come later
			x.Add(number(2), nil)
		}
		for row := range x.Len() {
			x.Set(row, 0, []byte("X"))
			x.Set(row, 1, []byte("YZ"))
		}
		for x.Len() > 0 {
			x.Drop(x.Len() / 2)
		}
		x.Add(number(3), nil)
		if s.text() != was {
			t.Fatalf("what came behind call %d changed what was handed in: %s, not %s", i, s.text(), was)
		}
	}
}

func TestNothingThatIsHandedInIsKept(t *testing.T) {
	s := handed()
	x, e := table.Load(s.c, 7, s.ids, s.cols)
	if e != api.OK {
		t.Fatal(int(e))
	}
	y := table.New(s.c, 7)
	for _, z := range []*table.Table{x, y} {
		if z.Add(number(6), s.parts) != api.OK || z.Add(number(7), nil) != api.OK || z.Set(z.Len()-1, 1, s.data) != api.OK {
			t.Fatal("Add and Set")
		}
	}
	s.spoil()
	p, q := made(t, sized(1, 2, 0), 7), made(t, sized(1, 2, 0), 7)
	p.adds(api.OK, number(4), part(0, "a"), part(1, "cd"))
	p.adds(api.OK, number(5), part(0, "b"), part(1, "ef"))
	for _, w := range []*pair{p, q} {
		w.adds(api.OK, number(6), part(0, "i"), part(1, "gh"))
		w.adds(api.OK, number(7), part(1, "lm"))
	}
	p.x, q.x = x, y
	for _, w := range []*pair{p, q} {
		w.name = "with all overwritten that was handed in"
		w.whole()
		w.adds(api.OK, number(8), part(0, "x"), part(1, "yz"), part(2, "")) // by the sizes that the layout had
		w.sets(api.OK, 0, 1, "uv")
		w.whole()
	}
}

func TestColumnsOfOneMemoryAreApart(t *testing.T) {
	b := []byte("abcd")
	c := sized(2, 2, 2)
	x, e := table.Load(c, 7, []api.ID{number(1), number(2)}, [][]byte{b, b, b})
	if e != api.OK {
		t.Fatal(int(e))
	}
	x.Set(0, 1, []byte("XY"))
	for k, want := range []string{"abcd", "XYcd", "abcd"} {
		if got, _ := x.Column(k); string(got) != want {
			t.Errorf("Column(%d) = %q", k, got)
		}
	}
	y := table.New(c, 7)
	y.Add(number(1), []api.Part{{Comp: 0, Data: b[:2]}, {Comp: 1, Data: b[:2]}, {Comp: 2, Data: b[1:3]}})
	y.Set(0, 0, []byte("XY"))
	for k, want := range []string{"XY", "ab", "bc"} {
		if got, _ := y.Get(0, k); string(got) != want {
			t.Errorf("Get(0, %d) = %q", k, got)
		}
	}
}

func TestAnswersAreNewMemory(t *testing.T) {
	g := chance(19)
	for _, c := range []api.Conf{sized(), sized(0), sized(1, 2, 0), sized(64, 3), many(64)} {
		p := made(t, c, 1<<64-1)
		for range 40 {
			step(t, &g, p)
			p.name = "answers overwritten"
			overwrite(p.x.IDs(), number(99))
			for _, k := range p.w.comps() {
				b, _ := p.x.Column(k)
				overwrite(b, '!')
			}
			for row := range p.x.Len() {
				for _, k := range p.w.comps() {
					b, _ := p.x.Get(row, k)
					overwrite(b, '?')
				}
				l, _ := p.x.Parts(row)
				for _, q := range l {
					overwrite(q.Data, '#')
				}
				overwrite(l, part(3, "other"))
			}
			p.sums()
		}
		p.whole()
	}
}

func TestPartsOfOneAnswerShareNothing(t *testing.T) {
	p := made(t, sized(2, 0, 3, 64, 1), 31)
	p.adds(api.OK, number(1), part(0, "ab"), part(2, "cde"), part(3, strings.Repeat("f", 64)), part(4, "g"))
	want, _ := p.w.parts(0)
	for i := range want {
		l, e := p.x.Parts(0)
		if e != api.OK || !same(l, want) {
			t.Fatal(l, int(e))
		}
		overwrite(l[i].Data, '!')
		for j, q := range l {
			if j != i && !bytes.Equal(q.Data, want[j].Data) {
				t.Errorf("overwriting part %d changed part %d: %v", i, j, q)
			}
		}
		_ = append(l[i].Data, "more than there is room for"...)
		p.whole()
	}
}

func TestAnswersStayAsTheyAre(t *testing.T) {
	p := made(t, sized(1, 2), 3)
	for i, s := range []string{"abc", "def", "ghi"} {
		p.adds(api.OK, number(i), part(0, s[:1]), part(1, s[1:]))
	}
	ids := p.x.IDs()
	col, _ := p.x.Column(1)
	data, _ := p.x.Get(2, 1)
	l, _ := p.x.Parts(0)
	for row := range 3 {
		p.sets(api.OK, row, 0, "X")
		p.sets(api.OK, row, 1, "YZ")
	}
	p.drops(api.OK, 0)
	p.drops(api.OK, 0)
	p.adds(api.OK, number(8), part(1, "UV"))
	if !slices.Equal(ids, []api.ID{number(0), number(1), number(2)}) || string(col) != "bcefhi" || string(data) != "hi" || !same(l, []api.Part{part(0, "a"), part(1, "bc")}) {
		t.Errorf("later calls changed answers: %v, %s, %s, %v", ids, col, data, l)
	}
}

func TestAnAnswerMayBeHandedIn(t *testing.T) {
	p := made(t, sized(1, 2), 3)
	p.adds(api.OK, number(1), part(0, "a"), part(1, "bc"))
	l, _ := p.x.Parts(0)
	p.adds(api.OK, number(2), l...)
	data, _ := p.x.Get(0, 1)
	col, _ := p.x.Column(1)
	p.adds(api.OK, number(3), api.Part{Comp: 1, Data: col[1:3]})
	if p.x.Set(2, 1, data) != api.OK || p.w.set(2, 1, string(data)) != api.OK {
		t.Error("Set of what Get told")
	}
	overwrite(l[0].Data, '!')
	overwrite(l[1].Data, '!')
	overwrite(data, '!')
	overwrite(col, '!')
	p.whole()
}

func TestTwoOfThemAreApart(t *testing.T) {
	g := chance(20)
	c := sized(1, 2, 0)
	w := filled(&g, c, 7, 5)
	ids, cols := w.ids(), w.cols()
	x, _ := table.Load(c, 7, ids, cols)
	y, _ := table.Load(c, 7, ids, cols)
	p, q := &pair{t, x, w.copied(), "the one"}, &pair{t, y, w.copied(), "the other one"}
	for range 60 {
		step(t, &g, p)
		q.sums()
	}
	for range 60 {
		step(t, &g, q)
		p.sums()
	}
	r, s := made(t, c, 7), made(t, c, 7)
	r.adds(api.OK, number(1), part(0, "r"))
	s.adds(api.OK, number(2), part(0, "s"))
	r.whole()
	s.whole()
}

func TestNilAndEmptyAreAlike(t *testing.T) {
	c := sized(0, 2)
	for _, data := range [][]byte{nil, {}, spare(nil)} {
		for _, ids := range [][]api.ID{nil, {}, make([]api.ID, 0, 9)} {
			x, e := table.Load(c, 3, ids, [][]byte{data, data})
			if e != api.OK || x.Len() != 0 {
				t.Fatal(int(e))
			}
			p := &pair{t, x, newTwin(c, 3), "Load of nothing"}
			p.whole()
			p.adds(api.OK, number(1), api.Part{Comp: 0, Data: data})
			p.adds(api.ErrSize, number(1), api.Part{Comp: 1, Data: data})
			if x.Set(0, 0, data) != api.OK || x.Set(0, 1, data) != api.ErrSize {
				t.Error("Set of nothing")
			}
			p.whole()
		}
	}
	for _, cols := range [][][]byte{nil, {}, make([][]byte, 0, 3)} {
		x, e := table.Load(c, 0, []api.ID{number(1)}, cols)
		if e != api.OK || x.Len() != 1 || x.Add(number(2), []api.Part{}) != api.OK {
			t.Error("Load without cols", int(e))
		}
	}
}

func TestZeroValueEnds(t *testing.T) {
	x := &table.Table{}
	for row := -2; row < 3; row++ {
		for k := -2; k < 3; k++ {
			x.Get(row, k)
			x.Set(row, k, []byte{1})
			x.Column(k)
		}
		x.Parts(row)
		x.Drop(row)
		x.Add(number(1), nil)
		x.Add(number(1), []api.Part{part(0, "a")})
	}
	x.Sig()
	x.Len()
	x.IDs()
}

func TestTheSameCallsTellTheSame(t *testing.T) {
	run := func() string {
		g := chance(77)
		p := made(t, many(64), 1<<64-1)
		for range 60 {
			step(t, &g, p)
		}
		return told(p.x)
	}
	first := run()
	for range 10 {
		if run() != first {
			t.Fatal("the same calls on two of them tell not the same")
		}
	}
}
