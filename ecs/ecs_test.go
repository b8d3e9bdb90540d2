package ecs_test

import (
	"fmt"
	"maps"
	"math"
	"math/bits"
	"runtime"
	"slices"
	"strings"
	"testing"

	"vivarium/api"
	"vivarium/ecs"
)

// chance: numbers that look mixed, the same ones for the same seed.
type chance uint64

// below: the next number from 0 on, below n.
func (c *chance) below(n int) int {
	*c = *c*6364136223846793005 + 1442695040888963407
	return int(uint64(*c)>>33) % n
}

// one: the next one of l.
func one[T any](c *chance, l []T) T {
	return l[c.below(len(l))]
}

// data: n mixed bytes, none of them 0.
func (c *chance) data(n int) string {
	out := make([]byte, n)
	for i := range out {
		out[i] = byte(1 + c.below(255))
	}
	return string(out)
}

// brief: a value as a text that is not too long to be read.
func brief(v any) string {
	s := fmt.Sprint(v)
	if len(s) > 600 {
		return fmt.Sprintf("%s.. (%d signs)", s[:600], len(s))
	}
	return s
}

// layout: of so many entities and generations, and components of these sizes.
func layout(entities, gens int, sizes ...int) api.Conf {
	c := api.Conf{Log: 2, Pages: 4, Entities: entities, Gens: gens}
	for i, n := range sizes {
		c.Comps = append(c.Comps, api.Comp{Name: fmt.Sprint("c", i), Size: n})
	}
	return c
}

// many: sizes of n components, from 0 to 6.
func many(n int) []int {
	var l []int
	for i := range n {
		l = append(l, (i*5+3)%7)
	}
	return l
}

// layouts: of few entities, generations and components, and of many.
func layouts() []api.Conf {
	return []api.Conf{
		layout(1, 1),
		layout(1, 3, 0),
		layout(2, 1, 1, 2),
		layout(3, 2, 0, 0, 0),
		layout(5, 2, 1, 2, 0),
		layout(8, 1000, 3, 0, 64, 1),
		layout(12, 3, 1),
		layout(20, 1<<30, 2, 0, 1),
		layout(30, 4, many(7)...),
		layout(1024, 1<<30, many(32)...),
	}
}

// sets: few components, many, and such as are in no layout.
func sets() []uint64 {
	return []uint64{0, 1, 2, 3, 4, 5, 6, 7, 8, 0x70, 0xff, 1 << 30, 1 << 31, 1 << 32, 1<<32 | 1, 1 << 63, 1<<63 | 1, 1<<32 - 1, math.MaxUint64, 0xaaaaaaaa, 0x5555555555555555}
}

// far: numbers of which there never is a component.
var far = []int{math.MinInt, math.MinInt + 1, -1 << 32, -1025, -65, -64, -63, -32, -2, -1, 32, 33, 62, 63, 64, 65, 66, 127, 128, 255, 256, 1 << 16, 1 << 32, 1<<32 + 1, math.MaxInt - 1, math.MaxInt}

// twins: in the place of an error, whichever the twin tells.
const twins = api.Errno(-1)

// twin: a core by the document's words.
type twin struct {
	c      api.Conf
	gens   []int
	free   []int
	has    map[api.ID]map[int]string // what each one alive has
	tables map[uint64][]api.ID       // those of each set, as they stand in its table
}

func newTwin(c api.Conf) *twin {
	return &twin{c: c, has: map[api.ID]map[int]string{}, tables: map[uint64][]api.ID{}}
}

// copied: another twin that is as this one.
func (w *twin) copied() *twin {
	out := newTwin(w.c)
	out.gens, out.free = slices.Clone(w.gens), slices.Clone(w.free)
	for id, parts := range w.has {
		out.has[id] = maps.Clone(parts)
	}
	for sig, l := range w.tables {
		out.tables[sig] = slices.Clone(l)
	}
	return out
}

func (w *twin) sig(id api.ID) uint64 {
	var s uint64
	for k := range w.has[id] {
		s += 1 << k
	}
	return s
}

// enter: a row more at the end.
func (w *twin) enter(id api.ID) {
	s := w.sig(id)
	w.tables[s] = append(w.tables[s], id)
}

// leave: the last row stands where this one stood.
func (w *twin) leave(id api.ID) {
	s := w.sig(id)
	l := w.tables[s]
	end := len(l) - 1
	l[slices.Index(l, id)] = l[end]
	w.tables[s] = l[:end]
	if end == 0 {
		delete(w.tables, s)
	}
}

func (w *twin) spawn() (api.ID, api.Errno) {
	index := len(w.gens)
	if n := len(w.free); n > 0 {
		index = w.free[n-1]
		w.free = w.free[:n-1]
	} else if index >= w.c.Entities {
		return api.ID{}, api.ErrFull
	} else {
		w.gens = append(w.gens, 0)
	}
	id := api.ID{Index: index, Gen: w.gens[index]}
	w.has[id] = map[int]string{}
	w.enter(id)
	return id, api.OK
}

func (w *twin) despawn(id api.ID) api.Errno {
	if !w.alive(id) {
		return api.ErrStale
	}
	w.leave(id)
	delete(w.has, id)
	w.gens[id.Index]++
	if w.gens[id.Index] < w.c.Gens {
		w.free = append(w.free, id.Index)
	}
	return api.OK
}

func (w *twin) alive(id api.ID) bool {
	_, ok := w.has[id]
	return ok
}

func (w *twin) ask(id api.ID, k int) api.Errno {
	if !w.alive(id) {
		return api.ErrStale
	}
	if k < 0 || k >= len(w.c.Comps) {
		return api.ErrComp
	}
	return api.OK
}

func (w *twin) set(id api.ID, k int, data string) api.Errno {
	if e := w.ask(id, k); e != api.OK {
		return e
	}
	if len(data) != w.c.Comps[k].Size {
		return api.ErrSize
	}
	if _, ok := w.has[id][k]; ok {
		w.has[id][k] = data
		return api.OK
	}
	w.leave(id)
	w.has[id][k] = data
	w.enter(id)
	return api.OK
}

func (w *twin) remove(id api.ID, k int) api.Errno {
	if _, e := w.get(id, k); e != api.OK {
		return e
	}
	w.leave(id)
	delete(w.has[id], k)
	w.enter(id)
	return api.OK
}

func (w *twin) get(id api.ID, k int) (string, api.Errno) {
	if e := w.ask(id, k); e != api.OK {
		return "", e
	}
	data, ok := w.has[id][k]
	if !ok {
		return "", api.ErrLacks
	}
	return data, api.OK
}

// ids: those alive, by index.
func (w *twin) ids() []api.ID {
	var l []api.ID
	for index, gen := range w.gens {
		if id := (api.ID{Index: index, Gen: gen}); w.alive(id) {
			l = append(l, id)
		}
	}
	return l
}

func (w *twin) query(with, without uint64) []api.ID {
	var l []api.ID
	for _, id := range w.ids() {
		fits := true
		for k := range 64 {
			_, has := w.has[id][k]
			if with>>k%2 == 1 && !has || without>>k%2 == 1 && has {
				fits = false
			}
		}
		if fits {
			l = append(l, id)
		}
	}
	return l
}

func (w *twin) state() api.State {
	s := api.State{Gens: w.gens, Free: w.free}
	for _, id := range w.ids() {
		x := api.Ent{ID: id}
		for _, k := range slices.Sorted(maps.Keys(w.has[id])) {
			x.Parts = append(x.Parts, api.Part{Comp: k, Data: []byte(w.has[id][k])})
		}
		s.Ents = append(s.Ents, x)
	}
	return s
}

func (w *twin) rows() []api.Rows {
	var l []api.Rows
	for _, sig := range slices.Sorted(maps.Keys(w.tables)) {
		r := api.Rows{Sig: sig, IDs: slices.Clone(w.tables[sig])}
		for k := range 64 {
			if sig>>k%2 == 1 {
				col := ""
				for _, id := range r.IDs {
					col += w.has[id][k]
				}
				r.Cols = append(r.Cols, []byte(col))
			}
		}
		l = append(l, r)
	}
	return l
}

// told: all that can be told of w.
func (w *twin) told() string {
	return fmt.Sprint(w.c, len(w.has), w.state(), w.rows())
}

// told: the same of x.
func told(x *ecs.Core) string {
	return fmt.Sprint(x.Conf(), x.Count(), x.State(), x.Rows())
}

// pair: a core and its twin, which are asked the same.
type pair struct {
	t    *testing.T
	x    *ecs.Core
	w    *twin
	name string
	rare bool // whether it is too great to be gone through behind each call
}

// made: what New makes.
func made(t *testing.T, c api.Conf) *pair {
	t.Helper()
	x := ecs.New(c)
	if x == nil {
		t.Fatalf("New(%s) is nil", brief(c))
	}
	p := &pair{t: t, x: x, w: newTwin(c), name: fmt.Sprintf("New(%s)", brief(c))}
	p.sums()
	return p
}

// peopled: what New makes, with n entities that have no components.
func peopled(t *testing.T, c api.Conf, n int) (*pair, []api.ID) {
	t.Helper()
	p := made(t, c)
	var l []api.ID
	for range n {
		l = append(l, p.spawns(api.OK))
	}
	return p, l
}

// loaded: what Load makes of what w has.
func loaded(t *testing.T, w *twin) *pair {
	t.Helper()
	x, e := ecs.Load(w.c, w.gens, w.free, w.rows())
	if x == nil || e != api.OK {
		t.Fatalf("Load(%s): error %d, nothing %v", brief(w.told()), int(e), x == nil)
	}
	p := &pair{t: t, x: x, w: w.copied(), name: fmt.Sprintf("Load(%s)", brief(w.told()))}
	p.sums()
	return p
}

// again: what Load makes of what p's core tells.
func (p *pair) again() *pair {
	p.t.Helper()
	s := p.x.State()
	x, e := ecs.Load(p.x.Conf(), s.Gens, s.Free, p.x.Rows())
	if x == nil || e != api.OK {
		p.t.Fatalf("%s: Load of what it tells: error %d", p.name, int(e))
	}
	q := &pair{t: p.t, x: x, w: p.w.copied(), name: p.name + ", loaded", rare: p.rare}
	q.sums()
	return q
}

// sums: Conf, Count, State and Rows.
func (p *pair) sums() {
	p.t.Helper()
	if got, want := told(p.x), p.w.told(); got != want {
		p.t.Fatalf("%s: %s; not %s", p.name, brief(got), brief(want))
	}
}

// whole: all that can be asked: of those that are alive, and of those that are not.
func (p *pair) whole() {
	p.t.Helper()
	p.sums()
	for _, s := range sets() {
		p.asks(s, 0)
		p.asks(0, s)
		p.asks(s, ^s)
		p.asks(s, s)
	}
	for _, id := range p.w.ids() {
		for k := -1; k <= len(p.w.c.Comps); k++ {
			p.gets(twins, id, k)
		}
		for _, k := range far {
			p.gets(api.ErrComp, id, k)
		}
		p.alive(id, true)
		p.alive(api.ID{Index: id.Index, Gen: id.Gen + 1}, false)
		p.alive(api.ID{Index: id.Index, Gen: id.Gen - 1}, false)
	}
	for _, id := range p.strangers() {
		p.alive(id, false)
		p.gets(api.ErrStale, id, 0)
		p.gets(api.ErrStale, id, -1)
	}
}

// strangers: IDs that are not alive.
func (p *pair) strangers() []api.ID {
	n := len(p.w.gens)
	var l []api.ID
	for index, gen := range p.w.gens {
		for _, g := range []int{-1, 0, gen - 1, gen, gen + 1, 1 << 30, gen + 1<<32, math.MinInt, math.MaxInt} {
			l = append(l, api.ID{Index: index, Gen: g})
		}
	}
	for _, index := range []int{math.MinInt, -1 << 32, -1024, -n - 1, -n, -2, -1, n, n + 1, 1023, 1024, 1025, 1 << 16, 1 << 32, 1<<32 + 1, math.MaxInt} {
		for _, g := range []int{-1, 0, 1} {
			l = append(l, api.ID{Index: index, Gen: g})
		}
	}
	return slices.DeleteFunc(l, p.w.alive)
}

// tells: this call told got, which its twin tells too; and all is as the twin says.
func (p *pair) tells(name string, got, want, twin api.Errno) {
	p.t.Helper()
	if want == twins {
		want = twin
	}
	if got != want || twin != want {
		p.t.Fatalf("%s: %s: error %d, not %d, and %d of the twin", p.name, name, int(got), int(want), int(twin))
	}
	if !p.rare {
		p.sums()
	}
}

func (p *pair) spawns(want api.Errno) api.ID {
	p.t.Helper()
	id, twin := p.w.spawn()
	got, e := p.x.Spawn()
	p.tells("Spawn", e, want, twin)
	if got != id {
		p.t.Fatalf("%s: Spawn = %v, not %v", p.name, got, id)
	}
	return got
}

func (p *pair) despawns(want api.Errno, id api.ID) {
	p.t.Helper()
	twin := p.w.despawn(id)
	p.tells(fmt.Sprintf("Despawn(%v)", id), p.x.Despawn(id), want, twin)
	p.alive(id, false)
}

func (p *pair) sets(want api.Errno, id api.ID, k int, data string) {
	p.t.Helper()
	twin := p.w.set(id, k, data)
	p.tells(fmt.Sprintf("Set(%v, %d) of %d bytes", id, k, len(data)), p.x.Set(id, k, []byte(data)), want, twin)
}

func (p *pair) removes(want api.Errno, id api.ID, k int) {
	p.t.Helper()
	twin := p.w.remove(id, k)
	p.tells(fmt.Sprintf("Remove(%v, %d)", id, k), p.x.Remove(id, k), want, twin)
}

func (p *pair) gets(want api.Errno, id api.ID, k int) {
	p.t.Helper()
	data, twin := p.w.get(id, k)
	if want == twins {
		want = twin
	}
	got, e := p.x.Get(id, k)
	if e != want || twin != want || string(got) != data {
		p.t.Fatalf("%s: Get(%v, %d) = %v, error %d; not %v, %d, and %d of the twin", p.name, id, k, got, int(e), []byte(data), int(want), int(twin))
	}
}

func (p *pair) alive(id api.ID, want bool) {
	p.t.Helper()
	if got := p.x.Alive(id); got != want || p.w.alive(id) != want {
		p.t.Fatalf("%s: Alive(%v) is %v, and %v of the twin", p.name, id, got, p.w.alive(id))
	}
}

func (p *pair) asks(with, without uint64) {
	p.t.Helper()
	if got, want := p.x.Query(with, without), p.w.query(with, without); !slices.Equal(got, want) {
		p.t.Fatalf("%s: Query(%#x, %#x) = %s, not %s", p.name, with, without, brief(got), brief(want))
	}
}

// order: the entities of that set, as Rows tells them, are these.
func (p *pair) order(sig uint64, want ...api.ID) {
	p.t.Helper()
	for _, r := range p.x.Rows() {
		if r.Sig == sig {
			if !slices.Equal(r.IDs, want) {
				p.t.Fatalf("%s: Rows of %#x: %v, not %v", p.name, sig, r.IDs, want)
			}
			return
		}
	}
	if len(want) > 0 {
		p.t.Fatalf("%s: no Rows of %#x", p.name, sig)
	}
}

// any: an ID to ask with: mostly one that is alive.
func (p *pair) any(g *chance) api.ID {
	if l := p.w.ids(); len(l) > 0 && g.below(8) > 0 {
		return one(g, l)
	}
	index := g.below(len(p.w.gens)+2) - 1
	return api.ID{Index: index, Gen: g.below(4) - 1}
}

// comp: a component to ask with: mostly one that there is.
func (p *pair) comp(g *chance) int {
	if n := len(p.w.c.Comps); n > 0 && g.below(12) > 0 {
		return g.below(n)
	}
	return one(g, far)
}

// bytes: data to set of component k: mostly of its size.
func (p *pair) bytes(g *chance, k int) string {
	n := 0
	if k >= 0 && k < len(p.w.c.Comps) {
		n = p.w.c.Comps[k].Size
	}
	if g.below(10) == 0 {
		n = max(0, n+one(g, []int{-n, -1, 1, 64, 65}))
	}
	return g.data(n)
}

// step: all of them do the same thing.
func step(t *testing.T, g *chance, all ...*pair) {
	t.Helper()
	first := all[0]
	id, k := first.any(g), first.comp(g)
	data, do := first.bytes(g, k), g.below(20)
	with, without := one(g, sets()), one(g, sets())
	for _, p := range all {
		switch {
		case do < 4:
			p.spawns(twins)
		case do < 6:
			p.despawns(twins, id)
		case do < 13:
			p.sets(twins, id, k, data)
		case do < 17:
			p.removes(twins, id, k)
		case do < 19:
			p.gets(twins, id, k)
		default:
			p.asks(with, without)
		}
	}
}

// The chapter's example.

func TestExample(t *testing.T) {
	p, l := peopled(t, layout(4, 3, 1, 2), 1)
	p.sets(api.OK, l[0], 0, "a")
	if got := p.x.Query(1, 0); !slices.Equal(got, l) {
		t.Error(got)
	}
}

// P11.1: New and Conf

// edges: layouts with just what may be, the least and the most of each thing.
func edges() []api.Conf {
	comps := layout(1, 1, 1, 2).Comps
	l := []api.Conf{
		{Log: 2, Pages: 4, Entities: 1, Gens: 1},
		{Log: 1024, Pages: 1024, Entities: 1024, Gens: 1 << 30},
		{Log: 2, Pages: 1024, Entities: 1, Gens: 1 << 30, Comps: comps},
		{Log: 1024, Pages: 4, Entities: 1024, Gens: 1, Comps: comps},
		layout(7, 7, 0),
		layout(7, 7, 64),
		layout(7, 7, many(31)...),
		layout(7, 7, many(32)...),
		{Log: 3, Pages: 5, Entities: 2, Gens: 2, Comps: []api.Comp{{Name: "a"}, {Name: "b", Size: 63}}},
		{Log: 3, Pages: 5, Entities: 2, Gens: 2, Comps: []api.Comp{{Name: "abcdefgh_0123456", Size: 1}, {Name: "_"}, {Name: "9"}}},
	}
	return append(l, layouts()...)
}

// wrongs: layouts of which one thing may not be, by what it is.
func wrongs() map[string]api.Conf {
	l := map[string]api.Conf{"the zero layout": {}, "33 components": layout(7, 7, many(33)...), "65 components": layout(7, 7, many(65)...)}
	with := func(name string, change func(c *api.Conf)) {
		c := layout(7, 7, 1, 2, 3)
		change(&c)
		l[name] = c
	}
	for _, n := range []int{math.MinInt, -1, 0, 1, 1025, math.MaxInt} {
		with(fmt.Sprint("Log ", n), func(c *api.Conf) { c.Log = n })
	}
	for _, n := range []int{math.MinInt, -1, 0, 1, 2, 3, 1025, math.MaxInt} {
		with(fmt.Sprint("Pages ", n), func(c *api.Conf) { c.Pages = n })
	}
	for _, n := range []int{math.MinInt, -1, 0, 1025, math.MaxInt} {
		with(fmt.Sprint("Entities ", n), func(c *api.Conf) { c.Entities = n })
	}
	for _, n := range []int{math.MinInt, -1, 0, 1<<30 + 1, 1 << 31, math.MaxInt} {
		with(fmt.Sprint("Gens ", n), func(c *api.Conf) { c.Gens = n })
	}
	for _, s := range []string{"", "A", "a b", "a-b", "abcdefgh_01234567", "é", "c0"} {
		with(fmt.Sprintf("Name %q", s), func(c *api.Conf) { c.Comps[1].Name = s })
	}
	for _, n := range []int{math.MinInt, -1, 65, 1 << 32, math.MaxInt} {
		with(fmt.Sprint("Size ", n), func(c *api.Conf) { c.Comps[2].Size = n })
	}
	return l
}

func TestNewOfLayoutsThatMayBe(t *testing.T) {
	for _, c := range edges() {
		p := made(t, c)
		p.whole()
		if p.x.Count() != 0 || len(p.x.Rows()) != 0 || len(p.x.Query(0, 0)) != 0 {
			t.Errorf("%s has entities", p.name)
		}
		if s := p.x.State(); len(s.Gens) != 0 || len(s.Free) != 0 || len(s.Ents) != 0 {
			t.Errorf("%s: State %v", p.name, s)
		}
	}
}

func TestNewOfLayoutsThatMayNotBe(t *testing.T) {
	for name, c := range wrongs() {
		if ecs.New(c) != nil {
			t.Errorf("New of %s is not nil", name)
		}
	}
}

func TestConfIsTheLayout(t *testing.T) {
	for _, c := range edges() {
		p := made(t, c)
		x, _ := ecs.Load(c, nil, nil, nil)
		for _, got := range []api.Conf{p.x.Conf(), x.Conf(), p.x.Conf()} {
			if got.Log != c.Log || got.Pages != c.Pages || got.Entities != c.Entities || got.Gens != c.Gens || !slices.Equal(got.Comps, c.Comps) {
				t.Errorf("Conf is %v, not %v", got, c)
			}
		}
	}
}

// P11.1, P11.2: Spawn and Despawn

func TestSpawnUpToEntitiesAndBeyond(t *testing.T) {
	for _, n := range []int{1, 2, 3, 10, 1023, 1024} {
		for _, gens := range []int{1, 2, 1 << 30} {
			p := made(t, layout(n, gens, 1))
			p.rare = n > 100
			for i := range n {
				if id := p.spawns(api.OK); id != (api.ID{Index: i}) {
					t.Fatal("Spawn", i, "is", id)
				}
			}
			for range 3 {
				p.spawns(api.ErrFull)
			}
			if p.x.Count() != n {
				t.Error("Count", p.x.Count(), "not", n)
			}
			p.whole()
		}
	}
}

func TestSpawnBehindDespawnTakesTheLastOneBack(t *testing.T) {
	p, l := peopled(t, layout(4, 3, 1), 4)
	p.despawns(api.OK, l[2])
	p.despawns(api.OK, l[0])
	p.despawns(api.OK, l[3])
	for _, want := range []api.ID{{Index: 3, Gen: 1}, {Index: 0, Gen: 1}, {Index: 2, Gen: 1}} {
		if id := p.spawns(api.OK); id != want {
			t.Error(id, "not", want)
		}
	}
	p.spawns(api.ErrFull)
	p.whole()
}

func TestSpawnTakesFreeOnesAheadOfNewOnes(t *testing.T) {
	p, l := peopled(t, layout(4, 3, 1), 2)
	p.despawns(api.OK, l[0])
	for _, want := range []api.ID{{Index: 0, Gen: 1}, {Index: 2}, {Index: 3}} {
		if id := p.spawns(api.OK); id != want {
			t.Error(id, "not", want)
		}
	}
	p.spawns(api.ErrFull)
	p.whole()
}

func TestAnIndexHasSoManyGenerations(t *testing.T) {
	for _, gens := range []int{1, 2, 3, 9} {
		p := made(t, layout(2, gens, 1))
		for i := range 2 * gens {
			id := p.spawns(api.OK)
			if want := (api.ID{Index: i / gens, Gen: i % gens}); id != want {
				t.Fatal(id, "not", want)
			}
			p.sets(api.OK, id, 0, "x")
			p.despawns(api.OK, id)
			p.whole()
		}
		for range 3 {
			p.spawns(api.ErrFull)
		}
		s := p.x.State()
		if p.x.Count() != 0 || len(p.x.Rows()) != 0 || len(s.Free) != 0 || !slices.Equal(s.Gens, []int{gens, gens}) {
			t.Errorf("%d generations: %v", gens, s)
		}
		p.again().spawns(api.ErrFull)
	}
}

func TestManyGenerations(t *testing.T) {
	p := made(t, layout(3, 1<<30, 1))
	p.spawns(api.OK)
	for i := range 2000 {
		id := p.spawns(api.OK)
		if want := (api.ID{Index: 1, Gen: i}); id != want {
			t.Fatal(id, "not", want)
		}
		p.despawns(api.OK, id)
	}
	w := newTwin(layout(2, 1<<30, 1))
	w.gens, w.free = []int{1<<30 - 1, 1 << 30}, []int{0}
	q := loaded(t, w)
	id := q.spawns(api.OK) // the last one that there may be
	q.spawns(api.ErrFull)
	q.sets(api.OK, id, 0, "a")
	q.despawns(api.OK, id)
	q.spawns(api.ErrFull)
	q.whole()
}

func TestASpawnedEntityHasNoComponents(t *testing.T) {
	p, l := peopled(t, layout(2, 9, 1, 2, 0), 1)
	for k := range 3 {
		p.gets(api.ErrLacks, l[0], k)
		p.removes(api.ErrLacks, l[0], k)
	}
	p.asks(0, 7)
	// Nor has one that has the index of one that had some.
	for k, data := range []string{"a", "bc", ""} {
		p.sets(api.OK, l[0], k, data)
	}
	p.despawns(api.OK, l[0])
	id := p.spawns(api.OK)
	for k := range 3 {
		p.gets(api.ErrLacks, id, k)
		p.gets(api.ErrStale, l[0], k)
	}
	p.whole()
}

func TestDespawnTakesJustThatOne(t *testing.T) {
	for n := 1; n < 6; n++ {
		for i := range n {
			p, l := peopled(t, layout(9, 2, 1, 2), n)
			for j, id := range l {
				p.sets(api.OK, id, 0, fmt.Sprint(j))
			}
			p.despawns(api.OK, l[i])
			for j, id := range l {
				if j != i {
					p.alive(id, true)
					p.gets(api.OK, id, 0)
				}
			}
			p.despawns(api.ErrStale, l[i])
			p.whole()
		}
	}
}

// P11.2: errors

func TestOfIDsThatAreNotAlive(t *testing.T) {
	p, l := peopled(t, layout(6, 3, 1, 0), 5)
	for _, id := range l {
		p.sets(api.OK, id, 0, "x")
	}
	p.despawns(api.OK, l[0])
	p.despawns(api.OK, l[4])
	p.despawns(api.OK, p.spawns(api.OK))
	p.spawns(api.OK)
	for _, id := range append(p.strangers(), l[0], l[4]) {
		p.despawns(api.ErrStale, id)
		p.alive(id, false)
		for _, k := range []int{0, 1, 2, -1, 64} {
			p.sets(api.ErrStale, id, k, "y")
			p.sets(api.ErrStale, id, k, "")
			p.removes(api.ErrStale, id, k)
			p.gets(api.ErrStale, id, k)
		}
	}
	p.whole()
}

func TestOfComponentsThatThereAreNot(t *testing.T) {
	for _, n := range []int{0, 1, 2, 3, 31, 32} {
		p, l := peopled(t, layout(2, 2, many(n)...), 2)
		for k := range n {
			p.sets(api.OK, l[0], k, strings.Repeat("x", many(n)[k]))
		}
		for _, k := range append([]int{n, n + 1, -n - 1}, far...) {
			for _, id := range l {
				p.sets(api.ErrComp, id, k, "")
				p.sets(api.ErrComp, id, k, "x")
				p.removes(api.ErrComp, id, k)
				p.gets(api.ErrComp, id, k)
			}
		}
		for k := range n { // of each that there is
			p.gets(api.OK, l[0], k)
			p.gets(api.ErrLacks, l[1], k)
			p.removes(api.OK, l[0], k)
		}
		p.whole()
	}
}

func TestSetOfEachLength(t *testing.T) {
	for _, size := range []int{0, 1, 2, 3, 8, 63, 64} {
		p, l := peopled(t, layout(2, 2, 5, size, 5), 2)
		for n := range 70 {
			want := api.ErrSize
			if n == size {
				want = api.OK
			}
			p.sets(want, l[0], 1, strings.Repeat("n", n)) // that it has from one of them on
			p.sets(want, l[1], 1, strings.Repeat("m", n)) // that it has not
			p.gets(twins, l[1], 1)
			if n == size {
				p.removes(api.OK, l[1], 1)
			}
		}
		for _, data := range [][]byte{nil, {}} {
			if e := p.x.Set(l[0], 1, data); (e == api.OK) != (size == 0) || size > 0 && e != api.ErrSize {
				t.Errorf("Set of no data where Size is %d: error %d", size, int(e))
			}
		}
		p.sets(api.ErrSize, l[0], 1, strings.Repeat("x", 1<<16))
		p.whole()
	}
}

func TestRemoveOfWhatItLacks(t *testing.T) {
	p, l := peopled(t, layout(3, 2, 1, 0, 2), 3)
	p.sets(api.OK, l[0], 0, "a")
	p.sets(api.OK, l[1], 1, "")
	for i, id := range l {
		for k := range 3 {
			if i != k || i == 2 {
				p.removes(api.ErrLacks, id, k)
				p.gets(api.ErrLacks, id, k)
			}
		}
	}
	p.removes(api.OK, l[0], 0)
	p.removes(api.ErrLacks, l[0], 0)
	p.whole()
}

func TestWhichErrorIsToldFirst(t *testing.T) {
	p, l := peopled(t, layout(3, 2, 1, 2), 2)
	p.sets(api.OK, l[0], 0, "a")
	p.despawns(api.OK, l[1])
	here, gone := l[0], l[1]

	p.sets(api.ErrStale, gone, 9, "long") // no component, and no size
	p.sets(api.ErrStale, gone, 0, "long")
	p.sets(api.ErrStale, gone, -1, "")
	p.sets(api.ErrComp, here, 9, "long")
	p.sets(api.ErrComp, here, -1, "long")
	p.sets(api.ErrSize, here, 1, "long") // it has not 1 besides
	p.sets(api.ErrSize, here, 0, "long")

	p.removes(api.ErrStale, gone, 9)
	p.removes(api.ErrStale, gone, 1)
	p.removes(api.ErrComp, here, 9)
	p.removes(api.ErrLacks, here, 1)

	p.gets(api.ErrStale, gone, 9)
	p.gets(api.ErrStale, gone, 1)
	p.gets(api.ErrComp, here, 9)
	p.gets(api.ErrLacks, here, 1)
	p.whole()
}

func TestAllCallsOnNil(t *testing.T) {
	var x *ecs.Core
	c := layout(3, 3, 1)
	live, _ := ecs.New(c).Spawn()
	for _, id := range []api.ID{live, {}, {Index: -1, Gen: -1}, {Index: math.MaxInt, Gen: math.MinInt}} {
		if e := x.Despawn(id); e != api.ErrNil {
			t.Error("Despawn", int(e))
		}
		if x.Alive(id) {
			t.Error("Alive")
		}
		for _, k := range append([]int{0, 1, 2}, far...) {
			for _, data := range [][]byte{nil, {}, {1}, make([]byte, 100)} {
				if e := x.Set(id, k, data); e != api.ErrNil {
					t.Error("Set", int(e))
				}
			}
			if e := x.Remove(id, k); e != api.ErrNil {
				t.Error("Remove", int(e))
			}
			if b, e := x.Get(id, k); b != nil || e != api.ErrNil {
				t.Error("Get", b, int(e))
			}
		}
	}
	if id, e := x.Spawn(); id != (api.ID{}) || e != api.ErrNil {
		t.Error("Spawn", id, int(e))
	}
	for _, s := range sets() {
		if l := x.Query(s, 0); len(l) != 0 {
			t.Error("Query", l)
		}
		if l := x.Query(0, s); len(l) != 0 {
			t.Error("Query", l)
		}
	}
	if n, l := x.Count(), x.Rows(); n != 0 || len(l) != 0 {
		t.Error("Count and Rows", n, l)
	}
	if s := x.State(); s.Gens != nil || s.Free != nil || s.Ents != nil {
		t.Error("State", s)
	}
	if c := x.Conf(); c.Log != 0 || c.Pages != 0 || c.Entities != 0 || c.Gens != 0 || c.Comps != nil {
		t.Error("Conf", c)
	}
}

// P11.2: Set, Remove and Get

func TestSetOfWhatItHasAndHasNot(t *testing.T) {
	p, l := peopled(t, layout(3, 2, 2, 1), 3)
	for _, data := range []string{"ab", "cd", "\x00\x00", "ef"} {
		p.sets(api.OK, l[1], 0, data)
		if b, e := p.x.Get(l[1], 0); string(b) != data || e != api.OK {
			t.Errorf("Get = %q, error %d", b, int(e))
		}
		p.gets(api.ErrLacks, l[0], 0)
		p.gets(api.ErrLacks, l[2], 0)
		p.gets(api.ErrLacks, l[1], 1)
	}
	p.sets(api.OK, l[1], 1, "z")
	p.gets(api.OK, l[1], 0)
	p.whole()
}

func TestRemoveOfTheLastComponent(t *testing.T) {
	p, l := peopled(t, layout(3, 2, 2, 1), 2)
	p.sets(api.OK, l[0], 0, "ab")
	p.sets(api.OK, l[0], 1, "c")
	p.removes(api.OK, l[0], 0)
	p.gets(api.ErrLacks, l[0], 0)
	p.gets(api.OK, l[0], 1)
	p.removes(api.OK, l[0], 1)
	p.order(0, l[1], l[0])
	p.alive(l[0], true)
	p.removes(api.ErrLacks, l[0], 1)
	p.sets(api.OK, l[0], 0, "xy") // nothing of what it had comes back
	p.gets(api.ErrLacks, l[0], 1)
	p.whole()
}

func TestAComponentOfNoBytes(t *testing.T) {
	p, l := peopled(t, layout(3, 2, 0), 3)
	for _, id := range l {
		p.sets(api.OK, id, 0, "")
	}
	p.sets(api.ErrSize, l[0], 0, "x")
	p.removes(api.OK, l[1], 0)
	if b, e := p.x.Get(l[0], 0); len(b) != 0 || e != api.OK {
		t.Error(b, int(e))
	}
	p.gets(api.ErrLacks, l[1], 0)
	if got := p.x.Query(1, 0); !slices.Equal(got, []api.ID{l[0], l[2]}) {
		t.Error(got)
	}
	p.whole()
}

func TestDataStaysWithItsEntity(t *testing.T) {
	c := layout(8, 2, 1, 2, 3)
	for gone := range 6 {
		p, l := peopled(t, c, 6)
		for i, id := range l {
			for k, size := range []int{1, 2, 3} {
				p.sets(api.OK, id, k, strings.Repeat(string(rune('a'+i)), size))
			}
		}
		p.removes(api.OK, l[gone], 1)
		p.whole()
		p.despawns(api.OK, l[(gone+1)%6])
		p.whole()
		p.sets(api.OK, l[gone], 1, "ZZ")
		p.whole()
		p.despawns(api.OK, l[gone])
		p.despawns(api.OK, l[(gone+3)%6])
		p.whole()
	}
}

func TestEachComponentOfManyIsTheOneThatIsAskedFor(t *testing.T) {
	g := chance(5)
	sizes := many(32)
	p, l := peopled(t, layout(2, 2, sizes...), 2)
	for _, k := range []int{31, 0, 16, 7, 30, 1, 15} {
		p.sets(api.OK, l[0], k, g.data(sizes[k]))
	}
	for k := range 32 {
		p.sets(api.OK, l[1], k, g.data(sizes[k]))
	}
	p.whole()
	for k := range 32 {
		p.removes(twins, l[0], k)
		p.removes(api.OK, l[1], 31-k)
	}
	p.whole()
}

// P11.3: Query, Count and State

// crowd: a core with an entity of each set of three components, in mixed order.
func crowd(t *testing.T) (*pair, map[uint64]api.ID) {
	t.Helper()
	p, l := peopled(t, layout(12, 3, 1, 0, 2), 10)
	p.despawns(api.OK, l[1])
	p.despawns(api.OK, l[6])
	of := map[uint64]api.ID{}
	rest := append(slices.Clone(l[:1]), slices.Concat(l[2:6], l[7:])...)
	for i, id := range rest {
		sig := uint64(i*5+3) % 8
		of[sig] = id
		for k, size := range []int{1, 0, 2} {
			if sig>>k%2 == 1 {
				p.sets(api.OK, id, k, strings.Repeat("q", size))
			}
		}
	}
	return p, of
}

func TestQueryOfAllSets(t *testing.T) {
	p, of := crowd(t)
	for with := range uint64(16) {
		for without := range uint64(16) {
			var want []api.ID
			for sig, id := range of {
				if sig&with == with && sig&without == 0 {
					want = append(want, id)
				}
			}
			slices.SortFunc(want, func(a, b api.ID) int { return a.Index - b.Index })
			if got := p.x.Query(with, without); !slices.Equal(got, want) {
				t.Errorf("Query(%d, %d) = %v, not %v", with, without, got, want)
			}
			p.asks(with, without)
		}
	}
	for k := range 64 { // each alone, those that no entity has as well
		p.asks(1<<k, 0)
		p.asks(0, 1<<k)
		p.asks(1<<k, 1<<k)
		p.asks(1<<k|1, 0)
		p.asks(1, 1<<k)
	}
	if l := p.x.Query(0, 0); len(l) != 8 || p.x.Count() != 8 {
		t.Error(l, p.x.Count())
	}
}

func TestQueryWithAComponentInBoth(t *testing.T) {
	p, _ := crowd(t)
	for _, s := range sets()[1:] {
		if l := p.x.Query(s, s); len(l) != 0 {
			t.Errorf("Query(%#x, %#x) = %v", s, s, l)
		}
		if l := p.x.Query(s|6, s); len(l) != 0 {
			t.Errorf("Query(%#x, %#x) = %v", s|6, s, l)
		}
	}
}

func TestQueryRisesByIndex(t *testing.T) {
	g := chance(3)
	c := layout(40, 9, 1, 0, 2, 0)
	for range 20 {
		p, l := peopled(t, c, 40)
		p.rare = true
		for range 200 {
			id, k := one(&g, l), g.below(4)
			p.sets(api.OK, id, k, strings.Repeat("x", c.Comps[k].Size))
			p.removes(twins, one(&g, l), g.below(4))
			p.asks(uint64(g.below(16)), uint64(g.below(16)))
		}
		for range 15 { // indexes that come back late
			p.despawns(twins, one(&g, l))
		}
		for range 10 {
			p.sets(api.OK, p.spawns(api.OK), 0, "y")
		}
		for _, q := range [][]api.ID{p.x.Query(0, 0), p.x.Query(1, 0), p.x.Query(0, 8)} {
			if !slices.IsSortedFunc(q, func(a, b api.ID) int { return a.Index - b.Index }) {
				t.Error("Query tells", q)
			}
		}
		p.whole()
	}
}

func TestQueryMakesNothing(t *testing.T) {
	p, _ := crowd(t)
	was := told(p.x)
	for range 3 {
		for _, s := range sets() {
			p.x.Query(s, 0)
			p.x.Query(0, s)
		}
		p.x.State()
		p.x.Rows()
		p.x.Conf()
	}
	if told(p.x) != was {
		t.Error("asking changed what is told")
	}
}

func TestCountStepByStep(t *testing.T) {
	p := made(t, layout(5, 2, 1))
	count := func(want int) {
		t.Helper()
		if got := p.x.Count(); got != want {
			t.Fatal("Count", got, "not", want)
		}
	}
	count(0)
	a := p.spawns(api.OK)
	count(1)
	b := p.spawns(api.OK)
	p.sets(api.OK, b, 0, "b")
	count(2)
	p.removes(api.OK, b, 0)
	count(2)
	p.despawns(api.OK, a)
	count(1)
	p.despawns(api.ErrStale, a)
	count(1)
	p.spawns(api.OK)
	count(2)
}

func TestStateHasAllOfIt(t *testing.T) {
	p, l := peopled(t, layout(5, 2, 1, 2, 0), 4)
	p.sets(api.OK, l[2], 2, "")
	p.sets(api.OK, l[2], 0, "a")
	p.sets(api.OK, l[0], 1, "bc")
	p.sets(api.OK, l[0], 0, "d")
	p.despawns(api.OK, l[3])
	p.despawns(api.OK, l[1])
	p.despawns(api.OK, p.spawns(api.OK)) // the last one of index 1
	want := "{[0 2 0 1] [3] [{{0 0} [{0 [100]} {1 [98 99]}]} {{2 0} [{0 [97]} {2 []}]}]}"
	if got := fmt.Sprint(p.x.State()); got != want {
		t.Errorf("State is %s, not %s", got, want)
	}
}

// P11.4: Rows

func TestRowsAreBySigRising(t *testing.T) {
	p, of := crowd(t)
	l := p.x.Rows()
	if len(l) != 8 {
		t.Fatal(l)
	}
	for i, r := range l {
		if r.Sig != uint64(i) || !slices.Equal(r.IDs, []api.ID{of[r.Sig]}) || len(r.Cols) != bits.OnesCount64(r.Sig) {
			t.Errorf("Rows %d: %v", i, r)
		}
	}
	for sig, id := range of { // none of a set that no one has any more
		p.despawns(api.OK, id)
		for _, r := range p.x.Rows() {
			if r.Sig == sig || len(r.IDs) == 0 {
				t.Error("Rows behind Despawn:", r)
			}
		}
	}
	if l := p.x.Rows(); len(l) != 0 {
		t.Error(l)
	}
}

func TestRowsOfSetsThatOneCameBy(t *testing.T) {
	p, l := peopled(t, layout(5, 2, 1, 2, 0), 1)
	for k, data := range []string{"a", "bc", ""} {
		p.sets(api.OK, l[0], k, data)
		if r := p.x.Rows(); len(r) != 1 || r[0].Sig != 2<<k-1 {
			t.Error("Rows:", r)
		}
	}
	for k := range 3 {
		p.removes(api.OK, l[0], k)
		if r := p.x.Rows(); len(r) != 1 || r[0].Sig != 7&^(2<<k-1) {
			t.Error("Rows:", r)
		}
	}
}

func TestAnEntityWithoutComponentsHasRows(t *testing.T) {
	p, l := peopled(t, layout(5, 2, 1), 2)
	if got := p.x.Rows(); len(got) != 1 || got[0].Sig != 0 || !slices.Equal(got[0].IDs, l) || len(got[0].Cols) != 0 {
		t.Error(got)
	}
	p.sets(api.OK, l[0], 0, "a")
	p.sets(api.OK, l[1], 0, "b")
	if got := p.x.Rows(); len(got) != 1 || got[0].Sig != 1 || !slices.Equal(got[0].IDs, l) || len(got[0].Cols) != 1 || string(got[0].Cols[0]) != "ab" {
		t.Error(got)
	}
	p.removes(api.OK, l[1], 0)
	p.order(0, l[1])
	p.order(1, l[0])
}

func TestOrderOfATable(t *testing.T) {
	c := layout(9, 3, 1, 1)
	p, l := peopled(t, c, 5)
	p.order(0, l...)
	p.sets(api.OK, l[1], 0, "b") // from the middle
	p.order(0, l[0], l[4], l[2], l[3])
	p.sets(api.OK, l[0], 0, "a") // from the beginning
	p.order(0, l[3], l[4], l[2])
	p.order(1, l[1], l[0])
	p.sets(api.OK, l[2], 0, "c") // from the end
	p.order(0, l[3], l[4])
	p.order(1, l[1], l[0], l[2])
	p.sets(api.OK, l[1], 0, "B") // to where it is
	p.order(1, l[1], l[0], l[2])
	p.removes(api.OK, l[1], 0) // and back
	p.order(0, l[3], l[4], l[1])
	p.order(1, l[2], l[0])
	p.sets(api.OK, l[2], 1, "x")
	p.order(1, l[0])
	p.order(3, l[2])
	p.removes(api.OK, l[2], 0)
	p.order(2, l[2])
	p.order(3)
	p.despawns(api.OK, l[3])
	p.order(0, l[1], l[4])
	id := p.spawns(api.OK)
	p.order(0, l[1], l[4], id)
	p.despawns(api.OK, id)
	p.order(0, l[1], l[4])
	p.whole()
}

func TestOneMovesFromEachPlaceAndBack(t *testing.T) {
	c := layout(9, 3, 2, 1, 0)
	for n := 1; n < 7; n++ {
		for i := range n {
			p, l := peopled(t, c, n)
			for j, id := range l {
				p.sets(api.OK, id, 0, fmt.Sprint("e", j))
			}
			for range 3 {
				p.sets(api.OK, l[i], 1, "x")
				p.removes(api.OK, l[i], 1)
			}
			p.removes(api.OK, l[i], 0)
			p.sets(api.OK, l[i], 0, "YY")
			p.whole()
		}
	}
}

func TestRowsOfAThousand(t *testing.T) {
	p := made(t, layout(1024, 2, 1, 2))
	p.rare = true
	var l []api.ID
	for range 1024 {
		l = append(l, p.spawns(api.OK))
	}
	for i, id := range l { // all of them in one table, then in another one
		p.sets(api.OK, id, 0, string(rune('a'+i%26)))
	}
	p.sums()
	for i := range l {
		p.sets(api.OK, l[(i*37)%1024], 1, fmt.Sprintf("%02d", i%100))
	}
	p.sums()
	p.spawns(api.ErrFull)
	for i := range l {
		if i%3 > 0 {
			p.despawns(api.OK, l[(i*5)%1024])
		}
	}
	p.whole()
	q := p.again()
	q.whole()
}

// P11.4: Load

// given: what is handed to Load.
type given struct {
	c    api.Conf
	gens []int
	free []int
	l    []api.Rows
}

// good: what a core of five entities tells, of which two have one set; one index is free, and one is used up.
func good() *given {
	return &given{
		c:    layout(8, 3, 1, 2, 0),
		gens: []int{0, 2, 1, 0, 3, 0, 1},
		free: []int{2},
		l: []api.Rows{
			{Sig: 0, IDs: []api.ID{{Index: 3}}},
			{Sig: 2, IDs: []api.ID{{Index: 6, Gen: 1}, {Index: 0}}, Cols: [][]byte{[]byte("abcd")}},
			{Sig: 5, IDs: []api.ID{{Index: 1, Gen: 2}}, Cols: [][]byte{[]byte("e"), nil}},
			{Sig: 7, IDs: []api.ID{{Index: 5}}, Cols: [][]byte{[]byte("f"), []byte("gh"), {}}},
		},
	}
}

func (s *given) load() (*ecs.Core, api.Errno) {
	return ecs.Load(s.c, s.gens, s.free, s.l)
}

// faults: each makes a single thing wrong, or things that can't be wrong alone.
func faults() map[string]func(s *given) {
	l := nameFaults()
	maps.Copy(l, tableFaults())
	maps.Copy(l, entityFaults())
	return l
}

// nameFaults: those of gens and free.
func nameFaults() map[string]func(s *given) {
	return map[string]func(s *given){
		"more generations than entities":    func(s *given) { s.c.Entities = 6 },
		"a generation below 0":              func(s *given) { s.gens[4] = -1 },
		"a generation above Gens":           func(s *given) { s.gens[4] = s.c.Gens + 1 },
		"fewer generations than indexes":    func(s *given) { s.gens = s.gens[:6] },
		"a free index below 0":              func(s *given) { s.free = []int{2, -1} },
		"a free index that there is not":    func(s *given) { s.free = []int{2, 7} },
		"a free index twice":                func(s *given) { s.free = []int{2, 2} },
		"a free index of generation 0":      func(s *given) { s.free = []int{2, 3}; s.l = s.l[1:] },
		"a free index without generations":  func(s *given) { s.free = []int{2, 4} },
		"a free index of one that is alive": func(s *given) { s.free = []int{2, 1} },
	}
}

// tableFaults: those of the tables.
func tableFaults() map[string]func(s *given) {
	return map[string]func(s *given){
		"Sigs that fall":                       func(s *given) { s.l[1], s.l[2] = s.l[2], s.l[1] },
		"Sigs that fall at the end":            func(s *given) { s.l[2], s.l[3] = s.l[3], s.l[2] },
		"Sigs that fall at the beginning":      func(s *given) { s.l[0], s.l[1] = s.l[1], s.l[0] },
		"a Sig that falls below the one ahead": func(s *given) { s.l = append(s.l[1:], s.l[0]) },
		"a Sig twice":                          func(s *given) { s.split() },
		"a Sig twice, of no components":        func(s *given) { s.gens[2] = 0; s.free = nil; s.twiceBare() },
		"the greatest Sig":                     func(s *given) { s.l[3].Sig = math.MaxUint64 },
		"a Sig with one that there is not":     func(s *given) { s.l[3].Sig = 7 | 8 },
		"one that there is not, with a column": func(s *given) { s.l[3].Sig = 7 | 8; s.l[3].Cols = append(s.l[3].Cols, nil) },
		"a Sig with component 63":              func(s *given) { s.l[3].Sig = 7 | 1<<63 },
		"a Sig of component 32 alone":          func(s *given) { s.l[3].Sig = 1 << 32; s.l[3].Cols = nil },
		"a Sig of another size":                func(s *given) { s.l[1].Sig = 1 },
		"a Sig of other columns":               func(s *given) { s.l[2].Sig = 3 },
		"no IDs":                               func(s *given) { s.l[2].IDs = nil; s.l[2].Cols = [][]byte{nil, nil}; s.gens[1] = 3 },
		"no IDs ahead":                         func(s *given) { s.l[0].IDs = []api.ID{}; s.gens[3] = 3 },
		"no IDs behind":                        func(s *given) { s.l = append(s.l[:3], api.Rows{Sig: 7, Cols: [][]byte{{}, {}, {}}}); s.gens[5] = 3 },
		"no IDs of a set more":                 func(s *given) { s.insert(1, api.Rows{Sig: 1, Cols: [][]byte{nil}}) },
		"a column that is too short":           func(s *given) { s.l[1].Cols[0] = []byte("abc") },
		"a column that is too long":            func(s *given) { s.l[1].Cols[0] = []byte("abcde") },
		"a column of one row more":             func(s *given) { s.l[1].Cols[0] = []byte("abcdef") },
		"a column without bytes":               func(s *given) { s.l[1].Cols[0] = nil },
		"bytes of a component of none":         func(s *given) { s.l[3].Cols[2] = []byte{1} },
		"a column too few":                     func(s *given) { s.l[3].Cols = s.l[3].Cols[:2] },
		"a column too many":                    func(s *given) { s.l[1].Cols = append(s.l[1].Cols, nil) },
		"a column of no components":            func(s *given) { s.l[0].Cols = [][]byte{nil} },
		"no columns":                           func(s *given) { s.l[3].Cols = nil },
	}
}

// entityFaults: those of whose the rows are.
func entityFaults() map[string]func(s *given) {
	return map[string]func(s *given){
		"a table that is none of one more":      func(s *given) { s.insert(1, api.Rows{Sig: 1, IDs: []api.ID{{Index: 2, Gen: 1}}}) },
		"a table that is none of one twice":     func(s *given) { s.insert(1, api.Rows{Sig: 1, IDs: []api.ID{{Index: 3}}, Cols: [][]byte{[]byte("xy")}}) },
		"a set that may not be of one twice":    func(s *given) { s.l = append(s.l, api.Rows{Sig: 8, IDs: []api.ID{{Index: 3}}, Cols: [][]byte{nil}}) },
		"an ID of another generation":           func(s *given) { s.l[2].IDs[0].Gen = 1 },
		"an ID of a later generation":           func(s *given) { s.l[0].IDs[0].Gen = 1 },
		"an ID below 0":                         func(s *given) { s.l[0].IDs[0].Index = -1 },
		"an ID of a generation below 0":         func(s *given) { s.l[0].IDs[0].Gen = -1 },
		"an ID that never was":                  func(s *given) { s.l[0].IDs[0].Index = 7 },
		"an ID far above":                       func(s *given) { s.l[0].IDs[0].Index = math.MaxInt },
		"one more that is free":                 func(s *given) { s.l[0].IDs = append(s.l[0].IDs, api.ID{Index: 2, Gen: 1}) },
		"one more that is used up":              func(s *given) { s.l[0].IDs = append(s.l[0].IDs, api.ID{Index: 4, Gen: 3}) },
		"one more that never was":               func(s *given) { s.l[0].IDs = append(s.l[0].IDs, api.ID{Index: 7}) },
		"one more of another generation":        func(s *given) { s.l[0].IDs = append(s.l[0].IDs, api.ID{Index: 1, Gen: 1}) },
		"an ID twice in one table":              func(s *given) { s.l[0].IDs = append(s.l[0].IDs, s.l[0].IDs[0]) },
		"an ID twice, in another one's place":   func(s *given) { s.l[1].IDs[1] = s.l[1].IDs[0] },
		"an ID in two tables":                   func(s *given) { s.l[0].IDs = append(s.l[0].IDs, s.l[3].IDs[0]) },
		"an ID in two, in another one's place":  func(s *given) { s.l[0].IDs[0] = s.l[3].IDs[0] },
		"an ID in the first and in the last":    func(s *given) { s.l[3].IDs[0] = s.l[0].IDs[0] },
		"more IDs than there may be entities":   func(s *given) { s.l[0].IDs = slices.Repeat(s.l[0].IDs, 1025) },
		"one alive that is not there":           func(s *given) { s.l = s.l[1:] },
		"the last one alive is not there":       func(s *given) { s.l = s.l[:3] },
		"one of two of a table is not there":    func(s *given) { s.l[1].IDs = s.l[1].IDs[:1]; s.l[1].Cols[0] = s.l[1].Cols[0][:2] },
		"none is there":                         func(s *given) { s.l = nil },
		"one alive that is not free":            func(s *given) { s.free = nil },
		"one alive, the next index, not there":  func(s *given) { s.gens = append(s.gens, 0) },
		"one alive that was used up, not there": func(s *given) { s.c.Gens = 4 },
	}
}

// split: the set of two entities is there twice, once for each.
func (s *given) split() {
	r := s.l[1]
	s.l[1] = api.Rows{Sig: r.Sig, IDs: r.IDs[:1], Cols: [][]byte{[]byte("ab")}}
	s.insert(2, api.Rows{Sig: r.Sig, IDs: r.IDs[1:], Cols: [][]byte{[]byte("cd")}})
}

// twiceBare: the empty set is there twice, with index 2 in the second one, which is alive.
func (s *given) twiceBare() {
	s.insert(1, api.Rows{Sig: 0, IDs: []api.ID{{Index: 2}}})
}

func (s *given) insert(i int, r api.Rows) {
	s.l = slices.Insert(s.l, i, r)
}

// refused: Load tells that error of these.
func (s *given) refused(t *testing.T, name string, want api.Errno) {
	t.Helper()
	if x, e := s.load(); x != nil || e != want {
		t.Errorf("Load with %s: error %d, nothing %v; not %d", name, int(e), x == nil, int(want))
	}
}

func TestLoadHasTheseEntities(t *testing.T) {
	s := good()
	x, e := s.load()
	if e != api.OK {
		t.Fatal(int(e))
	}
	want := "{[0 2 1 0 3 0 1] [2] [{{0 0} [{1 [99 100]}]} {{1 2} [{0 [101]} {2 []}]} {{3 0} []} {{5 0} [{0 [102]} {1 [103 104]} {2 []}]} {{6 1} [{1 [97 98]}]}]}"
	if got := fmt.Sprint(x.State()); got != want {
		t.Errorf("State is %s, not %s", got, want)
	}
	if got, want := fmt.Sprint(x.Rows()), fmt.Sprint(s.l); got != want {
		t.Errorf("Rows are %s, not %s", got, want)
	}
	if got, want := fmt.Sprint(x.Conf()), fmt.Sprint(s.c); got != want {
		t.Errorf("Conf is %s, not %s", got, want)
	}
	if l := x.Query(2, 0); x.Count() != 5 || !slices.Equal(l, []api.ID{{Index: 0}, {Index: 5}, {Index: 6, Gen: 1}}) {
		t.Error(x.Count(), l)
	}
	for _, want := range []api.ID{{Index: 2, Gen: 1}, {Index: 7}} {
		if id, e := x.Spawn(); id != want || e != api.OK {
			t.Error("Spawn", id, int(e))
		}
	}
	if id, e := x.Spawn(); id != (api.ID{}) || e != api.ErrFull {
		t.Error("Spawn", id, int(e))
	}
}

func TestLoadOfNothing(t *testing.T) {
	for _, c := range edges() {
		for _, s := range []*given{{c: c}, {c: c, gens: []int{}, free: []int{}, l: []api.Rows{}}} {
			x, e := s.load()
			if e != api.OK {
				t.Fatalf("Load(%s) of nothing: error %d", brief(c), int(e))
			}
			p := &pair{t: t, x: x, w: newTwin(c), name: "Load of nothing"}
			p.whole()
			p.spawns(api.OK)
		}
	}
}

func TestLoadWithASingleThingWrong(t *testing.T) {
	for name, fault := range faults() {
		s := good()
		fault(s)
		s.refused(t, name, api.ErrForm)
	}
	if _, e := good().load(); e != api.OK {
		t.Error("Load with nothing wrong:", int(e))
	}
}

func TestLoadOfLayoutsThatMayNotBe(t *testing.T) {
	for name, c := range wrongs() {
		s := good()
		s.c = c
		s.refused(t, name, api.ErrArg)
		(&given{c: c}).refused(t, name+" and nothing else", api.ErrArg)
		for other, fault := range faults() { // the layout is told first
			s := good()
			fault(s)
			s.c = c
			s.refused(t, name+", and "+other, api.ErrArg)
		}
	}
}

func TestLoadWithTwoThingsWrong(t *testing.T) {
	all := faults()
	for first, fault := range all {
		for _, second := range []string{"a generation below 0", "a generation above Gens", "a free index twice"} {
			s := good()
			fault(s)
			all[second](s)
			s.refused(t, first+", and "+second, api.ErrForm)
		}
	}
}

func TestLoadOfWhatFillsALayout(t *testing.T) {
	for _, n := range []int{1, 2, 63, 1023, 1024} {
		w := newTwin(layout(n, 2, 1))
		for range n {
			w.spawn()
		}
		for _, id := range w.ids()[n/2:] {
			w.set(id, 0, "z")
		}
		p := loaded(t, w)
		p.spawns(api.ErrFull)
		s := &given{c: w.c, gens: w.gens, l: w.rows()}
		s.c.Entities = n - 1
		want := api.ErrForm
		if n == 1 {
			want = api.ErrArg
		}
		s.refused(t, "an entity too many", want)
	}
}

func TestLoadOfThirtyTwoComponents(t *testing.T) {
	g := chance(9)
	sizes := many(32)
	w := newTwin(layout(40, 2, sizes...))
	for i := range 40 {
		id, _ := w.spawn()
		for k := range 32 {
			if g.below(40) < i {
				w.set(id, k, g.data(sizes[k]))
			}
		}
	}
	loaded(t, w).whole()
	for sig := range w.tables {
		s := &given{c: w.c, gens: w.gens, l: w.rows()}
		i := slices.IndexFunc(s.l, func(r api.Rows) bool { return r.Sig == sig })
		s.l[i].Sig |= 1 << 32
		s.refused(t, "component 32", api.ErrForm)
	}
}

// P11.5

func TestLongRuns(t *testing.T) {
	for seed := range 40 {
		g := chance(seed)
		p := made(t, one(&g, layouts()))
		p.name = fmt.Sprintf("run %d: %s", seed, p.name)
		for range 200 {
			step(t, &g, p)
		}
		p.whole()
	}
}

func TestLoadOfWhatIsToldGoesOn(t *testing.T) {
	for seed := range 40 {
		g := chance(seed)
		first := made(t, one(&g, layouts()))
		first.name = fmt.Sprintf("run %d: %s", seed, first.name)
		for range g.below(150) {
			step(t, &g, first)
		}
		second := first.again()
		second.whole()
		for range 60 {
			step(t, &g, first, second)
		}
		third := second.again()
		for range 60 {
			step(t, &g, first, second, third)
		}
		first.whole()
		third.whole()
	}
}

func TestLongRunsOfAThousandEntities(t *testing.T) {
	g := chance(4)
	for _, c := range []api.Conf{layout(1024, 2, 1, 0, 2), layout(1024, 1<<30, many(32)...)} {
		p := made(t, c)
		p.rare = true
		for range 1020 {
			p.spawns(api.OK)
		}
		q := p.again()
		for i := range 3000 {
			step(t, &g, p, q)
			if i%500 == 0 {
				q.sums()
				q = q.again()
			}
		}
		p.sums()
		q.whole()
	}
}

func TestStateIsAsTheStepsSayWhateverCameAhead(t *testing.T) {
	// The same entities with the same data, by other ways: one State, and Rows in the order that each way led to.
	c := layout(6, 1, 1, 2)
	p, l := peopled(t, c, 3)
	for i, id := range l {
		p.sets(api.OK, id, 0, fmt.Sprint(i))
		p.sets(api.OK, id, 1, fmt.Sprint("x", i))
	}
	q, l := peopled(t, c, 3)
	for i, id := range slices.Backward(l) {
		q.sets(api.OK, id, 1, "..")
		q.sets(api.OK, id, 0, ".")
		q.removes(api.OK, id, 1)
		q.sets(api.OK, id, 1, fmt.Sprint("x", i))
		q.sets(api.OK, id, 0, fmt.Sprint(i))
	}
	if a, b := fmt.Sprint(p.x.State()), fmt.Sprint(q.x.State()); a != b {
		t.Errorf("%s, and %s", a, b)
	}
	p.order(3, l[0], l[1], l[2])
	q.order(3, l[2], l[1], l[0])
}

// toggle: what id has of component k, if it has it, goes; else it comes.
func (p *pair) toggle(g *chance, id api.ID, k int) {
	p.t.Helper()
	if _, e := p.w.get(id, k); e == api.OK {
		p.removes(api.OK, id, k)
		return
	}
	p.sets(api.OK, id, k, g.data(p.w.c.Comps[k].Size))
}

func TestMoreSetsThanThereEverAreEntities(t *testing.T) {
	g := chance(8)
	p, l := peopled(t, layout(30, 5, many(32)...), 20)
	for i, id := range l {
		for k := range 5 {
			if i>>k%2 == 1 {
				p.toggle(&g, id, k)
			}
		}
	}
	p.rare = true
	walkers := []api.ID{l[3], l[7], l[19]}
	for i := 1; i <= 20000; i++ {
		// One component each time: by its turning, no set comes twice.
		p.toggle(&g, walkers[i%3], bits.TrailingZeros(uint(1+i/3)))
		if i%200 == 0 {
			p.sums()
			p.despawns(twins, api.ID{Index: 20, Gen: i / 400})
			p.spawns(twins)
			p.asks(one(&g, sets()), one(&g, sets()))
		}
	}
	p.whole()
	p.again().whole()
}

// heap: how many bytes are in use.
func heap() int {
	var m runtime.MemStats
	runtime.GC()
	runtime.ReadMemStats(&m)
	return int(m.HeapAlloc)
}

func TestSetsThatNoOneHasAnyMoreAreNotKept(t *testing.T) {
	x := ecs.New(layout(1, 1, make([]int, 32)...))
	id, _ := x.Spawn()
	was := heap()
	for i := 1; i <= 150000; i++ {
		k := bits.TrailingZeros(uint(i))
		if _, e := x.Get(id, k); e == api.OK {
			x.Remove(id, k)
		} else {
			x.Set(id, k, nil)
		}
	}
	if more := heap() - was; more > 8<<20 {
		t.Errorf("behind 150000 sets, one at a time, there are %d bytes more in use", more)
	}
	if r := x.Rows(); len(r) != 1 || r[0].Sig != 150000^150000>>1 {
		t.Error(r)
	}
}

// What holds everywhere

// spare: these bytes, with spare room behind them that has 7s.
func spare(s string) []byte {
	room := append([]byte(s), slices.Repeat([]byte{7}, 80)...)
	return room[:len(s)]
}

// roomy: l's items, with spare room behind them that has some of that filling.
func roomy[T any](l []T, filling T) []T {
	room := append(slices.Clone(l), filling, filling, filling)
	return room[:len(l)]
}

// overwrite: all of l, its spare room too, is v from now on.
func overwrite[T any](l []T, v T) {
	l = l[:cap(l)]
	for i := range l {
		l[i] = v
	}
}

// handed: what good tells, with spare room each.
func handed() *given {
	s := good()
	s.c.Comps = roomy(s.c.Comps, api.Comp{Name: "spare", Size: 5})
	s.gens, s.free = roomy(s.gens, 1), roomy(s.free, 1)
	for i, r := range s.l {
		for j, col := range r.Cols {
			r.Cols[j] = spare(string(col))
		}
		s.l[i] = api.Rows{Sig: r.Sig, IDs: roomy(r.IDs, api.ID{Index: 77}), Cols: roomy(r.Cols, []byte("spare"))}
	}
	s.l = roomy(s.l, api.Rows{Sig: 99})
	return s
}

// text: all of it, its spare room too.
func (s *given) text() string {
	var b strings.Builder
	fmt.Fprintln(&b, s.c, s.c.Comps[:cap(s.c.Comps)], s.gens[:cap(s.gens)], s.free[:cap(s.free)])
	for _, r := range s.l[:cap(s.l)] {
		fmt.Fprintln(&b, r.Sig, len(r.IDs), r.IDs[:cap(r.IDs)], len(r.Cols))
		for _, col := range r.Cols[:cap(r.Cols)] {
			fmt.Fprintln(&b, len(col), col[:cap(col)])
		}
	}
	return b.String()
}

// spoil: overwrites all of it, its spare room too.
func (s *given) spoil() {
	overwrite(s.c.Comps, api.Comp{Name: "other", Size: 33})
	overwrite(s.gens, 2)
	overwrite(s.free, 5)
	spoilRows(s.l)
}

func spoilRows(l []api.Rows) {
	for _, r := range l {
		overwrite(r.IDs, api.ID{Index: 88})
		for _, col := range r.Cols {
			overwrite(col, '!')
		}
		overwrite(r.Cols, nil)
	}
	overwrite(l, api.Rows{Sig: 66})
}

func spoilState(s api.State) {
	overwrite(s.Gens, 2)
	overwrite(s.Free, 3)
	for _, x := range s.Ents {
		for _, q := range x.Parts {
			overwrite(q.Data, '?')
		}
		overwrite(x.Parts, api.Part{Comp: 9})
	}
	overwrite(s.Ents, api.Ent{ID: api.ID{Index: 55}})
}

// goodTwin: the twin of what Load makes of good.
func goodTwin() *twin {
	s := good()
	w := newTwin(s.c)
	w.gens, w.free = s.gens, s.free
	for _, r := range s.l {
		for row, id := range r.IDs {
			w.has[id] = map[int]string{}
			col := 0
			for k, c := range s.c.Comps {
				if r.Sig>>k%2 == 1 {
					w.has[id][k] = string(r.Cols[col][row*c.Size : (row+1)*c.Size])
					col++
				}
			}
			w.enter(id)
		}
	}
	return w
}

func TestArgumentsStayAsTheyAre(t *testing.T) {
	all := faults()
	all["nothing wrong"] = func(*given) {}
	for name, fault := range all {
		s := handed()
		fault(s)
		was := s.text()
		x, _ := s.load()
		y := ecs.New(s.c)
		if s.text() != was {
			t.Fatalf("Load with %s changed what was handed in: %s, not %s", name, s.text(), was)
		}
		g := chance(6)
		for _, z := range []*ecs.Core{x, y} { // nor do calls that come later
			for range 60 {
				id, _ := z.Spawn()
				for _, id := range append(z.Query(0, 0), id) {
					for k := range 3 {
						z.Set(id, k, []byte(g.data(k*2%3)))
						z.Set(id, k, []byte(g.data(1+k%2)))
						z.Remove(id, g.below(3))
					}
				}
				z.Despawn(api.ID{Index: g.below(8), Gen: g.below(3)})
			}
		}
		if s.text() != was {
			t.Fatalf("what came behind Load with %s changed what was handed in: %s, not %s", name, s.text(), was)
		}
	}
}

func TestDataStaysAsItIs(t *testing.T) {
	p, l := peopled(t, layout(3, 2, 1, 2), 2)
	data := spare("xy")
	call := func(name string, want api.Errno, x *ecs.Core, id api.ID, k int) {
		t.Helper()
		if e := x.Set(id, k, data); e != want {
			t.Errorf("Set %s: error %d", name, int(e))
		}
		if string(data) != "xy" || string(data[:82]) != "xy"+strings.Repeat("\x07", 80) {
			t.Errorf("Set %s changed its data: %v", name, data[:82])
		}
	}
	call("of what it has not", api.OK, p.x, l[0], 1)
	call("of what it has", api.OK, p.x, l[0], 1)
	call("of another one", api.OK, p.x, l[1], 1)
	call("of another size", api.ErrSize, p.x, l[0], 0)
	call("of no component", api.ErrComp, p.x, l[0], 2)
	call("of no entity", api.ErrStale, p.x, api.ID{Index: 2}, 1)
	call("on nil", api.ErrNil, nil, l[0], 1)
	p.w.set(l[0], 1, "xy")
	p.w.set(l[1], 1, "xy")
	overwrite(data, '!')
	p.whole()
	p.sets(api.OK, l[0], 0, "z") // nor is it looked at when the entity moves
	p.sets(api.OK, l[1], 1, "uv")
	p.whole()
}

func TestNothingThatIsHandedInIsKept(t *testing.T) {
	s := handed()
	x, e := s.load()
	if e != api.OK {
		t.Fatal(int(e))
	}
	y := ecs.New(s.c)
	s.spoil()
	p := &pair{t: t, x: x, w: goodTwin(), name: "Load, with all overwritten that was handed in"}
	q := &pair{t: t, x: y, w: newTwin(good().c), name: "New, with all overwritten that was handed in"}
	g := chance(7)
	for _, z := range []*pair{p, q} {
		z.whole()
		for range 100 { // by the sizes that the layout had
			step(t, &g, z)
		}
		z.whole()
	}
}

func TestAnswersAreNewMemory(t *testing.T) {
	g := chance(11)
	for _, c := range layouts() {
		p := made(t, c)
		for range 40 {
			step(t, &g, p)
			overwrite(p.x.Conf().Comps, api.Comp{Name: "other", Size: 9})
			overwrite(p.x.Query(0, 0), api.ID{Index: 99})
			overwrite(p.x.Query(1, 2), api.ID{Index: 99})
			spoilState(p.x.State())
			spoilRows(p.x.Rows())
			for _, id := range p.w.ids() {
				for k := range c.Comps {
					b, _ := p.x.Get(id, k)
					overwrite(b, '#')
				}
			}
			p.sums()
		}
		p.name = "answers overwritten: " + p.name
		p.whole()
	}
}

func TestListsOfOneAnswerShareNothing(t *testing.T) {
	p := &pair{t: t, w: goodTwin(), name: "Load"}
	p.x, _ = good().load()
	want := p.x.State()
	for i, x := range want.Ents {
		for j := range x.Parts {
			s := p.x.State()
			overwrite(s.Ents[i].Parts[j].Data, '!')
			s.Ents[i].Parts[j].Data = want.Ents[i].Parts[j].Data
			if fmt.Sprint(s) != fmt.Sprint(want) {
				t.Errorf("overwriting part %d of entity %d changed more of the State: %v", j, i, s)
			}
		}
		s := p.x.State()
		overwrite(s.Ents[i].Parts, api.Part{Comp: 9})
		s.Ents[i].Parts = x.Parts
		if fmt.Sprint(s) != fmt.Sprint(want) {
			t.Errorf("overwriting the parts of entity %d changed more of the State: %v", i, s)
		}
	}
	s := p.x.State()
	overwrite(s.Gens, 9)
	if !slices.Equal(s.Free, want.Free) {
		t.Error("overwriting Gens changed Free:", s.Free)
	}
	rows := p.x.Rows()
	for i, r := range rows {
		for j := range r.Cols {
			l := p.x.Rows()
			overwrite(l[i].Cols[j], '!')
			l[i].Cols[j] = rows[i].Cols[j]
			if fmt.Sprint(l) != fmt.Sprint(rows) {
				t.Errorf("overwriting column %d of Rows %d changed more of them: %v", j, i, l)
			}
		}
		l := p.x.Rows()
		overwrite(l[i].IDs, api.ID{Index: 99})
		overwrite(l[i].Cols, nil)
		l[i] = rows[i]
		if fmt.Sprint(l) != fmt.Sprint(rows) {
			t.Errorf("overwriting Rows %d changed more of them: %v", i, l)
		}
	}
	p.whole()
}

func TestAnswersStayAsTheyAre(t *testing.T) {
	p := &pair{t: t, w: goodTwin(), name: "Load"}
	p.x, _ = good().load()
	say := func(c api.Conf, s api.State, l []api.Rows, q []api.ID, b []byte) string {
		return fmt.Sprint(c, s, l, q, b)
	}
	c, s, l, q := p.x.Conf(), p.x.State(), p.x.Rows(), p.x.Query(2, 0)
	b, _ := p.x.Get(api.ID{Index: 5}, 1)
	was := say(c, s, l, q, b)
	g := chance(12)
	for range 300 {
		step(t, &g, p)
	}
	if now := say(c, s, l, q, b); now != was {
		t.Errorf("later calls changed answers: %s, not %s", now, was)
	}
}

func TestAnAnswerMayBeHandedIn(t *testing.T) {
	p, l := peopled(t, layout(3, 2, 2, 2), 2)
	p.sets(api.OK, l[0], 0, "ab")
	data, _ := p.x.Get(l[0], 0)
	for _, id := range l {
		for k := range 2 {
			if p.x.Set(id, k, data) != api.OK || p.w.set(id, k, "ab") != api.OK {
				t.Error("Set of what Get told")
			}
		}
	}
	overwrite(data, '!')
	p.whole()
	s, rows := p.x.State(), p.x.Rows()
	x, e := ecs.Load(p.x.Conf(), s.Gens, s.Free, rows)
	if e != api.OK {
		t.Fatal(int(e))
	}
	spoilState(s)
	spoilRows(rows)
	q := &pair{t: t, x: x, w: p.w.copied(), name: "Load of what was told, and then overwritten"}
	q.whole()
	p.whole()
}

func TestTwoOfThemAreApart(t *testing.T) {
	g := chance(13)
	s := good()
	a, _ := s.load()
	b, _ := s.load()
	p := &pair{t: t, x: a, w: goodTwin(), name: "the one"}
	q := &pair{t: t, x: b, w: goodTwin(), name: "the other one"}
	r, z := made(t, s.c), made(t, s.c)
	for range 80 {
		step(t, &g, p)
		step(t, &g, r)
		q.sums()
		z.sums()
	}
	for range 80 {
		step(t, &g, q)
		step(t, &g, z)
		p.sums()
		r.sums()
	}
}

func TestNilAndEmptyAreAlike(t *testing.T) {
	c := layout(2, 2, 0, 1)
	c.Comps = roomy(c.Comps, api.Comp{})
	for _, data := range [][]byte{nil, {}, spare("")} {
		for _, none := range [][]int{nil, {}, make([]int, 0, 5)} {
			x, e := ecs.Load(c, []int{0}, none, []api.Rows{{Sig: 1, IDs: []api.ID{{}}, Cols: [][]byte{data}}})
			if e != api.OK {
				t.Fatal(int(e))
			}
			if x.Set(api.ID{}, 0, data) != api.OK || x.Set(api.ID{}, 1, data) != api.ErrSize {
				t.Error("Set of nothing")
			}
			for _, cols := range [][][]byte{nil, {}, make([][]byte, 0, 2)} {
				x, e := ecs.Load(c, []int{0}, none, []api.Rows{{IDs: []api.ID{{}}, Cols: cols}})
				if e != api.OK || x.Count() != 1 {
					t.Error("Load without cols", int(e))
				}
			}
			for _, ids := range [][]api.ID{nil, {}, make([]api.ID, 0, 2)} {
				if x, e := ecs.Load(c, none, none, []api.Rows{{Sig: 1, IDs: ids, Cols: [][]byte{data}}}); x != nil || e != api.ErrForm {
					t.Error("Load without ids", int(e))
				}
			}
		}
	}
	for _, comps := range [][]api.Comp{nil, {}, make([]api.Comp, 0, 4)} {
		x := ecs.New(api.Conf{Log: 2, Pages: 4, Entities: 1, Gens: 1, Comps: comps})
		if x == nil || len(x.Conf().Comps) != 0 {
			t.Error("New without components")
		}
	}
}

func TestZeroValueEnds(t *testing.T) {
	x := &ecs.Core{}
	for range 3 {
		id, _ := x.Spawn()
		for k := -1; k < 3; k++ {
			x.Set(id, k, nil)
			x.Set(id, k, []byte{1})
			x.Get(id, k)
			x.Remove(id, k)
		}
		x.Alive(id)
		x.Despawn(id)
		x.Query(0, 0)
		x.Count()
		x.State()
		x.Rows()
		x.Conf()
	}
}

func TestTheSameCallsTellTheSame(t *testing.T) {
	run := func() string {
		g := chance(77)
		p := made(t, layout(20, 3, many(20)...))
		p.rare = true
		var b strings.Builder
		for range 300 {
			step(t, &g, p)
			fmt.Fprintln(&b, p.x.Query(0, 0), p.x.Query(1, 2))
		}
		return b.String() + told(p.x)
	}
	first := run()
	for range 10 {
		if run() != first {
			t.Fatal("the same calls on two of them tell not the same")
		}
	}
}
