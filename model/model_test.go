package model_test

import (
	"bytes"
	"fmt"
	"maps"
	"math"
	"slices"
	"strconv"
	"strings"
	"testing"

	"vivarium/api"
	"vivarium/ecs"
	"vivarium/model"
)

// chance: numbers that look mixed, the same ones for the same seed.
type chance uint64

// below: the next number from 0 on, below n.
func (c *chance) below(n int) int {
	*c = *c*6364136223846793005 + 1442695040888963407
	return int(uint64(*c)>>33) % n
}

// one: the next one of l.
func one[T any](c *chance, l []T) T {
	return l[c.below(len(l))]
}

// data: n mixed bytes, none of them 0.
func (c *chance) data(n int) string {
	out := make([]byte, n)
	for i := range out {
		out[i] = byte(1 + c.below(255))
	}
	return string(out)
}

// brief: a value as a text that is not too long to be read.
func brief(v any) string {
	s := fmt.Sprint(v)
	if len(s) > 600 {
		return fmt.Sprintf("%s.. (%d signs)", s[:600], len(s))
	}
	return s
}

// layout: of so many entities and generations, and components of these sizes.
func layout(entities, gens int, sizes ...int) api.Conf {
	c := api.Conf{Log: 2, Pages: 4, Entities: entities, Gens: gens}
	for i, n := range sizes {
		c.Comps = append(c.Comps, api.Comp{Name: fmt.Sprint("c", i), Size: n})
	}
	return c
}

// many: sizes of n components, from 0 to 6.
func many(n int) []int {
	var l []int
	for i := range n {
		l = append(l, (i*5+3)%7)
	}
	return l
}

// layouts: of few entities, generations and components, and of many.
func layouts() []api.Conf {
	return []api.Conf{
		layout(1, 1),
		layout(1, 3, 0),
		layout(2, 1, 1, 2),
		layout(3, 2, 0, 0, 0),
		layout(5, 2, 1, 2, 0),
		layout(8, 1000, 3, 0, 64, 1),
		layout(12, 3, 1),
		layout(20, 1<<30, 2, 0, 1),
		layout(30, 4, many(7)...),
		layout(1024, 1<<30, many(32)...),
	}
}

// sets: few components, many, and such as are in no layout.
func sets() []uint64 {
	return []uint64{0, 1, 2, 3, 4, 5, 6, 7, 8, 0x70, 0xff, 1 << 30, 1 << 31, 1 << 32, 1<<32 | 1, 1 << 63, 1<<63 | 1, 1<<32 - 1, math.MaxUint64, 0xaaaaaaaa, 0x5555555555555555}
}

// far: numbers of which there never is a component.
var far = []int{math.MinInt, math.MinInt + 1, -1 << 32, -1025, -65, -64, -63, -32, -2, -1, 32, 33, 62, 63, 64, 65, 66, 127, 128, 255, 256, 1 << 16, 1 << 32, 1<<32 + 1, math.MaxInt - 1, math.MaxInt}

// part: component k with that data.
func part(k int, data string) api.Part {
	return api.Part{Comp: k, Data: []byte(data)}
}

// ent: the entity of that name, with these parts.
func ent(index, gen int, parts ...api.Part) api.Ent {
	return api.Ent{ID: api.ID{Index: index, Gen: gen}, Parts: parts}
}

// words: numbers and bytes, each with a blank behind it.
type words []byte

func (w *words) num(n int) {
	*w = append(strconv.AppendInt(*w, int64(n), 10), ' ')
}

func (w *words) nums(l []int) {
	w.num(len(l))
	for _, n := range l {
		w.num(n)
	}
}

func (w *words) part(p api.Part) {
	w.num(p.Comp)
	w.num(len(p.Data))
	for _, b := range p.Data {
		w.num(int(b))
	}
}

func (w *words) ent(x api.Ent) {
	w.num(x.ID.Index)
	w.num(x.ID.Gen)
	w.num(len(x.Parts))
	for _, p := range x.Parts {
		w.part(p)
	}
}

// said: all that s says, so that two that say the same, and just these, are the same text.
func said(s api.State) string {
	var w words
	w.nums(s.Gens)
	w.nums(s.Free)
	w.num(len(s.Ents))
	for _, x := range s.Ents {
		w.ent(x)
	}
	return string(w)
}

// whole: l, its spare room too.
func whole[T any](l []T) []T {
	return l[:cap(l)]
}

// roomy: l's items in new memory, with spare room behind them that has some of that filling.
func roomy[T any](l []T, filling T) []T {
	room := make([]T, len(l)+3)
	copy(room, l)
	for i := range 3 {
		room[len(l)+i] = filling
	}
	return room[:len(l)]
}

// overwrite: all of l, its spare room too, is v from now on.
func overwrite[T any](l []T, v T) {
	l = whole(l)
	for i := range l {
		l[i] = v
	}
}

// handed: s in new memory, with spare room behind each list that is full of other things.
func handed(s api.State) api.State {
	out := api.State{Gens: roomy(s.Gens, 1), Free: roomy(s.Free, 0), Ents: roomy(s.Ents, ent(0, 7))}
	for i, x := range s.Ents {
		l := roomy(x.Parts, api.Part{Comp: 1})
		for j, p := range x.Parts {
			l[j].Data = roomy(p.Data, 7)
		}
		out.Ents[i].Parts = l
	}
	return out
}

// all: what s says, and what all the spare room has.
func all(s api.State) string {
	var w words
	w.nums(whole(s.Gens))
	w.nums(whole(s.Free))
	for _, x := range whole(s.Ents) {
		w.ent(x)
		for _, p := range whole(x.Parts) {
			w.part(p)
			w.part(api.Part{Data: whole(p.Data)})
		}
	}
	return said(s) + "; " + string(w)
}

// spoil: overwrites all of s, its spare room too.
func spoil(s api.State) {
	overwrite(s.Gens, 5)
	overwrite(s.Free, 6)
	for _, x := range whole(s.Ents) {
		for _, p := range whole(x.Parts) {
			overwrite(p.Data, '?')
		}
		overwrite(x.Parts, part(9, "spoilt"))
	}
	overwrite(s.Ents, ent(55, 66))
}

// step: one of the five, with all that it may be asked with.
type step struct {
	do   string
	id   api.ID
	k    int
	data []byte
}

func (x step) String() string {
	switch x.do {
	case "Spawn":
		return x.do
	case "Despawn":
		return fmt.Sprintf("%s(%v)", x.do, x.id)
	case "Set":
		return fmt.Sprintf("%s(%v, %d) of %d bytes", x.do, x.id, x.k, len(x.data))
	}
	return fmt.Sprintf("%s(%v, %d)", x.do, x.id, x.k)
}

// told: what a step tells beside the state.
type told struct {
	id   api.ID
	data string
	e    api.Errno
}

// run: the step of s, by the model.
func (x step) run(c api.Conf, s api.State) (next api.State, t told) {
	switch x.do {
	case "Spawn":
		next, t.id, t.e = model.Spawn(c, s)
	case "Despawn":
		next, t.e = model.Despawn(c, s, x.id)
	case "Set":
		next, t.e = model.Set(c, s, x.id, x.k, x.data)
	case "Remove":
		next, t.e = model.Remove(c, s, x.id, x.k)
	case "Get":
		var b []byte
		b, t.e = model.Get(c, s, x.id, x.k)
		next, t.data = s, string(b)
	}
	return next, t
}

// runCore: the same step, by a core.
func (x step) runCore(y *ecs.Core) (t told) {
	switch x.do {
	case "Spawn":
		t.id, t.e = y.Spawn()
	case "Despawn":
		t.e = y.Despawn(x.id)
	case "Set":
		t.e = y.Set(x.id, x.k, x.data)
	case "Remove":
		t.e = y.Remove(x.id, x.k)
	case "Get":
		var b []byte
		b, t.e = y.Get(x.id, x.k)
		t.data = string(b)
	}
	return t
}

// core: one that State says s of.
func core(t *testing.T, c api.Conf, s api.State) *ecs.Core {
	t.Helper()
	groups := map[uint64]*api.Rows{}
	for _, x := range s.Ents {
		var sig uint64
		for _, p := range x.Parts {
			sig += 1 << p.Comp
		}
		r := groups[sig]
		if r == nil {
			r = &api.Rows{Sig: sig, Cols: make([][]byte, len(x.Parts))}
			groups[sig] = r
		}
		r.IDs = append(r.IDs, x.ID)
		for i, p := range x.Parts {
			r.Cols[i] = append(r.Cols[i], p.Data...)
		}
	}
	var l []api.Rows
	for _, sig := range slices.Sorted(maps.Keys(groups)) {
		l = append(l, *groups[sig])
	}
	x, e := ecs.Load(c, s.Gens, s.Free, l)
	if e != api.OK {
		t.Fatalf("no core of %s, %s: error %d", brief(c), brief(s), int(e))
	}
	return x
}

// anyError: in the place of an error, whichever the core tells.
const anyError = api.Errno(-1)

// pair: a state and a core, which are asked the same.
type pair struct {
	t    *testing.T
	c    api.Conf
	s    api.State
	x    *ecs.Core
	name string
	rare bool // whether it is too great to be gone through for shared memory in each step
}

// paired: of s, which is Right.
func paired(t *testing.T, c api.Conf, s api.State) *pair {
	t.Helper()
	p := &pair{t: t, c: c, s: handed(s), x: core(t, c, s), name: fmt.Sprintf("%s, %s", brief(c), brief(s))}
	p.holds(p.s)
	return p
}

// peopled: n entities that have no components.
func peopled(t *testing.T, c api.Conf, n int) (*pair, []api.ID) {
	t.Helper()
	p := paired(t, c, api.State{})
	p.rare = n > 100
	var l []api.ID
	for range n {
		l = append(l, p.spawns(api.OK))
	}
	return p, l
}

// holds: s is as the core says, and Right.
func (p *pair) holds(s api.State) {
	p.t.Helper()
	if got, want := said(s), said(p.x.State()); got != want {
		p.t.Fatalf("%s: %s; not %s", p.name, brief(s), brief(p.x.State()))
	}
	if !model.Right(p.c, s) {
		p.t.Fatalf("%s: not Right: %s", p.name, brief(s))
	}
}

// steps: the step tells that error, and all else that the core tells; what was handed in stays.
func (p *pair) steps(x step, want api.Errno) told {
	p.t.Helper()
	was := all(p.s)
	next, got := x.run(p.c, p.s)
	if all(p.s) != was {
		p.t.Fatalf("%s: %v changed the state that it was handed", p.name, x)
	}
	twin := x.runCore(p.x)
	if got != twin || want != anyError && got.e != want {
		p.t.Fatalf("%s: %v tells %v, error %d; not %v, error %d (and %d was asked for)", p.name, x, got, int(got.e), twin, int(twin.e), int(want))
	}
	if got.e != api.OK && said(next) != said(p.s) {
		p.t.Fatalf("%s: %v with an error tells %s, not %s", p.name, x, brief(next), brief(p.s))
	}
	p.holds(next)
	if !p.rare {
		p.apart(x, said(next))
	}
	p.s = next
	return got
}

// apart: nothing of what was handed in is kept, and nothing of it is handed out, by x, behind which there is that state.
func (p *pair) apart(x step, want string) {
	p.t.Helper()
	if x.do == "Get" {
		return
	}
	p.s = handed(p.s)
	was := all(p.s)
	c := p.c
	c.Comps = roomy(c.Comps, api.Comp{Name: "spare", Size: 5})
	y := x
	y.data = roomy(x.data, 7)
	before := fmt.Sprint(whole(c.Comps), whole(y.data))
	out, _ := y.run(c, p.s)
	if all(p.s) != was || fmt.Sprint(whole(c.Comps), whole(y.data)) != before {
		p.t.Fatalf("%s: %v changed what it was handed", p.name, x)
	}
	gone := handed(p.s)
	kept, _ := y.run(c, gone)
	spoil(out)
	if all(p.s) != was || fmt.Sprint(whole(c.Comps), whole(y.data)) != before {
		p.t.Fatalf("%s: %v hands out what it was handed", p.name, x)
	}
	spoil(gone)
	overwrite(c.Comps, api.Comp{Name: "other", Size: 9})
	overwrite(y.data, '!')
	if said(kept) != want {
		p.t.Fatalf("%s: %v keeps what it was handed", p.name, x)
	}
}

func (p *pair) spawns(want api.Errno) api.ID {
	p.t.Helper()
	return p.steps(step{do: "Spawn"}, want).id
}

func (p *pair) despawns(want api.Errno, id api.ID) {
	p.t.Helper()
	p.steps(step{do: "Despawn", id: id}, want)
	p.alive(id, false)
}

func (p *pair) sets(want api.Errno, id api.ID, k int, data string) {
	p.t.Helper()
	p.steps(step{do: "Set", id: id, k: k, data: []byte(data)}, want)
}

func (p *pair) removes(want api.Errno, id api.ID, k int) {
	p.t.Helper()
	p.steps(step{do: "Remove", id: id, k: k}, want)
}

func (p *pair) gets(want api.Errno, id api.ID, k int) string {
	p.t.Helper()
	return p.steps(step{do: "Get", id: id, k: k}, want).data
}

func (p *pair) alive(id api.ID, want bool) {
	p.t.Helper()
	if got := model.Alive(p.s, id); got != want || p.x.Alive(id) != want {
		p.t.Fatalf("%s: Alive(%v) is %v, and %v of the core", p.name, id, got, p.x.Alive(id))
	}
}

func (p *pair) asks(with, without uint64) {
	p.t.Helper()
	was := all(p.s)
	if got, want := model.Query(p.s, with, without), p.x.Query(with, without); !slices.Equal(got, want) {
		p.t.Fatalf("%s: Query(%#x, %#x) = %s, not %s", p.name, with, without, brief(got), brief(want))
	}
	if all(p.s) != was {
		p.t.Fatalf("%s: Query(%#x, %#x) changed the state", p.name, with, without)
	}
}

// whole: all that can be asked: of those that are alive, and of those that are not.
func (p *pair) whole() {
	p.t.Helper()
	p.holds(p.s)
	for _, s := range sets() {
		p.asks(s, 0)
		p.asks(0, s)
		p.asks(s, ^s)
		p.asks(s, s)
	}
	for _, x := range p.s.Ents {
		for k := -1; k <= len(p.c.Comps); k++ {
			p.reads(x.ID, k)
		}
		p.alive(x.ID, true)
		p.alive(api.ID{Index: x.ID.Index, Gen: x.ID.Gen + 1}, false)
		p.alive(api.ID{Index: x.ID.Index, Gen: x.ID.Gen - 1}, false)
	}
	for _, id := range p.strangers() {
		p.alive(id, false)
		p.reads(id, 0)
	}
}

// reads: Get tells what the core tells. (What else it has to hold to is asked by gets.)
func (p *pair) reads(id api.ID, k int) {
	p.t.Helper()
	x := step{do: "Get", id: id, k: k}
	_, got := x.run(p.c, p.s)
	if twin := x.runCore(p.x); got != twin {
		p.t.Fatalf("%s: %v tells %v, error %d; not %v, error %d", p.name, x, got, int(got.e), twin, int(twin.e))
	}
}

// strangers: IDs that are not alive.
func (p *pair) strangers() []api.ID {
	n := len(p.s.Gens)
	var l []api.ID
	for index, gen := range p.s.Gens {
		for _, g := range []int{-1, 0, gen - 1, gen, gen + 1, 1 << 30, gen + 1<<32, math.MinInt, math.MaxInt} {
			l = append(l, api.ID{Index: index, Gen: g})
		}
	}
	for _, index := range []int{math.MinInt, -1 << 32, -1024, -n - 1, -n, -2, -1, n, n + 1, 1023, 1024, 1025, 1 << 16, 1 << 32, 1<<32 + 1, math.MaxInt} {
		for _, g := range []int{-1, 0, 1} {
			l = append(l, api.ID{Index: index, Gen: g})
		}
	}
	return slices.DeleteFunc(l, p.x.Alive)
}

// any: an ID to ask with: mostly one that is alive.
func (p *pair) any(g *chance) api.ID {
	if l := p.s.Ents; len(l) > 0 && g.below(8) > 0 {
		return one(g, l).ID
	}
	index := g.below(len(p.s.Gens)+2) - 1
	return api.ID{Index: index, Gen: g.below(4) - 1}
}

// comp: a component to ask with: mostly one that there is.
func (p *pair) comp(g *chance) int {
	if n := len(p.c.Comps); n > 0 && g.below(12) > 0 {
		return g.below(n)
	}
	return one(g, far)
}

// bytes: data to set of component k: mostly of its size.
func (p *pair) bytes(g *chance, k int) string {
	n := 0
	if k >= 0 && k < len(p.c.Comps) {
		n = p.c.Comps[k].Size
	}
	if g.below(10) == 0 {
		n = max(0, n+one(g, []int{-n, -1, 1, 64, 65}))
	}
	return g.data(n)
}

// goesOn: some step.
func (p *pair) goesOn(g *chance) {
	p.t.Helper()
	id, k := p.any(g), p.comp(g)
	switch do := g.below(20); {
	case do < 4:
		p.spawns(anyError)
	case do < 6:
		p.despawns(anyError, id)
	case do < 13:
		p.sets(anyError, id, k, p.bytes(g, k))
	case do < 17:
		p.removes(anyError, id, k)
	case do < 19:
		p.gets(anyError, id, k)
	default:
		p.asks(one(g, sets()), one(g, sets()))
	}
}

// The chapter's example.

func TestExample(t *testing.T) {
	s, id, e := model.Spawn(layout(4, 3, 1), api.State{})
	if e != api.OK || id != (api.ID{}) || said(s) != said(api.State{Gens: []int{0}, Ents: []api.Ent{ent(0, 0)}}) {
		t.Error(s, id, int(e))
	}
}

// P12.1: Right

// good: five entities, one index that is free, and one that is used up.
func good() (api.Conf, api.State) {
	return layout(8, 3, 1, 2, 0), api.State{
		Gens: []int{0, 2, 1, 0, 3, 0, 1},
		Free: []int{2},
		Ents: []api.Ent{
			ent(0, 0, part(1, "ab")),
			ent(1, 2, part(0, "c"), part(2, "")),
			ent(3, 0),
			ent(5, 0, part(0, "d"), part(1, "ef"), part(2, "")),
			ent(6, 1, part(1, "gh")),
		},
	}
}

// wrongs: layouts of which one thing may not be, by what it is.
func wrongs() map[string]api.Conf {
	l := map[string]api.Conf{"the zero layout": {}, "33 components": layout(8, 3, append([]int{1, 2, 0}, many(30)...)...), "65 components": layout(8, 3, append([]int{1, 2, 0}, many(62)...)...)}
	with := func(name string, change func(c *api.Conf)) {
		c, _ := good()
		change(&c)
		l[name] = c
	}
	for _, n := range []int{math.MinInt, -1, 0, 1, 1025, math.MaxInt} {
		with(fmt.Sprint("Log ", n), func(c *api.Conf) { c.Log = n })
	}
	for _, n := range []int{math.MinInt, -1, 0, 1, 2, 3, 1025, math.MaxInt} {
		with(fmt.Sprint("Pages ", n), func(c *api.Conf) { c.Pages = n })
	}
	for _, n := range []int{math.MinInt, -1, 0, 1025, math.MaxInt} {
		with(fmt.Sprint("Entities ", n), func(c *api.Conf) { c.Entities = n })
	}
	for _, n := range []int{math.MinInt, -1, 0, 1<<30 + 1, 1 << 31, math.MaxInt} {
		with(fmt.Sprint("Gens ", n), func(c *api.Conf) { c.Gens = n })
	}
	for _, s := range []string{"", "A", "a b", "a-b", "abcdefgh_01234567", "é", "c0"} {
		with(fmt.Sprintf("Name %q", s), func(c *api.Conf) { c.Comps[1].Name = s })
	}
	for _, n := range []int{math.MinInt, -1, 65, 1 << 32, math.MaxInt} {
		with(fmt.Sprint("Size ", n), func(c *api.Conf) { c.Comps = append(c.Comps, api.Comp{Name: "more", Size: n}) })
	}
	return l
}

// edges: layouts with just what may be, the least and the most of each thing.
func edges() []api.Conf {
	comps := layout(1, 1, 1, 2).Comps
	l := []api.Conf{
		{Log: 2, Pages: 4, Entities: 1, Gens: 1},
		{Log: 1024, Pages: 1024, Entities: 1024, Gens: 1 << 30},
		{Log: 2, Pages: 1024, Entities: 1, Gens: 1 << 30, Comps: comps},
		{Log: 1024, Pages: 4, Entities: 1024, Gens: 1, Comps: comps},
		layout(7, 7, 0),
		layout(7, 7, 64),
		layout(7, 7, many(31)...),
		layout(7, 7, many(32)...),
		{Log: 3, Pages: 5, Entities: 2, Gens: 2, Comps: []api.Comp{{Name: "a"}, {Name: "b", Size: 63}}},
		{Log: 3, Pages: 5, Entities: 2, Gens: 2, Comps: []api.Comp{{Name: "abcdefgh_0123456", Size: 1}, {Name: "_"}, {Name: "9"}}},
	}
	return append(l, layouts()...)
}

func TestRightOfTheZeroState(t *testing.T) {
	for _, c := range edges() {
		for _, s := range []api.State{{}, {Gens: []int{}, Free: []int{}, Ents: []api.Ent{}}, handed(api.State{})} {
			if !model.Right(c, s) {
				t.Errorf("the zero state is not Right of %s", brief(c))
			}
		}
	}
}

func TestRightOfGood(t *testing.T) {
	c, s := good()
	if !model.Right(c, s) || !model.Right(c, handed(s)) {
		t.Error("good is not Right")
	}
	c.Entities = 7 // just as many as there are indexes
	if !model.Right(c, s) {
		t.Error("good is not Right of as many entities as were used")
	}
	c.Entities, c.Comps = 1024, append(c.Comps, layout(1, 1, many(32)...).Comps[3:]...)
	if !model.Right(c, s) {
		t.Error("good is not Right of more entities and components")
	}
}

func TestRightOfLayoutsThatMayNotBe(t *testing.T) {
	_, s := good()
	for name, c := range wrongs() {
		for _, x := range []api.State{{}, s} {
			if model.Right(c, x) {
				t.Errorf("%s: Right of %s", brief(x), name)
			}
		}
	}
}

// nameFaults: each makes Gens or Free wrong, and nothing else, if it can be so.
func nameFaults() map[string]func(c *api.Conf, s *api.State) {
	return map[string]func(c *api.Conf, s *api.State){
		"more generations than entities":       func(c *api.Conf, s *api.State) { c.Entities = 6 },
		"more generations than one entity":     func(c *api.Conf, s *api.State) { c.Entities = 1 },
		"a generation below 0":                 func(c *api.Conf, s *api.State) { s.Gens[4] = -1 },
		"a generation below 0, one alive":      func(c *api.Conf, s *api.State) { s.Gens[3] = -1; s.Ents[2].ID.Gen = -1 },
		"a generation far below 0":             func(c *api.Conf, s *api.State) { s.Gens[4] = math.MinInt },
		"a generation above Gens":              func(c *api.Conf, s *api.State) { s.Gens[4] = c.Gens + 1 },
		"a generation far above Gens":          func(c *api.Conf, s *api.State) { s.Gens[4] = math.MaxInt },
		"a free index below 0":                 func(c *api.Conf, s *api.State) { s.Free = []int{2, -1} },
		"a free index far below 0":             func(c *api.Conf, s *api.State) { s.Free = []int{math.MinInt, 2} },
		"a free index that there is not":       func(c *api.Conf, s *api.State) { s.Free = []int{2, 7} },
		"a free index far above":               func(c *api.Conf, s *api.State) { s.Free = []int{2, math.MaxInt} },
		"a free index twice":                   func(c *api.Conf, s *api.State) { s.Free = []int{2, 2} },
		"a free index of generation 0":         func(c *api.Conf, s *api.State) { s.Free = []int{2, 3}; s.Ents = slices.Delete(s.Ents, 2, 3) },
		"a free index without generations":     func(c *api.Conf, s *api.State) { s.Free = []int{2, 4} },
		"a free index without more of these":   func(c *api.Conf, s *api.State) { s.Gens[2] = 3 },
		"a free index of generation 0 at once": func(c *api.Conf, s *api.State) { s.Gens[2] = 0 },
	}
}

// entFaults: each makes a single thing wrong of which entities there are.
func entFaults() map[string]func(c *api.Conf, s *api.State) {
	return map[string]func(c *api.Conf, s *api.State){
		"Ents that fall":                      func(c *api.Conf, s *api.State) { slices.Reverse(s.Ents) },
		"Ents that fall at the beginning":     func(c *api.Conf, s *api.State) { s.Ents[0], s.Ents[1] = s.Ents[1], s.Ents[0] },
		"Ents that fall in the middle":        func(c *api.Conf, s *api.State) { s.Ents[1], s.Ents[2] = s.Ents[2], s.Ents[1] },
		"Ents that fall at the end":           func(c *api.Conf, s *api.State) { s.Ents[3], s.Ents[4] = s.Ents[4], s.Ents[3] },
		"one twice":                           func(c *api.Conf, s *api.State) { s.Ents = slices.Insert(s.Ents, 2, s.Ents[1]) },
		"the first one twice":                 func(c *api.Conf, s *api.State) { s.Ents = slices.Insert(s.Ents, 0, s.Ents[0]) },
		"the last one twice":                  func(c *api.Conf, s *api.State) { s.Ents = append(s.Ents, s.Ents[4]) },
		"one twice, in another one's place":   func(c *api.Conf, s *api.State) { s.Ents[2] = s.Ents[1] },
		"the last one in another one's place": func(c *api.Conf, s *api.State) { s.Ents[3] = s.Ents[4] },
		"one of an earlier generation":        func(c *api.Conf, s *api.State) { s.Ents[1].ID.Gen = 1 },
		"one of a later generation":           func(c *api.Conf, s *api.State) { s.Ents[2].ID.Gen = 1 },
		"one of a generation below 0":         func(c *api.Conf, s *api.State) { s.Ents[0].ID.Gen = -1 },
		"one of a generation far above":       func(c *api.Conf, s *api.State) { s.Ents[0].ID.Gen = 1 << 32 },
		"the last one of another generation":  func(c *api.Conf, s *api.State) { s.Ents[4].ID.Gen = 0 },
		"one of an index below 0":             func(c *api.Conf, s *api.State) { s.Ents[0].ID.Index = -1 },
		"one of an index far below 0":         func(c *api.Conf, s *api.State) { s.Ents[0].ID.Index = math.MinInt },
		"one of an index never given":         func(c *api.Conf, s *api.State) { s.Ents[4].ID = api.ID{Index: 7} },
		"one of an index far above":           func(c *api.Conf, s *api.State) { s.Ents[4].ID = api.ID{Index: math.MaxInt} },
		"one in the place of a free one":      func(c *api.Conf, s *api.State) { s.Ents[2].ID = api.ID{Index: 2, Gen: 1} },
		"one in the place of one used up":     func(c *api.Conf, s *api.State) { s.Ents[2].ID = api.ID{Index: 4, Gen: 3} },
		"one more that is free":               func(c *api.Conf, s *api.State) { s.Ents = slices.Insert(s.Ents, 2, ent(2, 1)) },
		"one more of the free one's past":     func(c *api.Conf, s *api.State) { s.Ents = slices.Insert(s.Ents, 2, ent(2, 0)) },
		"one more that is used up":            func(c *api.Conf, s *api.State) { s.Ents = slices.Insert(s.Ents, 3, ent(4, 3)) },
		"one more of the used one's past":     func(c *api.Conf, s *api.State) { s.Ents = slices.Insert(s.Ents, 3, ent(4, 2)) },
		"one more that never was":             func(c *api.Conf, s *api.State) { s.Ents = append(s.Ents, ent(7, 0)) },
		"one more below 0":                    func(c *api.Conf, s *api.State) { s.Ents = slices.Insert(s.Ents, 0, ent(-1, 0)) },
		"one more of another generation":      func(c *api.Conf, s *api.State) { s.Ents = slices.Insert(s.Ents, 1, ent(0, 1)) },
		"many more of one":                    func(c *api.Conf, s *api.State) { s.Ents = append(s.Ents, slices.Repeat(s.Ents[4:], 1100)...) },
		"the first one is not there":          func(c *api.Conf, s *api.State) { s.Ents = s.Ents[1:] },
		"one in the middle is not there":      func(c *api.Conf, s *api.State) { s.Ents = slices.Delete(s.Ents, 2, 3) },
		"the last one is not there":           func(c *api.Conf, s *api.State) { s.Ents = s.Ents[:4] },
		"none is there":                       func(c *api.Conf, s *api.State) { s.Ents = nil },
		"the free one is not free":            func(c *api.Conf, s *api.State) { s.Free = nil },
		"one of them is free besides":         func(c *api.Conf, s *api.State) { s.Free = []int{2, 1} },
		"the used one is not used up":         func(c *api.Conf, s *api.State) { c.Gens = 4 },
		"one of them is used up":              func(c *api.Conf, s *api.State) { s.Gens[1] = 3 },
		"a generation more":                   func(c *api.Conf, s *api.State) { s.Gens = append(s.Gens, 0) },
		"a generation less":                   func(c *api.Conf, s *api.State) { s.Gens = s.Gens[:6] },
		"no generations":                      func(c *api.Conf, s *api.State) { s.Gens, s.Free = nil, nil },
	}
}

// partFaults: each makes a single thing wrong of what an entity has.
func partFaults() map[string]func(c *api.Conf, s *api.State) {
	l := map[string]func(c *api.Conf, s *api.State){
		"Parts that fall":                    func(c *api.Conf, s *api.State) { slices.Reverse(s.Ents[1].Parts) },
		"Parts that fall at the beginning":   func(c *api.Conf, s *api.State) { q := s.Ents[3].Parts; q[0], q[1] = q[1], q[0] },
		"Parts that fall at the end":         func(c *api.Conf, s *api.State) { q := s.Ents[3].Parts; q[1], q[2] = q[2], q[1] },
		"a part twice":                       func(c *api.Conf, s *api.State) { s.Ents[4].Parts = slices.Repeat(s.Ents[4].Parts, 2) },
		"a part twice, with other data":      func(c *api.Conf, s *api.State) { s.Ents[4].Parts = append(s.Ents[4].Parts, part(1, "xy")) },
		"the first of two twice":             func(c *api.Conf, s *api.State) { q := &s.Ents[1].Parts; *q = slices.Insert(*q, 0, (*q)[0]) },
		"a part many times":                  func(c *api.Conf, s *api.State) { s.Ents[0].Parts = slices.Repeat(s.Ents[0].Parts, 300) },
		"a part one place behind the last":   func(c *api.Conf, s *api.State) { s.Ents[2].Parts = []api.Part{part(3, "")} },
		"a part behind the last, and others": func(c *api.Conf, s *api.State) { s.Ents[3].Parts = append(s.Ents[3].Parts, part(3, "")) },
		"a part below 0, and others":         func(c *api.Conf, s *api.State) { q := &s.Ents[3].Parts; *q = slices.Insert(*q, 0, part(-1, "")) },
		"data of a component of none":        func(c *api.Conf, s *api.State) { s.Ents[1].Parts[1].Data = []byte{0} },
		"data of a longer component":         func(c *api.Conf, s *api.State) { s.Ents[1].Parts[0].Comp = 1 },
		"data of a shorter component":        func(c *api.Conf, s *api.State) { s.Ents[4].Parts[0].Comp = 0 },
		"another size":                       func(c *api.Conf, s *api.State) { c.Comps[0].Size = 2 },
		"a component less":                   func(c *api.Conf, s *api.State) { c.Comps = c.Comps[:2] },
		"no components":                      func(c *api.Conf, s *api.State) { c.Comps = nil },
	}
	for _, k := range far {
		l[fmt.Sprint("a part of component ", k)] = func(c *api.Conf, s *api.State) { s.Ents[2].Parts = []api.Part{part(k, "")} }
	}
	for i, n := range []int{0, 1, 3} { // of the first, the second, and the last one of those with component 1
		at := []int{0, 3, 4}[i]
		l[fmt.Sprintf("%d bytes of 2, of the one at %d", n, at)] = func(c *api.Conf, s *api.State) {
			q := s.Ents[at].Parts
			q[slices.IndexFunc(q, func(p api.Part) bool { return p.Comp == 1 })].Data = make([]byte, n)
		}
	}
	return l
}

// faults: all of them.
func faults() map[string]func(c *api.Conf, s *api.State) {
	l := nameFaults()
	maps.Copy(l, entFaults())
	maps.Copy(l, partFaults())
	return l
}

func TestRightWithASingleThingWrong(t *testing.T) {
	for name, fault := range faults() {
		c, s := good()
		fault(&c, &s)
		if model.Right(c, s) {
			t.Errorf("Right with %s", name)
		}
	}
}

func TestRightOfDataOfEachLength(t *testing.T) {
	for _, size := range []int{0, 1, 2, 3, 8, 63, 64} {
		for n := range 130 {
			s := api.State{Gens: []int{0}, Ents: []api.Ent{ent(0, 0, part(1, strings.Repeat("x", n)))}}
			if got := model.Right(layout(2, 2, 5, size, 5), s); got != (n == size) {
				t.Errorf("Right of %d bytes where Size is %d: %v", n, size, got)
			}
		}
	}
}

func TestRightOfThirtyTwoComponents(t *testing.T) {
	c := layout(3, 2, many(32)...)
	var l []api.Part
	for k := range 32 {
		l = append(l, part(k, strings.Repeat("x", many(32)[k])))
	}
	for k := range 32 { // of each component, and of all of them
		for _, q := range [][]api.Part{l[k : k+1], l[k:], l[:k], l[:32]} {
			if !model.Right(c, api.State{Gens: []int{0, 0}, Ents: []api.Ent{ent(0, 0), ent(1, 0, q...)}}) {
				t.Error("not Right:", brief(q))
			}
			less := c
			less.Comps = c.Comps[:k]
			had := len(q) == 0 || q[len(q)-1].Comp < k
			if model.Right(less, api.State{Gens: []int{0, 0}, Ents: []api.Ent{ent(0, 0), ent(1, 0, q...)}}) != had {
				t.Errorf("Right of %s with %d components is not %v", brief(q), k, had)
			}
		}
	}
}

func TestRightOfAsManyAsThereMayBe(t *testing.T) {
	for _, n := range []int{1, 2, 63, 1023, 1024} {
		c, s := layout(n, 1<<30, 1), api.State{}
		for i := range n {
			s.Gens = append(s.Gens, 1<<30-1-i%3)
			s.Ents = append(s.Ents, ent(i, 1<<30-1-i%3, part(0, "a")))
		}
		if !model.Right(c, s) {
			t.Errorf("%d of %d entities are not Right", n, n)
		}
		s.Gens, s.Ents = append(s.Gens, 0), append(s.Ents, ent(n, 0))
		if model.Right(c, s) {
			t.Errorf("%d of %d entities are Right", n+1, n)
		}
		if c.Entities++; model.Right(c, s) != (n < 1024) {
			t.Errorf("of %d entities it is %v", n+1, n >= 1024)
		}
	}
}

// rightByWords: as the chapters say it of names and entities, of a layout of two entities, two generations, and one component of one byte.
func rightByWords(s api.State) bool {
	if len(s.Gens) > 2 {
		return false
	}
	seen := map[int]bool{}
	for _, i := range s.Free {
		if i < 0 || i >= len(s.Gens) || seen[i] || s.Gens[i] != 1 {
			return false
		}
		seen[i] = true
	}
	var alive []api.ID
	for i, n := range s.Gens {
		if n < 0 || n > 2 {
			return false
		}
		if n < 2 && !seen[i] {
			alive = append(alive, api.ID{Index: i, Gen: n})
		}
	}
	var l []api.ID
	for _, x := range s.Ents {
		l = append(l, x.ID)
		if n := len(x.Parts); n > 1 || n == 1 && (x.Parts[0].Comp != 0 || len(x.Parts[0].Data) != 1) {
			return false
		}
	}
	return slices.Equal(l, alive)
}

// lists: all of up to n of these.
func lists[T any](n int, of []T) [][]T {
	out := [][]T{nil}
	last := out
	for range n {
		var next [][]T
		for _, l := range last {
			for _, x := range of {
				next = append(next, append(slices.Clone(l), x))
			}
		}
		out, last = append(out, next...), next
	}
	return out
}

func TestRightOfAllSmallStates(t *testing.T) {
	c := layout(2, 2, 1)
	var ents []api.Ent
	for index := -1; index < 3; index++ {
		for gen := -1; gen < 4; gen++ {
			ents = append(ents, ent(index, gen))
		}
	}
	ents = append(ents, ent(0, 0, part(0, "a")), ent(1, 1, part(0, "")), ent(1, 0, part(1, "a")), ent(1, 1, part(0, "ab")), ent(0, 1, part(0, "a"), part(0, "a")))
	all, right := lists(2, ents), 0
	for _, gens := range lists(3, []int{-1, 0, 1, 2, 3}) {
		for _, free := range lists(2, []int{-1, 0, 1, 2}) {
			for _, l := range all {
				s := api.State{Gens: gens, Free: free, Ents: l}
				want := rightByWords(s)
				if want {
					right++
				}
				if model.Right(c, s) != want {
					t.Fatalf("Right of %v is not %v", s, want)
				}
			}
		}
	}
	if right < 20 {
		t.Error("only", right, "states were Right")
	}
}

// P12.2: Spawn and Despawn

func TestSpawnUpToEntitiesAndBeyond(t *testing.T) {
	for _, n := range []int{1, 2, 3, 10, 1024} {
		for _, gens := range []int{1, 2, 1 << 30} {
			s := api.State{}
			for i := range n - 5 { // those that bring nothing new
				s.Gens, s.Ents = append(s.Gens, 0), append(s.Ents, ent(i, 0))
			}
			p := paired(t, layout(n, gens, 1), s)
			for i := len(s.Ents); i < n; i++ {
				if id := p.spawns(api.OK); id != (api.ID{Index: i}) {
					t.Fatal("Spawn", i, "is", id)
				}
			}
			for range 3 {
				p.spawns(api.ErrFull)
			}
			if len(p.s.Ents) != n || len(p.s.Gens) != n || len(p.s.Free) != 0 {
				t.Error(brief(p.s))
			}
			p.whole()
		}
	}
}

func TestSpawnBehindDespawnTakesTheLastOneBack(t *testing.T) {
	p, l := peopled(t, layout(4, 3, 1), 4)
	p.despawns(api.OK, l[2])
	p.despawns(api.OK, l[0])
	p.despawns(api.OK, l[3])
	if !slices.Equal(p.s.Free, []int{2, 0, 3}) || !slices.Equal(p.s.Gens, []int{1, 0, 1, 1}) {
		t.Error(p.s)
	}
	for _, want := range []api.ID{{Index: 3, Gen: 1}, {Index: 0, Gen: 1}, {Index: 2, Gen: 1}} {
		if id := p.spawns(api.OK); id != want {
			t.Error(id, "not", want)
		}
	}
	p.spawns(api.ErrFull)
	p.whole()
}

func TestSpawnTakesFreeOnesAheadOfNewOnes(t *testing.T) {
	p, l := peopled(t, layout(4, 3, 1), 2)
	p.despawns(api.OK, l[0])
	for _, want := range []api.ID{{Index: 0, Gen: 1}, {Index: 2}, {Index: 3}} {
		if id := p.spawns(api.OK); id != want {
			t.Error(id, "not", want)
		}
	}
	p.spawns(api.ErrFull)
	p.whole()
}

func TestSpawnPutsItWhereItsIndexStands(t *testing.T) {
	for i := range 6 {
		p, l := peopled(t, layout(6, 3, 1), 6)
		for _, id := range l {
			p.sets(api.OK, id, 0, "x")
		}
		p.despawns(api.OK, l[i])
		if id := p.spawns(api.OK); p.s.Ents[i].ID != id || len(p.s.Ents[i].Parts) != 0 {
			t.Error(i, p.s)
		}
	}
}

func TestAnIndexHasSoManyGenerations(t *testing.T) {
	for _, gens := range []int{1, 2, 3, 9} {
		p := paired(t, layout(2, gens, 1), api.State{})
		for i := range 2 * gens {
			id := p.spawns(api.OK)
			if want := (api.ID{Index: i / gens, Gen: i % gens}); id != want {
				t.Fatal(id, "not", want)
			}
			p.sets(api.OK, id, 0, "x")
			p.despawns(api.OK, id)
			p.whole()
		}
		for range 3 {
			p.spawns(api.ErrFull)
		}
		if want := (api.State{Gens: []int{gens, gens}}); said(p.s) != said(want) {
			t.Errorf("%d generations: %v", gens, p.s)
		}
	}
}

func TestManyGenerations(t *testing.T) {
	p := paired(t, layout(3, 1<<30, 1), api.State{})
	p.spawns(api.OK)
	for i := range 500 {
		id := p.spawns(api.OK)
		if want := (api.ID{Index: 1, Gen: i}); id != want {
			t.Fatal(id, "not", want)
		}
		p.despawns(api.OK, id)
	}
	q := paired(t, layout(2, 1<<30, 1), api.State{Gens: []int{1<<30 - 1, 1 << 30}, Free: []int{0}})
	id := q.spawns(api.OK) // the last one that there may be
	q.spawns(api.ErrFull)
	q.sets(api.OK, id, 0, "a")
	q.despawns(api.OK, id)
	q.spawns(api.ErrFull)
	q.whole()
}

func TestDespawnTakesJustThatOne(t *testing.T) {
	for n := 1; n < 6; n++ {
		for i := range n {
			p, l := peopled(t, layout(9, 2, 1, 2), n)
			for j, id := range l {
				p.sets(api.OK, id, 0, fmt.Sprint(j))
			}
			p.despawns(api.OK, l[i])
			for j, id := range l {
				if j != i {
					p.alive(id, true)
					p.gets(api.OK, id, 0)
				}
			}
			p.despawns(api.ErrStale, l[i])
			p.whole()
		}
	}
}

// P12.2: errors

func TestOfIDsThatAreNotAlive(t *testing.T) {
	p, l := peopled(t, layout(6, 3, 1, 0), 5)
	for _, id := range l {
		p.sets(api.OK, id, 0, "x")
	}
	p.despawns(api.OK, l[0])
	p.despawns(api.OK, l[4])
	p.despawns(api.OK, p.spawns(api.OK))
	p.spawns(api.OK)
	for _, id := range append(p.strangers(), l[0], l[4]) {
		p.despawns(api.ErrStale, id)
		p.alive(id, false)
		for _, k := range []int{0, 1, 2, -1, 64} {
			p.sets(api.ErrStale, id, k, "y")
			p.sets(api.ErrStale, id, k, "")
			p.removes(api.ErrStale, id, k)
			p.gets(api.ErrStale, id, k)
		}
	}
	p.whole()
}

func TestOfComponentsThatThereAreNot(t *testing.T) {
	for _, n := range []int{0, 1, 2, 3, 31, 32} {
		p, l := peopled(t, layout(2, 2, many(n)...), 2)
		for k := range n {
			p.sets(api.OK, l[0], k, strings.Repeat("x", many(n)[k]))
		}
		for _, k := range append([]int{n, n + 1, -n - 1}, far...) {
			for _, id := range l {
				p.sets(api.ErrComp, id, k, "")
				p.sets(api.ErrComp, id, k, "x")
				p.removes(api.ErrComp, id, k)
				p.gets(api.ErrComp, id, k)
			}
		}
		for k := range n { // of each that there is
			p.gets(api.OK, l[0], k)
			p.gets(api.ErrLacks, l[1], k)
			p.removes(api.OK, l[0], k)
		}
		p.whole()
	}
}

func TestSetOfEachLength(t *testing.T) {
	for _, size := range []int{0, 1, 2, 3, 8, 63, 64} {
		p, l := peopled(t, layout(2, 2, 5, size, 5), 2)
		for n := range 70 {
			want := api.ErrSize
			if n == size {
				want = api.OK
			}
			p.sets(want, l[0], 1, strings.Repeat("n", n)) // that it has from one of them on
			p.sets(want, l[1], 1, strings.Repeat("m", n)) // that it has not
			p.gets(anyError, l[1], 1)
			if n == size {
				p.removes(api.OK, l[1], 1)
			}
		}
		for _, data := range [][]byte{nil, {}} {
			if _, e := model.Set(p.c, p.s, l[0], 1, data); (e == api.OK) != (size == 0) || size > 0 && e != api.ErrSize {
				t.Errorf("Set of no data where Size is %d: error %d", size, int(e))
			}
		}
		p.sets(api.ErrSize, l[0], 1, strings.Repeat("x", 1<<16))
		p.whole()
	}
}

func TestRemoveOfWhatItLacks(t *testing.T) {
	p, l := peopled(t, layout(3, 2, 1, 0, 2), 3)
	p.sets(api.OK, l[0], 0, "a")
	p.sets(api.OK, l[1], 1, "")
	for i, id := range l {
		for k := range 3 {
			if i != k || i == 2 {
				p.removes(api.ErrLacks, id, k)
				p.gets(api.ErrLacks, id, k)
			}
		}
	}
	p.removes(api.OK, l[0], 0)
	p.removes(api.ErrLacks, l[0], 0)
	p.whole()
}

func TestWhichErrorIsToldFirst(t *testing.T) {
	p, l := peopled(t, layout(3, 2, 1, 2), 2)
	p.sets(api.OK, l[0], 0, "a")
	p.despawns(api.OK, l[1])
	here, gone := l[0], l[1]

	p.sets(api.ErrStale, gone, 9, "long") // no component, and no size
	p.sets(api.ErrStale, gone, 0, "long")
	p.sets(api.ErrStale, gone, -1, "")
	p.sets(api.ErrComp, here, 9, "long")
	p.sets(api.ErrComp, here, -1, "long")
	p.sets(api.ErrSize, here, 1, "long") // it has not 1 besides
	p.sets(api.ErrSize, here, 0, "long")

	p.removes(api.ErrStale, gone, 9)
	p.removes(api.ErrStale, gone, 1)
	p.removes(api.ErrComp, here, 9)
	p.removes(api.ErrLacks, here, 1)

	p.gets(api.ErrStale, gone, 9)
	p.gets(api.ErrStale, gone, 1)
	p.gets(api.ErrComp, here, 9)
	p.gets(api.ErrLacks, here, 1)
	p.whole()
}

// P12.2: Set, Remove and Get

func TestSetOfWhatItHasAndHasNot(t *testing.T) {
	p, l := peopled(t, layout(3, 2, 2, 1), 3)
	for _, data := range []string{"ab", "cd", "\x00\x00", "ef"} {
		p.sets(api.OK, l[1], 0, data)
		if got := p.gets(api.OK, l[1], 0); got != data {
			t.Errorf("Get = %q", got)
		}
		p.gets(api.ErrLacks, l[0], 0)
		p.gets(api.ErrLacks, l[2], 0)
		p.gets(api.ErrLacks, l[1], 1)
	}
	p.sets(api.OK, l[1], 1, "z")
	p.gets(api.OK, l[1], 0)
	want := api.State{Gens: []int{0, 0, 0}, Ents: []api.Ent{ent(0, 0), ent(1, 0, part(0, "ef"), part(1, "z")), ent(2, 0)}}
	if said(p.s) != said(want) {
		t.Error(p.s)
	}
	p.whole()
}

func TestSetPutsAPartWhereItsComponentStands(t *testing.T) {
	c := layout(2, 2, 1, 1, 1, 1)
	for _, order := range lists(4, []int{0, 1, 2, 3}) {
		p, l := peopled(t, c, 1)
		p.rare = true
		has := map[int]string{}
		for i, k := range order {
			has[k] = fmt.Sprint(i)
			p.sets(api.OK, l[0], k, has[k])
		}
		var want []api.Part
		for _, k := range slices.Sorted(maps.Keys(has)) {
			want = append(want, part(k, has[k]))
		}
		if got := p.s.Ents[0]; said(api.State{Ents: []api.Ent{got}}) != said(api.State{Ents: []api.Ent{ent(0, 0, want...)}}) {
			t.Error("Set of", order, "makes", got)
		}
	}
}

func TestRemoveTakesJustThatPart(t *testing.T) {
	for n := 1; n < 6; n++ {
		for i := range n {
			p, l := peopled(t, layout(2, 2, 1, 1, 1, 1, 1), 2)
			for k := range n {
				p.sets(api.OK, l[0], k, fmt.Sprint(k))
				p.sets(api.OK, l[1], k, fmt.Sprint(9-k))
			}
			p.removes(api.OK, l[1], i)
			for k := range n {
				if got := p.gets(api.OK, l[0], k); got != fmt.Sprint(k) {
					t.Error("the other one has", got)
				}
				if k != i {
					p.gets(api.OK, l[1], k)
				}
			}
			p.gets(api.ErrLacks, l[1], i)
			p.removes(api.ErrLacks, l[1], i)
			p.whole()
		}
	}
}

func TestRemoveOfTheLastComponent(t *testing.T) {
	p, l := peopled(t, layout(3, 2, 2, 1), 2)
	p.sets(api.OK, l[0], 0, "ab")
	p.sets(api.OK, l[0], 1, "c")
	p.removes(api.OK, l[0], 0)
	p.removes(api.OK, l[0], 1)
	p.alive(l[0], true)
	p.removes(api.ErrLacks, l[0], 1)
	p.sets(api.OK, l[0], 0, "xy") // nothing of what it had comes back
	p.gets(api.ErrLacks, l[0], 1)
	p.whole()
}

func TestEachComponentOfManyIsTheOneThatIsAskedFor(t *testing.T) {
	g := chance(5)
	sizes := many(32)
	p, l := peopled(t, layout(2, 2, sizes...), 2)
	for _, k := range []int{31, 0, 16, 7, 30, 1, 15} {
		p.sets(api.OK, l[0], k, g.data(sizes[k]))
	}
	for k := range 32 {
		p.sets(api.OK, l[1], k, g.data(sizes[k]))
	}
	p.whole()
	for k := range 32 {
		p.removes(anyError, l[0], k)
		p.removes(api.OK, l[1], 31-k)
	}
	p.whole()
}

// P12.2: Query and Alive

// crowd: an entity of each set of three components, in mixed order.
func crowd(t *testing.T) (*pair, map[uint64]api.ID) {
	t.Helper()
	p, l := peopled(t, layout(12, 3, 1, 0, 2), 10)
	p.despawns(api.OK, l[1])
	p.despawns(api.OK, l[6])
	of := map[uint64]api.ID{}
	for i, x := range p.s.Ents {
		sig := uint64(i*5+3) % 8
		of[sig] = x.ID
		for k, size := range []int{1, 0, 2} {
			if sig>>k%2 == 1 {
				p.sets(api.OK, x.ID, k, strings.Repeat("q", size))
			}
		}
	}
	return p, of
}

func TestQueryOfAllSets(t *testing.T) {
	p, of := crowd(t)
	for with := range uint64(16) {
		for without := range uint64(16) {
			var want []api.ID
			for sig, id := range of {
				if sig&with == with && sig&without == 0 {
					want = append(want, id)
				}
			}
			slices.SortFunc(want, func(a, b api.ID) int { return a.Index - b.Index })
			if got := model.Query(p.s, with, without); !slices.Equal(got, want) {
				t.Errorf("Query(%d, %d) = %v, not %v", with, without, got, want)
			}
			p.asks(with, without)
		}
	}
	for k := range 64 { // each alone, those that no entity has as well
		p.asks(1<<k, 0)
		p.asks(0, 1<<k)
		p.asks(1<<k, 1<<k)
		p.asks(1<<k|1, 0)
		p.asks(1, 1<<k)
	}
	if l := model.Query(p.s, 0, 0); len(l) != 8 {
		t.Error(l)
	}
}

func TestQueryWithAComponentInBoth(t *testing.T) {
	p, _ := crowd(t)
	for _, s := range sets()[1:] {
		for _, more := range []uint64{0, 6, math.MaxUint64} {
			if l := model.Query(p.s, s|more, s); len(l) != 0 {
				t.Errorf("Query(%#x, %#x) = %v", s|more, s, l)
			}
		}
	}
}

func TestQueryRisesByIndex(t *testing.T) {
	g := chance(3)
	c := layout(40, 9, 1, 0, 2, 0)
	p, l := peopled(t, c, 40)
	p.rare = true
	for range 400 {
		id, k := one(&g, l), g.below(4)
		p.sets(api.OK, id, k, strings.Repeat("x", c.Comps[k].Size))
		p.removes(anyError, one(&g, l), g.below(4))
		p.asks(uint64(g.below(16)), uint64(g.below(16)))
	}
	for range 15 { // indexes that come back late
		p.despawns(anyError, one(&g, l))
	}
	for range 10 {
		p.sets(api.OK, p.spawns(api.OK), 0, "y")
	}
	for _, q := range [][]api.ID{model.Query(p.s, 0, 0), model.Query(p.s, 1, 0), model.Query(p.s, 0, 8)} {
		if !slices.IsSortedFunc(q, func(a, b api.ID) int { return a.Index - b.Index }) {
			t.Error("Query tells", q)
		}
	}
	p.whole()
}

func TestQueryOfNothing(t *testing.T) {
	for _, a := range sets() {
		for _, b := range sets() {
			if l := model.Query(api.State{Gens: []int{1}, Free: []int{0}}, a, b); len(l) != 0 {
				t.Error(l)
			}
		}
	}
}

func TestAlive(t *testing.T) {
	_, s := good()
	for index := -2; index < 10; index++ {
		for gen := -2; gen < 6; gen++ {
			id := api.ID{Index: index, Gen: gen}
			want := slices.Contains([]api.ID{{Index: 0}, {Index: 1, Gen: 2}, {Index: 3}, {Index: 5}, {Index: 6, Gen: 1}}, id)
			if model.Alive(s, id) != want {
				t.Errorf("Alive(%v) is not %v", id, want)
			}
			if model.Alive(api.State{Gens: s.Gens, Free: s.Free}, id) {
				t.Errorf("%v is alive where none is", id)
			}
		}
	}
}

func TestAliveOfEntsInAnyOrder(t *testing.T) {
	// It is asked of Ents alone: what Gens and Free say plays no part.
	s := api.State{Gens: []int{9}, Free: []int{0}, Ents: []api.Ent{ent(5, 1), ent(3, 0), ent(3, 1), ent(-4, -2), ent(1<<40, 1<<50), ent(3, 0)}}
	for _, x := range s.Ents {
		if !model.Alive(s, x.ID) {
			t.Errorf("%v is not alive", x.ID)
		}
	}
	for _, id := range []api.ID{{}, {Index: 5}, {Index: 3, Gen: 2}, {Index: -4, Gen: 2}, {Index: 1 << 40}, {Index: 1, Gen: 3}, {Index: 4}} {
		if model.Alive(s, id) {
			t.Errorf("%v is alive", id)
		}
	}
}

// P12.2: long runs

func TestLongRuns(t *testing.T) {
	for seed := range 40 {
		g := chance(seed)
		p := paired(t, one(&g, layouts()), api.State{})
		p.name = fmt.Sprintf("run %d: %s", seed, p.name)
		for range 200 {
			p.goesOn(&g)
		}
		p.whole()
	}
}

func TestLongRunsOfAThousandEntities(t *testing.T) {
	g := chance(4)
	for _, c := range []api.Conf{layout(1024, 2, 1, 0, 2), layout(1024, 1<<30, many(32)...)} {
		s := api.State{}
		for i := range 1020 {
			s.Gens = append(s.Gens, i%2)
			s.Ents = append(s.Ents, ent(i, i%2))
		}
		p := paired(t, c, s)
		p.rare = true
		for range 300 {
			p.goesOn(&g)
		}
		p.whole()
	}
}

// reached: all states that steps lead to from the zero one, of two entities, two generations, a component of one byte, and one of none, with all their steps told beside those of a core.
func reached(t *testing.T) (api.Conf, []api.State) {
	t.Helper()
	c := layout(2, 2, 1, 0)
	ask := []step{{do: "Spawn"}}
	for index := -1; index < 3; index++ {
		for gen := -1; gen < 3; gen++ {
			id := api.ID{Index: index, Gen: gen}
			ask = append(ask, step{do: "Despawn", id: id})
			for k := -1; k < 3; k++ {
				ask = append(ask, step{do: "Remove", id: id, k: k}, step{do: "Get", id: id, k: k})
				for _, data := range []string{"", "x", "y", "xy"} {
					ask = append(ask, step{do: "Set", id: id, k: k, data: []byte(data)})
				}
			}
		}
	}
	l, seen := []api.State{{}}, map[string]bool{said(api.State{}): true}
	for i := 0; i < len(l); i++ {
		for _, x := range ask {
			next, got := x.run(c, l[i])
			if seen[said(next)] && got.e != api.OK && said(next) == said(l[i]) {
				if twin := x.runCore(core(t, c, l[i])); got != twin {
					t.Fatalf("%v: %v tells %v, not %v", l[i], x, got, twin)
				}
				continue
			}
			y := core(t, c, l[i])
			if twin := x.runCore(y); got != twin || said(next) != said(y.State()) {
				t.Fatalf("%v: %v tells %v, %v; not %v, %v", l[i], x, got, next, twin, y.State())
			}
			if !seen[said(next)] {
				seen[said(next)] = true
				l = append(l, next)
			}
		}
	}
	return c, l
}

func TestAllStepsOfAllStatesOfASmallLayout(t *testing.T) {
	c, l := reached(t)
	for _, s := range l {
		if !model.Right(c, s) || !rightNames(s) {
			t.Fatalf("not Right: %v", s)
		}
	}
	// An index that was used is alive in one of two generations, with any of six sets of data, or free, or used up.
	const index = 2*6 + 1 + 1
	if want := 1 + index + index*index + 1; len(l) != want { // none was used, one, both; two that are free have two orders
		t.Errorf("%d states are reached, not %d", len(l), want)
	}
}

// rightNames: Free has only indexes of generation 1.
func rightNames(s api.State) bool {
	for _, i := range s.Free {
		if i < 0 || i >= len(s.Gens) || s.Gens[i] != 1 {
			return false
		}
	}
	return true
}

// P12.3: Same

// changed: states that differ from good in a single thing each.
func changed() map[string]api.State {
	l := map[string]api.State{}
	with := func(name string, change func(s *api.State)) {
		_, s := good()
		change(&s)
		l[name] = s
	}
	with("nothing else", func(s *api.State) {})
	for i := range 7 {
		with(fmt.Sprint("generation ", i), func(s *api.State) { s.Gens[i] += 8 })
		with(fmt.Sprint("no generation ", i), func(s *api.State) { s.Gens = slices.Delete(s.Gens, i, i+1) })
	}
	with("a generation more", func(s *api.State) { s.Gens = append(s.Gens, 0) })
	with("no generations", func(s *api.State) { s.Gens = nil })
	with("a free one more", func(s *api.State) { s.Free = append(s.Free, 4) })
	with("a free one ahead", func(s *api.State) { s.Free = []int{4, 2} })
	with("another free one", func(s *api.State) { s.Free[0] = 3 })
	with("no free one", func(s *api.State) { s.Free = nil })
	with("no entities", func(s *api.State) { s.Ents = nil })
	with("entities the other way round", func(s *api.State) { slices.Reverse(s.Ents) })
	with("an entity more", func(s *api.State) { s.Ents = append(s.Ents, ent(7, 0)) })
	with("a zero entity more", func(s *api.State) { s.Ents = append(s.Ents, api.Ent{}) })
	for i := range 5 {
		with(fmt.Sprint("no entity ", i), func(s *api.State) { s.Ents = slices.Delete(s.Ents, i, i+1) })
		with(fmt.Sprint("Index of ", i), func(s *api.State) { s.Ents[i].ID.Index += 20 })
		with(fmt.Sprint("Gen of ", i), func(s *api.State) { s.Ents[i].ID.Gen += 20 })
		with(fmt.Sprint("a part more of ", i), func(s *api.State) { s.Ents[i].Parts = append(s.Ents[i].Parts, part(9, "")) })
		with(fmt.Sprint("a zero part more of ", i), func(s *api.State) { s.Ents[i].Parts = append(s.Ents[i].Parts, api.Part{}) })
		_, s := good()
		for j, p := range s.Ents[i].Parts {
			name := fmt.Sprintf("part %d of %d", j, i)
			with(name+": gone", func(s *api.State) { s.Ents[i].Parts = slices.Delete(s.Ents[i].Parts, j, j+1) })
			with(name+": Comp", func(s *api.State) { s.Ents[i].Parts[j].Comp += 32 })
			with(name+": a byte more", func(s *api.State) { s.Ents[i].Parts[j].Data = append(s.Ents[i].Parts[j].Data, 0) })
			with(name+": a byte ahead", func(s *api.State) { q := &s.Ents[i].Parts[j]; q.Data = append([]byte{1}, q.Data...) })
			for b := range p.Data {
				with(fmt.Sprint(name, ": byte ", b), func(s *api.State) { s.Ents[i].Parts[j].Data[b] ^= 128 })
				with(fmt.Sprint(name, ": no byte ", b), func(s *api.State) { q := &s.Ents[i].Parts[j]; q.Data = slices.Delete(q.Data, b, b+1) })
			}
		}
	}
	return l
}

func TestSameOfStatesThatDifferInASingleThing(t *testing.T) {
	l := changed()
	for first, a := range l {
		for second, b := range l {
			if got := model.Same(a, b); got != (first == second) {
				t.Errorf("Same of good with %s, and with %s: %v", first, second, got)
			}
		}
		if !model.Same(a, handed(a)) || !model.Same(handed(a), a) {
			t.Errorf("good with %s is not the Same as its copy", first)
		}
	}
}

func TestSameOfNilAndEmpty(t *testing.T) {
	l := []api.State{
		{},
		{Gens: []int{}, Free: []int{}, Ents: []api.Ent{}},
		{Gens: make([]int, 0, 4), Free: roomy([]int{}, 3), Ents: roomy([]api.Ent{}, ent(1, 1))},
	}
	var bare []api.State
	for _, parts := range [][]api.Part{nil, {}, roomy([]api.Part{}, part(2, "x"))} {
		bare = append(bare, api.State{Gens: []int{0}, Ents: []api.Ent{{Parts: parts}}})
	}
	var empty []api.State
	for _, data := range [][]byte{nil, {}, roomy([]byte{}, 5)} {
		empty = append(empty, api.State{Gens: []int{0}, Free: []int{}, Ents: []api.Ent{{Parts: []api.Part{{Data: data}}}}})
	}
	for i, group := range [][]api.State{l, bare, empty} {
		for j, other := range [][]api.State{l, bare, empty} {
			for _, a := range group {
				for _, b := range other {
					if model.Same(a, b) != (i == j) || bytes.Equal(model.Put(a), model.Put(b)) != (i == j) {
						t.Errorf("%#v and %#v: %v", a, b, i != j)
					}
				}
			}
		}
	}
}

func TestSameOfStatesThatAreNotRight(t *testing.T) {
	for name, fault := range faults() {
		c, s := good()
		_, was := good()
		fault(&c, &s)
		if !model.Same(s, handed(s)) {
			t.Errorf("good with %s is not the Same as its copy", name)
		}
		if got, want := model.Same(s, was), said(s) == said(was); got != want || model.Same(was, s) != want {
			t.Errorf("good with %s is the Same as good: %v", name, got)
		}
	}
}

// P12.3: Put

// bytesOf: Put by the chapter's words.
func bytesOf(s api.State) []byte {
	var b []byte
	put := func(width, n int) {
		for range width {
			b = append(b, byte(n%256))
			n /= 256
		}
	}
	put(4, len(s.Gens))
	for _, n := range s.Gens {
		put(4, n)
	}
	put(4, len(s.Free))
	for _, n := range s.Free {
		put(4, n)
	}
	put(4, len(s.Ents))
	for _, x := range s.Ents {
		put(4, x.ID.Index)
		put(4, x.ID.Gen)
		put(1, len(x.Parts))
		for _, p := range x.Parts {
			put(1, p.Comp)
			put(2, len(p.Data))
			b = append(b, p.Data...)
		}
	}
	return b
}

// puts: Put tells these bytes, and changes nothing.
func puts(t *testing.T, s api.State, want []byte) {
	t.Helper()
	h := handed(s)
	was := all(h)
	got := model.Put(h)
	if !bytes.Equal(got, want) {
		t.Errorf("Put(%s) = %s, not %s", brief(s), brief(got), brief(want))
	}
	overwrite(got, 0xee)
	if all(h) != was {
		t.Errorf("Put(%s) changed it, or hands it out", brief(s))
	}
}

func TestPutByteByByte(t *testing.T) {
	puts(t, api.State{}, make([]byte, 12))
	puts(t, api.State{Gens: []int{0x04030201}}, []byte{1, 0, 0, 0, 1, 2, 3, 4, 0, 0, 0, 0, 0, 0, 0, 0})
	puts(t, api.State{Gens: []int{1 << 30, 0}, Free: []int{0x0a0b0c0d, 7}}, []byte{2, 0, 0, 0, 0, 0, 0, 64, 0, 0, 0, 0, 2, 0, 0, 0, 13, 12, 11, 10, 7, 0, 0, 0, 0, 0, 0, 0})
	puts(t, api.State{Ents: []api.Ent{ent(0x14131211, 0x24232221)}}, []byte{0, 0, 0, 0, 0, 0, 0, 0, 1, 0, 0, 0, 0x11, 0x12, 0x13, 0x14, 0x21, 0x22, 0x23, 0x24, 0})
	puts(t, api.State{Ents: []api.Ent{ent(1, 2, part(31, "xyz"), part(200, "")), ent(3, 4)}}, []byte{0, 0, 0, 0, 0, 0, 0, 0, 2, 0, 0, 0, 1, 0, 0, 0, 2, 0, 0, 0, 2, 31, 3, 0, 'x', 'y', 'z', 200, 0, 0, 3, 0, 0, 0, 4, 0, 0, 0, 0})
	_, s := good()
	puts(t, s, []byte{
		7, 0, 0, 0, 0, 0, 0, 0, 2, 0, 0, 0, 1, 0, 0, 0, 0, 0, 0, 0, 3, 0, 0, 0, 0, 0, 0, 0, 1, 0, 0, 0,
		1, 0, 0, 0, 2, 0, 0, 0,
		5, 0, 0, 0,
		0, 0, 0, 0, 0, 0, 0, 0, 1, 1, 2, 0, 'a', 'b',
		1, 0, 0, 0, 2, 0, 0, 0, 2, 0, 1, 0, 'c', 2, 0, 0,
		3, 0, 0, 0, 0, 0, 0, 0, 0,
		5, 0, 0, 0, 0, 0, 0, 0, 3, 0, 1, 0, 'd', 1, 2, 0, 'e', 'f', 2, 0, 0,
		6, 0, 0, 0, 1, 0, 0, 0, 1, 1, 2, 0, 'g', 'h',
	})
}

func TestPutOfEachOfFourBytes(t *testing.T) {
	for at := range 4 {
		for _, b := range []int{1, 0x7f, 0x80, 0xff} {
			n := b << (8 * at)
			puts(t, api.State{Gens: []int{n}}, bytesOf(api.State{Gens: []int{n}}))
			puts(t, api.State{Free: []int{n}}, bytesOf(api.State{Free: []int{n}}))
			puts(t, api.State{Ents: []api.Ent{ent(n, 0)}}, bytesOf(api.State{Ents: []api.Ent{ent(n, 0)}}))
			puts(t, api.State{Ents: []api.Ent{ent(0, n)}}, bytesOf(api.State{Ents: []api.Ent{ent(0, n)}}))
		}
	}
}

func TestPutOfDataOfEachLength(t *testing.T) {
	g := chance(2)
	for _, n := range append([]int{255, 256, 257, 300, 65534, 65535}, slices.Collect(func(yield func(int) bool) {
		for n := range 65 {
			if !yield(n) {
				return
			}
		}
	})...) {
		data := g.data(n)
		want := append([]byte{0, 0, 0, 0, 0, 0, 0, 0, 1, 0, 0, 0, 0, 0, 0, 0, 0, 0, 0, 0, 1, 9, byte(n % 256), byte(n / 256)}, data...)
		puts(t, api.State{Ents: []api.Ent{ent(0, 0, part(9, data))}}, want)
	}
}

func TestPutOfManyItems(t *testing.T) {
	for _, n := range []int{1, 2, 63, 64, 255} {
		var l []api.Part
		for k := range n {
			l = append(l, part(k, ""))
		}
		s := api.State{Ents: []api.Ent{ent(1, 1, l...), ent(2, 2)}}
		puts(t, s, bytesOf(s))
	}
	for _, n := range []int{255, 256, 1024, 1 << 16, 1<<16 + 5} { // so many, though no world has more than 1024
		s := api.State{Gens: make([]int, n), Free: make([]int, n), Ents: make([]api.Ent, n)}
		puts(t, s, bytesOf(s))
	}
}

func TestPutBehindLongRuns(t *testing.T) {
	for seed := range 20 {
		g := chance(100 + seed)
		p := paired(t, one(&g, layouts()), api.State{})
		p.rare = true
		for range 120 {
			p.goesOn(&g)
		}
		puts(t, p.s, bytesOf(p.s))
	}
}

// P12.4

func TestRightStatesHaveTheSameBytesJustIfTheyAreTheSame(t *testing.T) {
	_, l := reached(t)
	c, s := good()
	for name, x := range changed() {
		if model.Right(c, x) && name != "nothing else" {
			l = append(l, x)
		}
	}
	l = append(l, s)
	for i, a := range l {
		for j, b := range l {
			same, alike := model.Same(a, b), bytes.Equal(model.Put(a), model.Put(b))
			if same != alike || same != (i == j) {
				t.Fatalf("%v and %v: Same %v, the same bytes %v", a, b, same, alike)
			}
		}
	}
}

func TestTheSameByOtherWays(t *testing.T) {
	c := layout(6, 3, 1, 2)
	p, l := peopled(t, c, 3)
	for i, id := range l {
		p.sets(api.OK, id, 0, fmt.Sprint(i))
		p.sets(api.OK, id, 1, fmt.Sprint("x", i))
	}
	q, l := peopled(t, c, 3)
	for i, id := range slices.Backward(l) {
		q.sets(api.OK, id, 1, "..")
		q.sets(api.OK, id, 0, ".")
		q.removes(api.OK, id, 1)
		if model.Same(p.s, q.s) || bytes.Equal(model.Put(p.s), model.Put(q.s)) {
			t.Error("the Same too early")
		}
		q.sets(api.OK, id, 1, fmt.Sprint("x", i))
		q.sets(api.OK, id, 0, fmt.Sprint(i))
	}
	if !model.Same(p.s, q.s) || !bytes.Equal(model.Put(p.s), model.Put(q.s)) {
		t.Errorf("%v and %v are not the Same", p.s, q.s)
	}
}

// Of states that are not Right

// edgy: a number at some edge.
func edgy(g *chance) int {
	if g.below(3) > 0 {
		return g.below(6) - 1
	}
	return one(g, []int{math.MinInt, math.MinInt + 1, -1 << 32, -64, -2, 31, 32, 63, 64, 255, 256, 1023, 1024, 1 << 30, 1<<30 + 1, 1 << 32, math.MaxInt - 1, math.MaxInt})
}

// wild: a state that says anything.
func wild(g *chance) api.State {
	var s api.State
	for range g.below(5) {
		s.Gens = append(s.Gens, edgy(g))
	}
	for range g.below(4) {
		s.Free = append(s.Free, edgy(g))
	}
	for range g.below(5) {
		x := ent(edgy(g), edgy(g))
		for range g.below(4) {
			x.Parts = append(x.Parts, part(edgy(g), g.data(g.below(4))))
		}
		s.Ents = append(s.Ents, x)
	}
	return s
}

// wildLayout: one that mostly may not be.
func wildLayout(g *chance) api.Conf {
	c := api.Conf{Log: edgy(g), Pages: edgy(g), Entities: edgy(g), Gens: edgy(g)}
	for range g.below(5) {
		c.Comps = append(c.Comps, api.Comp{Name: one(g, []string{"", "a", "b", "C"}), Size: edgy(g)})
	}
	if g.below(60) == 0 {
		c.Comps = slices.Repeat(append(c.Comps, api.Comp{}), 40)
	}
	return c
}

// errorsOf: those that a step may tell.
var errorsOf = map[string][]api.Errno{
	"Spawn":   {api.OK, api.ErrFull},
	"Despawn": {api.OK, api.ErrStale},
	"Set":     {api.OK, api.ErrStale, api.ErrComp, api.ErrSize},
	"Remove":  {api.OK, api.ErrStale, api.ErrComp, api.ErrLacks},
	"Get":     {api.OK, api.ErrStale, api.ErrComp, api.ErrLacks},
}

// ends: all calls of that layout and state end, change nothing, and tell no errors but their own.
func ends(t *testing.T, c api.Conf, s api.State, id api.ID, k int, data []byte) {
	t.Helper()
	s = handed(s)
	was, conf := all(s), fmt.Sprint(c)
	for do, errors := range errorsOf {
		x := step{do: do, id: id, k: k, data: data}
		next, got := x.run(c, s)
		if !slices.Contains(errors, got.e) {
			t.Fatalf("%s, %s: %v tells error %d", brief(c), brief(s), x, int(got.e))
		}
		again, other := x.run(c, s)
		if got != other || said(next) != said(again) {
			t.Fatalf("%s, %s: %v tells this, and that", brief(c), brief(s), x)
		}
	}
	model.Query(s, uint64(k), uint64(id.Gen))
	model.Query(s, 0, 0)
	model.Alive(s, id)
	model.Right(c, s)
	model.Same(s, s)
	model.Put(s)
	if all(s) != was || fmt.Sprint(c) != conf {
		t.Fatalf("%s, %s was changed", brief(c), brief(s))
	}
}

func TestAllCallsEndOfStatesThatAreNotRight(t *testing.T) {
	g := chance(21)
	for range 20000 {
		c, s := wildLayout(&g), wild(&g)
		if g.below(2) == 0 {
			c = one(&g, layouts()[:6])
		}
		id := api.ID{Index: edgy(&g), Gen: edgy(&g)}
		if len(s.Ents) > 0 && g.below(3) > 0 {
			id = one(&g, s.Ents).ID
		}
		ends(t, c, s, id, edgy(&g), []byte(g.data(g.below(4))))
	}
}

func TestAllCallsEndWithASingleThingWrong(t *testing.T) {
	l := faults()
	for name, c := range wrongs() {
		l[name] = func(x *api.Conf, s *api.State) { *x = c }
	}
	for _, fault := range l {
		c, s := good()
		fault(&c, &s)
		ids := []api.ID{{}, {Index: 7}, {Index: -1, Gen: -1}}
		for _, x := range s.Ents[:min(9, len(s.Ents))] {
			ids = append(ids, x.ID)
		}
		for _, id := range ids {
			for _, k := range []int{-1, 0, 1, 2, 3, 64} {
				ends(t, c, s, id, k, []byte("xy"))
				ends(t, c, s, id, k, nil)
			}
		}
	}
}

func TestAllCallsEndOfGreatStates(t *testing.T) {
	const n = 70000
	c, _ := good()
	s := api.State{Gens: make([]int, n), Free: make([]int, n), Ents: make([]api.Ent, n)}
	s.Ents[n-1].Parts = make([]api.Part, n)
	ends(t, c, s, api.ID{}, 1, []byte("xy"))
	ends(t, c, s, api.ID{Index: n}, 1, []byte("xy"))
	c.Comps = make([]api.Comp, n)
	ends(t, c, s, api.ID{}, n-1, nil)
}

// What holds everywhere

func TestDataThatIsToldIsNewMemory(t *testing.T) {
	c, s := good()
	s = handed(s)
	was := all(s)
	for _, x := range s.Ents {
		for _, p := range x.Parts {
			b, e := model.Get(c, s, x.ID, p.Comp)
			if e != api.OK || !bytes.Equal(b, p.Data) {
				t.Error(x.ID, p.Comp, b, int(e))
			}
			overwrite(b, '!')
		}
	}
	for _, q := range [][]uint64{{0, 0}, {1, 0}, {0, 1}} {
		overwrite(model.Query(s, q[0], q[1]), api.ID{Index: 9, Gen: 9})
	}
	if all(s) != was {
		t.Error("overwriting what was told changed the state")
	}
}

// listsOf: each list of s by its place, with how to overwrite it.
func listsOf(s api.State) (l []func()) {
	l = append(l, func() { overwrite(s.Gens, 77) }, func() { overwrite(s.Free, 78) }, func() { overwrite(s.Ents, ent(79, 80)) })
	for i := range s.Ents {
		parts := s.Ents[i].Parts
		l = append(l, func() { overwrite(parts, part(81, "82")) })
		for j := range parts {
			data := parts[j].Data
			l = append(l, func() { overwrite(data, 83) })
		}
	}
	return l
}

// holders: each list of s by its place, as listsOf has them, with how to tell what it has, spare room too.
func holders(s api.State) (l []func() string) {
	ents := whole(s.Ents)
	l = append(l,
		func() string { return fmt.Sprint(whole(s.Gens)) },
		func() string { return fmt.Sprint(whole(s.Free)) },
		func() string {
			var w words
			for _, x := range ents {
				w.num(x.ID.Index)
				w.num(x.ID.Gen)
			}
			return string(w)
		})
	for i := range s.Ents {
		parts := s.Ents[i].Parts
		l = append(l, func() string {
			var w words
			for _, p := range whole(parts) {
				w.num(p.Comp)
			}
			return string(w)
		})
		for j := range parts {
			data := parts[j].Data
			l = append(l, func() string { return fmt.Sprint(whole(data)) })
		}
	}
	return l
}

func TestListsOfOneAnswerShareNothing(t *testing.T) {
	c, s := good()
	asked := []step{
		{do: "Spawn"},
		{do: "Despawn", id: api.ID{Index: 5}},
		{do: "Despawn", id: api.ID{Index: 99}},
		{do: "Set", id: api.ID{Index: 5}, k: 0, data: []byte("z")},
		{do: "Set", id: api.ID{Index: 3}, k: 1, data: []byte("yz")},
		{do: "Set", id: api.ID{Index: 0}, k: 0, data: []byte("z")},
		{do: "Set", id: api.ID{Index: 0}, k: 0, data: []byte("long")},
		{do: "Remove", id: api.ID{Index: 5}, k: 1},
		{do: "Remove", id: api.ID{Index: 3}, k: 1},
	}
	for _, x := range asked {
		first, _ := x.run(c, handed(s))
		for at := range listsOf(first) {
			// All other lists are held from ahead, so that overwriting this one shows in them alone if they share memory.
			out, _ := x.run(c, handed(s))
			held := holders(out)
			was := make([]string, len(held))
			for i, tell := range held {
				was[i] = tell()
			}
			listsOf(out)[at]()
			for i, tell := range held {
				if i != at && tell() != was[i] {
					t.Errorf("%v: list %d shares memory with list %d", x, at, i)
				}
			}
		}
	}
}

func TestAnAnswerMayBeHandedIn(t *testing.T) {
	p, l := peopled(t, layout(3, 2, 2, 2), 2)
	p.sets(api.OK, l[0], 0, "ab")
	data, _ := model.Get(p.c, p.s, l[0], 0)
	for _, id := range l {
		for k := range 2 {
			s, e := model.Set(p.c, p.s, id, k, data)
			if e != api.OK || p.x.Set(id, k, data) != api.OK {
				t.Error("Set of what Get told", int(e))
			}
			p.s = s
		}
	}
	overwrite(data, '!')
	p.whole()
	// Data that lies in the state itself.
	s, e := model.Set(p.c, p.s, l[1], 1, p.s.Ents[0].Parts[0].Data)
	spoil(p.s)
	p.s = s
	if e != api.OK {
		t.Error(int(e))
	}
	p.whole()
}

func TestOneStateManySteps(t *testing.T) {
	// Steps of one state, one beside the other: none sees what another one did.
	c, s := good()
	s = handed(s)
	was := all(s)
	a, _, _ := model.Spawn(c, s)
	b, _ := model.Despawn(c, s, api.ID{Index: 5})
	d, _ := model.Set(c, s, api.ID{Index: 3}, 1, []byte("xy"))
	e, _ := model.Remove(c, s, api.ID{Index: 0}, 1)
	again, id, _ := model.Spawn(c, s)
	if !model.Same(a, again) || id != (api.ID{Index: 2, Gen: 1}) {
		t.Error("Spawn of one state, twice:", a, again, id)
	}
	all5 := []api.State{s, a, b, d, e}
	for i, x := range all5 {
		if !model.Right(c, x) {
			t.Error("not Right:", x)
		}
		for j, y := range all5 {
			if model.Same(x, y) != (i == j) {
				t.Errorf("%v and %v", x, y)
			}
		}
	}
	if all(s) != was {
		t.Error("the state was changed")
	}
}

func TestStepsOfNilAndEmpty(t *testing.T) {
	c := layout(2, 2, 0, 1)
	for _, s := range []api.State{{}, {Gens: []int{}, Free: []int{}, Ents: []api.Ent{}}, handed(api.State{})} {
		next, id, e := model.Spawn(c, s)
		if e != api.OK || id != (api.ID{}) || said(next) != said(api.State{Gens: []int{0}, Ents: []api.Ent{ent(0, 0)}}) {
			t.Error(next, id, int(e))
		}
		for _, data := range [][]byte{nil, {}, roomy([]byte{}, 4)} {
			set, e := model.Set(c, next, id, 0, data)
			if b, e2 := model.Get(c, set, id, 0); e != api.OK || len(b) != 0 || e2 != api.OK {
				t.Error(b, int(e), int(e2))
			}
			if _, e := model.Set(c, next, id, 1, data); e != api.ErrSize {
				t.Error(int(e))
			}
		}
		if _, e := model.Despawn(c, s, api.ID{}); e != api.ErrStale {
			t.Error(int(e))
		}
	}
}
