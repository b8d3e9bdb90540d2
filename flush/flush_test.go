package flush_test

import (
	"fmt"
	"maps"
	"math"
	"slices"
	"testing"

	"vivarium/api"
	"vivarium/ecs"
	"vivarium/flush"
	"vivarium/model"
)

// four: what commands do.
var four = []int{api.DoSpawn, api.DoDespawn, api.DoSet, api.DoRemove}

// three: what commands do to one that is there.
var three = []int{api.DoDespawn, api.DoSet, api.DoRemove}

// others: numbers that are none of the four, near and far.
var others = []int{math.MinInt, -1 << 32, -256, -2, -1, 4, 5, 7, 255, 256, 258, 1 << 32, 1<<32 + 1, math.MaxInt}

// far: numbers of which there never is a spawn, a component, an index or a generation.
var far = []int{math.MinInt, math.MinInt + 1, -1 << 32, -256, -64, -2, -1, 1000, 1024, 1 << 16, 1 << 32, 1<<32 + 1, math.MaxInt - 1, math.MaxInt}

// chance: numbers that look mixed, the same ones for the same seed.
type chance uint64

// below: the next number from 0 on, below n.
func (c *chance) below(n int) int {
	*c = *c*6364136223846793005 + 1442695040888963407
	return int(uint64(*c)>>33) % n
}

// one: the next one of l.
func one[T any](c *chance, l []T) T {
	return l[c.below(len(l))]
}

// data: n mixed bytes, none of them 0.
func (c *chance) data(n int) []byte {
	b := make([]byte, n)
	for i := range b {
		b[i] = byte(1 + c.below(255))
	}
	return b
}

// brief: a text that is not too long to be read.
func brief(v any) string {
	s := fmt.Sprint(v)
	if len(s) > 700 {
		return fmt.Sprintf("%s.. (%d signs)", s[:700], len(s))
	}
	return s
}

// layout: of so many entities and generations, and components of these sizes.
func layout(entities, gens int, sizes ...int) api.Conf {
	c := api.Conf{Log: 2, Pages: 4, Entities: entities, Gens: gens}
	for i, n := range sizes {
		c.Comps = append(c.Comps, api.Comp{Name: fmt.Sprint("c", i), Size: n})
	}
	return c
}

// plain: the layout of most tests: few entities, and components of one byte, of two, and of none.
func plain() api.Conf {
	return layout(9, 5, 1, 2, 0)
}

// Commands of each kind: to one that is named, and to a spawn of the frame.

func spawn() api.Cmd {
	return api.Cmd{Do: api.DoSpawn}
}

func despawn(id api.ID) api.Cmd {
	return api.Cmd{Do: api.DoDespawn, ID: id}
}

func set(id api.ID, k int, data ...byte) api.Cmd {
	return api.Cmd{Do: api.DoSet, ID: id, Comp: k, Data: data}
}

func remove(id api.ID, k int) api.Cmd {
	return api.Cmd{Do: api.DoRemove, ID: id, Comp: k}
}

// local: the same command, but to the k-th spawn of the frame; its generation is one that nobody has.
func local(k int, x api.Cmd) api.Cmd {
	x.Local, x.ID = true, api.ID{Index: k, Gen: 77}
	return x
}

// id: the name of that index and generation.
func id(index, gen int) api.ID {
	return api.ID{Index: index, Gen: gen}
}

// made: the result of a spawn of that name.
func made(index, gen int) api.Result {
	return api.Result{ID: id(index, gen)}
}

// failed: the result of one that failed.
func failed(e api.Errno) api.Result {
	return api.Result{Err: e}
}

// fine: the result of one that is no spawn.
var fine = api.Result{}

// told: all of these commands as a text; nil and empty data are the same.
func told(l []api.Cmd) string {
	s := fmt.Sprintf("%d commands:", len(l))
	for _, x := range l {
		s += fmt.Sprintf(" [do %d local %v index %d gen %d comp %d data %x]", x.Do, x.Local, x.ID.Index, x.ID.Gen, x.Comp, x.Data)
	}
	return s
}

// said: all that s says, so that two that say the same, and just these, are the same text.
func said(s api.State) string {
	out := fmt.Sprintln("gens", s.Gens, "free", s.Free)
	for _, x := range s.Ents {
		out += fmt.Sprint(x.ID.Index, ".", x.ID.Gen)
		for _, p := range x.Parts {
			out += fmt.Sprintf(" %d:%x", p.Comp, p.Data)
		}
		out += "\n"
	}
	return out
}

// lain: all that a core's tables have, as a text.
func lain(x *ecs.Core) string {
	out := ""
	for _, r := range x.Rows() {
		out += fmt.Sprintf("%b %v %x\n", r.Sig, r.IDs, r.Cols)
	}
	return out
}

// tiny: a world as the document's words say it, with nothing of the packages that are tested.
type tiny struct {
	c     api.Conf
	gens  []int
	free  []int
	parts map[int]map[int]string // by index, of those that are alive
}

func newTiny(c api.Conf) *tiny {
	return &tiny{c: c, parts: map[int]map[int]string{}}
}

func (w *tiny) spawn() api.Result {
	at := len(w.gens)
	switch {
	case len(w.free) > 0:
		at = w.free[len(w.free)-1]
		w.free = w.free[:len(w.free)-1]
	case at < w.c.Entities:
		w.gens = append(w.gens, 0)
	default:
		return failed(api.ErrFull)
	}
	w.parts[at] = map[int]string{}
	return made(at, w.gens[at])
}

// do: what a command that is no spawn does to that one.
func (w *tiny) do(x api.Cmd, to api.ID) api.Errno {
	has, ok := w.parts[to.Index]
	if !ok || w.gens[to.Index] != to.Gen {
		return api.ErrStale
	}
	if x.Do == api.DoDespawn {
		delete(w.parts, to.Index)
		w.gens[to.Index]++
		if w.gens[to.Index] < w.c.Gens {
			w.free = append(w.free, to.Index)
		}
		return api.OK
	}
	if x.Comp < 0 || x.Comp >= len(w.c.Comps) {
		return api.ErrComp
	}
	if x.Do == api.DoSet {
		if len(x.Data) != w.c.Comps[x.Comp].Size {
			return api.ErrSize
		}
		has[x.Comp] = string(x.Data)
		return api.OK
	}
	if _, ok := has[x.Comp]; !ok {
		return api.ErrLacks
	}
	delete(has, x.Comp)
	return api.OK
}

// frame: what comes of each command.
func (w *tiny) frame(l []api.Cmd) []api.Result {
	var all, spawns []api.Result
	for _, x := range l {
		r := api.Result{}
		switch {
		case x.Do < 0 || x.Do > 3:
			r.Err = api.ErrArg
		case x.Do == api.DoSpawn:
			r = w.spawn()
			spawns = append(spawns, r)
		case !x.Local:
			r.Err = w.do(x, x.ID)
		case x.ID.Index < 0 || x.ID.Index >= len(spawns) || spawns[x.ID.Index].Err != api.OK:
			r.Err = api.ErrRef
		default:
			r.Err = w.do(x, spawns[x.ID.Index].ID)
		}
		all = append(all, r)
	}
	return all
}

func (w *tiny) state() api.State {
	s := api.State{Gens: w.gens, Free: w.free}
	for _, at := range slices.Sorted(maps.Keys(w.parts)) {
		e := api.Ent{ID: id(at, w.gens[at])}
		for _, k := range slices.Sorted(maps.Keys(w.parts[at])) {
			e.Parts = append(e.Parts, api.Part{Comp: k, Data: []byte(w.parts[at][k])})
		}
		s.Ents = append(s.Ents, e)
	}
	return s
}

// three worlds that are to tell the same: a core, a state of the model, and what is meant.
type worlds struct {
	c     api.Conf
	core  *ecs.Core
	state api.State
	tiny  *tiny
}

func newWorlds(c api.Conf) *worlds {
	return &worlds{c: c, core: ecs.New(c), tiny: newTiny(c)}
}

// frame: does l to all three, and tells what came of it, if all three tell the same.
func (w *worlds) frame(t *testing.T, l []api.Cmd) []api.Result {
	t.Helper()
	ahead := said(w.state)
	want := w.tiny.frame(l)
	got := flush.Core(w.core, l)
	next, also := flush.Model(w.c, w.state, l)
	if !slices.Equal(got, want) {
		t.Errorf("Core of %s: %v, not %v", brief(told(l)), brief(got), brief(want))
	}
	if !slices.Equal(also, want) {
		t.Errorf("Model of %s: %v, not %v", brief(told(l)), brief(also), brief(want))
	}
	if said(w.state) != ahead {
		t.Errorf("Model of %s makes the state that is handed in, %s, be %s", brief(told(l)), brief(ahead), brief(said(w.state)))
	}
	meant := said(w.tiny.state())
	if s := said(w.core.State()); s != meant {
		t.Errorf("Core of %s on %s: the state is %s, not %s", brief(told(l)), brief(ahead), brief(s), brief(meant))
	}
	if said(next) != meant || !model.Right(w.c, next) {
		t.Errorf("Model of %s on %s: the state is %s, not %s", brief(told(l)), brief(ahead), brief(said(next)), brief(meant))
	}
	w.state = next
	return got
}

// tells: does the frame have these results?
func (w *worlds) tells(t *testing.T, l []api.Cmd, want ...api.Result) {
	t.Helper()
	if got := w.frame(t, l); !slices.Equal(got, want) {
		t.Errorf("%s: %v, not %v", brief(told(l)), brief(got), brief(want))
	}
}

// lived: worlds with entities, of which some were given back, and some of these taken again; 0.1, 1.0, 4.0 and 5.0 are alive, 3 is free, and 2 is free and will be taken next.
func lived(t *testing.T) *worlds {
	t.Helper()
	w := newWorlds(plain())
	w.frame(t, make([]api.Cmd, 6))
	w.frame(t, []api.Cmd{despawn(id(3, 0)), despawn(id(2, 0)), despawn(id(0, 0)), spawn()})
	w.frame(t, []api.Cmd{set(id(0, 1), 0, 1), set(id(0, 1), 1, 2, 3), set(id(1, 0), 2), set(id(4, 0), 1, 4, 5), set(id(5, 0), 0, 6), set(id(5, 0), 2)})
	if s := said(w.state); s != "gens [1 0 1 1 0 0] free [3 2]\n0.1 0:01 1:0203\n1.0 2:\n4.0 1:0405\n5.0 0:06 2:\n" {
		t.Fatalf("the world that lived is %s", s)
	}
	return w
}

// mixed: n commands of all kinds, most of them to those that may be alive.
func mixed(c *chance, conf api.Conf, n int) []api.Cmd {
	var l []api.Cmd
	for range n {
		x := api.Cmd{Do: one(c, []int{0, 0, 1, 2, 2, 2, 2, 3, 3}), Local: c.below(2) == 0, ID: id(c.below(conf.Entities+1), c.below(3)), Comp: c.below(len(conf.Comps) + 1)}
		if x.Local {
			x.ID.Index = c.below(min(n, 9))
		}
		if x.Comp < len(conf.Comps) && c.below(9) != 0 {
			x.Data = c.data(conf.Comps[x.Comp].Size)
		}
		switch c.below(40) {
		case 0:
			x.Do = one(c, others)
		case 1:
			x.ID.Index = one(c, far)
		case 2:
			x.Comp = one(c, far)
		case 3:
			x.ID.Gen = one(c, far)
		case 4:
			x.Data = c.data(c.below(70))
		}
		l = append(l, x)
	}
	return l
}

// layouts: of few entities, generations and components, and of many.
func layouts() []api.Conf {
	return []api.Conf{
		layout(1, 1),
		layout(1, 3, 0),
		layout(2, 9, 1, 2),
		layout(3, 2, 0, 0, 0),
		layout(5, 2, 1, 2, 0),
		plain(),
		layout(8, 1000, 3, 0, 64, 1),
		layout(20, 1<<30, 2, 0, 1),
		layout(1024, 1<<30, 1, 2, 3, 4, 5, 6, 7, 8, 0, 1, 2, 3, 4, 5, 6, 7, 8, 0, 1, 2, 3, 4, 5, 6, 7, 8, 0, 1, 2, 3, 4, 64),
	}
}

// P15.1

// found: does Find tell that one?
func found(t *testing.T, l []api.Cmd, done []api.Result, k int, want api.ID) {
	t.Helper()
	if got, ok := flush.Find(l, done, k); got != want || !ok {
		t.Errorf("Find of %d in %s with %s = %v, %v, not %v", k, brief(told(l)), brief(done), got, ok, want)
	}
}

// lost: does Find tell that there is none?
func lost(t *testing.T, l []api.Cmd, done []api.Result, k int) {
	t.Helper()
	if got, ok := flush.Find(l, done, k); got != (api.ID{}) || ok {
		t.Errorf("Find of %d in %s with %s = %v, %v, not none", k, brief(told(l)), brief(done), got, ok)
	}
}

func TestFindOfSpawnsAlone(t *testing.T) {
	for _, n := range []int{1, 2, 3, 4, 63, 64, 65, 300} {
		l := make([]api.Cmd, n)
		var done []api.Result
		for i := range n {
			done = append(done, made(500-i, i+1))
		}
		for k := range n {
			found(t, l, done, k, id(500-k, k+1))
		}
		for _, k := range append([]int{-n, -n - 1, -n + n/2 - 1, n, n + 1, 2 * n}, far...) {
			lost(t, l, done, k)
		}
	}
}

func TestFindPassesOverOtherCommands(t *testing.T) {
	for _, do := range append(slices.Clone(others), three...) {
		for _, where := range []bool{false, true} {
			o := api.Cmd{Do: do, Local: where, ID: id(3, 4), Comp: 1, Data: []byte{1}}
			// What came of one that is no spawn does not count, whatever its ID is.
			r := made(99, 98)
			l := []api.Cmd{o, o, spawn(), o, spawn(), spawn(), o, o, o, spawn(), o}
			done := []api.Result{r, failed(api.ErrRef), made(5, 1), r, made(3, 0), made(7, 2), r, r, failed(api.ErrFull), made(0, 9), r}
			for k, want := range []api.ID{id(5, 1), id(3, 0), id(7, 2), id(0, 9)} {
				found(t, l, done, k, want)
			}
			for _, k := range append([]int{4, 5, 10, 11}, far...) {
				lost(t, l, done, k)
			}
			lost(t, []api.Cmd{o, o, o}, []api.Result{r, r, r}, 0)
			lost(t, []api.Cmd{o}, []api.Result{r}, -1)
		}
	}
}

func TestFindOfASpawnThatFailed(t *testing.T) {
	l := []api.Cmd{spawn(), despawn(id(0, 0)), spawn(), spawn(), spawn()}
	for e := api.ErrArg; e <= api.ErrState; e++ {
		for _, which := range []api.Result{failed(e), {Err: e, ID: id(8, 8)}, failed(-e), failed(e << 32)} {
			done := []api.Result{made(4, 0), fine, which, made(6, 1), which}
			found(t, l, done, 0, id(4, 0))
			lost(t, l, done, 1)
			found(t, l, done, 2, id(6, 1))
			lost(t, l, done, 3)
			lost(t, l, done, 4)
			lost(t, l[:1], []api.Result{which}, 0)
		}
	}
}

func TestFindOfASpawnWhoseIDIsZero(t *testing.T) {
	found(t, []api.Cmd{spawn()}, []api.Result{{}}, 0, api.ID{})
	found(t, []api.Cmd{spawn(), spawn()}, []api.Result{failed(api.ErrFull), {}}, 1, api.ID{})
}

func TestFindLooksAtNothingElseOfASpawn(t *testing.T) {
	for _, n := range append([]int{0, 1, 2}, far...) {
		x := api.Cmd{Do: api.DoSpawn, Local: true, ID: id(n, n), Comp: n, Data: []byte{1, 2}}
		found(t, []api.Cmd{x, x}, []api.Result{made(n, 3), made(4, n)}, 0, id(n, 3))
		found(t, []api.Cmd{x, x}, []api.Result{made(n, 3), made(4, n)}, 1, id(4, n))
		lost(t, []api.Cmd{x, x}, []api.Result{made(n, 3), made(4, n)}, 2)
	}
}

func TestFindWithResultsOfTheFirstOnesAlone(t *testing.T) {
	l := []api.Cmd{despawn(id(0, 0)), spawn(), spawn(), remove(id(0, 0), 1), {Do: 9}, spawn(), set(id(0, 0), 0), spawn(), spawn()}
	done := []api.Result{fine, made(1, 1), made(2, 2), failed(api.ErrLacks), failed(api.ErrArg), made(5, 5), fine, made(7, 7), made(8, 8)}
	places := []int{1, 2, 5, 7, 8}
	for n := range len(done) + 1 {
		for k, at := range places {
			if at < n {
				found(t, l, done[:n], k, done[at].ID)
			} else {
				lost(t, l, done[:n], k)
			}
		}
		for _, k := range append([]int{5, 6, n}, far...) {
			if k >= len(places) || k < 0 {
				lost(t, l, done[:n], k)
			}
		}
	}
	lost(t, l, nil, 0)
	lost(t, l, []api.Result{}, 0)
}

func TestFindWithMoreResultsThanCommands(t *testing.T) {
	done := []api.Result{made(1, 1), made(2, 2), made(3, 3), made(4, 4)}
	l := []api.Cmd{spawn(), despawn(id(0, 0)), spawn(), spawn(), spawn(), spawn()}
	for n := range len(done) + 1 {
		for k, at := range []int{0, 2, 3} {
			if at < n {
				found(t, l[:n], done, k, done[at].ID)
			} else {
				lost(t, l[:n], done, k)
			}
		}
	}
	for _, k := range append([]int{0, 1}, far...) {
		lost(t, nil, done, k)
		lost(t, []api.Cmd{}, done, k)
		lost(t, nil, nil, k)
		lost(t, []api.Cmd{}, []api.Result{}, k)
	}
}

func TestFindOfAllShortLists(t *testing.T) {
	// Each place of the list is one of these, with what came of it.
	kinds := []struct {
		x api.Cmd
		r api.Result
	}{
		{spawn(), fine},
		{spawn(), failed(api.ErrFull)},
		{local(0, despawn(api.ID{})), fine},
		{api.Cmd{Do: 4}, failed(api.ErrArg)},
	}
	for n := range 6 {
		for code := range 1 << (2 * n) {
			var l []api.Cmd
			var done []api.Result
			for i := range n {
				kind := kinds[code>>(2*i)&3]
				kind.r.ID = id(10+i, 20+i)
				l, done = append(l, kind.x), append(done, kind.r)
			}
			for cut := range n + 1 {
				short(t, l, done[:cut])
				short(t, l[:cut], done)
			}
		}
	}
}

// short: does Find tell of a short list what is meant?
func short(t *testing.T, l []api.Cmd, done []api.Result) {
	t.Helper()
	var spawns []api.Result
	for i := 0; i < len(l) && i < len(done); i++ {
		if l[i].Do == 0 {
			spawns = append(spawns, done[i])
		}
	}
	for k := -2; k < 8; k++ {
		if k >= 0 && k < len(spawns) && spawns[k].Err == 0 {
			found(t, l, done, k, spawns[k].ID)
		} else {
			lost(t, l, done, k)
		}
	}
}

// P15.2

func TestExample(t *testing.T) {
	w := newWorlds(plain())
	w.tells(t, []api.Cmd{spawn(), local(0, set(api.ID{}, 0, 7))}, made(0, 0), fine)
	if s := said(w.state); s != "gens [0] free []\n0.0 0:07\n" {
		t.Errorf("the state is %s", s)
	}
}

func TestCoreOfNil(t *testing.T) {
	if l := flush.Core(nil, nil); len(l) != 0 {
		t.Errorf("Core of nil and no commands: %v", l)
	}
	if l := flush.Core(nil, []api.Cmd{}); len(l) != 0 {
		t.Errorf("Core of nil and no commands: %v", l)
	}
	var kinds []api.Cmd
	for _, do := range append(slices.Clone(others), four...) {
		for _, at := range []int{-1, 0, 1} {
			kinds = append(kinds, api.Cmd{Do: do, ID: id(at, 0)}, api.Cmd{Do: do, Local: true, ID: id(at, 0), Comp: 99, Data: []byte{1}})
		}
	}
	for _, x := range kinds {
		if l := flush.Core(nil, []api.Cmd{x}); !slices.Equal(l, []api.Result{failed(api.ErrNil)}) {
			t.Errorf("Core of nil and %s: %v", told([]api.Cmd{x}), l)
		}
	}
	for _, n := range []int{2, 3, 63, 64, 65, 1000} {
		c := chance(n)
		for _, l := range [][]api.Cmd{make([]api.Cmd, n), mixed(&c, plain(), n)} {
			got := flush.Core(nil, l)
			if len(got) != n || slices.ContainsFunc(got, func(r api.Result) bool { return r != failed(api.ErrNil) }) {
				t.Errorf("Core of nil and %s: %v", brief(told(l)), brief(got))
			}
		}
	}
	if got := flush.Core(nil, kinds); len(got) != len(kinds) || slices.ContainsFunc(got, func(r api.Result) bool { return r != failed(api.ErrNil) }) {
		t.Errorf("Core of nil and %s: %v", brief(told(kinds)), brief(got))
	}
}

func TestNoCommands(t *testing.T) {
	for _, l := range [][]api.Cmd{nil, {}} {
		w := newWorlds(plain())
		w.tells(t, l)
		old := lived(t)
		old.tells(t, l)
	}
}

func TestSpawns(t *testing.T) {
	w := newWorlds(plain())
	w.tells(t, []api.Cmd{spawn()}, made(0, 0))
	w.tells(t, []api.Cmd{spawn(), spawn(), spawn()}, made(1, 0), made(2, 0), made(3, 0))
	old := lived(t)
	old.tells(t, []api.Cmd{spawn(), spawn(), spawn()}, made(2, 1), made(3, 1), made(6, 0))
}

func TestASpawnHasNothingButItsDo(t *testing.T) {
	for _, n := range append([]int{0, 1, 2}, far...) {
		for _, where := range []bool{false, true} {
			w := lived(t)
			x := api.Cmd{Do: api.DoSpawn, Local: where, ID: id(n, n), Comp: n, Data: make([]byte, 70)}
			w.tells(t, []api.Cmd{x, x, x, local(1, set(api.ID{}, 0, 9))}, made(2, 1), made(3, 1), made(6, 0), fine)
		}
	}
}

func TestEachDoThatIsNone(t *testing.T) {
	for _, do := range others {
		for _, where := range []bool{false, true} {
			w := lived(t)
			x := api.Cmd{Do: do, Local: where, ID: id(0, 1), Comp: 0, Data: []byte{5}}
			w.tells(t, []api.Cmd{x}, failed(api.ErrArg))
			w.tells(t, []api.Cmd{spawn(), x, local(0, set(api.ID{}, 0, 9)), x, spawn(), local(1, set(api.ID{}, 2))},
				made(2, 1), failed(api.ErrArg), fine, failed(api.ErrArg), made(3, 1), fine)
			x.ID, x.Comp, x.Data = id(-1, -1), -1, make([]byte, 70)
			w.tells(t, []api.Cmd{x}, failed(api.ErrArg))
		}
	}
}

func TestEachCommandToOneThatIsNamed(t *testing.T) {
	w := lived(t)
	w.tells(t, []api.Cmd{
		set(id(0, 1), 0, 9), set(id(0, 1), 2), remove(id(0, 1), 1), remove(id(1, 0), 2), despawn(id(4, 0)), set(id(1, 0), 1, 7, 8), despawn(id(5, 0)), spawn(),
	}, fine, fine, fine, fine, fine, fine, fine, made(5, 1))
	if s := said(w.state); s != "gens [1 0 1 1 1 1] free [3 2 4]\n0.1 0:09 2:\n1.0 1:0708\n5.1\n" {
		t.Errorf("the state is %s", s)
	}
}

func TestEachCommandToASpawnAhead(t *testing.T) {
	for n := 1; n <= 7; n++ {
		for k := range n {
			for _, between := range []bool{false, true} {
				w := lived(t)
				var l []api.Cmd
				for range n {
					l = append(l, spawn())
					if between {
						l = append(l, set(id(1, 0), 0, byte(len(l))), despawn(id(1, 5)), api.Cmd{Do: -1})
					}
				}
				names := []api.ID{id(2, 1), id(3, 1), id(6, 0), id(7, 0), id(8, 0), {}, {}}
				l = append(l, local(k, set(api.ID{}, 0, 7)), local(k, set(api.ID{}, 1, 8, 9)), local(k, set(api.ID{}, 2)), local(k, remove(api.ID{}, 1)))
				got := w.frame(t, l)
				want := slices.Repeat([]api.Result{fine}, 4)
				if k > 4 {
					want = slices.Repeat([]api.Result{failed(api.ErrRef)}, 4)
				}
				if !slices.Equal(got[len(got)-4:], want) {
					t.Errorf("%s: %v", brief(told(l)), got)
				}
				if data, e := model.Get(w.c, w.state, names[k], 0); k <= 4 && (string(data) != "\x07" || e != api.OK) {
					t.Errorf("spawn %d of %d has %v, %d", k, n, data, e)
				}
				if _, e := w.core.Get(names[k], 1); k <= 4 && e != api.ErrLacks {
					t.Errorf("spawn %d of %d has component 1: %d", k, n, e)
				}
			}
		}
	}
}

func TestDespawnOfASpawnAhead(t *testing.T) {
	for n := 1; n <= 5; n++ {
		for k := range n {
			w := newWorlds(plain())
			l := append(make([]api.Cmd, n), local(k, despawn(api.ID{})), local(k, despawn(api.ID{})), spawn())
			got := w.frame(t, l)
			if want := []api.Result{fine, failed(api.ErrStale), made(k, 1)}; !slices.Equal(got[n:], want) {
				t.Errorf("%s: %v, not %v", told(l), got[n:], want)
			}
		}
	}
}

func TestALocalCommandWithoutASpawn(t *testing.T) {
	for _, do := range three {
		x := api.Cmd{Do: do, Local: true, Comp: 0, Data: []byte{5}}
		ref := failed(api.ErrRef)
		w := lived(t)
		w.tells(t, []api.Cmd{x}, ref)                                    // there is none
		w.tells(t, []api.Cmd{x, x, spawn()}, ref, ref, made(2, 1))       // it is behind
		w.tells(t, []api.Cmd{x, spawn(), x}[:2], ref, made(3, 1))        // it is behind, but not in the frame ahead
		w.tells(t, []api.Cmd{set(id(0, 1), 0, 3), x, x}, fine, ref, ref) // the commands ahead are no spawns
		for _, at := range far {
			x.ID.Index = at
			old := lived(t)
			old.tells(t, []api.Cmd{spawn(), x, spawn(), x}, made(2, 1), ref, made(3, 1), ref)
		}
	}
}

func TestALocalCommandToASpawnBehind(t *testing.T) {
	for _, do := range three {
		for n := range 5 {
			x := api.Cmd{Do: do, Local: true, ID: id(n, 0), Comp: 0, Data: []byte{5}}
			w := newWorlds(plain())
			l := append(append(make([]api.Cmd, n), x), spawn(), spawn())
			if got := w.frame(t, l); got[n] != failed(api.ErrRef) {
				t.Errorf("%s: %v", told(l), got[n])
			}
			// The place of a command is not the place of a spawn, not even its own.
			l = append([]api.Cmd{{Do: 5}}, l...)
			l[n+1].ID.Index = n + 1
			old := lived(t)
			if got := old.frame(t, l); got[n+1] != failed(api.ErrRef) {
				t.Errorf("%s: %v", told(l), got[n+1])
			}
		}
	}
}

func TestASpawnThatIsForItself(t *testing.T) {
	w := lived(t)
	x := local(0, spawn())
	w.tells(t, []api.Cmd{x, x, local(1, x)}, made(2, 1), made(3, 1), made(6, 0))
}

func TestALocalCommandToASpawnThatFailed(t *testing.T) {
	for _, do := range three {
		x := api.Cmd{Do: do, Local: true, ID: id(2, 0), Comp: 0, Data: []byte{5}}
		w := newWorlds(layout(2, 9, 1))
		w.tells(t, []api.Cmd{spawn(), spawn(), spawn(), x, local(1, set(api.ID{}, 0, 4)), x}, made(0, 0), made(1, 0), failed(api.ErrFull), failed(api.ErrRef), fine, failed(api.ErrRef))
		// One that is there again behind it does not make it be one that was done.
		w.tells(t, []api.Cmd{spawn(), despawn(id(1, 0)), local(0, set(api.ID{}, 0, 6)), spawn(), spawn(), local(1, set(api.ID{}, 0, 7)), x, local(0, x)},
			failed(api.ErrFull), fine, failed(api.ErrRef), made(1, 1), failed(api.ErrFull), fine, failed(api.ErrRef), failed(api.ErrRef))
	}
}

func TestALocalCommandBehindCommandsThatFailed(t *testing.T) {
	w := newWorlds(layout(3, 9, 1, 2))
	w.tells(t, []api.Cmd{
		despawn(id(0, 0)), {Do: 4}, spawn(), local(1, despawn(api.ID{})), local(0, set(api.ID{}, 0)), local(0, set(api.ID{}, 9, 1)), local(0, remove(api.ID{}, 1)), spawn(), local(1, set(api.ID{}, 1, 5, 6)), local(0, set(api.ID{}, 0, 7)),
	}, failed(api.ErrStale), failed(api.ErrArg), made(0, 0), failed(api.ErrRef), failed(api.ErrSize), failed(api.ErrComp), failed(api.ErrLacks), made(1, 0), fine, fine)
	if s := said(w.state); s != "gens [0 0] free []\n0.0 0:07\n1.0 1:0506\n" {
		t.Errorf("the state is %s", s)
	}
}

func TestWhoseIndexAndGenerationAreTaken(t *testing.T) {
	for _, do := range three {
		for _, gen := range append([]int{0, 1, 2}, far...) {
			// Where it is Local the generation is that of the spawn, whatever it says.
			w := lived(t)
			x := api.Cmd{Do: do, Local: true, ID: id(0, gen), Comp: 0, Data: []byte{5}}
			want := fine
			if do == api.DoRemove {
				want = failed(api.ErrLacks)
			}
			w.tells(t, []api.Cmd{spawn(), x}, made(2, 1), want)
			// Where it is not, it is its own, whatever was spawned.
			x.Local = false
			want = failed(api.ErrStale)
			if gen == 1 {
				want = fine
			}
			old := lived(t)
			old.tells(t, []api.Cmd{spawn(), x}, made(2, 1), want)
			x.ID = id(2, gen)
			want = failed(api.ErrStale)
			if gen == 1 && do == api.DoRemove {
				want = failed(api.ErrLacks)
			} else if gen == 1 {
				want = fine
			}
			older := lived(t)
			older.tells(t, []api.Cmd{x, spawn(), x}, failed(api.ErrStale), made(2, 1), want)
		}
	}
	// Index 1 is an entity, and spawn 1 is another one.
	w := lived(t)
	w.tells(t, []api.Cmd{spawn(), spawn(), set(id(1, 0), 0, 4), local(1, set(id(1, 0), 0, 5))}, made(2, 1), made(3, 1), fine, fine)
	if s := said(w.state); s != "gens [1 0 1 1 0 0] free []\n0.1 0:01 1:0203\n1.0 0:04 2:\n2.1\n3.1 0:05\n4.0 1:0405\n5.0 0:06 2:\n" {
		t.Errorf("the state is %s", s)
	}
}

func TestOrderOfErrors(t *testing.T) {
	stale, gone := id(2, 0), id(0, 1)
	for _, c := range []struct {
		x    api.Cmd
		want api.Errno
	}{
		{api.Cmd{Do: 4, Local: true, ID: id(9, 0), Comp: 9, Data: []byte{1, 2, 3}}, api.ErrArg}, // ErrRef, and more
		{api.Cmd{Do: -1, ID: stale, Comp: 9}, api.ErrArg},                                       // ErrStale, ErrComp
		{api.Cmd{Do: 4, ID: gone, Comp: 9}, api.ErrArg},                                         // ErrComp
		{local(9, despawn(api.ID{})), api.ErrRef},
		{local(-1, set(api.ID{}, 9, 1, 2, 3)), api.ErrRef}, // ErrComp, or ErrSize
		{local(9, set(api.ID{}, 0, 1, 2, 3)), api.ErrRef},  // ErrSize
		{local(9, remove(api.ID{}, 9)), api.ErrRef},        // ErrComp
		{local(9, remove(api.ID{}, 1)), api.ErrRef},        // ErrLacks
		{set(stale, 9, 1, 2, 3), api.ErrStale},
		{set(stale, 0, 1, 2, 3), api.ErrStale},
		{remove(stale, 9), api.ErrStale},
		{remove(stale, 2), api.ErrStale},
		{set(gone, 9, 1, 2, 3), api.ErrComp},
		{set(gone, -1), api.ErrComp},
		{remove(gone, 3), api.ErrComp},
		{set(gone, 2, 1), api.ErrSize}, // it has not component 2
		{set(gone, 0, make([]byte, 65)...), api.ErrSize},
		{remove(gone, 2), api.ErrLacks},
	} {
		w := lived(t)
		w.tells(t, []api.Cmd{c.x}, failed(c.want))
		w.tells(t, []api.Cmd{c.x, spawn(), c.x, set(gone, 0, 77), c.x}, failed(c.want), made(2, 1), failed(c.want), fine, failed(c.want))
	}
}

func TestALocalCommandToOneThatIsStaleTellsNoOtherError(t *testing.T) {
	w := lived(t)
	w.tells(t, []api.Cmd{spawn(), local(0, despawn(api.ID{})), local(0, set(api.ID{}, 9)), local(0, set(api.ID{}, 0, 1, 2)), local(0, remove(api.ID{}, 1)), local(0, remove(api.ID{}, 7))},
		made(2, 1), fine, failed(api.ErrStale), failed(api.ErrStale), failed(api.ErrStale), failed(api.ErrStale))
	w.tells(t, []api.Cmd{spawn(), local(0, set(api.ID{}, 9, 1)), local(0, set(api.ID{}, 0, 1, 2)), local(0, remove(api.ID{}, 1)), local(0, remove(api.ID{}, 7))},
		made(2, 2), failed(api.ErrComp), failed(api.ErrSize), failed(api.ErrLacks), failed(api.ErrComp))
}

// wrong: commands that fail in a world that lived, none of them a spawn, and what they tell.
func wrong() ([]api.Cmd, []api.Errno) {
	var l []api.Cmd
	var want []api.Errno
	add := func(e api.Errno, more ...api.Cmd) {
		for _, x := range more {
			l, want = append(l, x), append(want, e)
		}
	}
	for _, do := range others {
		add(api.ErrArg, api.Cmd{Do: do, ID: id(0, 1), Data: []byte{1}}, api.Cmd{Do: do, Local: true})
	}
	for _, do := range three {
		for _, n := range far {
			add(api.ErrRef, api.Cmd{Do: do, Local: true, ID: id(n, 1), Data: []byte{1}})
			add(api.ErrStale, api.Cmd{Do: do, ID: id(n, 0), Data: []byte{1}}, api.Cmd{Do: do, ID: id(0, n), Data: []byte{1}})
		}
		for _, to := range []api.ID{id(0, 0), id(0, 2), id(1, 1), id(2, 0), id(2, 1), id(3, 0), id(3, 1), id(6, 0), id(8, 0), id(9, 0)} {
			add(api.ErrStale, api.Cmd{Do: do, ID: to, Data: []byte{1}})
		}
	}
	for _, n := range append([]int{3, 31, 32, 63, 64}, far...) {
		add(api.ErrComp, set(id(0, 1), n, 1), set(id(0, 1), n), remove(id(0, 1), n))
	}
	for _, n := range []int{0, 2, 3, 64, 65, 1 << 16} {
		add(api.ErrSize, set(id(0, 1), 0, make([]byte, n)...), set(id(4, 0), 0, make([]byte, n)...))
	}
	add(api.ErrSize, set(id(0, 1), 1, 1), set(id(0, 1), 1, 1, 2, 3), set(id(0, 1), 2, 1), set(id(1, 0), 2, 1))
	add(api.ErrLacks, remove(id(0, 1), 2), remove(id(1, 0), 0), remove(id(1, 0), 1), remove(id(4, 0), 0), remove(id(5, 0), 1))
	return l, want
}

func TestEachErrorIsToldForItsOwnCommandAlone(t *testing.T) {
	l, errs := wrong()
	for i, x := range l {
		w := lived(t)
		// What is done ahead makes none of them be right.
		w.tells(t, []api.Cmd{x, set(id(5, 0), 0, 8), x, set(id(4, 0), 2), x, remove(id(5, 0), 2)}, failed(errs[i]), fine, failed(errs[i]), fine, failed(errs[i]), fine)
	}
	var want []api.Result
	for _, e := range errs {
		want = append(want, failed(e))
	}
	w := lived(t)
	w.tells(t, append(slices.Clone(l), despawn(id(0, 1))), append(want, fine)...)
}

func TestACommandThatFailsChangesNothing(t *testing.T) {
	l, errs := wrong()
	w := lived(t)
	state, tables := said(w.state), lain(w.core)
	check := func(what []api.Cmd) {
		t.Helper()
		if said(w.state) != state || said(w.core.State()) != state || lain(w.core) != tables {
			t.Fatalf("%s makes %s, %s be %s, %s, %s", brief(told(what)), state, tables, said(w.state), said(w.core.State()), lain(w.core))
		}
	}
	for i, x := range l {
		w.tells(t, []api.Cmd{x}, failed(errs[i]))
		check([]api.Cmd{x})
	}
	w.frame(t, l)
	check(l)

	full := newWorlds(layout(2, 2, 1))
	full.frame(t, []api.Cmd{spawn(), spawn(), despawn(id(0, 0)), spawn(), despawn(id(0, 1)), set(id(1, 0), 0, 3)})
	w, state, tables = full, said(full.state), lain(full.core)
	w.tells(t, []api.Cmd{spawn()}, failed(api.ErrFull))
	check([]api.Cmd{spawn()})
	w.tells(t, []api.Cmd{spawn(), spawn(), local(0, set(api.ID{}, 0, 4)), local(1, despawn(api.ID{}))}, failed(api.ErrFull), failed(api.ErrFull), failed(api.ErrRef), failed(api.ErrRef))
	check(make([]api.Cmd, 2))
}

func TestNoMoreEntities(t *testing.T) {
	full := failed(api.ErrFull)
	w := newWorlds(layout(3, 2, 1))
	w.tells(t, make([]api.Cmd, 5), made(0, 0), made(1, 0), made(2, 0), full, full)
	// A spawn that failed is counted: the one behind it is the second one.
	w.tells(t, []api.Cmd{spawn(), despawn(id(1, 0)), spawn(), local(1, set(api.ID{}, 0, 5)), local(0, set(api.ID{}, 0, 6))}, full, fine, made(1, 1), fine, failed(api.ErrRef))
	// An index without a generation left is not used again.
	w.tells(t, []api.Cmd{despawn(id(1, 1)), spawn(), spawn(), local(1, despawn(api.ID{}))}, fine, full, full, failed(api.ErrRef))
	w.tells(t, []api.Cmd{despawn(id(0, 0)), despawn(id(2, 0)), spawn(), spawn(), spawn(), local(0, set(api.ID{}, 0, 7)), local(1, set(api.ID{}, 0, 8)), local(2, set(api.ID{}, 0, 9))},
		fine, fine, made(2, 1), made(0, 1), full, fine, fine, failed(api.ErrRef))
	if s := said(w.state); s != "gens [1 2 1] free []\n0.1 0:08\n2.1 0:07\n" {
		t.Errorf("the state is %s", s)
	}
}

func TestDespawnOfWhatTheFrameMade(t *testing.T) {
	w := newWorlds(plain())
	stale := failed(api.ErrStale)
	w.tells(t, []api.Cmd{
		spawn(), local(0, set(api.ID{}, 0, 5)), local(0, despawn(api.ID{})), local(0, set(api.ID{}, 0, 6)), local(0, remove(api.ID{}, 0)), local(0, despawn(api.ID{})),
		set(id(0, 0), 0, 6), despawn(id(0, 0)),
		// It is there again, by another name: the first spawn is still the one that is gone.
		spawn(), local(0, set(api.ID{}, 0, 7)), local(1, set(api.ID{}, 0, 8)), set(id(0, 1), 2), local(0, despawn(api.ID{})),
	}, made(0, 0), fine, fine, stale, stale, stale, stale, stale, made(0, 1), stale, fine, fine, stale)
	if s := said(w.state); s != "gens [1] free []\n0.1 0:08 2:\n" {
		t.Errorf("the state is %s", s)
	}
	// One that was spawned may be named, too, by who knows its name.
	w.tells(t, []api.Cmd{spawn(), set(id(1, 0), 0, 4), despawn(id(1, 0)), local(0, despawn(api.ID{}))}, made(1, 0), fine, fine, stale)
}

func TestTheIDOfAResult(t *testing.T) {
	c := chance(21)
	for _, conf := range layouts() {
		w := newWorlds(conf)
		for range 30 {
			l := mixed(&c, conf, 1+c.below(30))
			for i, r := range w.frame(t, l) {
				if (l[i].Do != api.DoSpawn || r.Err != api.OK) && r.ID != (api.ID{}) {
					t.Errorf("%s of %s has the ID %v", told(l[i:i+1]), brief(told(l)), r)
				}
			}
		}
	}
}

func TestALongFrame(t *testing.T) {
	// How many commands a frame may have another layer says.
	conf := layout(1024, 9, 1)
	w := newWorlds(conf)
	var l []api.Cmd
	var want []api.Result
	for i := range 500 {
		l = append(l, spawn(), local(i, set(api.ID{}, 0, byte(i))))
		want = append(want, made(i, 0), fine)
	}
	for i := range 500 {
		l, want = append(l, local(499-i, despawn(api.ID{}))), append(want, fine)
	}
	w.tells(t, l, want...)
}

// P15.3

func TestBothTellTheSame(t *testing.T) {
	for seed, conf := range layouts() {
		c := chance(seed)
		for range 12 {
			w := newWorlds(conf)
			for range 25 {
				w.frame(t, mixed(&c, conf, c.below(40)))
				if t.Failed() {
					return
				}
			}
		}
	}
}

func TestACommandThatFailedMayAsWellNotHaveBeen(t *testing.T) {
	for seed, conf := range layouts() {
		c := chance(seed + 100)
		w, without := newWorlds(conf), newWorlds(conf)
		for range 150 {
			l := mixed(&c, conf, c.below(30))
			var kept []api.Cmd
			var want []api.Result
			for i, r := range w.frame(t, l) {
				// A spawn that failed is counted all the same.
				if r.Err == api.OK || l[i].Do == api.DoSpawn {
					kept, want = append(kept, l[i]), append(want, r)
				}
			}
			without.tells(t, kept, want...)
			if lain(w.core) != lain(without.core) {
				t.Fatalf("%s: the tables are %s with those that fail, and %s without", brief(told(l)), lain(w.core), lain(without.core))
			}
		}
	}
}

func TestAFrameKnowsNothingOfTheOneAhead(t *testing.T) {
	w := newWorlds(plain())
	w.tells(t, []api.Cmd{spawn(), spawn()}, made(0, 0), made(1, 0))
	for _, do := range three {
		x := api.Cmd{Do: do, Local: true, ID: id(0, 0), Data: []byte{1}}
		w.tells(t, []api.Cmd{x, local(1, x)}, failed(api.ErrRef), failed(api.ErrRef))
	}
	w.tells(t, []api.Cmd{spawn(), local(0, set(api.ID{}, 0, 5)), local(1, set(api.ID{}, 0, 6))}, made(2, 0), fine, failed(api.ErrRef))
	if s := said(w.state); s != "gens [0 0 0] free []\n0.0\n1.0\n2.0 0:05\n" {
		t.Errorf("the state is %s", s)
	}
}

func TestTheSameAgain(t *testing.T) {
	c := chance(3)
	for range 40 {
		w := lived(t)
		l := mixed(&c, w.c, 30)
		first, one := flush.Model(w.c, w.state, l)
		second, two := flush.Model(w.c, w.state, l)
		core := ecs.New(w.c)
		flush.Core(core, l) // another core plays no part
		w.frame(t, l)
		if said(first) != said(second) || said(first) != said(w.state) || !slices.Equal(one, two) {
			t.Errorf("Model of %s tells %s, then %s", brief(told(l)), said(first), said(second))
		}
	}
}

func TestACoreThatWasLoadedGoesOn(t *testing.T) {
	c := chance(8)
	for _, conf := range layouts() {
		w := newWorlds(conf)
		for range 20 {
			w.frame(t, mixed(&c, conf, c.below(20)))
			core, e := ecs.Load(conf, w.state.Gens, w.state.Free, w.core.Rows())
			if e != api.OK {
				t.Fatalf("Load tells %d", e)
			}
			w.core = core
		}
	}
}

func TestModelEndsWhateverItIsHanded(t *testing.T) {
	c := chance(4)
	confs := []api.Conf{{}, {Entities: -1, Gens: -1}, layout(0, 0, 1), layout(1<<40, 1<<40, -1, 99), layout(9, 5, make([]int, 70)...), plain()}
	old := lived(t).state
	states := []api.State{
		{}, old, {Gens: []int{-1}}, {Gens: []int{9}}, {Free: []int{0}}, {Gens: []int{0, 0}, Free: []int{5}}, {Gens: []int{0, 0}, Free: []int{-1}},
		{Ents: old.Ents}, {Gens: old.Gens, Ents: slices.Concat(old.Ents, old.Ents)}, {Gens: make([]int, 2000)}, {Gens: old.Gens, Free: []int{2, 2}, Ents: old.Ents},
		{Gens: []int{0}, Ents: []api.Ent{{Parts: []api.Part{{Comp: 70}, {Comp: -1}, {Comp: -1, Data: make([]byte, 99)}}}}},
		{Gens: []int{0}, Ents: []api.Ent{{ID: id(-1, -1)}, {ID: id(math.MaxInt, math.MinInt)}}},
	}
	for _, conf := range confs {
		for _, s := range states {
			for range 10 {
				flush.Model(conf, s, mixed(&c, plain(), 20))
				flush.Model(conf, s, nil)
			}
		}
	}
}

// Memory

// whole: l, its spare room too.
func whole[T any](l []T) []T {
	return l[:cap(l)]
}

// roomy: l's items in new memory, with spare room behind them that has some of that filling.
func roomy[T any](l []T, filling T) []T {
	room := slices.Concat(l, []T{filling, filling, filling})
	return room[: len(l) : len(l)+3]
}

// overwrite: all of l, its spare room too, is v from now on.
func overwrite[T any](l []T, v T) {
	l = whole(l)
	for i := range l {
		l[i] = v
	}
}

// handedCmds: l in new memory, with spare room that has other commands, and spare room behind each one's data.
func handedCmds(l []api.Cmd) []api.Cmd {
	out := roomy(l, api.Cmd{Do: api.DoSet, ID: id(1, 0), Data: []byte{9}})
	for i, x := range out {
		out[i].Data = roomy(x.Data, 7)
	}
	return out
}

// allCmds: all that l has, and what all its spare room has, as a text.
func allCmds(l []api.Cmd) string {
	s := fmt.Sprint(len(l), told(whole(l)))
	for _, x := range whole(l) {
		s += fmt.Sprintf(" %x", whole(x.Data))
	}
	return s
}

// spoilCmds: overwrites all of l, its data first.
func spoilCmds(l []api.Cmd) {
	for _, x := range whole(l) {
		overwrite(x.Data, '?')
	}
	overwrite(l, api.Cmd{Do: 55, ID: id(66, 77)})
}

// handedState: s in new memory, with spare room behind each list that has other things.
func handedState(s api.State) api.State {
	out := api.State{Gens: roomy(s.Gens, 1), Free: roomy(s.Free, 0), Ents: roomy(s.Ents, api.Ent{ID: id(0, 7)})}
	for i, x := range s.Ents {
		out.Ents[i].Parts = roomy(x.Parts, api.Part{Comp: 1})
		for j, p := range x.Parts {
			out.Ents[i].Parts[j].Data = roomy(p.Data, 7)
		}
	}
	return out
}

// allState: all that s says, and what all its spare room has, as a text.
func allState(s api.State) string {
	out := said(s) + fmt.Sprint(whole(s.Gens), whole(s.Free), whole(s.Ents))
	for _, x := range whole(s.Ents) {
		for _, p := range whole(x.Parts) {
			out += fmt.Sprint(p.Comp, whole(p.Data))
		}
	}
	return out
}

// list: one of a state's lists by itself, to be read, and to be overwritten with its spare room.
type list struct {
	read  func() string
	spoil func()
}

// lists: each of s's lists, as they lie now.
func lists(s api.State) []list {
	out := []list{
		{func() string { return fmt.Sprint(whole(s.Gens)) }, func() { overwrite(s.Gens, 5) }},
		{func() string { return fmt.Sprint(whole(s.Free)) }, func() { overwrite(s.Free, 6) }},
		{func() string { return names(whole(s.Ents)) }, func() { overwrite(s.Ents, api.Ent{ID: id(55, 66)}) }},
	}
	for _, x := range whole(s.Ents) {
		out = append(out, list{func() string { return comps(whole(x.Parts)) }, func() { overwrite(x.Parts, api.Part{Comp: 9}) }})
		for _, p := range whole(x.Parts) {
			out = append(out, list{func() string { return fmt.Sprint(whole(p.Data)) }, func() { overwrite(p.Data, '?') }})
		}
	}
	return out
}

// names: what l has beside its parts.
func names(l []api.Ent) string {
	out := ""
	for _, x := range l {
		out += fmt.Sprint(x.ID, " ")
	}
	return out
}

// comps: what l has beside its data.
func comps(l []api.Part) string {
	out := ""
	for _, p := range l {
		out += fmt.Sprint(p.Comp, " ")
	}
	return out
}

// spoilState: overwrites all of s.
func spoilState(s api.State) {
	for _, x := range lists(s) {
		x.spoil()
	}
}

// frames: such as change much, little, and nothing of a world that lived.
func frames() [][]api.Cmd {
	c := chance(9)
	none, _ := wrong()
	out := [][]api.Cmd{nil, {spawn()}, {despawn(id(0, 1))}, {set(id(0, 1), 0, 7)}, {set(id(4, 0), 0, 7)}, {remove(id(0, 1), 0)}, none, {spawn(), local(0, set(api.ID{}, 1, 4, 4))}}
	for range 20 {
		out = append(out, mixed(&c, plain(), 25))
	}
	return out
}

func TestFindChangesNothing(t *testing.T) {
	for _, l := range frames() {
		w := lived(t)
		done := roomy(w.frame(t, l), made(9, 9))
		handed := handedCmds(l)
		ahead := allCmds(handed) + fmt.Sprint(whole(done))
		for k := -1; k < 8; k++ {
			flush.Find(handed, done, k)
			if got := allCmds(handed) + fmt.Sprint(whole(done)); got != ahead {
				t.Fatalf("Find of %d makes %s be %s", k, brief(ahead), brief(got))
			}
		}
	}
	// What stands in the spare room is neither a command nor a result.
	l := roomy([]api.Cmd{spawn()}, spawn())
	done := roomy([]api.Result{made(1, 1)}, made(2, 2))
	lost(t, l, done, 1)
	lost(t, l[:4], done, 1)
	lost(t, l, done[:4], 1)
}

func TestWhatIsHandedInStaysAsItWas(t *testing.T) {
	for _, l := range frames() {
		w := lived(t)
		conf := w.c
		conf.Comps = roomy(conf.Comps, api.Comp{Name: "spare"})
		comps := fmt.Sprint(whole(conf.Comps))
		cmds, state := handedCmds(l), handedState(w.state)
		cmdsAhead, stateAhead := allCmds(cmds), allState(state)
		flush.Core(w.core, cmds)
		if got := allCmds(cmds); got != cmdsAhead {
			t.Errorf("Core makes %s be %s", brief(cmdsAhead), brief(got))
		}
		flush.Core(nil, cmds)
		flush.Model(conf, state, cmds)
		if got := allCmds(cmds); got != cmdsAhead {
			t.Errorf("Model makes %s be %s", brief(cmdsAhead), brief(got))
		}
		if got := allState(state); got != stateAhead {
			t.Errorf("Model of %s makes %s be %s", brief(told(l)), brief(stateAhead), brief(got))
		}
		if got := fmt.Sprint(whole(conf.Comps)); got != comps {
			t.Errorf("Model makes the components %s be %s", comps, got)
		}
	}
}

func TestNothingOfWhatIsHandedInIsKept(t *testing.T) {
	for _, l := range frames() {
		w, same := lived(t), lived(t)
		conf := w.c
		conf.Comps = slices.Clone(conf.Comps)
		cmds, state := handedCmds(l), handedState(w.state)
		got := flush.Core(w.core, cmds)
		next, also := flush.Model(conf, state, cmds)
		spoilCmds(cmds)
		spoilState(state)
		overwrite(conf.Comps, api.Comp{Name: "spoilt", Size: 9})
		want := same.frame(t, l)
		if !slices.Equal(got, want) || !slices.Equal(also, want) || said(next) != said(same.state) || said(w.core.State()) != said(same.state) {
			t.Errorf("%s: it changes with what is handed in: %s, %s, not %s", brief(told(l)), said(next), said(w.core.State()), said(same.state))
		}
		if lain(w.core) != lain(same.core) {
			t.Errorf("%s: the tables change with what is handed in: %s, not %s", brief(told(l)), lain(w.core), lain(same.core))
		}
	}
}

func TestAnswersAreNewMemory(t *testing.T) {
	for _, l := range frames() {
		w, same := lived(t), lived(t)
		cmds, state := handedCmds(l), handedState(w.state)
		cmdsAhead, stateAhead := allCmds(cmds), allState(state)
		got := flush.Core(w.core, cmds)
		next, also := flush.Model(w.c, state, cmds)
		kept := slices.Clone(also)
		overwrite(got, made(88, 88))
		if !slices.Equal(also, kept) {
			t.Errorf("%s: the results of Core and of Model share memory", brief(told(l)))
		}
		overwrite(also, made(88, 88))
		spoilState(next)
		if allCmds(cmds) != cmdsAhead || allState(state) != stateAhead {
			t.Errorf("%s: what is handed in changes with the answer", brief(told(l)))
		}
		same.frame(t, l)
		if said(w.core.State()) != said(same.state) || lain(w.core) != lain(same.core) {
			t.Errorf("%s: the core changes with the answer", brief(told(l)))
		}
		nils := flush.Core(nil, cmds)
		overwrite(nils, made(88, 88))
		if allCmds(cmds) != cmdsAhead || slices.ContainsFunc(flush.Core(nil, cmds), func(r api.Result) bool { return r != failed(api.ErrNil) }) {
			t.Errorf("%s: the answers of a core that is nil share memory", brief(told(l)))
		}
	}
}

func TestListsOfAnAnswerShareNoMemory(t *testing.T) {
	for _, l := range frames() {
		w := lived(t)
		s, done := flush.Model(w.c, handedState(w.state), handedCmds(l))
		for i := range lists(s) {
			next, also := flush.Model(w.c, handedState(w.state), handedCmds(l))
			each := lists(next)
			var ahead []string
			for _, x := range each {
				ahead = append(ahead, x.read())
			}
			each[i].spoil()
			for j, x := range each {
				if got := x.read(); j != i && got != ahead[j] {
					t.Errorf("%s: overwriting list %d of %s makes list %d, %s, be %s", brief(told(l)), i, said(s), j, ahead[j], got)
				}
			}
			if !slices.Equal(also, done) {
				t.Errorf("%s: overwriting list %d of %s changes the results", brief(told(l)), i, said(s))
			}
		}
	}
}

func TestDataThatCommandsShare(t *testing.T) {
	w := lived(t)
	b := []byte{1, 2, 3}
	x, y := set(id(0, 1), 1), set(id(4, 0), 1)
	x.Data, y.Data = b[:2], b[1:]
	w.tells(t, []api.Cmd{x, y}, fine, fine)
	w.tells(t, []api.Cmd{set(id(0, 1), 1, 8, 9)}, fine)
	x.Data = w.state.Ents[2].Parts[0].Data // the state's own
	w.tells(t, []api.Cmd{x, set(id(4, 0), 1, 5, 5)}, fine, fine)
	if s := said(w.state); s != "gens [1 0 1 1 0 0] free [3 2]\n0.1 0:01 1:0203\n1.0 2:\n4.0 1:0505\n5.0 0:06 2:\n" {
		t.Errorf("the state is %s", s)
	}
}

func TestNilAndEmptyAreAlike(t *testing.T) {
	for _, data := range [][]byte{nil, {}} {
		w := lived(t)
		x := set(id(0, 1), 2)
		x.Data = data
		y := set(id(0, 1), 0)
		y.Data = data
		w.tells(t, []api.Cmd{x, y}, fine, failed(api.ErrSize))
	}
	for _, s := range []api.State{{}, {Gens: []int{}, Free: []int{}, Ents: []api.Ent{}}} {
		next, done := flush.Model(plain(), s, []api.Cmd{spawn(), local(0, set(api.ID{}, 2))})
		if said(next) != "gens [0] free []\n0.0 2:\n" || !slices.Equal(done, []api.Result{made(0, 0), fine}) {
			t.Errorf("Model of the zero state tells %s, %v", said(next), done)
		}
		if next, done = flush.Model(plain(), s, nil); said(next) != said(api.State{}) || len(done) != 0 {
			t.Errorf("Model of the zero state and no commands tells %s, %v", said(next), done)
		}
	}
}
