package geom_test

import (
	"fmt"
	"math"
	"math/big"
	"slices"
	"strings"
	"testing"

	"vivarium/api"
	"vivarium/comp"
	"vivarium/geom"
)

// epochs: MaxEpoch, as the document says it.
const epochs = 1 << 48

// far: numbers that lie far off, some of whose low bytes are those of small ones.
var far = []int{math.MinInt, math.MinInt + 1, -epochs - 1, -epochs, -1 << 32, 1 - 1<<32, -1 << 31, -65536, -1024, -256, epochs + 1, epochs + 2, epochs + 1024, 1 << 49, 1 << 56, 1 << 62, math.MaxInt - 1, math.MaxInt}

// chance: numbers that look mixed, the same ones for the same seed.
type chance uint64

// below: the next number from 0 on, below n.
func (c *chance) below(n int) int {
	*c = *c*6364136223846793005 + 1442695040888963407
	return int(uint64(*c)>>15) % n
}

// one: the next one of l.
func one[T any](c *chance, l []T) T {
	return l[c.below(len(l))]
}

// layout: one that may be, if log and pages may.
func layout(log, pages int) api.Conf {
	return api.Conf{Log: log, Pages: pages, Entities: 1, Gens: 1}
}

// small: all layouts with a log and with pages of only a few sectors.
func small() []api.Conf {
	var l []api.Conf
	for log := 2; log <= 9; log++ {
		for pages := 4; pages <= 9; pages++ {
			l = append(l, layout(log, pages))
		}
	}
	return l
}

// great: layouts at the edges of what may be, and some that look like no other one.
func great() []api.Conf {
	return []api.Conf{layout(2, 4), layout(2, 1024), layout(1024, 4), layout(1024, 1024), layout(1023, 1024), layout(1024, 1023), layout(1000, 7), layout(7, 1000), layout(513, 257), layout(512, 512), full(3, 5), full(1024, 1024)}
}

// layouts: all that may be and are tried here.
func layouts() []api.Conf {
	return append(small(), great()...)
}

// full: a layout of which all else is as great as may be.
func full(log, pages int) api.Conf {
	c := api.Conf{Log: log, Pages: pages, Entities: 1024, Gens: 1 << 30}
	for i := range 32 {
		c.Comps = append(c.Comps, api.Comp{Name: fmt.Sprintf("abcdefghijklmn%02d", i), Size: 64})
	}
	return c
}

// bad: a layout that may not be.
type bad struct {
	why  string
	conf api.Conf
}

// bads: layouts that may not be, for each way in which one may not.
func bads() []bad {
	var l []bad
	change := func(why string, f func(c *api.Conf)) {
		for _, c := range []api.Conf{layout(4, 8), full(4, 8), layout(1024, 1024)} {
			c.Comps = slices.Clone(c.Comps)
			f(&c)
			l = append(l, bad{why, c})
		}
	}
	number := func(name string, ns []int, set func(c *api.Conf, n int)) {
		for _, n := range ns {
			change(fmt.Sprintf("%s of %d", name, n), func(c *api.Conf) { set(c, n) })
		}
	}
	number("Log", []int{math.MinInt, -1024, -4, -1, 0, 1, 1025, 1026, 1 << 32, 1<<32 + 4, math.MaxInt - 10, math.MaxInt}, func(c *api.Conf, n int) { c.Log = n })
	number("Pages", []int{math.MinInt, -1024, -8, -1, 0, 1, 2, 3, 1025, 1026, 1 << 32, 1<<32 + 8, math.MaxInt - 6, math.MaxInt}, func(c *api.Conf, n int) { c.Pages = n })
	number("Entities", []int{math.MinInt, -1, 0, 1025, math.MaxInt}, func(c *api.Conf, n int) { c.Entities = n })
	number("Gens", []int{math.MinInt, -1, 0, 1<<30 + 1, math.MaxInt}, func(c *api.Conf, n int) { c.Gens = n })
	for _, name := range []string{"", "A", "a b", "abcdefghijklmnopq", "\xe4", strings.Repeat("a", 70000)} {
		for _, size := range []int{0, 1, 64} {
			change(fmt.Sprintf("the name %.20q", name), func(c *api.Conf) { c.Comps = []api.Comp{{Name: "ok", Size: 1}, {Name: name, Size: size}} })
		}
	}
	number("Size", []int{math.MinInt, -1, 65, 256, math.MaxInt}, func(c *api.Conf, n int) { c.Comps = []api.Comp{{Name: "a", Size: n}} })
	change("one name twice", func(c *api.Conf) { c.Comps = []api.Comp{{Name: "a"}, {Name: "b"}, {Name: "a"}} })
	change("a component too many", func(c *api.Conf) { c.Comps = append(full(4, 8).Comps, api.Comp{Name: "more"}) })
	change("nothing", func(c *api.Conf) { *c = api.Conf{} })
	return l
}

// What the document says, in other words: all things, one sector behind the other.

// thing: what lies in a sector.
type thing struct{ kind, n int }

// laid: what lies in each sector of a disk of layout c.
func laid(c api.Conf) []thing {
	l := []thing{{3, 0}, {3, 1}}
	for n := range c.Log {
		l = append(l, thing{1, n})
	}
	for n := range c.Pages {
		l = append(l, thing{2, n})
	}
	return l
}

// logged: what Log is to tell.
func logged(c api.Conf, lsn int) int {
	if lsn < 0 || lsn > epochs {
		return -1
	}
	n := new(big.Int).Mod(big.NewInt(int64(lsn)), big.NewInt(int64(c.Log)))
	return slices.Index(laid(c), thing{1, int(n.Int64())})
}

// paged: what Page is to tell.
func paged(c api.Conf, p int) int {
	return slices.Index(laid(c), thing{2, p})
}

// lying: what What is to tell.
func lying(c api.Conf, sector int) thing {
	if sector < 0 || sector >= len(laid(c)) {
		return thing{}
	}
	return laid(c)[sector]
}

// needed: what Need is to tell.
func needed(n int) int {
	part := big.NewInt(460)
	whole, left := new(big.Int).QuoRem(big.NewInt(int64(n)), part, new(big.Int))
	if left.Sign() > 0 {
		whole.Add(whole, big.NewInt(1))
	}
	if whole.Sign() <= 0 {
		return 1
	}
	return int(whole.Int64())
}

// roomy: what Room is to tell: each place takes a sector of its own, or there are too many.
func roomy(c api.Conf, head, tail int) int {
	if head < 0 || head > epochs || tail < 0 || tail > epochs || tail < head {
		return -1
	}
	taken := map[int]bool{}
	for lsn := head; lsn < tail; lsn++ {
		if taken[lsn%c.Log] {
			return -1
		}
		taken[lsn%c.Log] = true
	}
	return c.Log - len(taken)
}

// what: what What tells, as one thing.
func what(c api.Conf, sector int) thing {
	kind, n := geom.What(c, sector)
	return thing{kind, n}
}

// short: a layout as a text that is not too long.
func short(c api.Conf) string {
	return fmt.Sprintf("(Log %d, Pages %d, Entities %d, Gens %d, %d Comps)", c.Log, c.Pages, c.Entities, c.Gens, len(c.Comps))
}

// logs: Log tells want.
func logs(t *testing.T, c api.Conf, lsn, want int) {
	t.Helper()
	if got := geom.Log(c, lsn); got != want {
		t.Errorf("Log(%s, %d) = %d, not %d", short(c), lsn, got, want)
	}
}

// pages: Page tells want.
func pages(t *testing.T, c api.Conf, p, want int) {
	t.Helper()
	if got := geom.Page(c, p); got != want {
		t.Errorf("Page(%s, %d) = %d, not %d", short(c), p, got, want)
	}
}

// rooms: Room tells want.
func rooms(t *testing.T, c api.Conf, head, tail, want int) {
	t.Helper()
	if got := geom.Room(c, head, tail); got != want {
		t.Errorf("Room(%s, %d, %d) = %d, not %d", short(c), head, tail, got, want)
	}
}

// whats: What tells want.
func whats(t *testing.T, c api.Conf, sector int, want thing) {
	t.Helper()
	if got := what(c, sector); got != want {
		t.Errorf("What(%s, %d) = %v, not %v", short(c), sector, got, want)
	}
}

// needs: Need tells want.
func needs(t *testing.T, n, want int) {
	t.Helper()
	if got := geom.Need(n); got != want {
		t.Errorf("Need(%d) = %d, not %d", n, got, want)
	}
}

// The layouts that the tests take are what they are said to be: else some of them would try nothing.

func TestLayoutsAreAsTheyAreSaidToBe(t *testing.T) {
	for _, c := range layouts() {
		if comp.Check(c) != api.OK {
			t.Errorf("%s may not be", short(c))
		}
	}
	for _, x := range bads() {
		if comp.Check(x.conf) != api.ErrArg {
			t.Errorf("%s, with %s, may be", short(x.conf), x.why)
		}
	}
}

func TestExample(t *testing.T) {
	c := layout(4, 8)
	logs(t, c, 6, 4)
	pages(t, c, 0, 6)
	needs(t, 461, 2)
}

// P16.1

func TestSuper(t *testing.T) {
	for slot := -3000; slot <= 3000; slot++ {
		want := -1
		if slot == 0 || slot == 1 {
			want = slot
		}
		if got := geom.Super(slot); got != want {
			t.Errorf("Super(%d) = %d, not %d", slot, got, want)
		}
	}
	for _, slot := range append(slices.Clone(far), 1<<32, 1<<32+1, epochs) {
		if got := geom.Super(slot); got != -1 {
			t.Errorf("Super(%d) = %d", slot, got)
		}
	}
}

func TestLogOfEachPlace(t *testing.T) {
	for _, c := range small() {
		for lsn := -20; lsn < 60; lsn++ {
			logs(t, c, lsn, logged(c, lsn))
		}
	}
}

func TestLogGoesRound(t *testing.T) {
	for _, c := range layouts() {
		logs(t, c, 0, 2)
		logs(t, c, 1, 3)
		logs(t, c, c.Log-1, c.Log+1)
		for _, times := range []int{1, 2, 3, 1000, 1 << 20, epochs/c.Log - 1} {
			at := times * c.Log
			logs(t, c, at-1, c.Log+1)
			logs(t, c, at, 2)
			logs(t, c, at+1, 3)
		}
	}
}

func TestLogAtMaxEpoch(t *testing.T) {
	for _, c := range layouts() {
		for n := range 3 * c.Log {
			logs(t, c, epochs-n, logged(c, epochs-n))
		}
	}
	logs(t, layout(4, 8), epochs, 2)
	logs(t, layout(3, 5), epochs, 3)
	logs(t, layout(1024, 4), epochs-1, 1025)
	logs(t, layout(1000, 4), epochs, 658)
}

func TestLogOfPlacesThatThereAreNot(t *testing.T) {
	for _, c := range layouts() {
		for n := 1; n <= 2*c.Log+2; n++ {
			logs(t, c, -n, -1)
			logs(t, c, epochs+n, -1)
		}
		for _, lsn := range far {
			logs(t, c, lsn, -1)
		}
	}
}

func TestPage(t *testing.T) {
	for _, c := range layouts() {
		for p := range c.Pages {
			pages(t, c, p, 2+c.Log+p)
			pages(t, c, p, paged(c, p))
		}
		for n := range 2*c.Pages + 2*c.Log {
			pages(t, c, -1-n, -1)
			pages(t, c, c.Pages+n, -1)
		}
		for _, p := range append(slices.Clone(far), 1<<16, 1<<32, 1<<32+1, epochs) {
			pages(t, c, p, -1)
		}
	}
	pages(t, layout(2, 4), 0, 4)
	pages(t, layout(2, 4), 3, 7)
	pages(t, layout(1024, 1024), 1023, 2049)
}

// P16.2

func TestNeed(t *testing.T) {
	for _, x := range [][2]int{{-1, 1}, {0, 1}, {1, 1}, {459, 1}, {460, 1}, {461, 2}, {919, 2}, {920, 2}, {921, 3}, {472, 2}, {460 * 1024, 1024}, {460*1024 + 1, 1025}, {1<<31 - 1, 4668443}, {math.MaxInt, 20050808775771252}} {
		needs(t, x[0], x[1])
	}
	for n := -1000; n < 20000; n++ {
		needs(t, n, needed(n))
	}
	for _, n := range far {
		needs(t, n, needed(n))
	}
	for n := range 2000 {
		needs(t, math.MaxInt-n, needed(math.MaxInt-n))
		needs(t, math.MinInt+n, 1)
		needs(t, 1<<31+n, needed(1<<31+n))
		needs(t, 1<<32-n, needed(1<<32-n))
	}
}

func TestNeedOfMixedNumbers(t *testing.T) {
	c := chance(1)
	for range 20000 {
		n := c.below(1 << one(&c, []int{4, 9, 12, 20, 31, 40, 48}))
		needs(t, n, needed(n))
		needs(t, -n, 1)
		needs(t, n*460, max(n, 1))
		needs(t, n*460+1, n+1)
	}
}

func TestRoomOfAllSmall(t *testing.T) {
	for _, c := range small() {
		for head := -3; head < 25; head++ {
			for tail := -3; tail < 40; tail++ {
				rooms(t, c, head, tail, roomy(c, head, tail))
			}
		}
	}
}

func TestRoomAtTheEdges(t *testing.T) {
	for _, c := range layouts() {
		for _, head := range []int{0, 1, 2, c.Log - 1, c.Log, c.Log + 1, 12345, epochs / 2, epochs - 2*c.Log, epochs - c.Log - 2} {
			rooms(t, c, head, head, c.Log)
			rooms(t, c, head, head+1, c.Log-1)
			rooms(t, c, head, head+c.Log-1, 1)
			rooms(t, c, head, head+c.Log, 0)
			rooms(t, c, head, head+c.Log+1, -1)
			rooms(t, c, head, head+c.Log+2, -1)
			rooms(t, c, head, head+2*c.Log, -1)
			rooms(t, c, head, epochs+1, -1)
			rooms(t, c, head+1, head, -1)
			rooms(t, c, head+c.Log, head, -1)
			rooms(t, c, head+c.Log+1, head, -1)
			rooms(t, c, head, -1, -1)
			rooms(t, c, -1, head, -1)
		}
	}
}

func TestRoomAtMaxEpoch(t *testing.T) {
	for _, c := range layouts() {
		rooms(t, c, epochs, epochs, c.Log)
		rooms(t, c, epochs-1, epochs, c.Log-1)
		rooms(t, c, epochs-c.Log+1, epochs, 1)
		rooms(t, c, epochs-c.Log, epochs, 0)
		rooms(t, c, epochs-c.Log-1, epochs, -1)
		rooms(t, c, 0, epochs, -1)
		rooms(t, c, epochs, epochs-1, -1)
		rooms(t, c, epochs, 0, -1)
		for n := range 4 {
			rooms(t, c, epochs-n, epochs+1, -1)
			rooms(t, c, epochs+1, epochs-n, -1)
			rooms(t, c, epochs+1+n, epochs+1+n, -1)
			rooms(t, c, epochs+1, epochs+1+n, -1)
		}
	}
}

func TestRoomBelowNought(t *testing.T) {
	for _, c := range layouts() {
		rooms(t, c, -1, -1, -1)
		rooms(t, c, -1, 0, -1)
		rooms(t, c, -1, 1, -1)
		rooms(t, c, 0, -1, -1)
		rooms(t, c, -2, -1, -1)
		rooms(t, c, -c.Log, 0, -1)
		rooms(t, c, 1-c.Log, 1, -1)
	}
}

func TestRoomOfNumbersFarOff(t *testing.T) {
	ends := append(slices.Clone(far), -1, 0, 1, 1024, epochs-1, epochs)
	for _, c := range great() {
		for _, head := range ends {
			for _, tail := range ends {
				rooms(t, c, head, tail, roomy(c, head, tail))
			}
		}
	}
}

func TestRoomOfMixedNumbers(t *testing.T) {
	x := chance(2)
	all := layouts()
	for range 3000 {
		c := one(&x, all)
		head := x.below(1 << one(&x, []int{3, 10, 20, 48}))
		for _, tail := range []int{head - 1 - x.below(c.Log), head + x.below(c.Log), head + x.below(2*c.Log), head + x.below(epochs)} {
			rooms(t, c, head, tail, roomy(c, head, tail))
		}
	}
}

// P16.3

func TestWhatOfEachSector(t *testing.T) {
	for _, c := range layouts() {
		all := laid(c)
		for sector, want := range all {
			whats(t, c, sector, want)
		}
		for n := range len(all) + 10 {
			whats(t, c, -1-n, thing{})
			whats(t, c, len(all)+n, thing{})
		}
		for _, sector := range append(slices.Clone(far), 1<<16, 1<<32, 1<<32+1, 1<<32+4, epochs) {
			whats(t, c, sector, thing{})
		}
	}
}

func TestWhatOfTheFirstAndTheLast(t *testing.T) {
	for _, c := range layouts() {
		whats(t, c, 0, thing{api.KindSuper, 0})
		whats(t, c, 1, thing{api.KindSuper, 1})
		whats(t, c, 2, thing{api.KindLog, 0})
		whats(t, c, 1+c.Log, thing{api.KindLog, c.Log - 1})
		whats(t, c, 2+c.Log, thing{api.KindPage, 0})
		whats(t, c, 1+c.Log+c.Pages, thing{api.KindPage, c.Pages - 1})
		whats(t, c, 2+c.Log+c.Pages, thing{})
		whats(t, c, -1, thing{})
	}
	whats(t, layout(1024, 1024), 2049, thing{api.KindPage, 1023})
	whats(t, layout(1024, 1024), 2050, thing{})
}

// P16.1 to P16.3: of layouts that may not be

func TestLayoutsThatMayNotBe(t *testing.T) {
	places := append(slices.Clone(far), -2, -1, 0, 1, 2, 3, 4, 5, 6, 7, 8, 12, 13, 14, 15, 1023, 1024, 1025, 1026, 2049, 2050, epochs-1, epochs)
	for _, x := range bads() {
		for _, n := range places {
			logs(t, x.conf, n, -1)
			pages(t, x.conf, n, -1)
			whats(t, x.conf, n, thing{})
			rooms(t, x.conf, n, n, -1)
			rooms(t, x.conf, n, n+1, -1)
			rooms(t, x.conf, 0, n, -1)
			rooms(t, x.conf, n, 0, -1)
		}
		if t.Failed() {
			t.Fatalf("a layout with %s may not be", x.why)
		}
	}
}

func TestLayoutsThatMayJustBe(t *testing.T) {
	for _, c := range []api.Conf{layout(2, 4), full(2, 4), layout(1024, 1024), full(1024, 1024)} {
		logs(t, c, 0, 2)
		pages(t, c, 0, 2+c.Log)
		rooms(t, c, 0, 0, c.Log)
		whats(t, c, 0, thing{api.KindSuper, 0})
	}
}

func TestAllElseOfALayoutPlaysNoPart(t *testing.T) {
	for _, c := range small() {
		f := full(c.Log, c.Pages)
		for n := -2; n < 30; n++ {
			logs(t, f, n, geom.Log(c, n))
			pages(t, f, n, geom.Page(c, n))
			rooms(t, f, 1, n, geom.Room(c, 1, n))
			whats(t, f, n, what(c, n))
		}
	}
}

// P16.4

func TestNoTwoThingsLieInOneSector(t *testing.T) {
	for _, c := range layouts() {
		in := map[int]thing{}
		lay := func(sector int, x thing) {
			if sector < 0 || sector >= comp.Sectors(c) {
				t.Errorf("%s: %v lies in no sector: %d", short(c), x, sector)
			}
			if y, ok := in[sector]; ok && (x.kind != api.KindLog || y.kind != api.KindLog || (x.n-y.n)%c.Log != 0) {
				t.Errorf("%s: %v and %v lie in one sector: %d", short(c), x, y, sector)
			}
			in[sector] = x
		}
		for slot := range 2 {
			lay(geom.Super(slot), thing{api.KindSuper, slot})
		}
		for p := range c.Pages {
			lay(geom.Page(c, p), thing{api.KindPage, p})
		}
		for lsn := range 3 * c.Log {
			lay(geom.Log(c, lsn), thing{api.KindLog, lsn})
			lay(geom.Log(c, epochs-lsn), thing{api.KindLog, epochs - lsn})
		}
		for sector := range comp.Sectors(c) {
			if _, ok := in[sector]; !ok {
				t.Errorf("%s: nothing lies in %d", short(c), sector)
			}
		}
	}
}

func TestPlacesThatAreLogApartShareASector(t *testing.T) {
	for _, c := range small() {
		for a := range 3 * c.Log {
			for b := range 3 * c.Log {
				share := geom.Log(c, a) == geom.Log(c, b)
				if want := (a-b)%c.Log == 0; share != want {
					t.Errorf("%s: do places %d and %d lie in one sector? %v", short(c), a, b, share)
				}
			}
		}
	}
}

func TestWhatLiesInASectorLiesThere(t *testing.T) {
	for _, c := range layouts() {
		for sector := range comp.Sectors(c) {
			at := -1
			switch x := what(c, sector); x.kind {
			case api.KindSuper:
				at = geom.Super(x.n)
			case api.KindLog:
				at = geom.Log(c, x.n)
			case api.KindPage:
				at = geom.Page(c, x.n)
			}
			if at != sector {
				t.Errorf("%s: of sector %d What tells %v, which lies in %d", short(c), sector, what(c, sector), at)
			}
		}
	}
}

func TestWhatTellsEachThingOfItsSector(t *testing.T) {
	for _, c := range layouts() {
		for slot := range 2 {
			whats(t, c, geom.Super(slot), thing{api.KindSuper, slot})
		}
		for p := range c.Pages {
			whats(t, c, geom.Page(c, p), thing{api.KindPage, p})
		}
		for lsn := range 2 * c.Log {
			whats(t, c, geom.Log(c, lsn), thing{api.KindLog, lsn % c.Log})
		}
	}
}

// Rules that hold everywhere

func TestWhatIsHandedInStaysAsItWas(t *testing.T) {
	room := append(full(4, 8).Comps[:20:20], make([]api.Comp, 12)...)
	for i := 20; i < len(room); i++ {
		room[i] = api.Comp{Name: fmt.Sprint("spare", i), Size: i}
	}
	before := slices.Clone(room)
	c := layout(4, 8)
	c.Comps = room[:20]
	for _, log := range []int{4, 1} {
		c.Log = log
		for n := -2; n < 20; n++ {
			geom.Log(c, n)
			geom.Page(c, n)
			geom.Room(c, 0, n)
			geom.What(c, n)
		}
	}
	if !slices.Equal(room, before) {
		t.Errorf("%v was handed in, and is %v", before, room)
	}
}

func TestTheSameArgumentsTellTheSame(t *testing.T) {
	all := layouts()
	tell := func() string {
		x := chance(3)
		var out strings.Builder
		for range 2000 {
			c, a, b := one(&x, all), x.below(3000), x.below(3000)
			fmt.Fprintln(&out, geom.Super(a%3), geom.Log(c, a), geom.Page(c, a), geom.Need(a), geom.Room(c, a, b), what(c, a))
		}
		return out.String()
	}
	if tell() != tell() {
		t.Error("the same arguments told something else the second time")
	}
}

func TestNilAndEmptyAreAlike(t *testing.T) {
	a, b := layout(4, 8), layout(4, 8)
	b.Comps = []api.Comp{}
	for n := -2; n < 20; n++ {
		logs(t, b, n, geom.Log(a, n))
		pages(t, b, n, geom.Page(a, n))
		rooms(t, b, 2, n, geom.Room(a, 2, n))
		whats(t, b, n, what(a, n))
	}
}
