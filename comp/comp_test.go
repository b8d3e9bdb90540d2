package comp_test

import (
	"bytes"
	"encoding/binary"
	"fmt"
	"math"
	"regexp"
	"slices"
	"strings"
	"testing"

	"vivarium/api"
	"vivarium/comp"
)

// chance: numbers that look mixed, the same ones for the same seed.
type chance uint64

// below: the next number from 0 on, below n.
func (c *chance) below(n int) int {
	*c = *c*6364136223846793005 + 1442695040888963407
	return int(uint64(*c)>>33) % n
}

// one: the next one of l.
func one[T any](c *chance, l []T) T {
	return l[c.below(len(l))]
}

// named: a component of that name, of size 3.
func named(name string) api.Comp {
	return api.Comp{Name: name, Size: 3}
}

// conf: a layout whose numbers may be, with these components.
func conf(l ...api.Comp) api.Conf {
	return api.Conf{Log: 2, Pages: 4, Entities: 1, Gens: 1, Comps: l}
}

// many: n components whose names and sizes may be, each of its own name.
func many(n int) []api.Comp {
	var l []api.Comp
	for i := range n {
		l = append(l, api.Comp{Name: fmt.Sprintf("c_%d", i), Size: i % 65})
	}
	return l
}

// longest: MaxComps components, each with a name of MaxName bytes.
func longest() []api.Comp {
	var l []api.Comp
	for i := range 32 {
		l = append(l, api.Comp{Name: fmt.Sprintf("abcdefghijklm_%02d", i), Size: 64 - i})
	}
	return l
}

// with: l, but for the one at the place i, which is k.
func with(l []api.Comp, i int, k api.Comp) []api.Comp {
	out := slices.Clone(l)
	out[i] = k
	return out
}

// same: are these the same layout?
func same(a, b api.Conf) bool {
	return a.Log == b.Log && a.Pages == b.Pages && a.Entities == b.Entities && a.Gens == b.Gens && slices.Equal(a.Comps, b.Comps)
}

// brief: the beginning of v as a text: some of what is tried here is very long.
func brief(v any) string {
	s := fmt.Sprintf("%+v", v)
	if len(s) > 500 {
		return s[:500] + " .."
	}
	return s
}

// nothing: is c the zero value?
func nothing(c api.Conf) bool {
	return same(c, api.Conf{})
}

// What the document says, in other words.

var aName = regexp.MustCompile(`\A[a-z0-9_]{1,16}\z`)

func from(n, low, high int) bool {
	return n >= low && n <= high
}

// may: may c be?
func may(c api.Conf) bool {
	if !from(c.Log, 2, 1<<10) || !from(c.Pages, 4, 1<<10) || !from(c.Entities, 1, 1<<10) || !from(c.Gens, 1, 1<<30) || len(c.Comps) > 32 {
		return false
	}
	seen := map[string]bool{}
	for _, k := range c.Comps {
		if !aName.MatchString(k.Name) || seen[k.Name] || !from(k.Size, 0, 64) {
			return false
		}
		seen[k.Name] = true
	}
	return true
}

// checked: what Check is to tell.
func checked(c api.Conf) api.Errno {
	if may(c) {
		return api.OK
	}
	return api.ErrArg
}

// laid: what Put is to tell.
func laid(c api.Conf) []byte {
	b := []byte{}
	for _, n := range []int{c.Log, c.Pages, c.Entities, c.Gens} {
		b = binary.LittleEndian.AppendUint32(b, uint32(n))
	}
	b = append(b, byte(len(c.Comps)))
	for _, k := range c.Comps {
		name := k.Name
		if len(name) > 65535 {
			name = name[:65535]
		}
		b = binary.LittleEndian.AppendUint16(b, uint16(len(name)))
		b = append(append(b, name...), byte(k.Size))
	}
	return b
}

// got: what Get is to tell.
func got(b []byte) (api.Conf, api.Errno) {
	if len(b) < 17 {
		return api.Conf{}, api.ErrShort
	}
	num := func(at int) int { return int(binary.LittleEndian.Uint32(b[at:])) }
	c := api.Conf{Log: num(0), Pages: num(4), Entities: num(8), Gens: num(12)}
	rest := b[17:]
	for range int(b[16]) {
		if len(rest) < 2 {
			return api.Conf{}, api.ErrShort
		}
		long := int(binary.LittleEndian.Uint16(rest))
		if len(rest) < 2+long+1 {
			return api.Conf{}, api.ErrShort
		}
		c.Comps = append(c.Comps, api.Comp{Name: string(rest[2 : 2+long]), Size: int(rest[2+long])})
		rest = rest[2+long+1:]
	}
	if len(rest) > 0 {
		return api.Conf{}, api.ErrForm
	}
	if !may(c) {
		return api.Conf{}, api.ErrArg
	}
	return c, api.OK
}

// checks: Check tells what it is to tell.
func checks(t *testing.T, c api.Conf) {
	t.Helper()
	if e := comp.Check(c); e != checked(c) {
		t.Fatalf("Check(%s): error %d, not %d", brief(c), int(e), int(checked(c)))
	}
}

// right: c may be.
func right(t *testing.T, c api.Conf) {
	t.Helper()
	if e := comp.Check(c); e != api.OK {
		t.Fatalf("Check(%s): error %d", brief(c), int(e))
	}
}

// wrong: c may not be.
func wrong(t *testing.T, c api.Conf) {
	t.Helper()
	if e := comp.Check(c); e != api.ErrArg {
		t.Fatalf("Check(%s): error %d", brief(c), int(e))
	}
}

// puts: Put tells what it is to tell.
func puts(t *testing.T, c api.Conf) {
	t.Helper()
	if b, want := comp.Put(c), laid(c); !bytes.Equal(b, want) {
		t.Fatalf("Put(%s) = %s, not %s", brief(c), brief(b), brief(want))
	}
}

// gets: Get tells what it is to tell.
func gets(t *testing.T, b []byte) {
	t.Helper()
	want, f := got(b)
	if c, e := comp.Get(b); !same(c, want) || e != f {
		t.Fatalf("Get(%s) = %s, error %d; not %s, error %d", brief(b), brief(c), int(e), brief(want), int(f))
	}
}

// refuses: Get of b tells this error, and nothing.
func refuses(t *testing.T, b []byte, want api.Errno) {
	t.Helper()
	if c, e := comp.Get(b); !nothing(c) || e != want {
		t.Fatalf("Get(%s) = %s, error %d, not error %d", brief(b), brief(c), int(e), int(want))
	}
}

// goesRound: c may be, and Get of Put is c.
func goesRound(t *testing.T, c api.Conf) {
	t.Helper()
	right(t, c)
	if x, e := comp.Get(comp.Put(c)); !same(x, c) || e != api.OK {
		t.Fatalf("Get of Put of %s = %s, error %d", brief(c), brief(x), int(e))
	}
}

// spare: these components, with spare room behind them that has others.
func spare(l ...api.Comp) []api.Comp {
	room := append(slices.Clone(l), slices.Repeat([]api.Comp{{Name: "room", Size: 7}}, 8)...)
	return room[:len(l)]
}

// untouched: has l, made by spare, still these components, and its spare room, too?
func untouched(l []api.Comp, want ...api.Comp) bool {
	room := l[:cap(l)]
	return slices.Equal(l, want) && slices.Equal(room[len(l):len(l)+8], slices.Repeat([]api.Comp{{Name: "room", Size: 7}}, 8))
}

// overwrite: all of l, its spare room too, are v from now on.
func overwrite[T any](l []T, v T) {
	l = l[:cap(l)]
	for i := range l {
		l[i] = v
	}
}

// Numbers of a layout: which there are, and which may be.
var fields = []struct {
	name      string
	set       func(c *api.Conf, n int)
	low, high int
	edges     []int
}{
	{"Log", func(c *api.Conf, n int) { c.Log = n }, 2, 1024, []int{-2, -1, 0, 1, 2, 3, 4, 1023, 1024, 1025, 1026}},
	{"Pages", func(c *api.Conf, n int) { c.Pages = n }, 4, 1024, []int{-4, -1, 0, 1, 2, 3, 4, 5, 1023, 1024, 1025, 1026}},
	{"Entities", func(c *api.Conf, n int) { c.Entities = n }, 1, 1024, []int{-2, -1, 0, 1, 2, 1023, 1024, 1025, 1026}},
	{"Gens", func(c *api.Conf, n int) { c.Gens = n }, 1, 1 << 30, []int{-2, -1, 0, 1, 2, 1024, 1025, 1<<30 - 1, 1 << 30, 1<<30 + 1, 1 << 31}},
}

// far: numbers that lie far off, and some whose low bytes may be.
var far = []int{math.MinInt, math.MinInt + 5, -1 << 40, -1<<32 + 5, -1 << 31, -1024, -1000, -5, 2048, 1<<16 + 5, 1<<31 + 5, 1<<32 + 5, 1<<32 + 1024, 1 << 40, math.MaxInt - 1, math.MaxInt}

// P7.1: Name

func TestNameOfEachLength(t *testing.T) {
	for n := range 300 {
		for _, c := range []string{"a", "z", "0", "9", "_"} {
			s := strings.Repeat(c, n)
			if comp.Name(s) != (n >= 1 && n <= 16) {
				t.Errorf("Name of %d times %q: %v", n, c, comp.Name(s))
			}
		}
	}
	for _, n := range []int{1024, 65535, 65536, 65537, 65536 + 16, 1 << 20} {
		if comp.Name(strings.Repeat("a", n)) {
			t.Errorf("a Name of %d bytes", n)
		}
	}
}

func TestNameOfEachByte(t *testing.T) {
	for n := range 256 {
		b := string([]byte{byte(n)})
		want := strings.Contains("abcdefghijklmnopqrstuvwxyz0123456789_", b)
		for _, ahead := range []string{"", "a", "z9", "_0_0_0_", "abcdefgh1234567"} {
			for _, behind := range []string{"", "z", "0_", "xyzxyzx", "abcdefgh1234567"} {
				s := ahead + b + behind
				if len(s) > 16 {
					continue
				}
				if comp.Name(s) != want {
					t.Errorf("Name(%q) = %v", s, !want)
				}
			}
		}
		if comp.Name(strings.Repeat(b, 16)) != want || comp.Name(strings.Repeat(b, 17)) {
			t.Errorf("Name of many of the byte %d", n)
		}
	}
}

func TestNameOfEachByteAtEachPlace(t *testing.T) {
	for _, long := range []int{1, 2, 3, 8, 15, 16} {
		for at := range long {
			for n := range 256 {
				b := bytes.Repeat([]byte{'k'}, long)
				b[at] = byte(n)
				if want := aName.Match(b); comp.Name(string(b)) != want {
					t.Errorf("Name(%q) = %v", b, !want)
				}
			}
		}
	}
}

func TestNameOfLettersOfMoreBytes(t *testing.T) {
	for _, letter := range []string{"\u00e4", "\u00df", "\u0131", "\u017f", "\u0430", "\u0660", "\u0969", "\u203f", "\u212a", "\u65e5", "\uff41", "\uff10", "\uff3f", "\ufffd", "\U0001d41a", "\U0001d7d8", "a\u0308", "\ufeff", "\u0161\u0100"} {
		for _, s := range []string{letter, letter + "a", "a" + letter, "a" + letter + "b", letter + letter, strings.Repeat(letter, 8), strings.Repeat(letter, 16)} {
			if comp.Name(s) {
				t.Errorf("Name(%q)", s)
			}
		}
	}
}

func TestNamesThatAreAndThatAreNot(t *testing.T) {
	for _, s := range []string{"a", "pos", "a_9", "_", "__", "0", "007", "9_lives", "z_", "abcdefghijklmnop", "qrstuvwxyz012345", "6789____________"} {
		if !comp.Name(s) {
			t.Errorf("Name(%q) is false", s)
		}
	}
	for _, s := range []string{"", "A", "Pos", "pO", "a b", " a", "a ", "a\n", "\na", "a\x00", "\x00", "a-b", "a.b", "#1", "$0", "a/b", "abcdefghijklmnopq", "abcdefghijklmno\n", "abcdefghijklmnop\n", "`", "{", "/", ":", "@", "[", "^", "\x7f", "\xe1", "\xff"} {
		if comp.Name(s) {
			t.Errorf("Name(%q) is true", s)
		}
	}
}

func TestNamesOfManyKinds(t *testing.T) {
	c := chance(1)
	letters := []string{"a", "m", "z", "0", "5", "9", "_", "b", "y", "1", "8", "A", "Z", "-", "\u00e9", "\x00"}
	for range 20000 {
		s, of := "", one(&c, []int{7, 11, 11, 12, 16})
		for range c.below(19) {
			s += letters[c.below(of)]
		}
		if comp.Name(s) != aName.MatchString(s) {
			t.Fatalf("Name(%q) = %v", s, comp.Name(s))
		}
	}
}

// P7.1: Check

func TestCheckOfEachNumber(t *testing.T) {
	for _, l := range [][]api.Comp{nil, {}, many(1), many(32)} {
		for _, f := range fields {
			for _, n := range append(slices.Clone(f.edges), far...) {
				c := conf(l...)
				f.set(&c, n)
				want := api.ErrArg
				if n >= f.low && n <= f.high {
					want = api.OK
				}
				if e := comp.Check(c); e != want {
					t.Errorf("%s of %d: error %d", f.name, n, int(e))
				}
				checks(t, c)
			}
		}
	}
}

func TestCheckOfAllNumbersTogether(t *testing.T) {
	for _, log := range fields[0].edges {
		for _, pages := range fields[1].edges {
			for _, entities := range fields[2].edges {
				for _, gens := range fields[3].edges {
					checks(t, api.Conf{Log: log, Pages: pages, Entities: entities, Gens: gens, Comps: many(2)})
				}
			}
		}
	}
	wrong(t, api.Conf{})
	wrong(t, api.Conf{Comps: many(3)})
	right(t, api.Conf{Log: 2, Pages: 4, Entities: 1, Gens: 1})
	right(t, api.Conf{Log: 1024, Pages: 1024, Entities: 1024, Gens: 1 << 30, Comps: longest()})
}

func TestCheckOfAllThatALogMayBe(t *testing.T) {
	for n := -5; n < 1100; n++ {
		for _, f := range fields {
			c := conf(many(1)...)
			f.set(&c, n)
			checks(t, c)
		}
	}
}

func TestCheckOfHowManyComps(t *testing.T) {
	for n := range 70 {
		c := conf(many(n)...)
		if e := comp.Check(c); (e == api.OK) != (n <= 32) {
			t.Errorf("Check with %d components: error %d", n, int(e))
		}
		checks(t, c)
	}
	for _, n := range []int{128, 255, 256, 257, 256 + 32, 65536, 65537} {
		wrong(t, api.Conf{Log: 2, Pages: 4, Entities: 1, Gens: 1, Comps: make([]api.Comp, n)})
		if e := comp.Check(conf(many(n)...)); e != api.ErrArg {
			t.Errorf("Check with %d components: error %d", n, int(e))
		}
	}
}

// bad: what is no Name.
var bad = []string{"", "A", "a b", "ab\x00", "\u00e4", "-", "abcdefghijklmnopq", strings.Repeat("a", 70000), "\n", "a.b"}

func TestCheckOfANameThatIsNone(t *testing.T) {
	for _, n := range []int{1, 2, 3, 7, 31, 32} {
		for at := range n {
			for _, name := range bad {
				c := conf(with(many(n), at, named(name))...)
				if e := comp.Check(c); e != api.ErrArg {
					t.Errorf("Check of %d components, no Name at %d: error %d", n, at, int(e))
				}
			}
			right(t, conf(with(many(n), at, named("abcdefghijklmnop"))...))
			right(t, conf(with(many(n), at, named("_"))...))
		}
	}
}

func TestCheckOfANameAtTwoPlaces(t *testing.T) {
	for _, n := range []int{2, 3, 4, 9, 32} {
		for i := range n {
			for j := range i {
				l := many(n)
				l = with(l, i, api.Comp{Name: l[j].Name, Size: l[i].Size})
				if e := comp.Check(conf(l...)); e != api.ErrArg {
					t.Errorf("Check of %d components, the same Name at %d and %d: error %d", n, j, i, int(e))
				}
				l = with(l, i, l[j])
				wrong(t, conf(l...))
				for _, name := range []string{"a", "_", "abcdefghijklmnop"} {
					wrong(t, conf(with(with(many(n), i, named(name)), j, named(name))...))
				}
			}
		}
		wrong(t, conf(slices.Repeat([]api.Comp{named("all")}, n)...))
	}
	wrong(t, conf(named("a"), named("b"), named("a"), named("b")))
	wrong(t, conf(named("a"), named("b"), named("b"), named("a")))
	wrong(t, conf(named("a"), named("a"), named("b"), named("c")))
	wrong(t, conf(named("a"), named("b"), named("c"), named("c")))
}

func TestCheckOfNamesThatAreAlmostTheSame(t *testing.T) {
	right(t, conf(named("a"), named("aa"), named("aaa"), named("aaaa"), named("aaaaaaaaaaaaaaaa"), named("aaaaaaaaaaaaaaa")))
	right(t, conf(named("abcdefghijklmnop"), named("abcdefghijklmnoq"), named("bbcdefghijklmnop"), named("abcdefgh_jklmnop")))
	right(t, conf(named("ab"), named("ba"), named("a_b"), named("b_a"), named("_"), named("__"), named("0"), named("00")))
	right(t, conf(api.Comp{Name: "a", Size: 5}, api.Comp{Name: "b", Size: 5}))
	right(t, conf(longest()...))
}

func TestCheckOfEachSize(t *testing.T) {
	for _, n := range []int{1, 2, 3, 17, 32} {
		for at := range n {
			for size := -2; size < 70; size++ {
				l := many(n)
				c := conf(with(l, at, api.Comp{Name: l[at].Name, Size: size})...)
				if e := comp.Check(c); (e == api.OK) != (size >= 0 && size <= 64) {
					t.Errorf("Check of %d components, Size %d at %d: error %d", n, size, at, int(e))
				}
			}
			for _, size := range append([]int{255, 256, 257, 256 + 64, -256, -192, 1 << 16}, far...) {
				l := many(n)
				wrong(t, conf(with(l, at, api.Comp{Name: l[at].Name, Size: size})...))
			}
		}
	}
}

func TestCheckOfAllSmallOnes(t *testing.T) {
	var kinds []api.Comp
	for _, name := range []string{"", "a", "b", "A", "abcdefghijklmnop", "abcdefghijklmnopq"} {
		for _, size := range []int{-1, 0, 64, 65} {
			kinds = append(kinds, api.Comp{Name: name, Size: size})
		}
	}
	checks(t, conf())
	for _, x := range kinds {
		checks(t, conf(x))
		for _, y := range kinds {
			checks(t, conf(x, y))
			for _, z := range kinds {
				checks(t, conf(x, y, z))
			}
		}
	}
}

func TestCheckOfManyThingsWrongAtOnce(t *testing.T) {
	c := chance(2)
	for range 5000 {
		checks(t, anyConf(&c))
	}
}

// anyConf: a layout of which much, little or nothing may not be.
func anyConf(c *chance) api.Conf {
	x := api.Conf{Log: 2 + c.below(1023), Pages: 4 + c.below(1021), Entities: 1 + c.below(1024), Gens: 1 + c.below(1<<30)}
	x.Comps = many(one(c, []int{0, 1, 2, 3, 5, 31, 32}))
	if c.below(3) == 0 {
		x.Comps = longest()
	}
	for range one(c, []int{0, 0, 1, 1, 2, 5}) {
		switch c.below(4) {
		case 0:
			f := one(c, fields)
			f.set(&x, one(c, append(slices.Clone(f.edges), far...)))
		case 1:
			x.Comps = append(x.Comps, api.Comp{Name: one(c, append([]string{"a", "b", "c_0", "c_1", "c_31"}, bad...)), Size: c.below(65)})
		case 2:
			if n := len(x.Comps); n > 0 {
				x.Comps[c.below(n)].Size = one(c, []int{-256, -1, 0, 1, 63, 64, 65, 255, 256, 300})
			}
		case 3:
			if n := len(x.Comps); n > 0 {
				x.Comps[c.below(n)].Name = x.Comps[c.below(n)].Name
			}
		}
	}
	return x
}

// P7.2

// finds: Find of name tells that place.
func finds(t *testing.T, c api.Conf, name string, want int) {
	t.Helper()
	if i, ok := comp.Find(c, name); i != want || !ok {
		t.Fatalf("Find(%s, %s) = %d, %v, not %d", brief(c.Comps), brief(name), i, ok, want)
	}
}

// misses: Find of name tells that there is none.
func misses(t *testing.T, c api.Conf, name string) {
	t.Helper()
	if i, ok := comp.Find(c, name); i != 0 || ok {
		t.Fatalf("Find(%s, %s) = %d, %v", brief(c.Comps), brief(name), i, ok)
	}
}

func TestFindOfEach(t *testing.T) {
	for _, l := range [][]api.Comp{many(1), many(2), many(3), many(32), longest(), many(40), many(300)} {
		for i := range l {
			finds(t, conf(l...), l[i].Name, i)
		}
	}
}

func TestFindOfNone(t *testing.T) {
	for _, name := range []string{"", "a", "c", "c_", "c_32", "c_00", "c_0 ", "C_0", " c_0", "c_0\x00", "c_31_", "abcdefghijklmnop", strings.Repeat("a", 70000)} {
		misses(t, conf(), name)
		misses(t, api.Conf{}, name)
		misses(t, conf(many(1)...), name)
		misses(t, conf(many(32)...), name)
		misses(t, conf(longest()...), name)
	}
}

func TestFindOfTheFirst(t *testing.T) {
	c := conf(named("a"), named("b"), api.Comp{Name: "b", Size: 1}, named("a"), named("c"), named("c"))
	finds(t, c, "a", 0)
	finds(t, c, "b", 1)
	finds(t, c, "c", 4)
	for i := range 32 {
		for j := range i {
			finds(t, conf(with(with(many(32), i, named("x")), j, named("x"))...), "x", j)
		}
	}
}

func TestFindWhereTheLayoutMayNotBe(t *testing.T) {
	for i, name := range bad {
		c := api.Conf{Log: -1, Comps: []api.Comp{named("a"), named("b")}}
		misses(t, c, name)
		c.Comps = append(c.Comps, api.Comp{Name: name, Size: -i})
		finds(t, c, name, 2)
		finds(t, c, "b", 1)
	}
	finds(t, conf(named("a"), named(""), named("")), "", 1)
	finds(t, conf(many(70000)...), "c_69999", 69999)
}

func TestSizeOfEach(t *testing.T) {
	for _, l := range [][]api.Comp{nil, {}, many(1), many(2), many(32), longest(), many(33), many(100)} {
		c := conf(l...)
		for i, k := range l {
			if n, ok := comp.Size(c, i); n != k.Size || !ok {
				t.Errorf("Size of %d of %d = %d, %v, not %d", i, len(l), n, ok, k.Size)
			}
		}
		places := []int{-1, -2, -32, -33, -100, math.MinInt, -1 << 32, len(l), len(l) + 1, len(l) + 32, 1 << 32, 1<<32 + 1, math.MaxInt - 1, math.MaxInt}
		for _, i := range places {
			if n, ok := comp.Size(c, i); n != 0 || ok {
				t.Errorf("Size of %d of %d = %d, %v", i, len(l), n, ok)
			}
		}
	}
}

func TestSizeTellsWhatStandsThere(t *testing.T) {
	sizes := append([]int{-1, 0, 1, 3, 63, 64, 65, 255, 256}, far...)
	var l []api.Comp
	for _, n := range sizes {
		l = append(l, api.Comp{Name: "a", Size: n})
	}
	for i, want := range sizes {
		if n, ok := comp.Size(api.Conf{Comps: l}, i); n != want || !ok {
			t.Errorf("Size of %d = %d, %v, not %d", i, n, ok, want)
		}
	}
	if n, ok := comp.Size(conf(api.Comp{Name: "dead"}), 0); n != 0 || !ok {
		t.Error("of Size 0:", n, ok)
	}
}

func TestAll(t *testing.T) {
	var want uint64
	for n := range 100 {
		for _, l := range [][]api.Comp{many(n), make([]api.Comp, n)} {
			if s := comp.All(conf(l...)); s != want {
				t.Errorf("All of %d = %b, not %b", n, s, want)
			}
			if s := comp.All(api.Conf{Comps: l}); s != want {
				t.Errorf("All of %d, of another layout = %b, not %b", n, s, want)
			}
		}
		if n < 64 {
			want += 1 << n
		}
	}
	for _, c := range []struct {
		n    int
		want uint64
	}{{0, 0}, {1, 1}, {2, 3}, {3, 7}, {31, 1<<31 - 1}, {32, 1<<32 - 1}, {33, 1<<33 - 1}, {63, 1<<63 - 1}, {64, math.MaxUint64}, {65, math.MaxUint64}, {128, math.MaxUint64}, {256, math.MaxUint64}, {70000, math.MaxUint64}} {
		if s := comp.All(conf(many(c.n)...)); s != c.want {
			t.Errorf("All of %d = %x, not %x", c.n, s, c.want)
		}
	}
}

func TestSectors(t *testing.T) {
	for _, c := range []struct{ log, pages, want int }{
		{2, 4, 8}, {4, 8, 14}, {1024, 1024, 2050}, {2, 1024, 1028}, {1024, 4, 1030}, {17, 5, 24},
		{0, 0, 2}, {-1, -1, 0}, {-2, 0, 0}, {0, -5, -3}, {1, 0, 3}, {0, 1, 3}, {5000, 1 << 40, 1<<40 + 5002},
		{math.MaxInt, 0, math.MinInt + 1}, {math.MaxInt - 2, 0, math.MaxInt}, {math.MaxInt, math.MaxInt, 0}, {math.MinInt, math.MinInt, 2}, {math.MinInt, -2, math.MinInt}, {math.MinInt, -3, math.MaxInt},
	} {
		for _, l := range [][]api.Comp{nil, many(1), many(32)} {
			if n := comp.Sectors(api.Conf{Log: c.log, Pages: c.pages, Entities: 9, Gens: 99, Comps: l}); n != c.want {
				t.Errorf("Sectors of %d and %d = %d, not %d", c.log, c.pages, n, c.want)
			}
		}
	}
}

// P7.3: Put

func TestTheDocumentsExample(t *testing.T) {
	want := []byte{2, 0, 0, 0, 4, 0, 0, 0, 1, 0, 0, 0, 1, 0, 0, 0, 1, 1, 0, 97, 3}
	c := conf(api.Comp{Name: "a", Size: 3})
	if b := comp.Put(c); !bytes.Equal(b, want) {
		t.Errorf("%v, not %v", b, want)
	}
	if x, e := comp.Get(want); !same(x, c) || e != api.OK {
		t.Errorf("%+v, error %d", x, int(e))
	}
}

func TestPutOfOneThatMayBe(t *testing.T) {
	c := api.Conf{Log: 0x102, Pages: 0x304, Entities: 0x105, Gens: 0x1a2b3c4d, Comps: []api.Comp{{Name: "pos", Size: 64}, {Name: "_"}, {Name: "abcdefghijklmnop", Size: 1}}}
	want := []byte{2, 1, 0, 0, 4, 3, 0, 0, 5, 1, 0, 0, 0x4d, 0x3c, 0x2b, 0x1a, 3, 3, 0, 'p', 'o', 's', 64, 1, 0, '_', 0, 16, 0}
	want = append(append(want, "abcdefghijklmnop"...), 1)
	if b := comp.Put(c); !bytes.Equal(b, want) {
		t.Errorf("%v, not %v", b, want)
	}
	if b := comp.Put(conf()); !bytes.Equal(b, []byte{2, 0, 0, 0, 4, 0, 0, 0, 1, 0, 0, 0, 1, 0, 0, 0, 0}) {
		t.Errorf("without components: %v", b)
	}
	for n := range 33 {
		puts(t, conf(many(n)...))
	}
	puts(t, api.Conf{Log: 1024, Pages: 1024, Entities: 1024, Gens: 1 << 30, Comps: longest()})
	if b := comp.Put(conf(longest()...)); len(b) != 17+32*(2+16+1) {
		t.Error("MaxComps with names of MaxName bytes:", len(b))
	}
}

func TestPutOfEachNumber(t *testing.T) {
	for _, f := range fields {
		for _, n := range append(slices.Clone(f.edges), far...) {
			c := conf(many(2)...)
			f.set(&c, n)
			puts(t, c)
		}
	}
}

func TestPutOfOneThatMayNotBe(t *testing.T) {
	puts(t, api.Conf{})
	puts(t, api.Conf{Log: -1, Pages: -1, Entities: -1, Gens: -1, Comps: []api.Comp{{Size: -1}}})
	for _, name := range bad {
		puts(t, conf(named("a"), named(name), named("b")))
	}
	for _, n := range []int{16, 17, 255, 256, 65534, 65535, 65536, 65537, 1 << 17} {
		puts(t, conf(named("a"), named(strings.Repeat("x", n)+"y"), named("b")))
		puts(t, conf(named(strings.Repeat("z", n))))
	}
	puts(t, conf(named("a"), named("a")))
	for _, size := range append([]int{-1, 65, 127, 128, 255, 256, 257, 511}, far...) {
		puts(t, conf(named("a"), api.Comp{Name: "b", Size: size}, named("c")))
	}
	for _, n := range []int{33, 64, 127, 128, 254, 255, 256, 257, 512, 1000} {
		puts(t, conf(many(n)...))
		puts(t, conf(make([]api.Comp, n)...))
	}
	c := chance(3)
	for range 2000 {
		puts(t, anyConf(&c))
	}
}

// Of very many components, so that it would not end soon if each of them were paid for by all ahead.
func TestPutOfVeryManyComps(t *testing.T) {
	puts(t, conf(many(200000)...))
}

// P7.3: Get

func TestGetOfBeginnings(t *testing.T) {
	for _, c := range []api.Conf{conf(), conf(named("a")), conf(many(3)...), conf(many(32)...), conf(longest()...), {}, conf(named(""), named("")), conf(many(255)...)} {
		b := comp.Put(c)
		for i := range b {
			refuses(t, b[:i], api.ErrShort)
			refuses(t, slices.Clone(b[:i]), api.ErrShort)
		}
		gets(t, b)
	}
	refuses(t, nil, api.ErrShort)
	refuses(t, []byte{}, api.ErrShort)
}

func TestGetOfMoreBytes(t *testing.T) {
	for _, c := range []api.Conf{conf(), conf(named("a")), conf(many(3)...), conf(longest()...)} {
		b := comp.Put(c)
		for n := range 256 {
			refuses(t, append(slices.Clone(b), byte(n)), api.ErrForm)
		}
		for _, n := range []int{2, 3, 4, 17, 1000, 100000} {
			if x, e := comp.Get(append(slices.Clone(b), make([]byte, n)...)); !nothing(x) || e != api.ErrForm {
				t.Errorf("Get with %d bytes more: error %d", n, int(e))
			}
		}
		refuses(t, append(slices.Clone(b), b...), api.ErrForm)
	}
}

func TestGetOfEachNumber(t *testing.T) {
	for at, f := range fields {
		for _, n := range append([]int{0x80, 0xff, 0x100, 1 << 16, 1 << 24, 1<<24 + 2, 1<<31 - 1, 1 << 31, 1<<31 + 2, 1<<32 - 2, 1<<32 - 1}, f.edges...) {
			if n < 0 {
				continue
			}
			b := comp.Put(conf(many(2)...))
			binary.LittleEndian.PutUint32(b[4*at:], uint32(n))
			gets(t, b)
			c := conf(many(2)...)
			f.set(&c, n)
			if n >= f.low && n <= f.high {
				if x, e := comp.Get(b); !same(x, c) || e != api.OK {
					t.Errorf("Get with %s of %d: %+v, error %d", f.name, n, x, int(e))
				}
			} else {
				refuses(t, b, api.ErrArg)
			}
		}
	}
}

// raw: the bytes of a layout whose numbers may be, which tells that there are so many components, and those that are there.
func raw(count int, l ...[]byte) []byte {
	b := append(laid(conf())[:16], byte(count))
	return append(b, slices.Concat(l...)...)
}

// bit: the bytes of a component that tell its name to be so long.
func bit(long int, name string, size int) []byte {
	b := append(binary.LittleEndian.AppendUint16(nil, uint16(long)), name...)
	return append(b, byte(size))
}

func TestGetOfMoreCompsThanFollow(t *testing.T) {
	a, b := bit(1, "a", 3), bit(2, "bc", 4)
	for n := range 256 {
		gets(t, raw(n))
		gets(t, raw(n, a))
		gets(t, raw(n, a, b))
		if n > 2 {
			refuses(t, raw(n, a, b), api.ErrShort)
		}
		if n < 2 {
			refuses(t, raw(n, a, b), api.ErrForm)
		}
		gets(t, laid(conf(many(n)...)))
		refuses(t, append(laid(conf(many(n)...)), 0), api.ErrForm)
		if n > 32 {
			refuses(t, laid(conf(many(n)...)), api.ErrArg)
			refuses(t, laid(conf(make([]api.Comp, n)...)), api.ErrArg)
		}
	}
}

func TestGetOfANameThatIsLongerThanWhatFollows(t *testing.T) {
	for _, long := range []int{2, 3, 16, 17, 255, 256, 65535} {
		refuses(t, raw(1, bit(long, "a", 3)[:3]), api.ErrShort)
		gets(t, raw(1, bit(long, "a", 3)))
		gets(t, raw(2, bit(long, "a", 3), bit(1, "b", 3)))
	}
	// The name takes the byte that was to be the size.
	refuses(t, raw(1, bit(2, "a", 'b')), api.ErrShort)
	refuses(t, raw(1, bit(0, "a", 3)), api.ErrForm)
	refuses(t, raw(1, bit(0, "", 3)), api.ErrArg)
	refuses(t, raw(1, bit(1, "", 'a')), api.ErrShort)
	refuses(t, raw(1, []byte{1}), api.ErrShort)
	refuses(t, raw(1, []byte{0, 0}), api.ErrShort)
}

func TestGetOfNames(t *testing.T) {
	for _, n := range []int{1, 2, 3, 31, 32} {
		for at := range n {
			for _, name := range bad {
				if len(name) < 65536 {
					refuses(t, laid(conf(with(many(n), at, named(name))...)), api.ErrArg)
				}
			}
			for i := range at {
				refuses(t, laid(conf(with(many(n), at, many(n)[i])...)), api.ErrArg)
			}
		}
	}
	for n := range 256 {
		b := raw(1, bit(3, "a"+string([]byte{byte(n)})+"b", 0))
		want := api.Conf{}
		if aName.MatchString(string([]byte{byte(n)})) {
			want = conf(api.Comp{Name: "a" + string(rune(n)) + "b"})
		}
		if x, e := comp.Get(b); !same(x, want) || (e == api.OK) == nothing(want) {
			t.Errorf("Get with the byte %d in a name: %+v, error %d", n, x, int(e))
		}
		gets(t, b)
	}
	for n := range 40 {
		gets(t, raw(1, bit(n, strings.Repeat("q", n), 9)))
	}
}

func TestGetOfSizes(t *testing.T) {
	for n := range 256 {
		for at := range 3 {
			b := laid(conf(with(many(3), at, api.Comp{Name: "x", Size: n})...))
			gets(t, b)
			if n > 64 {
				refuses(t, b, api.ErrArg)
			} else if x, e := comp.Get(b); e != api.OK || x.Comps[at].Size != n {
				t.Errorf("Get with Size %d at %d: error %d", n, at, int(e))
			}
		}
	}
}

func TestWhichErrorIsToldFirst(t *testing.T) {
	for _, c := range []api.Conf{{}, conf(named("A")), conf(named("a"), named("a")), conf(make([]api.Comp, 33)...), conf(api.Comp{Name: "a", Size: 65}), {Log: 2, Pages: 4, Entities: 1, Gens: 1<<30 + 1}} {
		b := laid(c)
		refuses(t, b, api.ErrArg)
		refuses(t, append(slices.Clone(b), 0), api.ErrForm)
		refuses(t, append(slices.Clone(b), b...), api.ErrForm)
		for i := range b {
			refuses(t, b[:i], api.ErrShort)
		}
	}
	refuses(t, slices.Repeat([]byte{0}, 16), api.ErrShort)
	refuses(t, slices.Repeat([]byte{0}, 17), api.ErrArg)
	refuses(t, slices.Repeat([]byte{0}, 18), api.ErrForm)
	refuses(t, slices.Repeat([]byte{255}, 16+1+65537), api.ErrShort)
	refuses(t, slices.Repeat([]byte{255}, 17+255*65538-1), api.ErrShort)
}

func TestGetOfChangedBytes(t *testing.T) {
	c := chance(5)
	starts := [][]byte{laid(conf()), laid(conf(named("a"))), laid(conf(named("a"), named("b"))), laid(conf(many(5)...)), laid(api.Conf{Log: 9, Pages: 1024, Entities: 300, Gens: 1 << 20, Comps: longest()})}
	for range 30000 {
		b := slices.Clone(one(&c, starts))
		for range c.below(4) {
			b[c.below(len(b))] = byte(one(&c, []int{0, 1, 2, 3, 4, 32, 33, 64, 65, 'a', 'b', '_', 'A', 255, c.below(256)}))
		}
		switch c.below(6) {
		case 0:
			b = b[:c.below(len(b)+1)]
		case 1:
			b = append(b, byte(c.below(256)))
		}
		gets(t, b)
	}
	for range 3000 {
		b := make([]byte, c.below(60))
		for i := range b {
			b[i] = byte(c.below(5))
		}
		gets(t, b)
	}
}

// P7.4

func TestGetOfPutIsIt(t *testing.T) {
	for n := range 33 {
		goesRound(t, conf(many(n)...))
		goesRound(t, conf(longest()[:n]...))
	}
	for _, f := range fields {
		for _, n := range f.edges {
			if n < f.low || n > f.high {
				continue
			}
			c := conf(named("a"))
			f.set(&c, n)
			goesRound(t, c)
		}
	}
	for size := range 65 {
		goesRound(t, conf(api.Comp{Name: "a", Size: size}, api.Comp{Name: "b", Size: 64 - size}))
	}
	for n := 1; n <= 16; n++ {
		goesRound(t, conf(named(strings.Repeat("0", n)), named(strings.Repeat("_", n))))
	}
	c := chance(6)
	for range 3000 {
		if x := anyConf(&c); may(x) {
			goesRound(t, x)
		}
	}
}

func TestBytesThatAreGotAreThoseThatArePut(t *testing.T) {
	c := chance(7)
	told := 0
	for range 30000 {
		b := laid(conf(many(c.below(4))...))
		for range c.below(3) {
			b[c.below(len(b))] = byte(one(&c, []int{0, 1, 2, 3, 4, 'a', '_', c.below(256)}))
		}
		x, e := comp.Get(b)
		if e != api.OK {
			continue
		}
		told++
		if !bytes.Equal(comp.Put(x), b) {
			t.Fatalf("Get(%v) = %+v, whose bytes are %v", b, x, comp.Put(x))
		}
	}
	if told < 1000 {
		t.Error("too few were got:", told)
	}
}

// What holds everywhere

func TestArgumentsStayAsTheyAre(t *testing.T) {
	lists := [][]api.Comp{nil, many(1), many(3), many(32), many(33), longest(), {named("A")}, {named("a"), named("a")}, {{Name: "a", Size: 99}}}
	for _, want := range lists {
		l := spare(want...)
		c := api.Conf{Log: 5, Pages: 6, Entities: 7, Gens: 8, Comps: l}
		for range 2 {
			comp.Check(c)
			comp.Find(c, "a")
			comp.Find(c, "c_2")
			comp.Size(c, 1)
			comp.All(c)
			comp.Sectors(c)
			overwrite(comp.Put(c), 0)
		}
		if !untouched(l, want...) {
			t.Errorf("of %v is left %v", want, l[:cap(l)])
		}
	}
	for _, want := range [][]byte{{}, {1, 2}, laid(conf()), laid(conf(many(3)...)), laid(conf(named("A"))), append(laid(conf(many(2)...)), 9)} {
		room := append(slices.Clone(want), 7, 7, 7, 7, 7, 7, 7, 7)
		x, _ := comp.Get(room[:len(want)])
		overwrite(x.Comps, named("z"))
		if !bytes.Equal(room, append(slices.Clone(want), 7, 7, 7, 7, 7, 7, 7, 7)) {
			t.Errorf("of %v is left %v", want, room)
		}
	}
}

func TestAnswersAreNewMemory(t *testing.T) {
	l := spare(many(3)...)
	c := conf(l...)
	first, second := comp.Put(c), comp.Put(c)
	overwrite(first, 9)
	if !bytes.Equal(second, laid(conf(many(3)...))) {
		t.Error("two answers of Put share memory")
	}
	overwrite(l, named("z"))
	if !bytes.Equal(second, laid(conf(many(3)...))) {
		t.Error("Put shares memory with what it was handed")
	}

	b := laid(conf(many(3)...))
	x, _ := comp.Get(b)
	y, _ := comp.Get(b)
	overwrite(b, 'z')
	if !same(x, conf(many(3)...)) {
		t.Errorf("Get shares memory with what it was handed: %+v", x)
	}
	overwrite(x.Comps, named("z"))
	if !same(y, conf(many(3)...)) {
		t.Errorf("two answers of Get share memory: %+v", y)
	}
}

func TestTheSameArgumentsTellTheSame(t *testing.T) {
	c := api.Conf{Log: 100, Pages: 200, Entities: 300, Gens: 400, Comps: longest()}
	b := comp.Put(c)
	for range 50 {
		x, e := comp.Get(b)
		i, found := comp.Find(c, "abcdefghijklm_20")
		n, ok := comp.Size(c, 20)
		if !same(x, c) || e != api.OK || i != 20 || !found || n != 44 || !ok || comp.All(c) != 1<<32-1 || comp.Sectors(c) != 302 || comp.Check(c) != api.OK || !bytes.Equal(comp.Put(c), b) {
			t.Fatal("the same arguments tell not the same")
		}
		comp.Get(nil)
		comp.Put(api.Conf{})
		comp.Check(api.Conf{})
	}
}

func TestNilAndEmptyAreAlike(t *testing.T) {
	x, y := conf(), conf()
	x.Comps, y.Comps = nil, []api.Comp{}
	if comp.Check(x) != api.OK || comp.Check(y) != api.OK || !bytes.Equal(comp.Put(x), comp.Put(y)) || comp.All(y) != 0 || comp.Sectors(x) != comp.Sectors(y) {
		t.Error("nil and empty Comps are not alike")
	}
	z, e := comp.Get(comp.Put(y))
	if !same(z, x) || e != api.OK {
		t.Errorf("%+v, error %d", z, int(e))
	}
}
