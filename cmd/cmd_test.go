package cmd_test

import (
	"bytes"
	"fmt"
	"math"
	"slices"
	"testing"

	"vivarium/api"
	"vivarium/cmd"
)

// others: numbers that are none of the four, near and far.
var others = []int{math.MinInt, math.MinInt + 1, math.MinInt + 2, -1 << 32, -1<<32 + 1, -257, -256, -255, -254, -253, -4, -3, -2, -1, 4, 5, 6, 7, 8, 127, 128, 254, 255, 256, 257, 258, 259, 260, 1 << 16, 1<<16 + 2, 1 << 32, 1<<32 + 1, 1<<32 + 2, 1<<32 + 3, math.MaxInt - 1, math.MaxInt}

// four: what commands do.
var four = []int{api.DoSpawn, api.DoDespawn, api.DoSet, api.DoRemove}

// numbers: 0, both ends of int, and such that each of the eight bytes is told from the others.
func numbers() []int {
	l := []int{0, 1, -1, -2, 255, 256, 258, 0x0102030405060708, -0x0102030405060708, math.MaxInt, math.MaxInt - 1, math.MinInt, math.MinInt + 1}
	for i := range 8 {
		l = append(l, 1<<(8*i), 0x7f<<(8*i), -1<<(8*i), 0x80<<(8*i)-1)
	}
	return l
}

// data: n bytes, none of them 0, no two neighbours the same.
func data(n int) []byte {
	b := make([]byte, n)
	for i := range b {
		b[i] = byte(1 + i%251)
	}
	return b
}

// chance: numbers that look mixed, the same ones for the same seed.
type chance uint64

// below: the next number from 0 on, below n.
func (c *chance) below(n int) int {
	*c = *c*6364136223846793005 + 1442695040888963407
	return int(uint64(*c)>>33) % n
}

// spare: b's bytes with spare room behind them that has bytes 0xee.
func spare(b []byte) []byte {
	room := append(bytes.Clone(b), bytes.Repeat([]byte{0xee}, 150)...)
	return room[:len(b)]
}

// untouched: does b, made by spare, still have these bytes, and its spare room, too?
func untouched(b, want []byte) bool {
	return bytes.Equal(b, want) && bytes.Equal(b[len(b):len(b)+150], bytes.Repeat([]byte{0xee}, 150))
}

// overwrite: all of b's bytes, its spare room too, are n from now on.
func overwrite(b []byte, n byte) {
	b = b[:cap(b)]
	for i := range b {
		b[i] = n
	}
}

// said: all fields of x as a text; nil and empty data are the same.
func said(x api.Cmd) string {
	return fmt.Sprintf("do %d local %v index %d gen %d comp %d data %x", x.Do, x.Local, x.ID.Index, x.ID.Gen, x.Comp, x.Data)
}

// brief: a text that is not too long to be read.
func brief(v any) string {
	s := fmt.Sprint(v)
	if len(s) > 400 {
		return fmt.Sprintf("%s.. (%d signs)", s[:400], len(s))
	}
	return s
}

// counts: does that field of x play a part in what x is?
func counts(x api.Cmd, field string) bool {
	of := map[int]string{
		api.DoSpawn:   "Do",
		api.DoDespawn: "Do Local Index Gen",
		api.DoRemove:  "Do Local Index Gen Comp",
		api.DoSet:     "Do Local Index Gen Comp Data",
	}
	l, ok := of[x.Do]
	if ok && x.Local && field == "Gen" {
		return false
	}
	return !ok || bytes.Contains([]byte(l), []byte(field))
}

// plain: what is meant by Plain, field by field.
func plain(x api.Cmd) api.Cmd {
	var zero api.Cmd
	if !counts(x, "Gen") { // this one hangs on Local: it goes first
		x.ID.Gen = zero.ID.Gen
	}
	if !counts(x, "Local") {
		x.Local = zero.Local
	}
	if !counts(x, "Index") {
		x.ID.Index = zero.ID.Index
	}
	if !counts(x, "Comp") {
		x.Comp = zero.Comp
	}
	if !counts(x, "Data") {
		x.Data = nil
	}
	return x
}

// low: the lowest bytes of n, the lowest first.
func low(width, n int) []byte {
	var b []byte
	for i := range width {
		b = append(b, byte(uint64(n)>>(8*i)))
	}
	return b
}

// row: what is meant by Put behind nothing.
func row(x api.Cmd) []byte {
	target := slices.Concat([]byte{0}, low(8, x.ID.Index), low(8, x.ID.Gen))
	if x.Local {
		target = slices.Concat([]byte{1}, low(8, x.ID.Index))
	}
	switch x.Do {
	case api.DoSpawn:
		return []byte{0}
	case api.DoDespawn:
		return slices.Concat([]byte{1}, target)
	case api.DoSet:
		return slices.Concat([]byte{2}, target, low(8, x.Comp), low(2, len(x.Data)), x.Data)
	case api.DoRemove:
		return slices.Concat([]byte{3}, target, low(8, x.Comp))
	}
	return []byte{255}
}

// full: a command of that Do of which no other field is zero.
func full(do int, local bool) api.Cmd {
	return api.Cmd{Do: do, Local: local, ID: api.ID{Index: 0x1112131415161718, Gen: 0x2122232425262728}, Comp: 0x3132333435363738, Data: []byte{0x41, 0x42, 0x43}}
}

// small: all commands of few values in each field, those of other Dos among them.
func small() []api.Cmd {
	var l []api.Cmd
	for _, do := range []int{-1, 0, 1, 2, 3, 4, 256} {
		for _, local := range []bool{false, true} {
			for n := range 8 {
				for _, d := range [][]byte{nil, {}, {0}, {1}, {0, 0}} {
					l = append(l, api.Cmd{Do: do, Local: local, ID: api.ID{Index: n & 1, Gen: n >> 1 & 1}, Comp: n >> 2, Data: d})
				}
			}
		}
	}
	return l
}

// some: commands that may be, with edges in all fields, loose ones among them.
func some() []api.Cmd {
	var l []api.Cmd
	for _, do := range four {
		for _, local := range []bool{false, true} {
			for _, n := range numbers() {
				l = append(l,
					api.Cmd{Do: do, Local: local, ID: api.ID{Index: n}},
					api.Cmd{Do: do, Local: local, ID: api.ID{Gen: n}},
					api.Cmd{Do: do, Local: local, Comp: n},
					api.Cmd{Do: do, Local: local, ID: api.ID{Index: n, Gen: -n}, Comp: n ^ 0x55, Data: data(7)})
			}
			for n := range api.MaxSize + 1 {
				l = append(l, api.Cmd{Do: do, Local: local, ID: api.ID{Index: n, Gen: 2 * n}, Comp: 3 * n, Data: data(n)})
			}
		}
	}
	return l
}

// P13.1

func TestCheck(t *testing.T) {
	check := func(do, long int, want api.Errno) {
		t.Helper()
		for _, local := range []bool{false, true} {
			for _, n := range []int{0, -1, 7, math.MinInt, math.MaxInt} {
				x := api.Cmd{Do: do, Local: local, ID: api.ID{Index: n, Gen: n}, Comp: n, Data: data(long)}
				if e := cmd.Check(x); e != want {
					t.Errorf("Check of Do %d, %d bytes, numbers %d = %d, not %d", do, long, n, e, want)
				}
			}
		}
	}
	for _, do := range four {
		for _, long := range []int{0, 1, 2, 31, 32, 33, 62, 63, 64} {
			check(do, long, api.OK)
		}
		for _, long := range []int{65, 66, 127, 128, 129, 255, 256, 257, 256 + 64, 1 << 16, 1<<16 + 1, 1<<16 + 64, 1 << 20} {
			check(do, long, api.ErrLong)
		}
	}
	for _, do := range others {
		for _, long := range []int{0, 1, 63, 64, 65, 66, 256, 1 << 16} { // ErrArg is told first
			check(do, long, api.ErrArg)
		}
	}
}

func TestCheckOfNilEmptyAndSpareRoom(t *testing.T) {
	for _, do := range four {
		for _, d := range [][]byte{nil, {}, spare(nil), spare(data(64))} {
			if e := cmd.Check(api.Cmd{Do: do, Data: d}); e != api.OK {
				t.Errorf("Check of Do %d, %d bytes with room for %d = %d", do, len(d), cap(d), e)
			}
		}
		if e := cmd.Check(api.Cmd{Do: do, Data: spare(data(65))}); e != api.ErrLong {
			t.Errorf("Check of Do %d, 65 bytes = %d", do, e)
		}
	}
}

func TestPlainOfFullCommands(t *testing.T) {
	id := api.ID{Index: 0x1112131415161718, Gen: 0x2122232425262728}
	bare := api.ID{Index: 0x1112131415161718}
	comp := 0x3132333435363738
	d := []byte{0x41, 0x42, 0x43}
	for _, c := range []struct{ x, want api.Cmd }{
		{full(api.DoSpawn, false), api.Cmd{Do: 0}},
		{full(api.DoSpawn, true), api.Cmd{Do: 0}},
		{full(api.DoDespawn, false), api.Cmd{Do: 1, ID: id}},
		{full(api.DoDespawn, true), api.Cmd{Do: 1, Local: true, ID: bare}},
		{full(api.DoSet, false), api.Cmd{Do: 2, ID: id, Comp: comp, Data: d}},
		{full(api.DoSet, true), api.Cmd{Do: 2, Local: true, ID: bare, Comp: comp, Data: d}},
		{full(api.DoRemove, false), api.Cmd{Do: 3, ID: id, Comp: comp}},
		{full(api.DoRemove, true), api.Cmd{Do: 3, Local: true, ID: bare, Comp: comp}},
		{full(4, false), full(4, false)},
		{full(4, true), full(4, true)},
		{full(-1, true), full(-1, true)},
		{full(256, true), full(256, true)},
	} {
		if p := cmd.Plain(c.x); said(p) != said(c.want) {
			t.Errorf("Plain of %s = %s", said(c.x), said(p))
		}
	}
}

func TestPlainOfEachFieldZeroAndNot(t *testing.T) {
	for _, do := range slices.Concat(four, others) {
		for fields := range 32 {
			x := api.Cmd{Do: do}
			if fields&1 != 0 {
				x.Local = true
			}
			if fields&2 != 0 {
				x.ID.Index = -5
			}
			if fields&4 != 0 {
				x.ID.Gen = math.MinInt
			}
			if fields&8 != 0 {
				x.Comp = 1 << 40
			}
			if fields&16 != 0 {
				x.Data = []byte{0, 9}
			}
			for _, y := range []api.Cmd{x, {Do: x.Do, Local: x.Local, ID: x.ID, Comp: x.Comp, Data: append([]byte{}, x.Data...)}} {
				p := cmd.Plain(y)
				if said(p) != said(plain(y)) {
					t.Errorf("Plain of %s = %s, not %s", said(y), said(p), said(plain(y)))
				}
				if twice := cmd.Plain(p); said(twice) != said(p) {
					t.Errorf("Plain of Plain of %s = %s", said(y), said(twice))
				}
			}
		}
	}
}

func TestPlainKeepsAllOfLongData(t *testing.T) {
	for _, long := range []int{63, 64, 65, 66, 128, 255, 256, 1 << 16, 1<<16 + 3, 1 << 20} {
		for _, do := range []int{api.DoSet, -1, 4, 255} {
			if p := cmd.Plain(api.Cmd{Do: do, Data: data(long)}); !bytes.Equal(p.Data, data(long)) || p.Do != do {
				t.Errorf("Plain of Do %d and %d bytes has %d bytes, or others", do, long, len(p.Data))
			}
		}
		for _, do := range []int{api.DoSpawn, api.DoDespawn, api.DoRemove} {
			if p := cmd.Plain(api.Cmd{Do: do, Data: data(long)}); len(p.Data) != 0 {
				t.Errorf("Plain of Do %d and %d bytes has %d bytes", do, long, len(p.Data))
			}
		}
	}
}

func TestSameOfSmallCommands(t *testing.T) {
	l := small()
	words := make([]string, len(l))
	for i, x := range l {
		words[i] = said(plain(x))
	}
	for i, a := range l {
		for j, b := range l {
			if got := cmd.Same(a, b); got != (words[i] == words[j]) {
				t.Fatalf("Same of %s and %s = %v", said(a), said(b), got)
			}
		}
	}
}

func TestSameOfTwoThatDifferInOneField(t *testing.T) {
	changes := []struct {
		field  string
		change func(x *api.Cmd)
	}{
		{"Index", func(x *api.Cmd) { x.ID.Index++ }},
		{"Index", func(x *api.Cmd) { x.ID.Index ^= math.MinInt }},
		{"Index", func(x *api.Cmd) { x.ID.Index ^= 1 << 32 }},
		{"Gen", func(x *api.Cmd) { x.ID.Gen-- }},
		{"Gen", func(x *api.Cmd) { x.ID.Gen ^= math.MinInt }},
		{"Gen", func(x *api.Cmd) { x.ID.Gen = 0 }},
		{"Comp", func(x *api.Cmd) { x.Comp++ }},
		{"Comp", func(x *api.Cmd) { x.Comp ^= math.MinInt }},
		{"Comp", func(x *api.Cmd) { x.Comp ^= 1 << 8 }},
		{"Data", func(x *api.Cmd) { x.Data = nil }},
		{"Data", func(x *api.Cmd) { x.Data = x.Data[:2] }},
		{"Data", func(x *api.Cmd) { x.Data = x.Data[1:] }},
		{"Data", func(x *api.Cmd) { x.Data = []byte{0x41, 0x42, 0x43, 0} }},
		{"Data", func(x *api.Cmd) { x.Data = []byte{0, 0x42, 0x43} }},
		{"Data", func(x *api.Cmd) { x.Data = []byte{0x41, 0x42, 0x44} }},
	}
	for _, do := range slices.Concat(four, others) {
		for _, local := range []bool{false, true} {
			for i, c := range changes {
				a, b := full(do, local), full(do, local)
				c.change(&b)
				if want := !counts(a, c.field); cmd.Same(a, b) != want || cmd.Same(b, a) != want {
					t.Errorf("change %d of %s: Same is not %v", i, said(a), want)
				}
				if !cmd.Same(a, a) || !cmd.Same(b, b) {
					t.Errorf("change %d: %s or %s is not as itself", i, said(a), said(b))
				}
			}
		}
	}
}

func TestSameOfLocalAndNot(t *testing.T) {
	for _, do := range slices.Concat(four, others) {
		for _, gen := range []int{0, 6} {
			a := api.Cmd{Do: do, ID: api.ID{Index: 3, Gen: gen}}
			b := a
			b.Local = true
			if want := do == api.DoSpawn; cmd.Same(a, b) != want || cmd.Same(b, a) != want {
				t.Errorf("Do %d: Same of one that is Local and one that is not is not %v", do, want)
			}
		}
	}
}

func TestSameOfOtherDos(t *testing.T) {
	l := slices.Concat(four, others)
	for _, a := range l {
		for _, b := range l {
			for _, local := range []bool{false, true} {
				if cmd.Same(full(a, local), full(b, local)) != (a == b) || cmd.Same(api.Cmd{Do: a}, api.Cmd{Do: b}) != (a == b) {
					t.Errorf("Same of Do %d and %d is not %v", a, b, a == b)
				}
			}
		}
	}
}

func TestSameOfNilEmptyAndSpareRoom(t *testing.T) {
	for _, do := range slices.Concat(four, others) {
		a, b, c := api.Cmd{Do: do}, api.Cmd{Do: do, Data: []byte{}}, api.Cmd{Do: do, Data: spare(nil)}
		if !cmd.Same(a, b) || !cmd.Same(b, c) || !cmd.Same(c, a) {
			t.Errorf("Do %d: nil and empty data differ", do)
		}
		if x := full(do, false); !cmd.Same(x, api.Cmd{Do: do, ID: x.ID, Comp: x.Comp, Data: spare(x.Data)}) {
			t.Errorf("Do %d: the spare room counts", do)
		}
	}
	long, other := data(1<<16+9), data(1<<16+9)
	other[1<<16+8]++
	if a := (api.Cmd{Do: api.DoSet, Data: long}); cmd.Same(a, api.Cmd{Do: api.DoSet, Data: other}) || cmd.Same(a, api.Cmd{Do: api.DoSet, Data: long[:9]}) {
		t.Error("the last bytes of long data don't count")
	}
}

// P13.2

// fills: what stands ahead of what is put.
func fills() [][]byte {
	return [][]byte{nil, {}, {9}, {0}, {255}, {2, 0, 7}, data(600)}
}

func TestPutByteByByte(t *testing.T) {
	id := api.ID{Index: 0x0102030405060708, Gen: -2}
	for _, c := range []struct {
		x    api.Cmd
		want []byte
	}{
		{api.Cmd{}, []byte{0}},
		{full(api.DoSpawn, false), []byte{0}},
		{full(api.DoSpawn, true), []byte{0}},
		{api.Cmd{Do: 1, Local: true, ID: api.ID{Index: 2}}, []byte{1, 1, 2, 0, 0, 0, 0, 0, 0, 0}},
		{api.Cmd{Do: 1, Local: true, ID: api.ID{Index: 2, Gen: 5}, Comp: 6, Data: []byte{7}}, []byte{1, 1, 2, 0, 0, 0, 0, 0, 0, 0}},
		{api.Cmd{Do: 1, ID: id, Comp: 6, Data: []byte{7}}, []byte{1, 0, 8, 7, 6, 5, 4, 3, 2, 1, 254, 255, 255, 255, 255, 255, 255, 255}},
		{api.Cmd{Do: 3, Local: true, ID: id, Comp: 258, Data: []byte{7}}, []byte{3, 1, 8, 7, 6, 5, 4, 3, 2, 1, 2, 1, 0, 0, 0, 0, 0, 0}},
		{api.Cmd{Do: 3, ID: id, Comp: -1, Data: []byte{7}}, []byte{3, 0, 8, 7, 6, 5, 4, 3, 2, 1, 254, 255, 255, 255, 255, 255, 255, 255, 255, 255, 255, 255, 255, 255, 255, 255}},
		{api.Cmd{Do: 2, Local: true, ID: id, Comp: 3}, []byte{2, 1, 8, 7, 6, 5, 4, 3, 2, 1, 3, 0, 0, 0, 0, 0, 0, 0, 0, 0}},
		{api.Cmd{Do: 2, Local: true, ID: id, Comp: 3, Data: []byte{5, 0}}, []byte{2, 1, 8, 7, 6, 5, 4, 3, 2, 1, 3, 0, 0, 0, 0, 0, 0, 0, 2, 0, 5, 0}},
		{api.Cmd{Do: 2, ID: id, Comp: math.MinInt, Data: []byte{5, 6, 7}}, []byte{2, 0, 8, 7, 6, 5, 4, 3, 2, 1, 254, 255, 255, 255, 255, 255, 255, 255, 0, 0, 0, 0, 0, 0, 0, 128, 3, 0, 5, 6, 7}},
		{full(4, true), []byte{255}},
		{full(-1, false), []byte{255}},
		{api.Cmd{Do: 255}, []byte{255}},
		{api.Cmd{Do: 256}, []byte{255}},
	} {
		for _, b := range fills() {
			if got := cmd.Put(b, c.x); !bytes.Equal(got, slices.Concat(b, c.want)) {
				t.Errorf("Put(%s, %s) = %v", brief(b), said(c.x), got)
			}
		}
	}
}

func TestPutOfEachNumber(t *testing.T) {
	for _, x := range slices.Concat(some(), small()) {
		for _, b := range [][]byte{nil, {3, 1}} {
			if got, want := cmd.Put(b, x), slices.Concat(b, row(x)); !bytes.Equal(got, want) {
				t.Errorf("Put of %s = %v, not %v", said(x), got, want)
			}
		}
		if !bytes.Equal(cmd.Put(nil, x), cmd.Put(nil, cmd.Plain(x))) {
			t.Errorf("Put of %s is not that of its Plain", said(x))
		}
	}
}

func TestPutOfOtherDos(t *testing.T) {
	for _, do := range others {
		for _, x := range []api.Cmd{{Do: do}, full(do, false), full(do, true), {Do: do, Data: data(1 << 17)}} {
			for _, b := range fills() {
				if got := cmd.Put(b, x); !bytes.Equal(got, append(bytes.Clone(b), 255)) {
					t.Errorf("Put(%s, Do %d) = %s", brief(b), do, brief(got))
				}
			}
		}
	}
}

func TestPutOfData(t *testing.T) {
	var longs []int
	for n := range 70 {
		longs = append(longs, n)
	}
	longs = append(longs, 127, 128, 255, 256, 257, 258, 300, 511, 512, 1000, 1<<16-2, 1<<16-1, 1<<16, 1<<16+1, 1<<16+64, 1<<17+300, 1<<20)
	for _, long := range longs {
		for _, local := range []bool{false, true} {
			x := full(api.DoSet, local)
			x.Data = data(long)
			if got := cmd.Put([]byte{9}, x); !bytes.Equal(got, append([]byte{9}, row(x)...)) {
				t.Errorf("Put of a set of %d bytes, Local %v: %d bytes, or others", long, local, len(got))
			}
			for _, do := range []int{api.DoSpawn, api.DoDespawn, api.DoRemove} {
				bare := full(do, local)
				bare.Data = nil
				x.Do = do
				if !bytes.Equal(cmd.Put(nil, x), cmd.Put(nil, bare)) {
					t.Errorf("Put of Do %d tells its data of %d bytes", do, long)
				}
			}
		}
	}
}

// P13.3

// places: those from 0 to n, and many that are not.
func places(n int) []int {
	l := []int{math.MinInt, math.MinInt + 1, -1 << 32, -93, -92, -91, -2, -1, n + 1, n + 2, n + 90, n + 92, n + 93, 1 << 16, 1 << 32, math.MaxInt - 93, math.MaxInt - 92, math.MaxInt - 1, math.MaxInt}
	for at := range n + 1 {
		l = append(l, at)
	}
	return l
}

// answer: what a call of Get tells.
type answer struct {
	x    api.Cmd
	next int
	e    api.Errno
}

func (a answer) String() string {
	return fmt.Sprintf("%s, %d, %d", said(a.x), a.next, a.e)
}

// got: what Get tells.
func got(b []byte, at int) answer {
	x, next, e := cmd.Get(b, at)
	return answer{x, next, e}
}

// number: the number that these bytes are.
func number(b []byte) int {
	n := 0
	for i, x := range b {
		n |= int(x) << (8 * i)
	}
	return n
}

// meant: what is meant by Get, from the left on, where at is a place of b.
func meant(b []byte, at int) answer {
	next := at
	cut := func(width int) []byte {
		if next < 0 || width > len(b)-next {
			next = -1
			return nil
		}
		next += width
		return b[next-width : next]
	}
	short := answer{e: api.ErrShort}
	var x api.Cmd
	do := cut(1)
	if next < 0 {
		return short
	}
	if x.Do = int(do[0]); x.Do > 3 {
		return answer{e: api.ErrForm}
	}
	if x.Do != api.DoSpawn {
		local := cut(1)
		if next < 0 {
			return short
		}
		if local[0] != 0 && local[0] != 1 {
			return answer{e: api.ErrForm}
		}
		x.Local = local[0] == 1
		if x.ID.Index = number(cut(8)); !x.Local {
			x.ID.Gen = number(cut(8))
		}
	}
	if x.Do == api.DoSet || x.Do == api.DoRemove {
		x.Comp = number(cut(8))
	}
	if x.Do == api.DoSet {
		long := number(cut(2))
		if next < 0 {
			return short
		}
		if long > 64 {
			return answer{e: api.ErrLong}
		}
		x.Data = cut(long)
	}
	if next < 0 {
		return short
	}
	return answer{x, next, api.OK}
}

// hold: is what Get tells at that place what is meant?
func hold(t *testing.T, b []byte, at int) {
	t.Helper()
	want := answer{e: api.ErrRange}
	if at >= 0 && at <= len(b) {
		want = meant(b, at)
	}
	if a := got(b, at); a.String() != want.String() || a.e != api.OK && a.x.Data != nil && len(a.x.Data) > 0 {
		t.Errorf("Get(%s, %d) = %s, not %s", brief(b), at, a, want)
	}
}

func TestGetAtEachPlace(t *testing.T) {
	var b []byte
	for _, do := range four {
		for _, local := range []bool{false, true} {
			b = append(b, row(full(do, local))...)
		}
	}
	for _, c := range [][]byte{nil, {}, {0}, {4}, {0, 0}, {1, 2, 3}, b, bytes.Repeat([]byte{0}, 300), bytes.Repeat([]byte{1}, 300), bytes.Repeat([]byte{2}, 300)} {
		for _, at := range places(len(c)) {
			hold(t, c, at)
		}
	}
}

func TestGetOutOfRange(t *testing.T) {
	for _, b := range [][]byte{nil, {}, {0}, {4, 4}, data(200), spare([]byte{0, 0})} {
		for _, at := range []int{math.MinInt, -2, -1, len(b) + 1, len(b) + 2, 1 << 40, math.MaxInt} {
			if a := got(b, at); a.String() != (answer{e: api.ErrRange}).String() {
				t.Errorf("Get(%s, %d) = %s", brief(b), at, a)
			}
		}
		if a := got(b, len(b)); a.String() != (answer{e: api.ErrShort}).String() {
			t.Errorf("Get(%s) at its end = %s", brief(b), a)
		}
	}
}

func TestGetOfBytesThatEndWithinIt(t *testing.T) {
	for _, do := range four {
		for _, local := range []bool{false, true} {
			for _, long := range []int{0, 1, 3, 63, 64} {
				x := full(do, local)
				x.Data = data(long)
				whole := row(x)
				for _, ahead := range [][]byte{nil, {7}, data(100)} {
					for end := range len(whole) {
						b := slices.Concat(ahead, whole[:end])
						for _, in := range [][]byte{b, spare(b), slices.Concat(ahead, whole)[:len(b)]} { // what follows in the spare room is not there
							if a := got(in, len(ahead)); a.String() != (answer{e: api.ErrShort}).String() {
								t.Errorf("Get of %d bytes of %d of %s = %s", end, len(whole), said(x), a)
							}
						}
					}
					want := answer{plain(x), len(ahead) + len(whole), api.OK}
					if a := got(slices.Concat(ahead, whole), len(ahead)); a.String() != want.String() {
						t.Errorf("Get of all bytes = %s, not %s", a, want)
					}
				}
			}
		}
	}
}

func TestGetOfEachFirstByte(t *testing.T) {
	for first := range 256 {
		for _, behind := range [][]byte{nil, {0}, {1}, {2}, {255}, make([]byte, 100), bytes.Repeat([]byte{1}, 100), bytes.Repeat([]byte{255}, 100)} {
			b := append([]byte{byte(first)}, behind...)
			hold(t, b, 0)
			if a := got(b, 0); first > 3 && a.String() != (answer{e: api.ErrForm}).String() {
				t.Errorf("Get of %d = %s", first, a)
			}
			if a := got(b, 0); first == 0 && a.String() != (answer{next: 1}).String() {
				t.Errorf("Get of a spawn, and %s = %s", brief(behind), a)
			}
		}
	}
}

func TestGetOfEachLocal(t *testing.T) {
	for _, do := range []int{api.DoDespawn, api.DoSet, api.DoRemove} {
		whole := row(full(do, false))
		for local := range 256 {
			for end := 2; end <= len(whole); end++ {
				b := bytes.Clone(whole[:end])
				b[1] = byte(local)
				hold(t, b, 0)
				if a := got(b, 0); local > 1 && a.String() != (answer{e: api.ErrForm}).String() {
					t.Errorf("Get of Do %d, Local %d, %d bytes = %s", do, local, end, a)
				}
			}
		}
	}
}

func TestGetOfEachLength(t *testing.T) {
	for _, local := range []bool{false, true} {
		x := plain(full(api.DoSet, local))
		x.Data = nil
		front := row(x)
		front = front[:len(front)-2]
		longs := []int{127, 128, 129, 191, 192, 255, 256, 257, 256 + 64, 256 + 65, 512, 1 << 14, 1 << 15, 1<<15 + 64, 1<<16 - 257, 1<<16 - 256, 1<<16 - 2, 1<<16 - 1}
		for n := range 80 {
			longs = append(longs, n)
		}
		for _, long := range longs {
			if b := append(bytes.Clone(front), byte(long)); got(b, 0).String() != (answer{e: api.ErrShort}).String() {
				t.Errorf("half of a length of %d: %s", long, got(b, 0))
			}
			head := append(bytes.Clone(front), byte(long), byte(long>>8))
			for _, there := range []int{0, 1, max(long-1, 0), long, long + 1, long + 100} {
				b := append(bytes.Clone(head), data(there)...)
				want := answer{x, len(head) + long, api.OK}
				want.x.Data = data(long)
				switch {
				case long > 64:
					want = answer{e: api.ErrLong}
				case long > there:
					want = answer{e: api.ErrShort}
				}
				if a := got(b, 0); a.String() != want.String() {
					t.Errorf("a length of %d, %d bytes there: %s, not %s", long, there, brief(a), brief(want))
				}
			}
		}
	}
}

func TestGetTellsTheFirstFromTheLeft(t *testing.T) {
	set := row(full(api.DoSet, false)) // 0 Do, 1 Local, 2 Index, 10 Gen, 18 Comp, 26 how long, 28 data
	with := func(n int, at ...int) []byte {
		b := bytes.Clone(set)
		for _, i := range at {
			b[i] = 200
		}
		return b[:n]
	}
	for _, c := range []struct {
		b    []byte
		want api.Errno
	}{
		{with(0, 0), api.ErrShort},
		{with(1, 0), api.ErrForm},
		{with(2, 0, 1), api.ErrForm},
		{with(1, 1), api.ErrShort},
		{with(2, 1), api.ErrForm},
		{with(9, 1), api.ErrForm},
		{with(27, 1, 26), api.ErrForm},
		{with(31, 1, 26), api.ErrForm},
		{with(26, 26), api.ErrShort},
		{with(27, 26), api.ErrShort},
		{with(28, 26), api.ErrLong},
		{with(30, 26), api.ErrLong},
		{with(28, 27), api.ErrLong},
		{with(31, 26, 27), api.ErrLong},
		{with(30), api.ErrShort},
		{with(31), api.OK},
		{with(31, 2, 9, 10, 17, 18, 25), api.OK},
	} {
		if a := got(c.b, 0); a.e != c.want || c.want != api.OK && a.String() != (answer{e: c.want}).String() {
			t.Errorf("Get of %v = %s, not %d", c.b, a, c.want)
		}
	}
}

func TestGetOfMixedBytes(t *testing.T) {
	c := chance(1)
	for range 60000 {
		b := make([]byte, c.below(130))
		for i := range b {
			b[i] = byte(c.below([]int{2, 4, 6, 256}[c.below(4)]))
		}
		at := c.below(len(b) + 1)
		if c.below(2) == 0 { // else few would be a set that is whole
			whole := row(api.Cmd{Do: c.below(4), Local: c.below(2) == 0, ID: api.ID{Index: int(c), Gen: -int(c)}, Comp: c.below(99), Data: data(c.below(67))})
			whole[c.below(len(whole))] = byte(c.below(256))
			b = slices.Concat(b[:at], whole[:len(whole)-c.below(2)*c.below(len(whole))], b[at:])
		}
		hold(t, b, at)
	}
}

func TestGetOfAllShortBytes(t *testing.T) {
	values := []byte{0, 1, 2, 3, 4, 255}
	for long := range 5 {
		for n := range int(math.Pow(6, float64(long))) {
			b := make([]byte, long)
			for i := range b {
				b[i] = values[n%6]
				n /= 6
			}
			for at := -1; at <= long+1; at++ {
				hold(t, b, at)
			}
		}
	}
}

func TestManyCommandsOneBehindTheOther(t *testing.T) {
	var b []byte
	var ends []int
	l := some()
	for _, x := range l {
		b = cmd.Put(b, x)
		ends = append(ends, len(b))
	}
	at := 0
	for i, x := range l {
		want := answer{plain(x), ends[i], api.OK}
		a := got(b, at)
		if a.String() != want.String() {
			t.Fatalf("command %d at %d = %s, not %s", i, at, a, want)
		}
		at = a.next
	}
	if a := got(b, at); at != len(b) || a.String() != (answer{e: api.ErrShort}).String() {
		t.Errorf("behind the last one, at %d of %d: %s", at, len(b), a)
	}
}

func TestGetGoesOverNoMoreThanTheCommand(t *testing.T) {
	b := make([]byte, 1<<20) // so many spawns: looking at all that follows, each time, would not end soon
	at, e := 0, api.OK
	for e == api.OK {
		next := 0
		if _, next, e = cmd.Get(b, at); e == api.OK && next != at+1 {
			t.Fatal(at, next)
		} else if e == api.OK {
			at = next
		}
	}
	if at != len(b) || e != api.ErrShort {
		t.Error(at, e)
	}
}

// P13.4

func TestGetOfPutIsPlain(t *testing.T) {
	for _, x := range slices.Concat(some(), small()) {
		if cmd.Check(x) != api.OK {
			continue
		}
		for _, ahead := range [][]byte{nil, {0}, {255, 255}, data(93)} {
			for _, behind := range [][]byte{nil, {0}, {255}, data(93)} {
				b := cmd.Put(ahead, x)
				long := len(b)
				y, next, e := cmd.Get(append(b, behind...), len(ahead))
				if said(y) != said(cmd.Plain(x)) || !cmd.Same(x, y) || next != long || e != api.OK {
					t.Fatalf("Get of Put of %s = %s, %d, %d", said(x), said(y), next, e)
				}
			}
		}
	}
}

func TestGetOfPutOfWhatMayNotBe(t *testing.T) {
	for _, do := range others {
		if a := got(cmd.Put([]byte{1}, full(do, false)), 1); a.String() != (answer{e: api.ErrForm}).String() {
			t.Errorf("Get of Put of Do %d = %s", do, a)
		}
	}
	for _, long := range []int{65, 66, 255, 256, 1<<16 - 1, 1<<16 + 65} {
		if a := got(cmd.Put(nil, api.Cmd{Do: api.DoSet, Data: data(long)}), 0); a.String() != (answer{e: api.ErrLong}).String() {
			t.Errorf("Get of Put of %d bytes = %s", long, a)
		}
	}
}

func TestBytesThatAreGotAreThoseThatArePut(t *testing.T) {
	c := chance(7)
	found := [4]int{}
	for range 60000 {
		b := make([]byte, 100)
		for i := range b {
			b[i] = byte(c.below([]int{2, 4, 256}[c.below(3)]))
		}
		x, next, e := cmd.Get(b, 1)
		if e != api.OK {
			continue
		}
		found[x.Do]++
		if !bytes.Equal(cmd.Put(b[:1], x), b[:next]) || cmd.Check(x) != api.OK || said(cmd.Plain(x)) != said(x) {
			t.Fatalf("Put of what is got of %v = %v", b, cmd.Put(b[:1], x))
		}
	}
	for do, n := range found {
		if n < 100 {
			t.Errorf("only %d of Do %d were found", n, do)
		}
	}
}

// What is handed in, and new memory.

func TestWhatIsHandedInStays(t *testing.T) {
	for _, do := range slices.Concat(four, others) {
		for _, local := range []bool{false, true} {
			for _, long := range []int{0, 1, 64, 65} {
				x, y := full(do, local), full(do, local)
				x.Data, y.Data = spare(data(long)), spare(data(long))
				before := said(x)
				in := spare([]byte{5, 6})
				cmd.Check(x)
				cmd.Plain(x)
				cmd.Same(x, y)
				cmd.Put(in, x)
				b := spare(row(y))
				cmd.Get(b, 0)
				if said(x) != before || said(y) != before || !untouched(x.Data, data(long)) || !untouched(y.Data, data(long)) {
					t.Errorf("%s, of %s, was changed", said(x), before)
				}
				if !untouched(in, []byte{5, 6}) || !untouched(b, row(y)) {
					t.Errorf("%s: bytes that were handed in were changed", before)
				}
			}
		}
	}
}

func TestPlainIsNewMemory(t *testing.T) {
	for _, do := range slices.Concat(four, others) {
		for _, long := range []int{0, 1, 64, 65} {
			x := full(do, false)
			x.Data = spare(data(long))
			p := cmd.Plain(x)
			overwrite(p.Data, 0x55)
			if !untouched(x.Data, data(long)) {
				t.Errorf("Plain of Do %d hands out its argument's data", do)
			}
			p = cmd.Plain(x)
			before := said(p)
			overwrite(x.Data, 0x77)
			if said(p) != before {
				t.Errorf("Plain of Do %d keeps its argument's data", do)
			}
		}
	}
}

func TestPutIsNewMemory(t *testing.T) {
	for _, do := range []int{0, 1, 2, 3, 4, -1} {
		for _, ahead := range [][]byte{nil, {5, 6}} {
			for _, long := range []int{0, 3, 64} {
				x := full(do, false)
				x.Data = spare(data(long))
				in := spare(ahead)
				out := cmd.Put(in, x)
				before := bytes.Clone(out)
				overwrite(in, 0x77)
				overwrite(x.Data, 0x77)
				if !bytes.Equal(out, before) {
					t.Errorf("Put of Do %d shares its answer with its arguments", do)
				}
				x.Data, in = spare(data(long)), spare(ahead)
				overwrite(cmd.Put(in, x), 0x55)
				if !untouched(in, ahead) || !untouched(x.Data, data(long)) {
					t.Errorf("Put of Do %d hands out memory of its arguments", do)
				}
				if again := cmd.Put(spare(ahead), full(do, false)); !bytes.Equal(again, slices.Concat(ahead, row(full(do, false)))) {
					t.Errorf("Put of Do %d hands out what later answers hang on: %v", do, again)
				}
			}
		}
	}
}

func TestGetIsNewMemory(t *testing.T) {
	for _, long := range []int{0, 1, 64} {
		x := plain(full(api.DoSet, true))
		x.Data = data(long)
		whole := row(x)
		for _, behind := range [][]byte{nil, {1, 2, 3}} {
			in := spare(slices.Concat(whole, behind))
			y, _, _ := cmd.Get(in, 0)
			overwrite(y.Data, 0x55)
			if !untouched(in, slices.Concat(whole, behind)) {
				t.Errorf("Get of %d bytes of data hands out its argument's", long)
			}
			y, _, _ = cmd.Get(in, 0)
			overwrite(in, 0x77)
			if said(y) != said(x) {
				t.Errorf("Get of %d bytes of data keeps its argument's", long)
			}
		}
	}
}

func TestAnswersHangOnArgumentsAlone(t *testing.T) {
	for _, x := range some() {
		if said(cmd.Plain(x)) != said(cmd.Plain(x)) || !bytes.Equal(cmd.Put(nil, x), cmd.Put([]byte{}, x)) || got(row(x), 0).String() != got(spare(row(x)), 0).String() {
			t.Errorf("%s: two answers", said(x))
		}
	}
}
