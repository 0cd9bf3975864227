package command_test

import (
	"bytes"
	"encoding/hex"
	"errors"
	"math"
	"math/big"
	"math/rand"
	"reflect"
	"slices"
	"strings"
	"testing"

	"quayside/api"
	"quayside/command"
	"quayside/schema"
)

// edges are the ends of what an int can be, and numbers whose low bits alone are in place.
var edges = []int{
	math.MinInt, math.MinInt + 1, math.MinInt + 2, -1 << 32, -1<<32 + 1, -256, -255, -16, -3,
	255, 256, 1<<8 + 1, 1<<16 + 1, 1<<31 + 1, 1 << 32, 1<<32 + 1, 1 << 62, math.MaxInt - 1, math.MaxInt,
}

// values are the edges, and all small numbers.
func values() []int {
	list := slices.Clone(edges)
	for n := -2; n < 20; n++ {
		list = append(list, n)
	}
	return list
}

// fromHex returns the bytes that are written out, with blanks between them.
func fromHex(t *testing.T, s string) []byte {
	t.Helper()
	b, err := hex.DecodeString(strings.ReplaceAll(s, " ", ""))
	if err != nil {
		t.Fatal(err)
	}
	return b
}

// number returns the encoding of n by chapter 1's definition: the absolute value comes from numbers that have no end.
func number(n int) []byte {
	abs := new(big.Int).Abs(big.NewInt(int64(n))).Bytes()
	head := byte(len(abs))
	if n < 0 {
		head += 16
	}
	return append([]byte{head}, abs...)
}

// joined returns the encodings of numbers one after the other.
func joined(list ...int) []byte {
	var b []byte
	for _, n := range list {
		b = append(b, number(n)...)
	}
	return b
}

// encoding returns the bytes of c by P8.3's words.
func encoding(c api.Command) []byte {
	return slices.Concat(number(c.Type), number(c.Agg), number(c.Field), number(c.Op), number(c.Arg), number(c.Expect), number(c.Key))
}

// of returns the command with these numbers, in the order of P8.3.
func of(n [7]int) api.Command {
	return api.Command{Type: n[0], Agg: n[1], Field: n[2], Op: n[3], Arg: n[4], Expect: n[5], Key: n[6]}
}

// names are the names of the numbers, in the order of P8.3.
var names = [7]string{"Type", "Agg", "Field", "Op", "Arg", "Expect", "Key"}

// declared returns declarations of two types: the first one with a field of each kind, its machine with three moves, the second one with a register alone.
func declared() api.Decl {
	return api.Decl{
		Types: []api.Type{
			{Fields: []api.Field{
				{Kind: api.FCounter, Policy: api.PLast, Floor: true},
				{Kind: api.FRegister, Policy: api.PMax},
				{Kind: api.FSet, Policy: api.PFirst},
				{Kind: api.FMachine, Policy: api.PFirst, Moves: []api.Move{{From: 0, To: 1, Need: 0, Least: 2}, {From: 1, To: 2, Need: -1}, {From: 2, To: 0, Need: -1}}},
			}},
			{Fields: []api.Field{{Kind: api.FRegister, Policy: api.PLast}}},
		},
		Projs: []api.Proj{{Type: 0, Field: 0, Group: api.GAgg, Make: api.MSum}},
	}
}

// cloneDecl returns a copy of d that shares no memory with it.
func cloneDecl(d api.Decl) api.Decl {
	d.Types, d.Projs = slices.Clone(d.Types), slices.Clone(d.Projs)
	for i := range d.Types {
		fields := slices.Clone(d.Types[i].Fields)
		for j := range fields {
			fields[j].Moves = slices.Clone(fields[j].Moves)
		}
		d.Types[i].Fields = fields
	}
	return d
}

// requests are commands of which nothing is wrong with declared, one of each operation, and more.
func requests() []api.Command {
	return []api.Command{
		{Field: 0, Op: api.OInc, Arg: 1, Expect: -1},
		{Agg: 3, Field: 0, Op: api.OInc, Arg: -5, Expect: 0, Key: 9},
		{Agg: math.MaxInt, Field: 0, Op: api.OInc, Arg: math.MinInt, Expect: math.MaxInt, Key: math.MaxInt},
		{Agg: 1, Field: 1, Op: api.OSet, Arg: 0, Expect: 4, Key: 1},
		{Agg: 1, Field: 1, Op: api.OSet, Arg: math.MaxInt, Expect: -1},
		{Agg: 2, Field: 2, Op: api.OAdd, Arg: 0, Expect: 1, Key: 2},
		{Agg: 2, Field: 2, Op: api.ORemove, Arg: -7, Expect: -1, Key: 3},
		{Agg: 4, Field: 3, Op: api.OMove, Arg: 0, Expect: 0},
		{Agg: 4, Field: 3, Op: api.OMove, Arg: 2, Expect: -1, Key: 5},
		{Type: 1, Agg: 6, Field: 0, Op: api.OSet, Arg: -1, Expect: -1, Key: 8},
	}
}

// fits tells what P6.3 says, word by word.
func fits(d api.Decl, typ, field, op, arg int) api.Errno {
	for i, t := range d.Types {
		for j, f := range t.Fields {
			if i != typ || j != field {
				continue
			}
			kinds := map[int]int{api.OInc: api.FCounter, api.OSet: api.FRegister, api.OAdd: api.FSet, api.ORemove: api.FSet, api.OMove: api.FMachine}
			if kind, ok := kinds[op]; !ok || f.Kind != kind {
				return api.ErrKind
			}
			if op == api.OInc && arg == 0 {
				return api.ErrArg
			}
			if op == api.OMove && (arg < 0 || arg >= len(f.Moves)) {
				return api.ErrArg
			}
			return api.OK
		}
	}
	return api.ErrField
}

// checked tells what P8.1 says, word by word.
func checked(d api.Decl, c api.Command) api.Errno {
	if c.Agg >= 0 && c.Key >= 0 && c.Expect >= -1 {
		return fits(d, c.Type, c.Field, c.Op, c.Arg)
	}
	return api.ErrArg
}

// wantCheck asks for an answer of Check.
func wantCheck(t *testing.T, what string, d api.Decl, c api.Command, want api.Errno) {
	t.Helper()
	if got := command.Check(d, c); got != want {
		t.Errorf("%s: Check of %+v = %d, want %d", what, c, got, want)
	}
}

// P8.1: nothing is wrong with commands of each operation.
func TestCheckOfGoodCommands(t *testing.T) {
	if e := schema.Check(declared()); e != api.OK {
		t.Fatalf("the declarations are wrong: %d", e)
	}
	for _, c := range requests() {
		wantCheck(t, "a good command", declared(), c, api.OK)
	}
}

// P8.1: Agg and Key are 0 or greater, and Expect is -1 or greater, up to the greatest int.
func TestCheckOfNumbersThatStandAlone(t *testing.T) {
	for _, x := range []struct {
		name  string
		at    func(c *api.Command) *int
		least int
	}{
		{"Agg", func(c *api.Command) *int { return &c.Agg }, 0},
		{"Key", func(c *api.Command) *int { return &c.Key }, 0},
		{"Expect", func(c *api.Command) *int { return &c.Expect }, -1},
	} {
		for _, c := range requests() {
			for _, n := range values() {
				*x.at(&c) = n
				want := api.OK
				if n < x.least {
					want = api.ErrArg
				}
				wantCheck(t, x.name, declared(), c, want)
			}
		}
	}
}

// P8.1: of type, field, operation and argument it says what P6.3 says of them, and what schema.Fits returns.
func TestCheckIsWhatFitsReturns(t *testing.T) {
	met := map[api.Errno]int{}
	for _, d := range []api.Decl{declared(), {Types: declared().Types[1:]}} {
		for typ := -2; typ < 4; typ++ {
			for field := -2; field < 6; field++ {
				for op := -1; op < 8; op++ {
					for _, arg := range values() {
						c := api.Command{Type: typ, Agg: 1, Field: field, Op: op, Arg: arg, Expect: 2, Key: 3}
						want := fits(d, typ, field, op, arg)
						met[want]++
						wantCheck(t, "a request", d, c, want)
						if got := schema.Fits(d, typ, field, op, arg); got != want {
							t.Errorf("Fits of %+v = %d, want %d", c, got, want)
						}
					}
				}
			}
		}
	}
	for _, e := range []api.Errno{api.OK, api.ErrField, api.ErrKind, api.ErrArg} {
		if met[e] == 0 {
			t.Errorf("the answer %d was not met", e)
		}
	}
}

// P8.1: each of the numbers of a good command at the ends of what an int can be, and about 0.
func TestCheckOfEachNumber(t *testing.T) {
	for _, c := range requests() {
		for place := range names {
			for _, n := range values() {
				changed := [7]int{c.Type, c.Agg, c.Field, c.Op, c.Arg, c.Expect, c.Key}
				changed[place] = n
				wantCheck(t, names[place], declared(), of(changed), checked(declared(), of(changed)))
			}
		}
	}
}

// P8.1: each number on its own leads to its own error.
func TestCheckOfKnownFaults(t *testing.T) {
	good := api.Command{Agg: 1, Field: 3, Op: api.OMove, Arg: 2, Expect: 0, Key: 1}
	for _, x := range []struct {
		name string
		make func(c *api.Command)
		want api.Errno
	}{
		{"nothing", func(c *api.Command) {}, api.OK},
		{"Agg -1", func(c *api.Command) { c.Agg = -1 }, api.ErrArg},
		{"Key -1", func(c *api.Command) { c.Key = -1 }, api.ErrArg},
		{"Expect -1", func(c *api.Command) { c.Expect = -1 }, api.OK},
		{"Expect -2", func(c *api.Command) { c.Expect = -2 }, api.ErrArg},
		{"Type -1", func(c *api.Command) { c.Type = -1 }, api.ErrField},
		{"Type 1", func(c *api.Command) { c.Type = 1 }, api.ErrField},
		{"Type 2", func(c *api.Command) { c.Type = 2 }, api.ErrField},
		{"Field -1", func(c *api.Command) { c.Field = -1 }, api.ErrField},
		{"Field 4", func(c *api.Command) { c.Field = 4 }, api.ErrField},
		{"Field 2", func(c *api.Command) { c.Field = 2 }, api.ErrKind},
		{"Op 0", func(c *api.Command) { c.Op = 0 }, api.ErrKind},
		{"Op 6", func(c *api.Command) { c.Op = 6 }, api.ErrKind},
		{"Op OAdd", func(c *api.Command) { c.Op = api.OAdd }, api.ErrKind},
		{"Arg -1", func(c *api.Command) { c.Arg = -1 }, api.ErrArg},
		{"Arg 3", func(c *api.Command) { c.Arg = 3 }, api.ErrArg},
		{"an increment by 0", func(c *api.Command) { c.Field, c.Op, c.Arg = 0, api.OInc, 0 }, api.ErrArg},
	} {
		c := good
		x.make(&c)
		wantCheck(t, x.name, declared(), c, x.want)
	}
	for _, c := range requests() {
		wantCheck(t, "no declarations", api.Decl{}, c, api.ErrField)
		wantCheck(t, "no fields", api.Decl{Types: []api.Type{{}, {}}}, c, api.ErrField)
	}
	wantCheck(t, "the empty command", declared(), api.Command{}, api.ErrKind)
}

// P8.1: ErrArg of Agg, Key and Expect comes ahead of the errors of Fits, in all sets of faults.
func TestCheckTellsTheFirstError(t *testing.T) {
	faults := []struct {
		name string
		make func(c *api.Command)
		want api.Errno
	}{
		{"Agg below 0", func(c *api.Command) { c.Agg = -1 }, api.ErrArg},
		{"Key below 0", func(c *api.Command) { c.Key = -1 }, api.ErrArg},
		{"Expect below -1", func(c *api.Command) { c.Expect = -2 }, api.ErrArg},
		{"no such type", func(c *api.Command) { c.Type = 2 }, api.ErrField},
		{"no such field", func(c *api.Command) { c.Field = 4 }, api.ErrField},
		{"no such operation", func(c *api.Command) { c.Op = 9 }, api.ErrKind},
		{"no such move", func(c *api.Command) { c.Arg = 3 }, api.ErrArg},
	}
	for set := range 1 << len(faults) {
		c, want := api.Command{Field: 3, Op: api.OMove}, api.OK
		var all []string
		for i, f := range faults {
			if set>>i&1 == 0 {
				continue
			}
			f.make(&c)
			all = append(all, f.name)
			if want == api.OK {
				want = f.want
			}
		}
		wantCheck(t, strings.Join(all, ", "), declared(), c, want)
	}
}

// pick returns some number that is often small, and often about the edges.
func pick(random *rand.Rand) int {
	switch random.Intn(10) {
	case 0:
		return edges[random.Intn(len(edges))]
	case 1:
		return int(random.Uint64()) >> random.Intn(64)
	}
	return random.Intn(6) - 1
}

// madeUp returns some command.
func madeUp(random *rand.Rand) api.Command {
	var n [7]int
	for i := range n {
		n[i] = pick(random)
	}
	return of(n)
}

// P8.1: made-up commands, held against the chapter's words; each error is met.
func TestCheckOfMadeUpCommands(t *testing.T) {
	random := rand.New(rand.NewSource(8))
	met := map[api.Errno]int{}
	for range 100000 {
		c := madeUp(random)
		want := checked(declared(), c)
		met[want]++
		wantCheck(t, "made up", declared(), c, want)
	}
	for _, e := range []api.Errno{api.OK, api.ErrArg, api.ErrField, api.ErrKind} {
		if met[e] < 100 {
			t.Errorf("the answer %d was met %d times", e, met[e])
		}
	}
}

// requested returns the event that P8.2 says, word by word.
func requested(c api.Command, origin int, known []int, lamport int) (api.Event, api.Errno) {
	var e api.Event
	entry, index := 0, false
	for i, n := range known {
		e.Deps = append(e.Deps, max(n, 0))
		if i == origin {
			entry, index = max(n, 0), true
		}
	}
	if !index || lamport < 0 {
		return api.Event{}, api.ErrArg
	}
	if entry == 1<<63-1 || lamport == 1<<63-1 {
		return api.Event{}, api.ErrExhausted
	}
	e.Id.Origin, e.Id.Seq, e.Lamport = origin, entry+1, lamport+1
	e.Type, e.Agg, e.Field, e.Op, e.Arg, e.Key = c.Type, c.Agg, c.Field, c.Op, c.Arg, c.Key
	return e, api.OK
}

// sameEvent tells whether a and b are one event; that Deps is nil is as good as that it is empty.
func sameEvent(a, b api.Event) bool {
	if len(a.Deps) == 0 && len(b.Deps) == 0 {
		a.Deps, b.Deps = nil, nil
	}
	return reflect.DeepEqual(a, b)
}

// wantEvent asks for an answer of Event: an event, or an error and no event.
func wantEvent(t *testing.T, what string, c api.Command, origin int, known []int, lamport int, want api.Event, failed api.Errno) {
	t.Helper()
	got, e := command.Event(c, origin, known, lamport)
	if e != failed || !sameEvent(got, want) {
		t.Errorf("%s: Event of %+v, of the replica %d with %v and %d = %+v, error %d, want %+v, error %d", what, c, origin, known, lamport, got, e, want, failed)
	}
}

// wantNone asks for an error of Event, and for nothing else beside it.
func wantNone(t *testing.T, what string, origin int, known []int, lamport int, failed api.Errno) {
	t.Helper()
	for _, c := range []api.Command{{}, requests()[1], of([7]int{-1, -2, -3, -4, -5, -6, -7})} {
		wantEvent(t, what, c, origin, known, lamport, api.Event{}, failed)
	}
}

// wantNext asks Event for what P8.2 says.
func wantNext(t *testing.T, what string, c api.Command, origin int, known []int, lamport int) {
	t.Helper()
	want, failed := requested(c, origin, known, lamport)
	wantEvent(t, what, c, origin, known, lamport, want, failed)
}

// P8.2: the chapter's examples, and others that are written out.
func TestEventOfKnownCommands(t *testing.T) {
	// Each number is another one, so that none can change places with another.
	c := api.Command{Type: 21, Agg: 22, Field: 23, Op: 24, Arg: 25, Expect: 26, Key: 27}
	e := api.Event{Id: api.Id{Origin: 1, Seq: 8}, Lamport: 10, Deps: []int{4, 7}, Type: 21, Agg: 22, Field: 23, Op: 24, Arg: 25, Key: 27}
	wantEvent(t, "the chapter's example", c, 1, []int{4, 7}, 9, e, api.OK)
	wantNone(t, "the chapter's other example", 1, []int{4, 7}, math.MaxInt, api.ErrExhausted)

	e.Id, e.Lamport = api.Id{Origin: 0, Seq: 5}, 1
	wantEvent(t, "the other replica", c, 0, []int{4, 7}, 0, e, api.OK)
	e.Id, e.Lamport, e.Deps = api.Id{Origin: 0, Seq: 1}, 1, []int{0}
	wantEvent(t, "the first event of all", c, 0, []int{0}, 0, e, api.OK)
	e.Id, e.Lamport, e.Deps = api.Id{Origin: 2, Seq: 1}, 4, []int{0, 3, 0, 0}
	wantEvent(t, "entries below 0", c, 2, []int{-1, 3, math.MinInt, -9}, 3, e, api.OK)
	wantEvent(t, "the empty command", api.Command{}, 0, []int{5}, 5, api.Event{Id: api.Id{Origin: 0, Seq: 6}, Lamport: 6, Deps: []int{5}}, api.OK)
}

// P8.2: origin is an index of the vector, and there is none below 0 or behind the last one.
func TestEventOfEachOrigin(t *testing.T) {
	for size := range 70 {
		known := make([]int, size, size+3)
		for i := range known {
			known[i] = 100 + i
		}
		for origin := range size {
			wantNext(t, "an origin", requests()[1], origin, known, 7)
		}
		for _, origin := range append([]int{-1, -2, size, size + 1, -size, size + 2}, edges...) {
			if origin < 0 || origin >= size {
				wantNone(t, "no origin", origin, known, 7, api.ErrArg)
			}
		}
	}
	known := make([]int, 300)
	known[299] = 5
	wantNext(t, "many replicas", requests()[1], 299, known, 7)
	wantNone(t, "one more", 300, known, 7, api.ErrArg)
}

// P8.2: in a vector of no entry there is no origin.
func TestEventOfNoEntries(t *testing.T) {
	for _, known := range [][]int{nil, {}, []int{3, 4}[:0]} {
		for _, origin := range append([]int{-2, -1, 0, 1, 2}, edges...) {
			for _, lamport := range []int{-1, 0, 1, math.MaxInt} {
				wantNone(t, "no entries", origin, known, lamport, api.ErrArg)
			}
		}
	}
}

// P8.2: lamport is 0 or greater, and less than MaxNumber.
func TestEventOfEachLamport(t *testing.T) {
	for _, known := range [][]int{{0}, {-1}, {9, 4}, {math.MaxInt - 1, math.MaxInt}} {
		for _, lamport := range values() {
			switch {
			case lamport < 0:
				wantNone(t, "below 0", 0, known, lamport, api.ErrArg)
			case lamport == math.MaxInt:
				wantNone(t, "MaxNumber", 0, known, lamport, api.ErrExhausted)
			default:
				got, e := command.Event(api.Command{}, 0, known, lamport)
				if e != api.OK || got.Lamport != lamport+1 {
					t.Errorf("Event with %d has the number %d, error %d", lamport, got.Lamport, e)
				}
			}
			wantNext(t, "a lamport", requests()[3], 0, known, lamport)
		}
	}
}

// P8.2: the entry of origin: below 0 it counts as 0, and there is no number after MaxNumber.
func TestEventOfEachEntry(t *testing.T) {
	for _, n := range []int{1, 2, 3, 64} {
		for _, origin := range []int{0, n / 2, n - 1} {
			for _, entry := range values() {
				known := slices.Repeat([]int{6}, n)
				known[origin] = entry
				wantNext(t, "an entry of origin", requests()[4], origin, known, 7)
				if entry == math.MaxInt {
					wantNone(t, "MaxNumber", origin, known, 7, api.ErrExhausted)
					continue
				}
				e, failed := command.Event(requests()[4], origin, known, 7)
				if failed != api.OK || e.Seq != max(entry, 0)+1 || e.Deps[origin] != e.Seq-1 {
					t.Errorf("Event of the replica %d with %v = %+v, error %d", origin, known, e, failed)
				}
			}
		}
	}
}

// P8.2: the other entries may be what they want; below 0 they become 0.
func TestEventOfOtherEntries(t *testing.T) {
	for _, n := range []int{2, 3, 64} {
		for _, origin := range []int{0, n - 1} {
			for other := range n {
				for _, entry := range values() {
					if other == origin {
						continue
					}
					known := slices.Repeat([]int{6}, n)
					known[other] = entry
					e, failed := command.Event(requests()[5], origin, known, 7)
					if failed != api.OK || e.Seq != 7 || len(e.Deps) != n || e.Deps[other] != max(entry, 0) {
						t.Errorf("Event of the replica %d with %v = %+v, error %d", origin, known, e, failed)
					}
					wantNext(t, "another entry", requests()[5], origin, known, 7)
				}
			}
		}
	}
}

// P8.2: the entry of origin and lamport at their ends, alone and both at once; ErrArg comes ahead of ErrExhausted.
func TestEventTellsTheFirstError(t *testing.T) {
	const most = math.MaxInt
	ends := []int{math.MinInt, -2, -1, 0, 1, most - 1, most}
	for _, origin := range []int{-1, 0, 1, 2, 3, most, math.MinInt} {
		for _, entry := range ends {
			for _, other := range ends {
				for _, lamport := range ends {
					wantNext(t, "at the ends", requests()[6], origin, []int{other, entry}, lamport)
				}
			}
		}
	}
	for _, x := range []struct {
		name    string
		origin  int
		known   []int
		lamport int
		want    api.Errno
	}{
		{"the entry at its end", 0, []int{most, 3}, 5, api.ErrExhausted},
		{"the entry of another replica at its end", 1, []int{most, 3}, 5, api.OK},
		{"lamport at its end", 1, []int{4, 3}, most, api.ErrExhausted},
		{"both at their ends", 0, []int{most, 3}, most, api.ErrExhausted},
		{"the entry at its end, lamport below 0", 0, []int{most, 3}, -1, api.ErrArg},
		{"no origin, lamport at its end", 2, []int{most, 3}, most, api.ErrArg},
		{"an origin below 0, lamport at its end", -1, []int{most, 3}, most, api.ErrArg},
		{"no origin, lamport below 0", 2, []int{most, 3}, -1, api.ErrArg},
		{"one below the end", 0, []int{most - 1, 3}, most - 1, api.OK},
	} {
		if _, e := command.Event(requests()[6], x.origin, x.known, x.lamport); e != x.want {
			t.Errorf("%s: error %d, want %d", x.name, e, x.want)
		}
	}
}

// P8.2: Event checks nothing of the command: any int in any place is that of the event, and Expect is in none.
func TestEventHasTheNumbersOfTheCommand(t *testing.T) {
	for place := range names {
		for _, n := range values() {
			list := [7]int{31, 32, 33, 34, 35, 36, 37}
			list[place] = n
			c := of(list)
			e, failed := command.Event(c, 1, []int{4, 7, 1}, 9)
			want := api.Event{Id: api.Id{Origin: 1, Seq: 8}, Lamport: 10, Deps: []int{4, 7, 1}, Type: list[0], Agg: list[1], Field: list[2], Op: list[3], Arg: list[4], Key: list[6]}
			if failed != api.OK || !sameEvent(e, want) {
				t.Errorf("%s %d: Event = %+v, error %d, want %+v", names[place], n, e, failed, want)
			}
		}
	}
}

// P8.2: made-up commands and replicas, held against the chapter's words; each answer is met.
func TestEventOfMadeUpCommands(t *testing.T) {
	random := rand.New(rand.NewSource(82))
	met := map[api.Errno]int{}
	for range 100000 {
		known := make([]int, random.Intn(5))
		for i := range known {
			known[i] = pick(random)
		}
		c, origin, lamport := madeUp(random), random.Intn(6)-1, pick(random)
		_, failed := requested(c, origin, known, lamport)
		met[failed]++
		wantNext(t, "made up", c, origin, known, lamport)
	}
	for _, e := range []api.Errno{api.OK, api.ErrArg, api.ErrExhausted} {
		if met[e] < 100 {
			t.Errorf("the answer %d was met %d times", e, met[e])
		}
	}
}

// wantPut asks for the bytes of a command.
func wantPut(t *testing.T, c api.Command, want []byte) {
	t.Helper()
	if got := command.Put(c); !bytes.Equal(got, want) {
		t.Errorf("Put of %+v = % x, want % x", c, got, want)
	}
}

// wantGet asks for a command.
func wantGet(t *testing.T, b []byte, want api.Command) {
	t.Helper()
	if c, e := command.Get(b); e != api.OK || c != want {
		t.Errorf("Get of % x = %+v, error %d, want %+v", b, c, e, want)
	}
}

// wantError asks for an error of Get, and for nothing else beside it.
func wantError(t *testing.T, what string, b []byte, want api.Errno) {
	t.Helper()
	if c, e := command.Get(b); e != want || c != (api.Command{}) {
		t.Errorf("%s: Get of % x = %+v, error %d, want error %d", what, b, c, e, want)
	}
}

// both are commands and their bytes, written out.
var both = []struct {
	c    api.Command
	code string
}{
	{api.Command{}, "00 00 00 00 00 00 00"},
	// Each number is another one, so that none can change places with another.
	{api.Command{Type: 1, Agg: 2, Field: 3, Op: 4, Arg: 5, Expect: 6, Key: 7}, "0101 0102 0103 0104 0105 0106 0107"},
	{api.Command{Type: 0, Agg: 256, Field: 1, Op: api.OSet, Arg: -1, Expect: -1, Key: 0}, "00 020100 0101 0102 1101 1101 00"},
	// What Check would refuse is encoded, too.
	{
		api.Command{Type: -1, Agg: -256, Field: math.MinInt, Op: math.MaxInt, Arg: 1 << 32, Expect: -2, Key: -65535},
		"1101 120100 188000000000000000 087fffffffffffffff 050100000000 1102 12ffff",
	},
}

// P8.3: commands whose bytes are written out, in both directions.
func TestPutAndGetOfKnownCommands(t *testing.T) {
	for _, x := range both {
		wantPut(t, x.c, fromHex(t, x.code))
		wantGet(t, fromHex(t, x.code), x.c)
	}
}

// P8.3, P8.4: any int in any place is written there, and read from there.
func TestEachNumberInEachPlace(t *testing.T) {
	for place := range names {
		for _, n := range append(values(), 127, 128, 1<<31, math.MinInt+1<<32) {
			list := [7]int{41, 42, 43, 44, 45, 46, 47}
			list[place] = n
			code := joined(list[:]...)
			wantPut(t, of(list), code)
			wantGet(t, code, of(list))
			wantGet(t, command.Put(of(list)), of(list))
		}
	}
}

// P8.3: nil and empty bytes are too short, also where there are bytes behind the end of the slice.
func TestGetOfNoBytes(t *testing.T) {
	wantError(t, "nil", nil, api.ErrShort)
	wantError(t, "no bytes", []byte{}, api.ErrShort)
	wantError(t, "no bytes, more behind them", make([]byte, 10)[:0], api.ErrShort)
}

// samples are commands of many kinds: good ones, wrong ones, those at the ends.
func samples() []api.Command {
	list := append(requests(), api.Command{})
	for _, x := range both {
		list = append(list, x.c)
	}
	for _, n := range edges {
		list = append(list, of([7]int{n, n, n, n, n, n, n}))
	}
	random := rand.New(rand.NewSource(83))
	for range 20 {
		list = append(list, madeUp(random))
	}
	return list
}

// P8.3: bytes that are cut off anywhere are too short, whatever lies behind the length of the slice.
func TestGetOfBytesThatAreCutOff(t *testing.T) {
	for _, c := range samples() {
		code := encoding(c)
		for cut := range len(code) {
			wantError(t, "cut off", code[:cut], api.ErrShort)
			wantError(t, "cut off, nothing behind", code[:cut:cut], api.ErrShort)
		}
	}
}

// P8.3: bytes that are left are too many, whatever they are.
func TestGetOfBytesThatAreLeft(t *testing.T) {
	for _, c := range samples() {
		code := encoding(c)
		for x := range 256 {
			wantError(t, "a byte too many", append(slices.Clone(code), byte(x)), api.ErrLong)
		}
		wantError(t, "an eighth number", append(slices.Clone(code), 1, 1), api.ErrLong)
		wantError(t, "the command twice", append(slices.Clone(code), code...), api.ErrLong)
	}
}

// wrong are the bytes of no number, whatever follows them; all of them are told by ErrLong.
var wrong = []string{
	"01 00", "02 00 05", "11 00", "08 00 ff ff ff ff ff ff ff", "18 00 ff ff ff ff ff ff ff",
	"08 80 00 00 00 00 00 00 00", "18 80 00 00 00 00 00 00 01", "08 ff ff ff ff ff ff ff ff",
	"09", "09 01 01 01 01 01 01 01 01 01", "0f", "10", "19", "20", "80", "ff",
}

// cut are the bytes of no number if nothing follows them; all of them are told by ErrShort.
var cut = []string{"", "01", "02 01", "02 00", "11", "08 80 00 00 00 00 00 00", "18 80 00 00 00 00 00 00"}

// P8.3: each error of Int in each of the seven places, with all of the numbers behind it, and none, and a byte too many.
func TestGetOfWrongNumbersInEachPlace(t *testing.T) {
	for _, list := range [][]int{{0, 0, 0, 0, 0, 0, 0}, {1, 2, 3, 4, 5, 6, 7}, {-1, 256, 0, math.MaxInt, math.MinInt, -1, 9}} {
		for place := range names {
			begin, end := joined(list[:place]...), joined(list[place+1:]...)
			for _, x := range wrong {
				b := slices.Concat(begin, fromHex(t, x), end)
				wantError(t, names[place], b, api.ErrLong)
				wantError(t, names[place], append(b, 0), api.ErrLong)
				wantError(t, names[place], slices.Concat(begin, fromHex(t, x)), api.ErrLong)
			}
			for _, x := range cut {
				wantError(t, names[place], slices.Concat(begin, fromHex(t, x)), api.ErrShort)
			}
		}
	}
}

// P8.3: of two errors that of the first number is told, in all pairs of places; one of both is at the end of the bytes.
func TestGetTellsTheFirstError(t *testing.T) {
	list := []int{1, 2, 3, 4, 5, 6, 7}
	for first := range names {
		for second := first + 1; second < len(names); second++ {
			begin, middle := joined(list[:first]...), joined(list[first+1:second]...)
			for _, x := range wrong {
				for _, y := range cut {
					wantError(t, "wrong, then cut off", slices.Concat(begin, fromHex(t, x), middle, fromHex(t, y)), api.ErrLong)
				}
			}
		}
		// A number that is cut off takes the head of the next one for its own: the end is what it meets, or a wrong form.
		begin := joined(list[:first]...)
		wantError(t, "cut off ahead of a wrong head", slices.Concat(begin, fromHex(t, "02 09")), api.ErrShort)
		wantError(t, "a leading 00 that is cut off", slices.Concat(begin, fromHex(t, "03 00 01")), api.ErrShort)
		wantError(t, "too great, and cut off", slices.Concat(begin, fromHex(t, "08 ff ff ff ff ff ff ff")), api.ErrShort)
		wantError(t, "no head, and cut off", slices.Concat(begin, fromHex(t, "09 01")), api.ErrLong)
	}
	// A number in a wrong form, and then a byte that is left: the reader doesn't tell the one for the other.
	wantError(t, "the last number cut off, ahead of it a wrong one", fromHex(t, "0101 0102 0103 0104 0105 0100 02 01"), api.ErrLong)
	wantError(t, "six numbers", fromHex(t, "0101 0102 0103 0104 0105 0106"), api.ErrShort)
	wantError(t, "eight numbers", fromHex(t, "0101 0102 0103 0104 0105 0106 0107 00"), api.ErrLong)
	wantError(t, "eight numbers, the last one wrong", fromHex(t, "0101 0102 0103 0104 0105 0106 0107 02"), api.ErrLong)
}

// P8.4: Get of what Put returned is the command.
func TestGetFollowsPut(t *testing.T) {
	random := rand.New(rand.NewSource(84))
	list := samples()
	for range 20000 {
		list = append(list, madeUp(random))
	}
	for _, c := range list {
		code := command.Put(c)
		if !bytes.Equal(code, encoding(c)) {
			t.Fatalf("Put of %+v = % x, want % x", c, code, encoding(c))
		}
		wantGet(t, code, c)
	}
}

// decoded reads a command by the chapters' words, by numbers that have no end.
func decoded(b []byte) (api.Command, api.Errno) {
	var list [7]int
	for i := range list {
		if len(b) == 0 {
			return api.Command{}, api.ErrShort
		}
		size := int(b[0])
		if size >= 17 {
			size -= 16
		}
		if size > 8 {
			return api.Command{}, api.ErrLong
		}
		if len(b)-1 < size {
			return api.Command{}, api.ErrShort
		}
		n := new(big.Int).SetBytes(b[1 : 1+size])
		if b[0] >= 17 {
			n.Neg(n)
		}
		if size > 0 && b[1] == 0 || !n.IsInt64() {
			return api.Command{}, api.ErrLong
		}
		list[i], b = int(n.Int64()), b[1+size:]
	}
	if len(b) > 0 {
		return api.Command{}, api.ErrLong
	}
	return of(list), api.OK
}

// holdRoundTrip holds Get and Put against one another, and against the chapters, for any bytes: those of a command are its encoding, and no others are.
func holdRoundTrip(b []byte) (api.Errno, error) {
	c, failed := command.Get(b)
	if want, e := decoded(b); c != want || failed != e {
		return failed, errors.New("Get returns something else")
	}
	if failed == api.OK && (!bytes.Equal(command.Put(c), b) || !bytes.Equal(encoding(c), b)) {
		return failed, errors.New("Put returns other bytes")
	}
	return failed, nil
}

// P8.3, P8.4: Put of what Get returned are the bytes: changed encodings, and bytes that are made up; each answer is met.
func TestPutFollowsGet(t *testing.T) {
	random := rand.New(rand.NewSource(85))
	met := map[api.Errno]int{}
	for range 100000 {
		b := encoding(madeUp(random))
		switch random.Intn(3) {
		case 0:
			b[random.Intn(len(b))] = byte(random.Intn(27))
		case 1:
			b = make([]byte, random.Intn(16))
			for i := range b {
				b[i] = byte(random.Intn(3))
			}
		}
		failed, err := holdRoundTrip(b)
		if err != nil {
			t.Fatalf("% x: error %d: %v", b, failed, err)
		}
		met[failed]++
	}
	for _, e := range []api.Errno{api.OK, api.ErrShort, api.ErrLong} {
		if met[e] < 1000 {
			t.Errorf("the answer %d was met %d times", e, met[e])
		}
	}
}

// P8.3, P8.4: all strings of up to nine bytes that are 00, 01 or 11, most of them commands about 0 or cut off.
func TestGetOfAllShortStrings(t *testing.T) {
	alphabet := []byte{0x00, 0x01, 0x11}
	count := 1
	for size := range 10 {
		for which := range count {
			b := make([]byte, size)
			for i, rest := 0, which; i < size; i++ {
				b[i], rest = alphabet[rest%3], rest/3
			}
			if failed, err := holdRoundTrip(b); err != nil {
				t.Fatalf("% x: error %d: %v", b, failed, err)
			}
		}
		count *= 3
	}
}

// R3: the declarations that Check is given are left as they are.
func TestDeclarationsAreLeftAlone(t *testing.T) {
	d := declared()
	kept := cloneDecl(d)
	for _, c := range samples() {
		command.Check(d, c)
	}
	if !reflect.DeepEqual(d, kept) {
		t.Errorf("Check made %+v of %+v", d, kept)
	}
}

// R3: the vector that Event is given is left as it is, and so is its spare capacity.
func TestVectorsAreLeftAlone(t *testing.T) {
	room := []int{0, 2, -4, 1, 5, -9, math.MaxInt, math.MinInt}
	for size := range len(room) + 1 {
		for origin := -1; origin <= size; origin++ {
			for _, lamport := range []int{-1, 0, 9, math.MaxInt} {
				known := slices.Clone(room)
				command.Event(requests()[1], origin, known[:size], lamport)
				if !slices.Equal(known, room) {
					t.Fatalf("Event of the replica %d made %v of %v", origin, known, room)
				}
			}
		}
	}
}

// R3: the bytes that Get is given are left as they are, and so is their spare capacity.
func TestBytesAreLeftAlone(t *testing.T) {
	for _, c := range samples() {
		code := append(encoding(c), 1, 2, 3, 9, 0xff)
		kept := slices.Clone(code)
		for cut := range len(code) + 1 {
			command.Get(code[:cut])
		}
		if !bytes.Equal(code, kept) {
			t.Fatalf("Get made % x of % x", code, kept)
		}
	}
}

// fill writes over all that a slice reaches, its spare capacity included.
func fill[T int | byte](list []T) {
	list = list[:cap(list)]
	for i := range list {
		list[i] = 0x55
	}
}

// R3: Deps of an event shares no memory with the vector, nor with that of another event; nothing of it is kept.
func TestEventsAreNewMemory(t *testing.T) {
	for _, known := range [][]int{{4, 7}, {4}, {-1, 0, 3}, slices.Repeat([]int{5}, 64), append(make([]int, 0, 9), 1, 2, 3)} {
		kept := slices.Clone(known)
		want, _ := requested(requests()[1], 0, kept, 9)
		one, _ := command.Event(requests()[1], 0, known, 9)
		two, _ := command.Event(requests()[1], 0, known, 9)
		fill(one.Deps)
		if !slices.Equal(known, kept) || !sameEvent(two, want) {
			t.Errorf("with one event, the vector became %v, and the other event %+v", known, two)
		}
		fill(known)
		if !sameEvent(two, want) {
			t.Errorf("with the vector, the event became %+v", two)
		}
		wantEvent(t, "again", requests()[1], 0, kept, 9, want, api.OK)
	}
}

// R3: the bytes of a command are new memory at each call; nothing of them is kept.
func TestBytesAreNewMemory(t *testing.T) {
	for _, c := range samples() {
		one, two := command.Put(c), command.Put(c)
		fill(one)
		if !bytes.Equal(two, encoding(c)) {
			t.Errorf("with what Put returned, another result became % x", two)
		}
		fill(two)
		wantPut(t, c, encoding(c))
		code := encoding(c)
		got, _ := command.Get(code)
		fill(code)
		if got != c {
			t.Errorf("with the bytes, what Get returned became %+v", got)
		}
		wantGet(t, encoding(c), c)
	}
}

// R4: the results depend on the arguments alone, not on calls before.
func TestResultsDependOnArgumentsAlone(t *testing.T) {
	c := of([7]int{1, 2, 3, 4, 5, 6, 7})
	e := api.Event{Id: api.Id{Origin: 1, Seq: 8}, Lamport: 10, Deps: []int{4, 7}, Type: 1, Agg: 2, Field: 3, Op: 4, Arg: 5, Key: 7}
	for _, other := range samples() {
		command.Check(api.Decl{}, other)
		command.Event(other, 0, []int{9, 9, 9}, 99)
		command.Event(other, 7, nil, -1)
		code := command.Put(other)
		command.Get(code)
		command.Get(code[:len(code)-1])
		wantCheck(t, "after other calls", declared(), requests()[8], api.OK)
		wantEvent(t, "after other calls", c, 1, []int{4, 7}, 9, e, api.OK)
		wantPut(t, c, fromHex(t, both[1].code))
		wantGet(t, fromHex(t, both[1].code), c)
	}
}

// FuzzCommand holds all calls against the chapter for any bytes, and for the command that they are (P8.1 to P8.4).
func FuzzCommand(f *testing.F) {
	for i, c := range samples() {
		f.Add(encoding(c), i%4-1, i-2, 3-i, i)
	}
	f.Add([]byte{2}, 1, 0, 0, 0)
	f.Add(make([]byte, 8), 0, math.MaxInt, math.MaxInt, math.MaxInt)
	f.Fuzz(func(t *testing.T, b []byte, origin, first, second, lamport int) {
		kept := slices.Clone(b)
		if failed, err := holdRoundTrip(b); err != nil {
			t.Fatalf("% x: error %d: %v", b, failed, err)
		}
		if !bytes.Equal(b, kept) {
			t.Fatalf("Get made % x of % x", b, kept)
		}
		c, _ := command.Get(b)
		wantCheck(t, "any command", declared(), c, checked(declared(), c))
		known := []int{first, second, lamport}
		for size := range len(known) + 1 {
			wantNext(t, "any command", c, origin, known[:size], lamport)
		}
		if !slices.Equal(known, []int{first, second, lamport}) {
			t.Fatalf("Event made %v of the vector", known)
		}
	})
}
