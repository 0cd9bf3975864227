package event_test

import (
	"bytes"
	"encoding/hex"
	"errors"
	"math"
	"math/big"
	"math/rand"
	"reflect"
	"slices"
	"strings"
	"testing"

	"quayside/api"
	"quayside/event"
)

// example is the event of the chapter's examples.
func example() api.Event {
	return api.Event{Id: api.Id{Origin: 1, Seq: 3}, Lamport: 5, Deps: []int{0, 2}, Op: api.OSet}
}

const exampleCode = "01 01 01 03 01 05 01 02 00 01 02 00 00 00 01 02 00 00"

// fromHex returns the bytes that are written out, with blanks between them.
func fromHex(t *testing.T, s string) []byte {
	t.Helper()
	b, err := hex.DecodeString(strings.ReplaceAll(s, " ", ""))
	if err != nil {
		t.Fatal(err)
	}
	return b
}

// number returns the encoding of n by chapter 1's definition: the absolute value comes from numbers that have no end.
func number(n int) []byte {
	abs := new(big.Int).Abs(big.NewInt(int64(n))).Bytes()
	head := byte(len(abs))
	if n < 0 {
		head += 16
	}
	return append([]byte{head}, abs...)
}

// numbers returns the numbers of e in the order of P5.2.
func numbers(e api.Event) []int {
	list := []int{e.Id.Origin, e.Id.Seq, e.Lamport, len(e.Deps)}
	for _, n := range e.Deps {
		list = append(list, n)
	}
	return append(list, e.Type, e.Agg, e.Field, e.Op, e.Arg, e.Key)
}

// encoding returns the bytes of e by P5.2's definition.
func encoding(e api.Event) []byte {
	return joined(numbers(e))
}

// joined returns the encodings of numbers one after the other.
func joined(list []int) []byte {
	var b []byte
	for _, n := range list {
		b = append(b, number(n)...)
	}
	return b
}

// clone returns a copy of e that shares no memory with it.
func clone(e api.Event) api.Event {
	e.Deps = slices.Clone(e.Deps)
	return e
}

// same tells whether a and b are one event; that Deps is nil is as good as that it is empty.
func same(a, b api.Event) bool {
	if len(a.Deps) == 0 && len(b.Deps) == 0 {
		a.Deps, b.Deps = nil, nil
	}
	return reflect.DeepEqual(a, b)
}

// good returns an event of the replica origin among n that nothing is wrong with.
func good(origin, n int) api.Event {
	e := api.Event{Id: api.Id{Origin: origin, Seq: 3}, Lamport: 9, Deps: make([]int, n), Type: 1, Agg: 4, Field: 2, Op: api.OAdd, Arg: -7, Key: 6}
	for i := range e.Deps {
		e.Deps[i] = i % 5
	}
	e.Deps[origin] = 2
	return e
}

// edges are the ends of what an int can be, and numbers whose low bits alone are in place.
var edges = []int{math.MinInt, math.MinInt + 1, math.MinInt + 3, -1 << 32, -256, -2, -1, 1<<8 + 1, 1<<16 + 1, 1<<32 + 1, 1<<63 - 2, math.MaxInt}

// whole tells what P5.1 says of e among n, word by word.
func whole(e api.Event, n int) api.Errno {
	if e.Id.Origin < 0 || e.Id.Origin >= n {
		return api.ErrArg
	}
	if e.Id.Seq < 1 || e.Lamport < 1 || e.Agg < 0 || e.Key < 0 || len(e.Deps) != n {
		return api.ErrArg
	}
	for _, d := range e.Deps {
		if d < 0 {
			return api.ErrArg
		}
	}
	if big.NewInt(0).Add(big.NewInt(int64(e.Deps[e.Id.Origin])), big.NewInt(1)).Cmp(big.NewInt(int64(e.Id.Seq))) != 0 {
		return api.ErrOrder
	}
	if !slices.Contains([]int{1, 2, 3, 4, 5}, e.Op) {
		return api.ErrKind
	}
	places := []int{0, 1, 2, 3, 4, 5, 6, 7}
	if !slices.Contains(places, e.Type) || !slices.Contains(places, e.Field) {
		return api.ErrField
	}
	return api.OK
}

// wantCheck asks for an answer of Check.
func wantCheck(t *testing.T, what string, e api.Event, n int, want api.Errno) {
	t.Helper()
	if got := event.Check(e, n); got != want {
		t.Errorf("%s: Check of %+v among %d = %d, want %d", what, e, n, got, want)
	}
}

// P5.1: the chapter's examples.
func TestCheckOfTheExamples(t *testing.T) {
	e := example()
	wantCheck(t, "the example", e, 2, api.OK)
	e.Deps = []int{0, 3}
	wantCheck(t, "with Deps 0, 3", e, 2, api.ErrOrder)
	e = example()
	e.Op = 6
	wantCheck(t, "with Op 6", e, 2, api.ErrKind)
}

// P5.1: nothing is wrong with an event of any replica among any number of them, the first event of each replica among them.
func TestCheckOfEachReplica(t *testing.T) {
	for _, n := range []int{1, 2, 3, 63, 64, 65, 200} {
		for origin := range n {
			wantCheck(t, "a good event", good(origin, n), n, api.OK)
			first := api.Event{Id: api.Id{Origin: origin, Seq: 1}, Lamport: 1, Deps: make([]int, n), Op: api.OInc}
			wantCheck(t, "a first event", first, n, api.OK)
		}
	}
}

// P5.1: the origin is from 0 to n - 1.
func TestCheckOfEachOrigin(t *testing.T) {
	for _, n := range []int{1, 2, 3, 64} {
		for _, origin := range append([]int{n, n + 1, 2 * n, 65}, edges...) {
			e := good(0, n)
			e.Origin = origin
			wantCheck(t, "another origin", e, n, api.ErrArg)
		}
	}
}

// P5.1: among no replicas, or fewer, there is no event.
func TestCheckAmongNone(t *testing.T) {
	for _, n := range []int{0, -1, -2, -64, math.MinInt, math.MinInt + 1} {
		for _, e := range []api.Event{{}, example(), good(0, 1), good(63, 64)} {
			wantCheck(t, "no replicas", e, n, api.ErrArg)
			for _, origin := range append([]int{0, 1, n, n - 1, n + 1}, edges...) {
				e.Origin = origin
				wantCheck(t, "no replicas", e, n, api.ErrArg)
				e.Deps = nil
				wantCheck(t, "no replicas, no Deps", e, n, api.ErrArg)
				e.Deps = []int{}
				wantCheck(t, "no replicas, empty Deps", e, n, api.ErrArg)
			}
		}
	}
}

// P5.1: Deps has exactly n numbers.
func TestCheckOfEachLengthOfDeps(t *testing.T) {
	for _, n := range []int{1, 2, 3, 63, 64} {
		for _, origin := range []int{0, n - 1} {
			for _, size := range []int{0, 1, 2, 3, 4, 62, 63, 64, 65, 66, 200} {
				e := good(origin, n)
				room := slices.Repeat([]int{2}, 300)
				e.Deps = room[:size]
				want := api.ErrArg
				if size == n {
					want = api.OK
				}
				wantCheck(t, "Deps of another length", e, n, want)
				e.Deps = room[:size:size]
				wantCheck(t, "Deps of another length, nothing behind them", e, n, want)
			}
			e := good(origin, n)
			e.Deps = nil
			wantCheck(t, "nil Deps", e, n, api.ErrArg)
			e = good(origin, n)
			wantCheck(t, "one replica less", e, n-1, api.ErrArg)
			wantCheck(t, "one replica more", e, n+1, api.ErrArg)
			wantCheck(t, "as many as an int can be", e, math.MaxInt, api.ErrArg)
		}
	}
}

// P5.1: Seq is 1 or greater, and the entry of Origin in Deps is one less.
func TestCheckOfEachSeq(t *testing.T) {
	for _, n := range []int{1, 2, 64} {
		for _, origin := range []int{0, n - 1} {
			for _, seq := range []int{1, 2, 3, 255, 256, 1 << 32, math.MaxInt - 1, math.MaxInt} {
				e := good(origin, n)
				e.Seq = seq
				e.Deps[origin] = seq - 1
				wantCheck(t, "a Seq", e, n, api.OK)
				for _, known := range []int{0, 1, seq - 3, seq - 2, seq, 1<<32 + seq - 1} {
					if known >= 0 && known != seq-1 {
						e.Deps[origin] = known
						wantCheck(t, "another entry of Origin", e, n, api.ErrOrder)
					}
				}
				e.Deps[origin] = math.MaxInt
				wantCheck(t, "the greatest entry of Origin", e, n, api.ErrOrder)
			}
			for _, seq := range []int{0, -1, -2, -256, -1 << 32, math.MinInt + 1, math.MinInt} {
				e := good(origin, n)
				e.Seq = seq
				for _, known := range []int{0, seq - 1, -1, math.MaxInt} {
					e.Deps[origin] = known
					wantCheck(t, "no Seq", e, n, api.ErrArg)
				}
			}
		}
	}
}

// P5.1: the entry that is asked for is that of Origin and no other one.
func TestCheckAsksForTheEntryOfOrigin(t *testing.T) {
	for _, n := range []int{2, 3, 64} {
		for origin := range n {
			e := good(origin, n)
			for i := range e.Deps {
				e.Deps[i] = 7
			}
			e.Deps[origin] = 2
			wantCheck(t, "7 of the others", e, n, api.OK)
			for i := range e.Deps {
				e.Deps[i] = 2
			}
			e.Deps[origin] = 7
			wantCheck(t, "7 of its own", e, n, api.ErrOrder)
		}
	}
}

// P5.1: all numbers of Deps are 0 or greater, wherever they stand.
func TestCheckOfEachNumberOfDeps(t *testing.T) {
	for _, n := range []int{1, 2, 3, 64} {
		for origin := range n {
			for i := range n {
				for _, known := range append([]int{0, 1, 2, 1 << 32}, edges...) {
					e := good(origin, n)
					e.Deps[i] = known
					want := api.OK
					if known < 0 {
						want = api.ErrArg
					} else if i == origin && known != 2 {
						want = api.ErrOrder
					}
					wantCheck(t, "another number in Deps", e, n, want)
				}
			}
		}
	}
}

// P5.1: each of the numbers that stand alone, at the edges of what it may be and of what an int can be.
func TestCheckOfEachNumber(t *testing.T) {
	for _, x := range []struct {
		name        string
		at          func(e *api.Event) *int
		least, most int
		want        api.Errno
	}{
		{"Lamport", func(e *api.Event) *int { return &e.Lamport }, 1, math.MaxInt, api.ErrArg},
		{"Agg", func(e *api.Event) *int { return &e.Agg }, 0, math.MaxInt, api.ErrArg},
		{"Key", func(e *api.Event) *int { return &e.Key }, 0, math.MaxInt, api.ErrArg},
		{"Op", func(e *api.Event) *int { return &e.Op }, 1, 5, api.ErrKind},
		{"Type", func(e *api.Event) *int { return &e.Type }, 0, 7, api.ErrField},
		{"Field", func(e *api.Event) *int { return &e.Field }, 0, 7, api.ErrField},
		{"Arg", func(e *api.Event) *int { return &e.Arg }, math.MinInt, math.MaxInt, api.OK},
	} {
		values := slices.Clone(edges)
		for n := -3; n < 20; n++ {
			values = append(values, n)
		}
		for _, n := range append(values, 63, 64, 65, 255, 256, 1<<31, 1<<32, 1<<32+5) {
			e := good(1, 3)
			*x.at(&e) = n
			want := x.want
			if n >= x.least && n <= x.most {
				want = api.OK
			}
			wantCheck(t, x.name, e, 3, want)
		}
	}
}

// fault is one thing that is wrong with an event, and what Check says of it.
type fault struct {
	name string
	make func(e *api.Event)
	want api.Errno
}

// faults are in the order of their errors; those of one error don't undo one another.
var faults = []fault{
	{"Origin below 0", func(e *api.Event) { e.Origin = -1 }, api.ErrArg},
	{"Seq below 1", func(e *api.Event) { e.Seq = 0 }, api.ErrArg},
	{"Lamport below 1", func(e *api.Event) { e.Lamport = 0 }, api.ErrArg},
	{"Agg below 0", func(e *api.Event) { e.Agg = -1 }, api.ErrArg},
	{"Key below 0", func(e *api.Event) { e.Key = -1 }, api.ErrArg},
	{"a number of Deps below 0", func(e *api.Event) { e.Deps[2] = -1 }, api.ErrArg},
	{"one number too many in Deps", func(e *api.Event) { e.Deps = append(e.Deps, 1) }, api.ErrArg},
	{"another entry of Origin", func(e *api.Event) { e.Deps[1] = 3 }, api.ErrOrder},
	{"Op 0", func(e *api.Event) { e.Op = 0 }, api.ErrKind},
	{"Type 8", func(e *api.Event) { e.Type = 8 }, api.ErrField},
	{"Field 8", func(e *api.Event) { e.Field = 8 }, api.ErrField},
}

// P5.1: each fault by itself, and all sets of faults: the error that the chapter names first is told.
func TestCheckTellsTheFirstError(t *testing.T) {
	for set := range 1 << len(faults) {
		e, want := good(1, 3), api.OK
		var names []string
		for i, f := range faults {
			if set>>i&1 == 0 {
				continue
			}
			f.make(&e)
			names = append(names, f.name)
			if want == api.OK {
				want = f.want
			}
		}
		wantCheck(t, strings.Join(names, ", "), e, 3, want)
	}
}

// P5.1: an origin behind the last replica, and Deps that are too short for it, are told and not looked up.
func TestCheckOfAnOriginThatDepsDoNotReach(t *testing.T) {
	for _, n := range []int{1, 2, 64, math.MaxInt} {
		for _, origin := range []int{0, 1, 63, 64, 1 << 32, math.MaxInt - 1, math.MaxInt} {
			for _, deps := range [][]int{nil, {}} {
				e := good(0, 1)
				e.Origin, e.Deps = origin, deps
				wantCheck(t, "no Deps", e, n, api.ErrArg)
			}
		}
	}
	e := good(0, 1)
	e.Origin = 1
	wantCheck(t, "the origin in Deps alone missing", e, 2, api.ErrArg)
	wantCheck(t, "the origin missing", e, 1, api.ErrArg)
}

// madeUp returns some event whose numbers are often about the edges of what they may be.
func madeUp(random *rand.Rand) api.Event {
	pick := func() int {
		switch random.Intn(12) {
		case 0:
			return edges[random.Intn(len(edges))]
		case 1:
			return int(random.Uint64()) >> random.Intn(64)
		}
		return random.Intn(10) - 1
	}
	e := api.Event{
		Id: api.Id{Origin: random.Intn(3), Seq: pick()}, Lamport: pick(), Deps: make([]int, random.Intn(5)),
		Type: pick(), Agg: pick(), Field: pick(), Op: pick(), Arg: pick(), Key: pick(),
	}
	if random.Intn(9) == 0 {
		e.Origin = pick()
	}
	for i := range e.Deps {
		e.Deps[i] = pick()
	}
	if random.Intn(3) > 0 && e.Origin >= 0 && e.Origin < len(e.Deps) {
		e.Deps[e.Origin] = e.Seq - 1
	}
	return e
}

// P5.1: made-up events, held against the chapter's words; each error is met.
func TestCheckOfMadeUpEvents(t *testing.T) {
	random := rand.New(rand.NewSource(5))
	met := map[api.Errno]int{}
	for range 100000 {
		e := madeUp(random)
		n := len(e.Deps)
		if random.Intn(9) == 0 {
			n += random.Intn(3) - 1
		}
		want := whole(e, n)
		met[want]++
		wantCheck(t, "made up", e, n, want)
	}
	for _, e := range []api.Errno{api.OK, api.ErrArg, api.ErrOrder, api.ErrKind, api.ErrField} {
		if met[e] < 100 {
			t.Errorf("the answer %d was met %d times", e, met[e])
		}
	}
}

// put returns the encoding of an event that has one.
func put(t *testing.T, e api.Event) []byte {
	t.Helper()
	b, failed := event.Put(e)
	if failed != api.OK {
		t.Fatalf("Put of %+v: error %d", e, failed)
	}
	return b
}

// wantPut asks for the bytes of an event.
func wantPut(t *testing.T, e api.Event, want []byte) {
	t.Helper()
	if got := put(t, e); !bytes.Equal(got, want) {
		t.Errorf("Put of %+v = % x, want % x", e, got, want)
	}
}

// P5.2: the chapter's example, and others that are written out.
func TestPutOfKnownEvents(t *testing.T) {
	wantPut(t, example(), fromHex(t, exampleCode))
	wantPut(t, api.Event{}, make([]byte, 10))
	wantPut(t, api.Event{Deps: []int{}}, make([]byte, 10))
	// Each number is another one, so that none can change places with another.
	e := api.Event{Id: api.Id{Origin: 1, Seq: 2}, Lamport: 4, Deps: []int{5, 6, 7}, Type: 8, Agg: 9, Field: 10, Op: 11, Arg: 12, Key: 13}
	wantPut(t, e, fromHex(t, "0101 0102 0104 0103 0105 0106 0107 0108 0109 010a 010b 010c 010d"))
	// What can't be is encoded, too.
	e = api.Event{Id: api.Id{Origin: -1, Seq: -256}, Lamport: math.MinInt, Deps: []int{-2, math.MaxInt}, Type: -3, Agg: -4, Field: -5, Op: -6, Arg: -7, Key: 1 << 32}
	wantPut(t, e, fromHex(t, "1101 120100 188000000000000000 0102 1102 087fffffffffffffff 1103 1104 1105 1106 1107 050100000000"))
}

// set returns an event with count numbers in Deps, of which the number at place (as P5.2 counts them, without that of the length) is n and all others are its place.
func set(count, place, n int) api.Event {
	e := api.Event{Id: api.Id{Origin: 0, Seq: 1}, Lamport: 2, Deps: make([]int, count)}
	all := []*int{&e.Origin, &e.Seq, &e.Lamport}
	for i := range e.Deps {
		all = append(all, &e.Deps[i])
	}
	all = append(all, &e.Type, &e.Agg, &e.Field, &e.Op, &e.Arg, &e.Key)
	for i, p := range all {
		*p = i
	}
	*all[place] = n
	return e
}

// P5.2, P5.4: any int in any place is written there, and read from there.
func TestEachNumberInEachPlace(t *testing.T) {
	for _, count := range []int{0, 1, 3, 64} {
		for place := range count + 9 {
			for _, n := range append([]int{0, 1, 127, 128, 255, 256, 1 << 31, 1 << 32, 1 << 62}, edges...) {
				e := set(count, place, n)
				code := encoding(e)
				wantPut(t, e, code)
				got, failed := event.Get(code)
				if failed != api.OK || !same(got, e) {
					t.Fatalf("Get of % x = %+v, error %d, want %+v", code, got, failed, e)
				}
			}
		}
	}
}

// P5.2: 64 numbers of Deps are written, 65 and more are too many, whatever else there is in the event.
func TestPutOfEachLengthOfDeps(t *testing.T) {
	for size := range 200 {
		for _, e := range []api.Event{{}, example(), good(0, 1), {Id: api.Id{Origin: -5, Seq: -5}, Lamport: math.MinInt, Op: 99}} {
			e.Deps = make([]int, size, 300)
			if size > 0 {
				e.Deps[size-1] = -size
			}
			if size <= 64 {
				wantPut(t, e, encoding(e))
				continue
			}
			if b, failed := event.Put(e); failed != api.ErrMany || len(b) > 0 {
				t.Errorf("Put of an event with %d numbers in Deps = % x, error %d", size, b, failed)
			}
		}
	}
	if b, failed := event.Put(api.Event{Deps: make([]int, 1<<16+1)}); failed != api.ErrMany || len(b) > 0 {
		t.Errorf("Put of an event with 2^16 + 1 numbers in Deps = % x, error %d", b, failed)
	}
}

// wantError asks for an error of Get, and for nothing else beside it.
func wantError(t *testing.T, what string, b []byte, want api.Errno) {
	t.Helper()
	if e, failed := event.Get(b); failed != want || !same(e, api.Event{}) {
		t.Errorf("%s: Get of % x = %+v, error %d, want error %d", what, b, e, failed, want)
	}
}

// wantGet asks for an event.
func wantGet(t *testing.T, b []byte, want api.Event) {
	t.Helper()
	if e, failed := event.Get(b); failed != api.OK || !same(e, want) {
		t.Errorf("Get of % x = %+v, error %d, want %+v", b, e, failed, want)
	}
}

// P5.3: the chapter's examples, and others that are written out.
func TestGetOfKnownBytes(t *testing.T) {
	wantError(t, "02", []byte{2}, api.ErrShort)
	wantError(t, "eleven bytes 00", make([]byte, 11), api.ErrLong)
	wantGet(t, make([]byte, 10), api.Event{})
	wantGet(t, fromHex(t, exampleCode), example())
	wantError(t, "nine bytes 00", make([]byte, 9), api.ErrShort)
	wantError(t, "nil", nil, api.ErrShort)
	wantError(t, "no bytes", []byte{}, api.ErrShort)
	wantError(t, "no bytes, more behind them", make([]byte, 10)[:0], api.ErrShort)
}

// P5.3: what Check would refuse is decoded.
func TestGetChecksNoValues(t *testing.T) {
	for _, e := range []api.Event{
		{Id: api.Id{Origin: -1, Seq: -2}, Lamport: -3, Deps: []int{-4}, Type: -5, Agg: -6, Field: -7, Op: -8, Arg: -9, Key: -10},
		{Id: api.Id{Origin: 64, Seq: 0}, Lamport: 0, Deps: nil, Type: 8, Agg: 0, Field: 8, Op: 6},
		{Id: api.Id{Origin: 5, Seq: 5}, Lamport: 1, Deps: []int{9, 9}, Type: math.MaxInt, Agg: math.MinInt, Field: math.MinInt, Op: math.MaxInt, Key: math.MinInt},
	} {
		if event.Check(e, len(e.Deps)) == api.OK {
			t.Fatalf("%+v is a good event", e)
		}
		wantGet(t, encoding(e), e)
	}
}

// samples are events of many kinds: those that can be, those that can't, with no replicas and with 64.
func samples() []api.Event {
	list := []api.Event{{}, example(), good(0, 1), good(2, 3), good(63, 64), set(3, 0, math.MinInt), set(64, 40, math.MaxInt), set(0, 8, 1<<32)}
	random := rand.New(rand.NewSource(55))
	for range 20 {
		list = append(list, madeUp(random))
	}
	return list
}

// P5.3: bytes that are cut off anywhere are too short, whatever lies behind the length of the slice.
func TestGetOfBytesThatAreCutOff(t *testing.T) {
	for _, e := range samples() {
		code := encoding(e)
		for cut := range len(code) {
			wantError(t, "cut off", code[:cut], api.ErrShort)
			wantError(t, "cut off, nothing behind", code[:cut:cut], api.ErrShort)
		}
	}
}

// P5.3: bytes that are left are too many, whatever they are.
func TestGetOfBytesThatAreLeft(t *testing.T) {
	for _, e := range samples() {
		code := encoding(e)
		for x := range 256 {
			wantError(t, "a byte too many", append(slices.Clone(code), byte(x)), api.ErrLong)
		}
		wantError(t, "a number too many", append(slices.Clone(code), 1, 1), api.ErrLong)
		wantError(t, "the event twice", append(slices.Clone(code), code...), api.ErrLong)
	}
}

// wrong are the bytes of no number, and the errors that tell so.
var wrong = []struct {
	code string
	want api.Errno
}{
	{"01 00", api.ErrLong}, {"02 00 05", api.ErrLong}, {"11 00", api.ErrLong}, {"08 00 ff ff ff ff ff ff ff", api.ErrLong},
	{"08 80 00 00 00 00 00 00 00", api.ErrLong}, {"18 80 00 00 00 00 00 00 01", api.ErrLong}, {"08 ff ff ff ff ff ff ff ff", api.ErrLong},
	{"09", api.ErrLong}, {"09 01 01 01 01 01 01 01 01 01", api.ErrLong}, {"10", api.ErrLong}, {"19", api.ErrLong}, {"20", api.ErrLong}, {"ff", api.ErrLong},
}

// P5.3: a number in a wrong form, in any place, also in that of the length.
func TestGetOfNumbersInAWrongForm(t *testing.T) {
	for _, e := range []api.Event{{}, example(), good(2, 3), good(63, 64)} {
		list := numbers(e)
		for place := range list {
			for _, x := range wrong {
				b := slices.Concat(joined(list[:place]), fromHex(t, x.code), joined(list[place+1:]))
				wantError(t, "a wrong number", b, x.want)
				wantError(t, "a wrong number, a byte too many", append(b, 0), x.want)
			}
		}
	}
}

// P5.3: the length of Deps is from 0 to 64; as many numbers as it says, or more, or fewer may follow.
func TestGetOfEachLength(t *testing.T) {
	begin, end := joined([]int{1, 2, 3}), joined([]int{0, 0, 0, 1, 5, 0})
	deps := func(n int) []byte { return bytes.Repeat([]byte{1, 7}, n) }
	for n := range 65 {
		code := slices.Concat(begin, number(n), deps(n), end)
		want := api.Event{Id: api.Id{Origin: 1, Seq: 2}, Lamport: 3, Deps: slices.Repeat([]int{7}, n), Op: 1, Arg: 5}
		wantGet(t, code, want)
		wantError(t, "one number too many", slices.Concat(begin, number(n), deps(n+1), end), api.ErrLong)
		if n > 0 {
			wantError(t, "one number too few", slices.Concat(begin, number(n), deps(n-1), end), api.ErrShort)
		}
	}
	for _, n := range append([]int{65, 66, 127, 128, 255, 256, 320, 1<<16 + 2, 1 << 31, 1 << 32, 1<<32 + 2, 1 << 62}, edges...) {
		for _, count := range []int{0, 1, 2, 64, 65, 320} {
			wantError(t, "no length", slices.Concat(begin, number(n), deps(count), end), api.ErrMany)
		}
		wantError(t, "no length, nothing behind it", slices.Concat(begin, number(n)), api.ErrMany)
	}
}

// P5.3: of two errors the first one in the order of the reads is told.
func TestGetTellsTheFirstError(t *testing.T) {
	const begin = "0101 0102 0103"
	for _, x := range []struct {
		code string
		want api.Errno
	}{
		{"0101 0102 09 0141", api.ErrLong},                                                   // the third number, then the length
		{"0101 0100 0103 1101", api.ErrLong},                                                 // the second number, then the length
		{begin + "0141 09", api.ErrMany},                                                     // the length, then a number
		{begin + "1101 0100", api.ErrMany},                                                   // the length, then a number
		{begin + "0141", api.ErrMany},                                                        // the length, then the end
		{begin + "09", api.ErrLong},                                                          // the length in a wrong form, then the end
		{begin + "02 41", api.ErrShort},                                                      // the length cut off, which would be too great
		{begin + "02 0041 00", api.ErrLong},                                                  // the length in a wrong form, which would be too great
		{begin + "0102 09 00", api.ErrLong},                                                  // a number of Deps, then the end
		{begin + "0102 01", api.ErrShort},                                                    // the end, ahead of all that is missing
		{begin + "00 00 00 00 00 00 0100 00", api.ErrLong},                                   // the last number, then a byte too many
		{begin + "00 00 00 00 00 00 02 01", api.ErrShort},                                    // the last number cut off
		{"00 00 00 0140 " + strings.Repeat("00", 70) + "0100", api.ErrLong},                  // bytes too many, in a wrong form
		{"00 00 00 0141 " + strings.Repeat("00", 71) + "00", api.ErrMany},                    // the length, then a byte too many
		{"08 80 00 00 00 00 00 00", api.ErrShort},                                            // a number that would be too great, cut off
		{"08 80 00 00 00 00 00 00 00", api.ErrLong},                                          // a number that is too great, then the end
		{"08 00", api.ErrShort},                                                              // a number in a wrong form, cut off
		{"09 08", api.ErrLong},                                                               // no head, then the end
		{begin + "0103 0101 0102 19 00 00 00 00 00 00 00", api.ErrLong},                      // the third number of Deps, then a byte too many
		{begin + "0103 0101 0102 0103 00 00 00 00 00", api.ErrShort},                         // the last number missing
		{begin + "0103 0101 0102 0103 00 00 00 00 00 18 80 00 00 00 00 00 00", api.ErrShort}, // the last number cut off
	} {
		wantError(t, x.code, fromHex(t, x.code), x.want)
	}
}

// P5.4: Get of what Put returned is the event.
func TestGetFollowsPut(t *testing.T) {
	random := rand.New(rand.NewSource(6))
	list := samples()
	for range 5000 {
		list = append(list, madeUp(random))
	}
	for n := range 65 {
		e := madeUp(random)
		e.Deps = random.Perm(n)
		list = append(list, e)
	}
	for _, e := range list {
		code := put(t, e)
		if !bytes.Equal(code, encoding(e)) {
			t.Fatalf("Put of %+v = % x", e, code)
		}
		wantGet(t, code, e)
	}
}

// holdRoundTrip holds Get and Put against one another for any bytes: those of an event are its encoding, and no others are.
func holdRoundTrip(b []byte) (api.Event, api.Errno, error) {
	e, failed := event.Get(b)
	if failed != api.OK {
		if !same(e, api.Event{}) {
			return e, failed, errors.New("beside an error there is an event")
		}
		if failed != api.ErrShort && failed != api.ErrLong && failed != api.ErrMany {
			return e, failed, errors.New("no such error")
		}
		return e, failed, nil
	}
	again, f := event.Put(e)
	if f != api.OK || !bytes.Equal(again, b) || !bytes.Equal(encoding(e), b) {
		return e, failed, errors.New("Put returns other bytes")
	}
	return e, failed, nil
}

// P5.4: Put of what Get returned are the bytes: changed encodings, and bytes that are made up.
func TestPutFollowsGet(t *testing.T) {
	random := rand.New(rand.NewSource(7))
	read := 0
	for range 100000 {
		b := encoding(madeUp(random))
		switch random.Intn(3) {
		case 0:
			b[random.Intn(len(b))] = byte(random.Intn(27))
		case 1:
			b = b[:10+random.Intn(20)%(len(b)-9)]
			for i := range b {
				b[i] = byte(random.Intn(3))
			}
		}
		e, failed, err := holdRoundTrip(b)
		if err != nil {
			t.Fatalf("% x: %+v, error %d: %v", b, e, failed, err)
		}
		if failed == api.OK {
			read++
		}
	}
	if read < 1000 {
		t.Errorf("only %d byte strings were events", read)
	}
}

// P5.4: nil Deps and empty ones have the same bytes.
func TestPutOfEmptyDeps(t *testing.T) {
	e := good(0, 1)
	e.Deps = nil
	code := put(t, e)
	wantGet(t, code, e)
	e.Deps = []int{}
	wantPut(t, e, code)
	e.Deps = []int{1, 2, 3}[:0]
	wantPut(t, e, code)
}

// R3: arguments are left as they are, and so is their spare capacity.
func TestArgumentsAreLeftAlone(t *testing.T) {
	room := []int{0, 2, -4, 1, 5, 9, math.MaxInt, math.MinInt}
	for size := range len(room) + 1 {
		for origin := -1; origin <= size; origin++ {
			e := example()
			e.Origin, e.Deps = origin, slices.Clone(room)[:size]
			kept := clone(e)
			for n := -1; n < 10; n++ {
				event.Check(e, n)
			}
			event.Put(e)
			if !same(e, kept) || !slices.Equal(e.Deps[:len(room)], room) {
				t.Fatalf("Check and Put made %+v of %+v", e, kept)
			}
		}
	}
	e := example()
	e.Deps = slices.Repeat([]int{3}, 80)
	event.Put(e)
	if !slices.Equal(e.Deps, slices.Repeat([]int{3}, 80)) {
		t.Errorf("Put made %v of Deps that are too long", e.Deps)
	}
	for _, e := range samples() {
		code := append(encoding(e), 1, 2, 3, 9, 0xff)
		kept := slices.Clone(code)
		for cut := range len(code) + 1 {
			event.Get(code[:cut])
		}
		if !bytes.Equal(code, kept) {
			t.Fatalf("Get made % x of % x", code, kept)
		}
	}
}

// fill writes over all that a slice reaches, its spare capacity included.
func fill[T int | byte](list []T) {
	list = list[:cap(list)]
	for i := range list {
		list[i] = 0x55
	}
}

// R3: what Put returns is new memory, and what Get returns too.
func TestResultsAreNewMemory(t *testing.T) {
	e := good(2, 3)
	code := encoding(e)

	first, second := put(t, e), put(t, e)
	fill(first)
	if !bytes.Equal(second, code) || !same(e, good(2, 3)) {
		t.Errorf("with what Put returned, another result became % x, and the event %+v", second, e)
	}
	fill(e.Deps)
	if !bytes.Equal(second, code) {
		t.Errorf("with the event, what Put returned became % x", second)
	}

	one, _ := event.Get(code)
	two, _ := event.Get(code)
	fill(one.Deps)
	if !same(two, good(2, 3)) || !bytes.Equal(code, encoding(good(2, 3))) {
		t.Errorf("with what Get returned, another result became %+v, and the bytes % x", two, code)
	}
	fill(code)
	if !same(two, good(2, 3)) {
		t.Errorf("with the bytes, what Get returned became %+v", two)
	}
}

// R4: the results depend on the arguments alone, not on calls before.
func TestResultsDependOnArgumentsAlone(t *testing.T) {
	for _, other := range samples() {
		event.Check(other, len(other.Deps))
		code := put(t, other)
		event.Get(code)
		event.Get(code[:len(code)-1])
		other.Deps = make([]int, 65)
		event.Put(other)
		event.Get([]byte{1, 0})
		wantCheck(t, "after other calls", example(), 2, api.OK)
		wantPut(t, example(), fromHex(t, exampleCode))
		wantGet(t, fromHex(t, exampleCode), example())
	}
}

// FuzzEvent holds all calls against the chapter for any bytes, and for the event that they are (P5.1 to P5.4).
func FuzzEvent(f *testing.F) {
	for _, e := range samples() {
		f.Add(encoding(e), len(e.Deps))
	}
	f.Add([]byte{2}, 1)
	f.Add(make([]byte, 11), -1)
	f.Fuzz(func(t *testing.T, b []byte, n int) {
		kept := slices.Clone(b)
		e, failed, err := holdRoundTrip(b)
		if err != nil {
			t.Fatalf("% x: %+v, error %d: %v", b, e, failed, err)
		}
		if !bytes.Equal(b, kept) {
			t.Fatalf("Get made % x of % x", b, kept)
		}
		before := clone(e)
		for _, count := range []int{n, len(e.Deps)} {
			if got, want := event.Check(e, count), whole(e, count); got != want {
				t.Fatalf("Check of %+v among %d = %d, want %d", e, count, got, want)
			}
		}
		if !same(e, before) {
			t.Fatalf("Check made %+v of %+v", e, before)
		}
	})
}
