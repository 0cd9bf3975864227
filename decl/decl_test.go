package decl_test

import (
	"bytes"
	"encoding/hex"
	"math"
	"math/big"
	"math/rand"
	"reflect"
	"slices"
	"strings"
	"testing"

	"quayside/api"
	"quayside/decl"
)

// edges are the ends of what an int can be, and numbers whose low bits alone are in place.
var edges = []int{
	math.MinInt, math.MinInt + 1, math.MinInt + 8, -1 << 32, -1<<32 + 1, -256, -255, -16, -8, -2, -1,
	255, 256, 1<<8 + 1, 1<<16 + 1, 1<<31 + 1, 1 << 32, 1<<32 + 1, 1<<32 + 8, 1 << 62, math.MaxInt - 1, math.MaxInt,
}

// fromHex returns the bytes that are written out, with blanks between them.
func fromHex(t *testing.T, s string) []byte {
	t.Helper()
	b, err := hex.DecodeString(strings.ReplaceAll(s, " ", ""))
	if err != nil {
		t.Fatal(err)
	}
	return b
}

// number returns the encoding of n by chapter 1's definition: the absolute value comes from numbers that have no end.
func number(n int) []byte {
	abs := new(big.Int).Abs(big.NewInt(int64(n))).Bytes()
	head := byte(len(abs))
	if n < 0 {
		head += 16
	}
	return append([]byte{head}, abs...)
}

// joined returns the encodings of numbers one after the other.
func joined(list ...int) []byte {
	var b []byte
	for _, n := range list {
		b = append(b, number(n)...)
	}
	return b
}

// A part is one number of an encoding, and what may stand there: free if any number may, and else the numbers from 0 to most.
type part struct {
	n    int
	free bool
	most int
}

func count(n, most int) part { return part{n: n, most: most} }

// parts returns the numbers of d in the order of P7.1.
func parts(d api.Decl) []part {
	var list []part
	add := func(numbers ...int) {
		for _, n := range numbers {
			list = append(list, part{n: n, free: true})
		}
	}
	list = append(list, count(len(d.Types), 8))
	for _, t := range d.Types {
		list = append(list, count(len(t.Fields), 8))
		for _, f := range t.Fields {
			add(f.Kind, f.Policy)
			if f.Floor {
				list = append(list, count(1, 1))
			} else {
				list = append(list, count(0, 1))
			}
			list = append(list, count(len(f.Moves), 16))
			for _, m := range f.Moves {
				add(m.From, m.To, m.Need, m.Least)
			}
		}
	}
	list = append(list, count(len(d.Projs), 8))
	for _, p := range d.Projs {
		add(p.Type, p.Field, p.Group, p.By, p.Make)
	}
	return list
}

// code returns the encodings of parts one after the other.
func code(list []part) []byte {
	var b []byte
	for _, p := range list {
		b = append(b, number(p.n)...)
	}
	return b
}

// encoding returns the bytes of d by P7.1's words.
func encoding(d api.Decl) []byte {
	return code(parts(d))
}

// fits tells whether no list of d is longer than its maximum.
func fits(d api.Decl) bool {
	for _, p := range parts(d) {
		if !p.free && p.n > p.most {
			return false
		}
	}
	return true
}

// clone returns a copy of d that shares no memory with it.
func clone(d api.Decl) api.Decl {
	d.Types, d.Projs = slices.Clone(d.Types), slices.Clone(d.Projs)
	for i := range d.Types {
		fields := slices.Clone(d.Types[i].Fields)
		for j := range fields {
			fields[j].Moves = slices.Clone(fields[j].Moves)
		}
		d.Types[i].Fields = fields
	}
	return d
}

// plain returns a copy of d in which no list is nil.
func plain(d api.Decl) api.Decl {
	d.Types = append([]api.Type{}, d.Types...)
	d.Projs = append([]api.Proj{}, d.Projs...)
	for i := range d.Types {
		fields := append([]api.Field{}, d.Types[i].Fields...)
		for j := range fields {
			fields[j].Moves = append([]api.Move{}, fields[j].Moves...)
		}
		d.Types[i].Fields = fields
	}
	return d
}

// same tells whether a and b are the same declarations; that a list is nil is as good as that it is empty.
func same(a, b api.Decl) bool {
	return reflect.DeepEqual(plain(a), plain(b))
}

// counter returns the declarations of the chapter's example: a type with a counter.
func counter() api.Decl {
	return api.Decl{Types: []api.Type{{Fields: []api.Field{{Kind: api.FCounter, Policy: api.PLast, Floor: true}}}}}
}

const counterCode = "01 01 01 01 01 01 01 01 01 01 00 00"

// rich returns declarations of two types, with a field of each kind and two projections; each number is another one where it can be.
func rich() api.Decl {
	return api.Decl{
		Types: []api.Type{
			{Fields: []api.Field{
				{Kind: 11, Policy: 12, Floor: true},
				{Kind: 13, Policy: 14, Moves: []api.Move{{From: 15, To: 16, Need: 17, Least: 18}, {From: 19, To: 20, Need: 21, Least: 22}}},
				{Kind: 23, Policy: 24},
			}},
			{Fields: []api.Field{
				{Kind: 25, Policy: 26, Floor: true, Moves: []api.Move{{From: 27, To: 28, Need: -1, Least: -300}}},
			}},
		},
		Projs: []api.Proj{
			{Type: 31, Field: 32, Group: 33, By: 34, Make: 35},
			{Type: 36, Field: 37, Group: 38, By: 39, Make: 40},
		},
	}
}

const richCode = "0102" +
	"0103 010b 010c 0101 00" +
	"010d 010e 00 0102 010f 0110 0111 0112 0113 0114 0115 0116" +
	"0117 0118 00 00" +
	"0101 0119 011a 0101 0101 011b 011c 1101 12012c" +
	"0102 011f 0120 0121 0122 0123 0124 0125 0126 0127 0128"

// sized returns declarations of as many types, of as many fields each, of as many moves each, and of as many projections.
func sized(types, fields, moves, projs int) api.Decl {
	var d api.Decl
	for i := range types {
		var t api.Type
		for j := range fields {
			f := api.Field{Kind: i + 1, Policy: j + 1, Floor: (i+j)%2 == 0}
			for k := range moves {
				f.Moves = append(f.Moves, api.Move{From: k, To: i - k, Need: j - 3, Least: -k * 100})
			}
			t.Fields = append(t.Fields, f)
		}
		d.Types = append(d.Types, t)
	}
	for i := range projs {
		d.Projs = append(d.Projs, api.Proj{Type: i, Field: i + 1, Group: i + 2, By: i - 3, Make: 1 << i})
	}
	return d
}

// samples are declarations of many kinds: none, the examples, the most that there may be, empty types and fields.
func samples() []api.Decl {
	list := []api.Decl{
		{}, counter(), rich(), sized(1, 0, 0, 0), sized(2, 1, 1, 1), sized(8, 0, 0, 8), sized(3, 8, 0, 0), sized(1, 2, 16, 2),
		{Projs: []api.Proj{{}}}, {Types: []api.Type{{}, {Fields: []api.Field{{}}}, {}}},
	}
	random := rand.New(rand.NewSource(77))
	for range 12 {
		list = append(list, madeUp(random))
	}
	return list
}

// madeUp returns some declarations, no list of which is too long; its numbers are often about the edges.
func madeUp(random *rand.Rand) api.Decl {
	pick := func() int {
		switch random.Intn(10) {
		case 0:
			return edges[random.Intn(len(edges))]
		case 1:
			return int(random.Uint64()) >> random.Intn(64)
		}
		return random.Intn(8) - 1
	}
	size := func(most int) int {
		if random.Intn(12) == 0 {
			return most
		}
		return random.Intn(min(most, 3) + 1)
	}
	var d api.Decl
	d.Types = make([]api.Type, size(8))
	for i := range d.Types {
		d.Types[i].Fields = make([]api.Field, size(8))
		for j := range d.Types[i].Fields {
			f := api.Field{Kind: pick(), Policy: pick(), Floor: random.Intn(2) == 0, Moves: make([]api.Move, size(16))}
			for k := range f.Moves {
				f.Moves[k] = api.Move{From: pick(), To: pick(), Need: pick(), Least: pick()}
			}
			d.Types[i].Fields[j] = f
		}
	}
	d.Projs = make([]api.Proj, size(8))
	for i := range d.Projs {
		d.Projs[i] = api.Proj{Type: pick(), Field: pick(), Group: pick(), By: pick(), Make: pick()}
	}
	return d
}

// put returns the encoding of declarations that have one.
func put(t *testing.T, d api.Decl) []byte {
	t.Helper()
	b, e := decl.Put(d)
	if e != api.OK {
		t.Fatalf("Put of %+v: error %d", d, e)
	}
	return b
}

// wantPut asks for the bytes of declarations.
func wantPut(t *testing.T, d api.Decl, want []byte) {
	t.Helper()
	if got := put(t, d); !bytes.Equal(got, want) {
		t.Errorf("Put of %+v = % x, want % x", d, got, want)
	}
}

// wantMany asks for the one error of Put, and for no bytes beside it.
func wantMany(t *testing.T, what string, d api.Decl) {
	t.Helper()
	if b, e := decl.Put(d); e != api.ErrMany || len(b) > 0 {
		t.Errorf("%s: Put = % x, error %d, want error %d", what, b, e, api.ErrMany)
	}
}

// wantGet asks for declarations.
func wantGet(t *testing.T, b []byte, want api.Decl) {
	t.Helper()
	if d, e := decl.Get(b); e != api.OK || !same(d, want) {
		t.Errorf("Get of % x = %+v, error %d, want %+v", b, d, e, want)
	}
}

// wantError asks for an error of Get, and for nothing else beside it.
func wantError(t *testing.T, what string, b []byte, want api.Errno) {
	t.Helper()
	if d, e := decl.Get(b); e != want || d.Types != nil || d.Projs != nil {
		t.Errorf("%s: Get of % x = %+v, error %d, want error %d", what, b, d, e, want)
	}
}

// P7.1: the chapter's examples, and others that are written out.
func TestPutOfKnownDeclarations(t *testing.T) {
	wantPut(t, api.Decl{}, []byte{0, 0})
	wantPut(t, api.Decl{Types: []api.Type{}, Projs: []api.Proj{}}, []byte{0, 0})
	wantPut(t, counter(), fromHex(t, counterCode))
	wantPut(t, rich(), fromHex(t, richCode))
	wantPut(t, api.Decl{Types: []api.Type{{}}}, fromHex(t, "0101 00 00"))
	wantPut(t, api.Decl{Types: []api.Type{{Fields: []api.Field{{}}}}}, fromHex(t, "0101 0101 00 00 00 00 00"))
	wantPut(t, api.Decl{Projs: []api.Proj{{Type: 1, Field: 2, Group: 3, By: 4, Make: 5}}}, fromHex(t, "00 0101 0101 0102 0103 0104 0105"))
	// What can't be declared is encoded, too.
	d := api.Decl{
		Types: []api.Type{{Fields: []api.Field{{Kind: math.MinInt, Policy: -1, Floor: true, Moves: []api.Move{{From: -2, To: math.MaxInt, Need: -256, Least: 1 << 32}}}}}},
		Projs: []api.Proj{{Type: -3, Field: -4, Group: -5, By: math.MinInt, Make: -6}},
	}
	wantPut(t, d, fromHex(t, "0101 0101 188000000000000000 1101 0101 0101 1102 087fffffffffffffff 120100 050100000000 0101 1103 1104 1105 188000000000000000 1106"))
}

// P7.1: each list from no element to the most that there may be; with one more, and with many more, it is too long.
func TestPutOfEachLength(t *testing.T) {
	for _, x := range []struct {
		name string
		most int
		of   func(n int) api.Decl
	}{
		{"types", 8, func(n int) api.Decl { return sized(n, 1, 1, 1) }},
		{"empty types", 8, func(n int) api.Decl { return sized(n, 0, 0, 0) }},
		{"fields", 8, func(n int) api.Decl { return sized(2, n, 1, 1) }},
		{"fields without moves", 8, func(n int) api.Decl { return sized(1, n, 0, 0) }},
		{"moves", 16, func(n int) api.Decl { return sized(2, 2, n, 1) }},
		{"projections", 8, func(n int) api.Decl { return sized(1, 1, 1, n) }},
		{"projections alone", 8, func(n int) api.Decl { return sized(0, 0, 0, n) }},
	} {
		for n := range 40 {
			d := x.of(n)
			if n <= x.most {
				wantPut(t, d, encoding(d))
				wantGet(t, encoding(d), d)
			} else {
				wantMany(t, x.name, d)
			}
		}
	}
	wantMany(t, "very many types", api.Decl{Types: make([]api.Type, 1<<16)})
	wantMany(t, "very many fields", api.Decl{Types: []api.Type{{Fields: make([]api.Field, 1<<16+1)}}})
	wantMany(t, "very many moves", api.Decl{Types: []api.Type{{Fields: []api.Field{{Moves: make([]api.Move, 1<<16+16)}}}}})
	wantMany(t, "very many projections", api.Decl{Projs: make([]api.Proj, 1<<16+8)})
}

// P7.1: a list that is too long is told wherever it stands, whatever the other lists are like.
func TestPutOfALongListInEachPlace(t *testing.T) {
	for i := range 8 {
		d := sized(8, 2, 0, 8)
		d.Types[i].Fields = make([]api.Field, 8)
		wantPut(t, d, encoding(d))
		d.Types[i].Fields = make([]api.Field, 9)
		wantMany(t, "nine fields", d)
		for j := range 8 {
			d = sized(8, 8, 0, 0)
			d.Types[i].Fields[j].Moves = make([]api.Move, 16)
			wantPut(t, d, encoding(d))
			d.Types[i].Fields[j].Moves = make([]api.Move, 17)
			wantMany(t, "17 moves", d)
		}
	}
}

// P7.1: whichever of the lists are too long, there is the one error; if all have the most that they may have, there is none.
func TestPutOfLongListsTogether(t *testing.T) {
	for set := range 1 << 4 {
		size := func(bit, most int) int { return most + set>>bit&1 }
		d := sized(size(0, 8), size(1, 8), size(2, 16), size(3, 8))
		if set == 0 {
			wantPut(t, d, encoding(d))
			wantGet(t, encoding(d), d)
		} else {
			wantMany(t, "lists that are too long", d)
		}
		small := sized(size(0, 0), size(1, 0), size(2, 0), size(3, 0))
		wantPut(t, small, encoding(small))
	}
}

// P7.1: how many moves a field may have doesn't hang on its kind, and no number is asked about.
func TestPutChecksNoValues(t *testing.T) {
	for _, n := range edges {
		d := sized(1, 1, 16, 1)
		d.Types[0].Fields[0].Kind = n
		wantPut(t, d, encoding(d))
		d.Types[0].Fields[0].Moves = append(d.Types[0].Fields[0].Moves, api.Move{})
		wantMany(t, "17 moves", d)
	}
}

// places returns where the numbers of d stand that may be any int, in the order of P7.1.
func places(d *api.Decl) []*int {
	var list []*int
	for i := range d.Types {
		for j := range d.Types[i].Fields {
			f := &d.Types[i].Fields[j]
			list = append(list, &f.Kind, &f.Policy)
			for k := range f.Moves {
				m := &f.Moves[k]
				list = append(list, &m.From, &m.To, &m.Need, &m.Least)
			}
		}
	}
	for i := range d.Projs {
		p := &d.Projs[i]
		list = append(list, &p.Type, &p.Field, &p.Group, &p.By, &p.Make)
	}
	return list
}

// P7.1, P7.2: any int in any place is written there, and read from there.
func TestEachNumberInEachPlace(t *testing.T) {
	for _, of := range []func() api.Decl{counter, rich, func() api.Decl { return sized(2, 2, 3, 2) }} {
		d := of()
		for at := range places(&d) {
			for _, n := range append([]int{0, 1, 8, 16, 17, 127, 128}, edges...) {
				d := of()
				*places(&d)[at] = n
				wantPut(t, d, encoding(d))
				wantGet(t, encoding(d), d)
			}
		}
	}
}

// P7.1, P7.2: a floor is 1, none is 0, for each field by itself.
func TestEachFloor(t *testing.T) {
	for set := range 1 << 6 {
		d := sized(3, 2, 1, 1)
		for i := range 6 {
			d.Types[i/2].Fields[i%2].Floor = set>>i&1 == 1
		}
		wantPut(t, d, encoding(d))
		wantGet(t, encoding(d), d)
	}
	d := counter()
	d.Types[0].Fields[0].Floor = false
	wantPut(t, d, fromHex(t, "0101 0101 0101 0101 00 00 00"))
}

// P7.2: the chapter's examples, and others that are written out.
func TestGetOfKnownBytes(t *testing.T) {
	wantGet(t, []byte{0, 0}, api.Decl{})
	wantGet(t, fromHex(t, counterCode), counter())
	wantGet(t, fromHex(t, richCode), rich())
	wantGet(t, fromHex(t, "0101 00 00"), api.Decl{Types: []api.Type{{}}})
	wantGet(t, fromHex(t, "00 0101 0101 0102 0103 0104 0105"), api.Decl{Projs: []api.Proj{{Type: 1, Field: 2, Group: 3, By: 4, Make: 5}}})
	wantError(t, "01", fromHex(t, "01"), api.ErrShort)
	wantError(t, "01 14", fromHex(t, "01 14"), api.ErrMany)
	wantError(t, "01 01 four times, and 01 02", fromHex(t, "0101 0101 0101 0101 0102"), api.ErrMany)
	wantError(t, "nil", nil, api.ErrShort)
	wantError(t, "no bytes", []byte{}, api.ErrShort)
	wantError(t, "no bytes, more behind them", []byte{0, 0}[:0], api.ErrShort)
	wantError(t, "00", []byte{0}, api.ErrShort)
	wantError(t, "00, more behind it", []byte{0, 0}[:1], api.ErrShort)
	wantError(t, "00 three times", []byte{0, 0, 0}, api.ErrLong)
}

// P7.2: bytes that are cut off anywhere are too short, whatever lies behind the length of the slice.
func TestGetOfBytesThatAreCutOff(t *testing.T) {
	for _, d := range samples() {
		b := encoding(d)
		for cut := range len(b) {
			wantError(t, "cut off", b[:cut], api.ErrShort)
			wantError(t, "cut off, nothing behind", b[:cut:cut], api.ErrShort)
		}
	}
}

// P7.2: bytes that are left are too many, whatever they are.
func TestGetOfBytesThatAreLeft(t *testing.T) {
	for _, d := range samples() {
		b := encoding(d)
		for x := range 256 {
			wantError(t, "a byte too many", append(slices.Clone(b), byte(x)), api.ErrLong)
		}
		wantError(t, "a number too many", append(slices.Clone(b), 1, 1), api.ErrLong)
		wantError(t, "the declarations twice", append(slices.Clone(b), b...), api.ErrLong)
	}
}

// wrong are the bytes of no number, with the error of which they are in any place.
var wrong = []struct {
	code string
	want api.Errno
}{
	{"01 00", api.ErrLong}, {"02 00 05", api.ErrLong}, {"11 00", api.ErrLong}, {"08 00 ff ff ff ff ff ff ff", api.ErrLong},
	{"08 80 00 00 00 00 00 00 00", api.ErrLong}, {"18 80 00 00 00 00 00 00 01", api.ErrLong}, {"08 ff ff ff ff ff ff ff ff", api.ErrLong},
	{"09", api.ErrLong}, {"09 01 01 01 01 01 01 01 01 01", api.ErrLong}, {"10", api.ErrLong}, {"19", api.ErrLong}, {"20", api.ErrLong}, {"ff", api.ErrLong},
}

// P7.2: a number in a wrong form, in any place, those of a length and of a boolean among them.
func TestGetOfNumbersInAWrongForm(t *testing.T) {
	for _, d := range samples() {
		list := parts(d)
		for at := range list {
			for _, x := range wrong {
				b := slices.Concat(code(list[:at]), fromHex(t, x.code), code(list[at+1:]))
				wantError(t, "a wrong number", b, x.want)
				wantError(t, "a wrong number, a byte too many", append(b, 0), x.want)
			}
		}
	}
}

// outside are numbers that are not from 0 to most.
func outside(most int) []int {
	list := []int{most + 1, most + 2, 2*most + 1, -most - 1, 17, 256 + most, 1<<32 + most}
	return slices.DeleteFunc(append(list, edges...), func(n int) bool { return n >= 0 && n <= most })
}

// P7.2: a length or a boolean that is out of its place, wherever it stands and whatever follows.
func TestGetOfCountsOutOfPlace(t *testing.T) {
	for _, d := range samples() {
		list := parts(d)
		for at, p := range list {
			if p.free {
				continue
			}
			for _, n := range outside(p.most) {
				b := slices.Concat(code(list[:at]), number(n))
				wantError(t, "a count, nothing behind it", b, api.ErrMany)
				wantError(t, "a count, the rest behind it", slices.Concat(b, code(list[at+1:])), api.ErrMany)
				wantError(t, "a count, much behind it", slices.Concat(b, make([]byte, 400)), api.ErrMany)
				wantError(t, "a count, what is no number behind it", append(b, 0xff), api.ErrMany)
			}
		}
	}
}

// P7.2: as many elements as the length says are read, no more and no fewer.
func TestGetOfEachLength(t *testing.T) {
	zero := func(n int) []byte { return make([]byte, max(n, 0)) }
	for _, x := range []struct {
		name       string
		most, size int
		begin, end []byte
		of         func(n int) api.Decl
	}{
		{"types", 8, 1, nil, joined(0), func(n int) api.Decl { return api.Decl{Types: make([]api.Type, n)} }},
		{"fields", 8, 4, joined(1), joined(0), func(n int) api.Decl {
			return api.Decl{Types: []api.Type{{Fields: make([]api.Field, n)}}}
		}},
		{"moves", 16, 4, joined(1, 1, 4, 1, 0), joined(0), func(n int) api.Decl {
			return api.Decl{Types: []api.Type{{Fields: []api.Field{{Kind: 4, Policy: 1, Moves: make([]api.Move, n)}}}}}
		}},
		{"projections", 8, 5, joined(0), nil, func(n int) api.Decl { return api.Decl{Projs: make([]api.Proj, n)} }},
	} {
		for n := range x.most + 1 {
			b := func(elements int) []byte { return slices.Concat(x.begin, number(n), zero(elements*x.size), x.end) }
			wantGet(t, b(n), x.of(n))
			wantError(t, x.name+", one too many", b(n+1), api.ErrLong)
			if n > 0 {
				wantError(t, x.name+", one too few", b(n-1), api.ErrShort)
			}
		}
		for n := x.most + 1; n < 300; n++ {
			wantError(t, x.name+", too many", slices.Concat(x.begin, number(n), zero(n*x.size), x.end), api.ErrMany)
		}
	}
}

// faults are the ways in which the part p can be wrong, with their errors; bytes that are cut off are among them, behind which nothing must follow.
func faults(t *testing.T, p part) (list []fault) {
	list = append(list, fault{fromHex(t, "0100"), api.ErrLong, false}, fault{fromHex(t, "19"), api.ErrLong, false})
	list = append(list, fault{nil, api.ErrShort, true}, fault{fromHex(t, "08ff"), api.ErrShort, true}, fault{fromHex(t, "0200"), api.ErrShort, true})
	if !p.free {
		list = append(list, fault{number(p.most + 1), api.ErrMany, false}, fault{number(-1), api.ErrMany, false})
	}
	return list
}

type fault struct {
	code []byte
	want api.Errno
	end  bool // the bytes end with it
}

// P7.2: of two errors the first one in the order of the reads is told, whichever two they are and wherever.
func TestGetTellsTheFirstError(t *testing.T) {
	for _, d := range []api.Decl{{}, counter(), rich(), sized(2, 1, 1, 1)} {
		list := parts(d)
		for first := range list {
			for _, x := range faults(t, list[first]) {
				b := slices.Concat(code(list[:first]), x.code)
				wantError(t, "one fault, nothing behind it", b, x.want)
				if x.end {
					continue
				}
				for second := first + 1; second < len(list); second++ {
					for _, y := range faults(t, list[second]) {
						c := slices.Concat(b, code(list[first+1:second]), y.code)
						wantError(t, "two faults", c, x.want)
						if !y.end {
							wantError(t, "two faults, the rest behind them", slices.Concat(c, code(list[second+1:]), []byte{0}), x.want)
						}
					}
				}
			}
		}
	}
}

// P7.2: of one number that is wrong in two ways, what the reading method says first is told.
func TestGetOfANumberThatIsWrongTwice(t *testing.T) {
	for _, d := range []api.Decl{counter(), rich()} {
		list := parts(d)
		for at := range list {
			begin := code(list[:at])
			for _, x := range []struct {
				code string
				want api.Errno
			}{
				{"02 41", api.ErrShort},                     // too great, cut off
				{"02 00 41", api.ErrLong},                   // too great, in a wrong form
				{"02 00", api.ErrShort},                     // in a wrong form, cut off
				{"11", api.ErrShort},                        // below 0, cut off
				{"11 00", api.ErrLong},                      // no negative number, in a wrong form
				{"08 80 00 00 00", api.ErrShort},            // no int, cut off
				{"1f 00 00", api.ErrLong},                   // no head, cut off
				{"18 ff ff ff ff ff ff ff ff", api.ErrLong}, // no int, below 0
			} {
				wantError(t, x.code, slices.Concat(begin, fromHex(t, x.code)), x.want)
			}
		}
	}
}

// A reading is P7.2 read word by word: the bytes that are left, and the first error.
type reading struct {
	b []byte
	e api.Errno
}

// fail keeps the first error.
func (r *reading) fail(e api.Errno) int {
	if r.e == api.OK {
		r.e = e
	}
	return 0
}

// int reads a number by chapter 1's definition.
func (r *reading) int() int {
	if r.e != api.OK {
		return 0
	}
	if len(r.b) == 0 {
		return r.fail(api.ErrShort)
	}
	head := int(r.b[0])
	below := head >= 17 && head <= 24
	if below {
		head -= 16
	}
	if head > 8 {
		return r.fail(api.ErrLong)
	}
	if len(r.b) < 1+head {
		return r.fail(api.ErrShort)
	}
	abs := new(big.Int).SetBytes(r.b[1 : 1+head])
	if below {
		abs.Neg(abs)
	}
	if !abs.IsInt64() || !bytes.Equal(number(int(abs.Int64())), r.b[:1+head]) {
		return r.fail(api.ErrLong)
	}
	r.b = r.b[1+head:]
	return int(abs.Int64())
}

// count reads a number from 0 to most.
func (r *reading) count(most int) int {
	n := r.int()
	if n < 0 || n > most {
		return r.fail(api.ErrMany)
	}
	return n
}

// read returns what P7.2 says of b.
func read(b []byte) (api.Decl, api.Errno) {
	r := &reading{b: b}
	var d api.Decl
	for range r.count(8) {
		var t api.Type
		for range r.count(8) {
			f := api.Field{Kind: r.int()}
			f.Policy = r.int()
			f.Floor = r.count(1) == 1
			for range r.count(16) {
				var four [4]int
				for i := range four {
					four[i] = r.int()
				}
				f.Moves = append(f.Moves, api.Move{From: four[0], To: four[1], Need: four[2], Least: four[3]})
			}
			t.Fields = append(t.Fields, f)
		}
		d.Types = append(d.Types, t)
	}
	for range r.count(8) {
		var five [5]int
		for i := range five {
			five[i] = r.int()
		}
		d.Projs = append(d.Projs, api.Proj{Type: five[0], Field: five[1], Group: five[2], By: five[3], Make: five[4]})
	}
	if r.e == api.OK && len(r.b) > 0 {
		r.fail(api.ErrLong)
	}
	if r.e != api.OK {
		return api.Decl{}, r.e
	}
	return d, api.OK
}

// hold holds Get of any bytes against P7.2, and Put of what it returned against P7.3; it returns the error of Get.
func hold(t *testing.T, b []byte) api.Errno {
	t.Helper()
	want, e := read(b)
	if e != api.OK {
		wantError(t, "as P7.2 says", b, e)
		return e
	}
	wantGet(t, b, want)
	got, _ := decl.Get(b)
	wantPut(t, got, b)
	return e
}

// P7.2, P7.3: changed encodings, and bytes that are made up; each answer is met.
func TestGetOfMadeUpBytes(t *testing.T) {
	random := rand.New(rand.NewSource(7))
	met := map[api.Errno]int{}
	for range 60000 {
		b := encoding(madeUp(random))
		switch random.Intn(4) {
		case 0:
			b[random.Intn(len(b))] = byte(random.Intn(27))
		case 1:
			b = make([]byte, 2+random.Intn(30))
			for i := range b {
				b[i] = byte(random.Intn(3))
			}
		case 2:
			b = b[:len(b)-random.Intn(2)]
			b = append(b, make([]byte, random.Intn(3))...)
		}
		met[hold(t, b)]++
	}
	for _, e := range []api.Errno{api.OK, api.ErrMany, api.ErrShort, api.ErrLong} {
		if met[e] < 1000 {
			t.Errorf("the answer %d was met %d times", e, met[e])
		}
	}
}

// P7.2, P7.3: all strings of up to six bytes of the few that numbers up to 2 are made of.
func TestGetOfAllShortStrings(t *testing.T) {
	var extend func(b []byte)
	extend = func(b []byte) {
		hold(t, b)
		if len(b) == 6 {
			return
		}
		for _, x := range []byte{0, 1, 2, 9, 0x11} {
			extend(append(slices.Clone(b), x))
		}
	}
	extend(nil)
}

// P7.3: Get of what Put returned are the declarations, also those that are not right otherwise.
func TestGetFollowsPut(t *testing.T) {
	random := rand.New(rand.NewSource(8))
	list := samples()
	for range 5000 {
		list = append(list, madeUp(random))
	}
	for _, d := range list {
		b := put(t, d)
		if !bytes.Equal(b, encoding(d)) || !fits(d) {
			t.Fatalf("Put of %+v = % x", d, b)
		}
		wantGet(t, b, d)
	}
}

// P7.3: lists that are nil and such that are empty have the same bytes.
func TestPutOfEmptyLists(t *testing.T) {
	for _, d := range samples() {
		b := put(t, d)
		wantPut(t, plain(d), b)
		wantPut(t, clone(d), b)
	}
	f := api.Field{Kind: 4, Policy: 2, Moves: []api.Move{{From: 1}}[:0]}
	d := api.Decl{Types: []api.Type{{Fields: []api.Field{f}[:1]}, {Fields: []api.Field{f}[:0]}}, Projs: []api.Proj{{}}[:0]}
	wantPut(t, d, fromHex(t, "0102 0101 0104 0102 00 00 00 00"))
	wantGet(t, fromHex(t, "0102 0101 0104 0102 00 00 00 00"), d)
}

// withRoom returns a copy of list that has spare capacity, with what is behind its length.
func withRoom[T any](list []T, behind T) []T {
	room := make([]T, len(list), len(list)+5)
	copy(room, list)
	for i := len(list); i < cap(room); i++ {
		room[:cap(room)][i] = behind
	}
	return room
}

// roomy returns a copy of d, each list of which has spare capacity.
func roomy(d api.Decl) api.Decl {
	m, p := api.Move{From: 81, To: 82, Need: 83, Least: 84}, api.Proj{Type: 91, Field: 92, Group: 93, By: 94, Make: 95}
	f := api.Field{Kind: 85, Policy: 86, Moves: []api.Move{m}}
	d.Types, d.Projs = withRoom(d.Types, api.Type{Fields: []api.Field{f}}), withRoom(d.Projs, p)
	for i := range d.Types {
		fields := withRoom(d.Types[i].Fields, f)
		for j := range fields {
			fields[j].Moves = withRoom(fields[j].Moves, m)
		}
		d.Types[i].Fields = fields
	}
	return d
}

// whole returns a copy of d in which each list has what is behind its length, too.
func whole(d api.Decl) api.Decl {
	d.Types, d.Projs = slices.Clone(d.Types[:cap(d.Types)]), d.Projs[:cap(d.Projs)]
	for i := range d.Types {
		fields := slices.Clone(d.Types[i].Fields[:cap(d.Types[i].Fields)])
		for j := range fields {
			fields[j].Moves = fields[j].Moves[:cap(fields[j].Moves)]
		}
		d.Types[i].Fields = fields
	}
	return d
}

// R3: arguments are left as they are, and so is their spare capacity.
func TestArgumentsAreLeftAlone(t *testing.T) {
	list := append(samples(), sized(9, 1, 1, 1), sized(1, 9, 1, 1), sized(1, 1, 17, 1), sized(1, 1, 1, 9))
	for _, d := range list {
		d = roomy(d)
		kept := clone(whole(d))
		decl.Put(d)
		if !same(whole(d), kept) {
			t.Fatalf("Put made %+v of %+v", whole(d), kept)
		}
	}
	for _, d := range samples() {
		b := append(encoding(d), 1, 2, 3, 9, 0xff)
		kept := slices.Clone(b)
		for cut := range len(b) + 1 {
			decl.Get(b[:cut])
		}
		if !bytes.Equal(b, kept) {
			t.Fatalf("Get made % x of % x", b, kept)
		}
	}
}

// fill writes over all that a slice reaches, its spare capacity included.
func fill[T any](list []T, with T) {
	list = list[:cap(list)]
	for i := range list {
		list[i] = with
	}
}

// R3: what Put returns is new memory.
func TestBytesAreNewMemory(t *testing.T) {
	for _, d := range samples() {
		want := encoding(d)
		first, second := put(t, d), put(t, d)
		fill(first, 0x55)
		if !bytes.Equal(second, want) || !bytes.Equal(encoding(d), want) {
			t.Errorf("with what Put returned, another result became % x, and the declarations %+v", second, d)
		}
		for _, n := range places(&d) {
			*n = 5555
		}
		if !bytes.Equal(second, want) {
			t.Errorf("with the declarations, what Put returned became % x", second)
		}
	}
}

// R3: what Get returns is new memory, and each of its lists has memory of its own.
func TestDeclarationsAreNewMemory(t *testing.T) {
	for _, d := range samples() {
		b := encoding(d)
		for i := range d.Types {
			for j := range d.Types[i].Fields {
				got, _ := decl.Get(b)
				want := clone(d)
				fill(got.Types[i].Fields[j].Moves, api.Move{From: 5, To: 5, Need: 5, Least: 5})
				fill(want.Types[i].Fields[j].Moves, api.Move{From: 5, To: 5, Need: 5, Least: 5})
				if !same(got, want) {
					t.Fatalf("with the moves of one field, the declarations became %+v", got)
				}
			}
			got, _ := decl.Get(b)
			want := clone(d)
			fill(got.Types[i].Fields, api.Field{Kind: 7})
			fill(want.Types[i].Fields, api.Field{Kind: 7})
			if !same(got, want) {
				t.Fatalf("with the fields of one type, the declarations became %+v", got)
			}
		}
		got, _ := decl.Get(b)
		other, _ := decl.Get(b)
		fill(got.Projs, api.Proj{Make: 5})
		fill(got.Types, api.Type{})
		if !same(other, d) || !bytes.Equal(b, encoding(d)) {
			t.Fatalf("with what Get returned, another result became %+v, and the bytes % x", other, b)
		}
		fill(b, 0x55)
		if !same(other, d) {
			t.Fatalf("with the bytes, what Get returned became %+v", other)
		}
	}
}

// R4: the results depend on the arguments alone, not on calls before.
func TestResultsDependOnArgumentsAlone(t *testing.T) {
	for _, other := range samples() {
		b := put(t, other)
		decl.Get(b)
		decl.Get(b[:len(b)-1])
		decl.Put(sized(9, 9, 17, 9))
		decl.Get([]byte{1, 9})
		wantPut(t, rich(), fromHex(t, richCode))
		wantGet(t, fromHex(t, richCode), rich())
		wantPut(t, api.Decl{}, []byte{0, 0})
		wantError(t, "01", []byte{1}, api.ErrShort)
	}
}

// FuzzCode holds both calls against the chapter for any bytes, and for the declarations that they are (P7.1 to P7.3).
func FuzzCode(f *testing.F) {
	for _, d := range samples() {
		f.Add(encoding(d))
	}
	f.Add([]byte{1})
	f.Add([]byte{1, 0x14})
	f.Fuzz(func(t *testing.T, b []byte) {
		kept := slices.Clone(b)
		hold(t, b)
		if !bytes.Equal(b, kept) {
			t.Fatalf("Get made % x of % x", b, kept)
		}
	})
}
