package schema_test

import (
	"math"
	"math/rand"
	"reflect"
	"slices"
	"testing"

	"quayside/api"
	"quayside/schema"
)

// edges are the ends of what an int can be, and numbers whose low bits alone are in place.
var edges = []int{
	math.MinInt, math.MinInt + 1, math.MinInt + 4, -1 << 32, -1<<32 + 1, -256, -255,
	1 << 8, 1<<8 + 1, 1<<8 + 2, 1<<16 + 1, 1<<31 + 1, 1 << 32, 1<<32 + 1, 1<<32 + 4, math.MaxInt - 1, math.MaxInt,
}

// numbers are the edges, and all numbers about those that a declaration may have.
func numbers() []int {
	list := slices.Clone(edges)
	for n := -5; n <= 70; n++ {
		list = append(list, n)
	}
	return list
}

// field returns a field of a kind that nothing is wrong with.
func field(kind int) api.Field {
	f := api.Field{Kind: kind, Policy: api.PLast}
	if kind == api.FMachine {
		f.Moves = []api.Move{{From: 0, To: 1, Need: -1}}
	}
	return f
}

// machine returns a machine with these moves.
func machine(moves ...api.Move) api.Field {
	return api.Field{Kind: api.FMachine, Policy: api.PLast, Moves: moves}
}

// of returns declarations of one type with these fields.
func of(fields ...api.Field) api.Decl {
	return api.Decl{Types: []api.Type{{Fields: fields}}}
}

// rich returns declarations of two types that are alike, with a field of each kind and two projections, that nothing is wrong with.
func rich() api.Decl {
	var d api.Decl
	for range 2 {
		d.Types = append(d.Types, api.Type{Fields: []api.Field{
			{Kind: api.FCounter, Policy: api.PLast, Floor: true},
			{Kind: api.FRegister, Policy: api.PMax},
			{Kind: api.FSet, Policy: api.PFirst},
			{Kind: api.FMachine, Policy: api.PFirst, Moves: []api.Move{
				{From: 0, To: 1, Need: 0, Least: 2}, {From: 1, To: 2, Need: -1}, {From: 2, To: 0, Need: 0, Least: -5},
			}},
		}})
	}
	d.Projs = []api.Proj{
		{Type: 0, Field: 0, Group: api.GReg, By: 1, Make: api.MSum},
		{Type: 1, Field: 2, Group: api.GArg, By: 0, Make: api.MCount},
	}
	return d
}

// clone returns a copy of d that shares no memory with it.
func clone(d api.Decl) api.Decl {
	d.Types, d.Projs = slices.Clone(d.Types), slices.Clone(d.Projs)
	for i := range d.Types {
		fields := slices.Clone(d.Types[i].Fields)
		for j := range fields {
			fields[j].Moves = slices.Clone(fields[j].Moves)
		}
		d.Types[i].Fields = fields
	}
	return d
}

// wholeCounts tells what the first part of P6.1 says of d, word by word.
func wholeCounts(d api.Decl) bool {
	fit := len(d.Types) >= 1 && len(d.Types) <= 8 && len(d.Projs) <= 8
	for _, t := range d.Types {
		fit = fit && len(t.Fields) >= 1 && len(t.Fields) <= 8
		for _, f := range t.Fields {
			if f.Kind == 4 {
				fit = fit && len(f.Moves) >= 1 && len(f.Moves) <= 16
			} else {
				fit = fit && len(f.Moves) == 0
			}
		}
	}
	return fit
}

// kindOf returns the kind of a field of t, or 0 if there is none.
func kindOf(t api.Type, n int) int {
	for i, f := range t.Fields {
		if i == n {
			return f.Kind
		}
	}
	return 0
}

// wholeField tells what the second part of P6.1 says of a field of t, word by word.
func wholeField(t api.Type, f api.Field) api.Errno {
	if !slices.Contains([]int{1, 2, 3, 4}, f.Kind) {
		return api.ErrKind
	}
	permitted := map[int][]int{1: {1}, 2: {1, 2, 3}, 3: {1, 2}, 4: {1, 2}}
	if !slices.Contains(permitted[f.Kind], f.Policy) {
		return api.ErrArg
	}
	if f.Floor && f.Kind != 1 {
		return api.ErrArg
	}
	for _, m := range f.Moves {
		if m.From < 0 || m.To < 0 {
			return api.ErrArg
		}
		if m.Need == -1 && m.Least != 0 {
			return api.ErrArg
		}
	}
	for _, m := range f.Moves {
		if m.Need != -1 && kindOf(t, m.Need) != 1 {
			return api.ErrField
		}
	}
	return api.OK
}

// wholeProj tells what the third part of P6.1 says of a projection, word by word.
func wholeProj(d api.Decl, p api.Proj) api.Errno {
	var t api.Type
	for i := range d.Types {
		if i == p.Type {
			t = d.Types[i]
		}
	}
	there := false
	for i := range t.Fields {
		there = there || i == p.Field
	}
	if !there {
		return api.ErrField
	}
	if p.Group == 3 && kindOf(t, p.By) != 2 {
		return api.ErrField
	}
	if p.Group != 3 && p.By != 0 {
		return api.ErrField
	}
	if !slices.Contains([]int{1, 2, 3}, p.Group) || !slices.Contains([]int{1, 2, 3, 4, 5}, p.Make) {
		return api.ErrKind
	}
	return api.OK
}

// whole tells what P6.1 says of d.
func whole(d api.Decl) api.Errno {
	if !wholeCounts(d) {
		return api.ErrMany
	}
	for _, t := range d.Types {
		for _, f := range t.Fields {
			if e := wholeField(t, f); e != api.OK {
				return e
			}
		}
	}
	for _, p := range d.Projs {
		if e := wholeProj(d, p); e != api.OK {
			return e
		}
	}
	return api.OK
}

// wantCheck asks for an answer of Check, which the chapter's words must bear out.
func wantCheck(t *testing.T, what string, d api.Decl, want api.Errno) {
	t.Helper()
	if said := whole(d); said != want {
		t.Errorf("%s: %+v: the chapter says %d, the test %d", what, d, said, want)
	}
	if got := schema.Check(d); got != want {
		t.Errorf("%s: Check of %+v = %d, want %d", what, d, got, want)
	}
}

// either returns OK if what is asked holds, and else the error.
func either(holds bool, e api.Errno) api.Errno {
	if holds {
		return api.OK
	}
	return e
}

// P6.1: the chapter's examples.
func TestCheckOfTheExamples(t *testing.T) {
	wantCheck(t, "a counter with a floor", of(api.Field{Kind: api.FCounter, Policy: api.PLast, Floor: true}), api.OK)
	wantCheck(t, "none at all", api.Decl{}, api.ErrMany)
	wantCheck(t, "a counter with PFirst", of(api.Field{Kind: api.FCounter, Policy: api.PFirst}), api.ErrArg)
	wantCheck(t, "a move that needs the field 5 of two", of(field(api.FCounter), machine(api.Move{Need: 5})), api.ErrField)
}

// P6.1: declarations with a field of each kind, and those of one field of each kind.
func TestCheckOfGoodDeclarations(t *testing.T) {
	wantCheck(t, "a field of each kind", rich(), api.OK)
	for kind := api.FCounter; kind <= api.FMachine; kind++ {
		wantCheck(t, "a field", of(field(kind)), api.OK)
		for other := api.FCounter; other <= api.FMachine; other++ {
			wantCheck(t, "two fields", of(field(kind), field(other)), api.OK)
		}
	}
}

// P6.1: there are 1 to MaxTypes types.
func TestCheckOfEachNumberOfTypes(t *testing.T) {
	for n := range 20 {
		var d api.Decl
		for range n {
			d.Types = append(d.Types, api.Type{Fields: []api.Field{field(api.FCounter)}})
		}
		wantCheck(t, "so many types", d, either(n >= 1 && n <= 8, api.ErrMany))
	}
	d := api.Decl{Types: slices.Repeat(rich().Types[:1], 1<<16)}
	if got := schema.Check(d); got != api.ErrMany {
		t.Errorf("Check of 2^16 types = %d", got)
	}
	wantCheck(t, "nil types", api.Decl{Types: nil, Projs: rich().Projs}, api.ErrMany)
	wantCheck(t, "empty types", api.Decl{Types: []api.Type{}, Projs: rich().Projs}, api.ErrMany)
}

// P6.1: each type has 1 to MaxFields fields, whichever it is.
func TestCheckOfEachNumberOfFields(t *testing.T) {
	for types := 1; types <= 8; types++ {
		for place := range types {
			for n := range 12 {
				d := api.Decl{Types: slices.Repeat([]api.Type{{Fields: []api.Field{field(api.FSet)}}}, types)}
				d.Types[place].Fields = slices.Repeat([]api.Field{field(api.FRegister)}, n)
				wantCheck(t, "so many fields", d, either(n >= 1 && n <= 8, api.ErrMany))
			}
		}
	}
	d := rich()
	d.Types[1].Fields = nil
	wantCheck(t, "nil fields", d, api.ErrMany)
	d.Types[1].Fields = []api.Field{}
	wantCheck(t, "empty fields", d, api.ErrMany)
}

// P6.1: a machine has 1 to MaxMoves moves, and no other field has any, be its kind one or none, wherever it stands.
func TestCheckOfEachNumberOfMoves(t *testing.T) {
	for _, kind := range append([]int{-1, 0, 1, 2, 3, 4, 5, 6}, edges...) {
		for n := range 20 {
			f := api.Field{Kind: kind, Policy: api.PLast, Moves: slices.Repeat([]api.Move{{From: 1, To: 1, Need: -1}}, n)}
			want := api.OK
			switch {
			case kind == api.FMachine && (n == 0 || n > 16), kind != api.FMachine && n > 0:
				want = api.ErrMany
			case kind < api.FCounter || kind > api.FMachine:
				want = api.ErrKind
			}
			wantCheck(t, "so many moves", of(f), want)
			for place := range 8 {
				d := api.Decl{Types: []api.Type{{Fields: []api.Field{field(api.FMachine)}}, {Fields: slices.Repeat([]api.Field{field(api.FSet)}, 8)}}}
				d.Types[1].Fields[place] = f
				wantCheck(t, "so many moves, among others", d, want)
			}
		}
		if kind == api.FMachine {
			continue
		}
		f := api.Field{Kind: kind, Policy: api.PLast, Moves: []api.Move{}}
		wantCheck(t, "empty moves", of(f), either(kind >= 1 && kind <= 3, api.ErrKind))
	}
	wantCheck(t, "a machine with empty moves", of(api.Field{Kind: api.FMachine, Policy: api.PLast, Moves: []api.Move{}}), api.ErrMany)
}

// P6.1: there are at most MaxProjs projections, none among them.
func TestCheckOfEachNumberOfProjections(t *testing.T) {
	for n := range 20 {
		d := rich()
		d.Projs = slices.Repeat(d.Projs[:1], n)
		wantCheck(t, "so many projections", d, either(n <= 8, api.ErrMany))
	}
	d := rich()
	d.Projs = nil
	wantCheck(t, "nil projections", d, api.OK)
	d.Projs = []api.Proj{}
	wantCheck(t, "empty projections", d, api.OK)
}

// P6.1: only the four kinds are kinds.
func TestCheckOfEachKind(t *testing.T) {
	for _, kind := range numbers() {
		f := field(kind)
		there := kind >= 1 && kind <= 4
		wantCheck(t, "a kind", of(f), either(there, api.ErrKind))
		wantCheck(t, "a kind, behind another field", of(field(api.FSet), f), either(there, api.ErrKind))
		if !there {
			f.Policy, f.Floor = 0, true
			wantCheck(t, "no kind, no policy, and a floor", of(f), api.ErrKind)
		}
	}
}

// P6.1: which policies a field of each kind may have.
func TestCheckOfEachPolicy(t *testing.T) {
	permitted := map[int][]int{
		api.FCounter:  {api.PLast},
		api.FRegister: {api.PLast, api.PFirst, api.PMax},
		api.FSet:      {api.PLast, api.PFirst},
		api.FMachine:  {api.PLast, api.PFirst},
	}
	for kind, list := range permitted {
		for _, policy := range numbers() {
			f := field(kind)
			f.Policy = policy
			wantCheck(t, "a policy", of(f), either(slices.Contains(list, policy), api.ErrArg))
		}
	}
}

// P6.1: only a counter may have a floor.
func TestCheckOfEachFloor(t *testing.T) {
	for kind := api.FCounter; kind <= api.FMachine; kind++ {
		f := field(kind)
		f.Floor = true
		wantCheck(t, "a floor", of(f), either(kind == api.FCounter, api.ErrArg))
		f.Policy = api.PFirst
		wantCheck(t, "a floor and PFirst", of(f), api.ErrArg)
	}
}

// P6.1: From and To of each move are 0 or greater, whichever move it is; they need not be unlike, nor do those of two moves.
func TestCheckOfFromAndTo(t *testing.T) {
	for _, n := range numbers() {
		for count := 1; count <= 16; count++ {
			for place := range count {
				moves := slices.Repeat([]api.Move{{From: 3, To: 3, Need: -1}}, count)
				moves[place].From = n
				wantCheck(t, "a From", of(machine(moves...)), either(n >= 0, api.ErrArg))
				moves[place].From, moves[place].To = 3, n
				wantCheck(t, "a To", of(machine(moves...)), either(n >= 0, api.ErrArg))
				moves[place].From = n
				wantCheck(t, "a From and a To", of(machine(moves...)), either(n >= 0, api.ErrArg))
			}
		}
	}
}

// P6.1: Least is 0 if nothing is needed; else it may be any number.
func TestCheckOfEachLeast(t *testing.T) {
	for _, n := range numbers() {
		for _, place := range []int{0, 1, 15} {
			moves := slices.Repeat([]api.Move{{Need: -1}}, 16)
			moves[place].Least = n
			wantCheck(t, "Least, nothing needed", of(field(api.FCounter), machine(moves...)), either(n == 0, api.ErrArg))
			moves[place].Need = 0
			wantCheck(t, "Least, a counter needed", of(field(api.FCounter), machine(moves...)), api.OK)
			for _, need := range []int{1, 2, -2, math.MinInt, math.MaxInt} {
				moves[place].Need = need
				wantCheck(t, "Least, no counter needed", of(field(api.FCounter), machine(moves...)), api.ErrField)
			}
		}
	}
}

// P6.1: Need is -1 or the number of a counter, be it ahead of the machine or behind it; not of the machine, of a field of another kind, of none.
func TestCheckOfEachNeed(t *testing.T) {
	for _, kinds := range [][]int{
		{4}, {1, 4}, {4, 1}, {2, 4, 3, 1}, {4, 4}, {1, 1, 4, 1, 1, 2, 3, 1}, {4, 3, 3, 3, 3, 3, 3, 1}, {1, 2, 2, 2, 2, 2, 2, 4},
	} {
		var fields []api.Field
		for _, kind := range kinds {
			fields = append(fields, field(kind))
		}
		for at, kind := range kinds {
			if kind != api.FMachine {
				continue
			}
			for _, need := range numbers() {
				list := slices.Clone(fields)
				list[at] = machine(api.Move{Need: -1}, api.Move{Need: need}, api.Move{Need: -1})
				there := need == -1 || need >= 0 && need < len(kinds) && kinds[need] == api.FCounter
				wantCheck(t, "a Need", of(list...), either(there, api.ErrField))
			}
		}
	}
}

// P6.1: the counter that is needed is one of the same type, and not of another.
func TestCheckOfNeedsOfAnotherType(t *testing.T) {
	counters := api.Type{Fields: slices.Repeat([]api.Field{field(api.FCounter)}, 8)}
	for need := range 8 {
		alone := api.Type{Fields: []api.Field{machine(api.Move{Need: need})}}
		wantCheck(t, "counters ahead", api.Decl{Types: []api.Type{counters, alone}}, api.ErrField)
		wantCheck(t, "counters behind", api.Decl{Types: []api.Type{alone, counters}}, api.ErrField)
	}
	first := api.Type{Fields: []api.Field{field(api.FCounter), machine(api.Move{Need: 0})}}
	second := api.Type{Fields: []api.Field{machine(api.Move{Need: 1}), field(api.FCounter)}}
	wantCheck(t, "counters of their own", api.Decl{Types: []api.Type{first, second}}, api.OK)
	wantCheck(t, "counters of their own", api.Decl{Types: []api.Type{second, first}}, api.OK)
}

// P6.1: a projection is of a field that there is.
func TestCheckOfTheFieldOfAProjection(t *testing.T) {
	d := rich()
	d.Types[1].Fields = d.Types[1].Fields[:3]
	for _, typ := range numbers() {
		for _, n := range numbers() {
			there := typ == 0 && n >= 0 && n < 4 || typ == 1 && n >= 0 && n < 3
			d.Projs = []api.Proj{{Type: typ, Field: n, Group: api.GAgg, Make: api.MCount}}
			wantCheck(t, "a field of a projection", d, either(there, api.ErrField))
			d.Projs = []api.Proj{{Type: typ, Field: n, Group: api.GReg, By: 1, Make: api.MCount}}
			wantCheck(t, "a field of a projection by a register", d, either(there, api.ErrField))
		}
	}
}

// P6.1: By is the number of a register of the same type if Group is GReg, and 0 if not, be Group one or none.
func TestCheckOfGroupAndBy(t *testing.T) {
	d := rich()
	d.Types[1] = api.Type{Fields: []api.Field{field(api.FRegister), field(api.FSet), field(api.FRegister)}}
	registers := [][]int{{1}, {0, 2}}
	for typ := range d.Types {
		for _, group := range numbers() {
			for _, by := range numbers() {
				d.Projs = []api.Proj{{Type: typ, Field: 1, Group: group, By: by, Make: api.MMost}}
				want := either(group >= 1 && group <= 3, api.ErrKind)
				if group == api.GReg && !slices.Contains(registers[typ], by) || group != api.GReg && by != 0 {
					want = api.ErrField
				}
				wantCheck(t, "Group and By", d, want)
			}
		}
	}
}

// P6.1: what is made is one of five, no matter of which field and how it is grouped.
func TestCheckOfEachMake(t *testing.T) {
	d := rich()
	for n := range 4 {
		for group := api.GAgg; group <= api.GReg; group++ {
			for _, made := range numbers() {
				d.Projs = []api.Proj{{Field: n, Group: group, Make: made}}
				if group == api.GReg {
					d.Projs[0].By = 1
				}
				wantCheck(t, "Make", d, either(made >= 1 && made <= 5, api.ErrKind))
			}
		}
	}
}

// P6.1: two projections may be alike, and each one is asked for, whichever it is.
func TestCheckOfEachProjection(t *testing.T) {
	for count := 1; count <= 8; count++ {
		d := rich()
		d.Projs = slices.Repeat(d.Projs[:1], count)
		wantCheck(t, "projections that are alike", d, api.OK)
		for place := range count {
			one := clone(d)
			one.Projs[place].Make = 0
			wantCheck(t, "one projection", one, api.ErrKind)
			one.Projs[place].By = 2
			wantCheck(t, "one projection", one, api.ErrField)
		}
	}
}

// fault is one thing that is wrong with declarations, and what Check says of it.
type fault struct {
	name string
	make func(d *api.Decl)
	want api.Errno
}

// countFaults are faults of rich declarations that are asked for ahead of all others.
func countFaults() []fault {
	return []fault{
		{"nine types", func(d *api.Decl) { d.Types = append(d.Types, slices.Repeat(d.Types[:1], 9)...) }, api.ErrMany},
		{"a type without fields", func(d *api.Decl) { d.Types = append(d.Types, api.Type{}) }, api.ErrMany},
		{"nine fields", func(d *api.Decl) {
			d.Types[1].Fields = append(d.Types[1].Fields, slices.Repeat([]api.Field{field(api.FCounter)}, 5)...)
		}, api.ErrMany},
		{"a machine without moves", func(d *api.Decl) { d.Types = append(d.Types, of(machine()).Types...) }, api.ErrMany},
		{"seventeen moves", func(d *api.Decl) {
			f := &d.Types[1].Fields[3]
			f.Moves = append(f.Moves, slices.Repeat([]api.Move{{Need: -1}}, 14)...)
		}, api.ErrMany},
		{"a move of a counter", func(d *api.Decl) { d.Types[0].Fields[0].Moves = make([]api.Move, 1) }, api.ErrMany},
		{"a move of a register", func(d *api.Decl) { d.Types[1].Fields[1].Moves = make([]api.Move, 1) }, api.ErrMany},
		{"a move of a set", func(d *api.Decl) { d.Types[1].Fields[2].Moves = make([]api.Move, 1) }, api.ErrMany},
		{"nine projections", func(d *api.Decl) { d.Projs = append(d.Projs, slices.Repeat(d.Projs[:1], 7)...) }, api.ErrMany},
	}
}

// fieldFaults are the faults of the fields of a type of rich declarations, in the order of their errors.
func fieldFaults(typ int) []fault {
	var list []fault
	add := func(name string, n int, make func(f *api.Field), want api.Errno) {
		list = append(list, fault{name, func(d *api.Decl) { make(&d.Types[typ].Fields[n]) }, want})
	}
	add("a counter of kind 0", 0, func(f *api.Field) { f.Kind = 0 }, api.ErrKind)
	add("a counter with PFirst", 0, func(f *api.Field) { f.Policy = api.PFirst }, api.ErrArg)
	add("a register of kind 5", 1, func(f *api.Field) { f.Kind = 5 }, api.ErrKind)
	add("a register without a policy", 1, func(f *api.Field) { f.Policy = 0 }, api.ErrArg)
	add("a register with a floor", 1, func(f *api.Field) { f.Floor = true }, api.ErrArg)
	add("a set of kind -1", 2, func(f *api.Field) { f.Kind = -1 }, api.ErrKind)
	add("a set with PMax", 2, func(f *api.Field) { f.Policy = api.PMax }, api.ErrArg)
	add("a set with a floor", 2, func(f *api.Field) { f.Floor = true }, api.ErrArg)
	add("a machine with PMax", 3, func(f *api.Field) { f.Policy = api.PMax }, api.ErrArg)
	add("a machine with a floor", 3, func(f *api.Field) { f.Floor = true }, api.ErrArg)
	// Whatever is wrong with a number of a move, also of the last one, is asked for ahead of what is needed, also by the first one.
	add("From -1", 3, func(f *api.Field) { f.Moves[2].From = -1 }, api.ErrArg)
	add("To -1", 3, func(f *api.Field) { f.Moves[1].To = -1 }, api.ErrArg)
	add("Least 1 and Need -1", 3, func(f *api.Field) { f.Moves[1].Least = 1 }, api.ErrArg)
	add("Need of a register", 3, func(f *api.Field) { f.Moves[0].Need = 1 }, api.ErrField)
	add("Need of no field", 3, func(f *api.Field) { f.Moves[2].Need = 4 }, api.ErrField)
	return list
}

// projFaults are the faults of the projections of rich declarations, in the order of their errors.
func projFaults() []fault {
	return []fault{
		{"first: no such field", func(d *api.Decl) { d.Projs[0].Field = 4 }, api.ErrField},
		{"first: by a counter", func(d *api.Decl) { d.Projs[0].By = 0 }, api.ErrField},
		{"first: nothing made", func(d *api.Decl) { d.Projs[0].Make = 6 }, api.ErrKind},
		{"second: no such type", func(d *api.Decl) { d.Projs[1].Type = -1 }, api.ErrField},
		{"second: by 1", func(d *api.Decl) { d.Projs[1].By = 1 }, api.ErrField},
		{"second: no group", func(d *api.Decl) { d.Projs[1].Group = 0 }, api.ErrKind},
		{"second: nothing made", func(d *api.Decl) { d.Projs[1].Make = 0 }, api.ErrKind},
	}
}

// P6.1: each fault by itself, all pairs and all sets of three, made in any order: in one field, in two fields, in two types, in a field and a projection. The error that the chapter names first is told.
func TestCheckTellsTheFirstError(t *testing.T) {
	faults := slices.Concat(countFaults(), fieldFaults(0), fieldFaults(1), projFaults())
	for i, first := range faults {
		for j := i; j < len(faults); j++ {
			for k := j; k < len(faults); k++ {
				d, turned := rich(), rich()
				for _, f := range []fault{first, faults[j], faults[k]} {
					f.make(&d)
				}
				wantCheck(t, first.name+", "+faults[j].name+", "+faults[k].name, d, first.want)
				for _, f := range []fault{faults[k], faults[j], first} {
					f.make(&turned)
				}
				wantCheck(t, faults[k].name+", "+faults[j].name+", "+first.name, turned, first.want)
			}
		}
	}
}

// P6.1: what a field or a projection asks of another field is its kind alone: what is wrong with the other one is told in its own place.
func TestCheckAsksForTheKindAlone(t *testing.T) {
	bad := api.Field{Kind: api.FCounter, Policy: api.PFirst}
	wantCheck(t, "a wrong counter ahead", of(bad, machine(api.Move{Need: 0})), api.ErrArg)
	wantCheck(t, "a wrong counter behind", of(machine(api.Move{Need: 1}), bad), api.ErrArg)
	wantCheck(t, "no counter, and a wrong one behind", of(machine(api.Move{Need: 0}), bad), api.ErrField)
	wantCheck(t, "no kind behind", of(machine(api.Move{Need: 1}), api.Field{}), api.ErrField)
	wantCheck(t, "no kind ahead", of(api.Field{}, machine(api.Move{Need: 0})), api.ErrKind)
	d := of(api.Field{Kind: api.FRegister})
	d.Projs = []api.Proj{{Group: api.GReg, Make: api.MSum}}
	wantCheck(t, "by a register without a policy", d, api.ErrArg)
}

// pick returns a number from 0 to n - 1, or in one of so many cases one that is out of its place.
func pick(random *rand.Rand, n, seldom int) int {
	if random.Intn(seldom) > 0 {
		return random.Intn(n)
	}
	if random.Intn(2) > 0 {
		return edges[random.Intn(len(edges))]
	}
	return random.Intn(20) - 3
}

// madeUpField returns some field, of which seldom something is wrong.
func madeUpField(random *rand.Rand, kinds []int, seldom int) api.Field {
	f := api.Field{Kind: pick(random, 4, seldom) + 1, Policy: api.PLast, Floor: random.Intn(seldom) == 0}
	if random.Intn(4) == 0 {
		f.Policy = pick(random, 2, seldom) + 1
	}
	if f.Kind == api.FCounter {
		f.Policy, f.Floor = pick(random, 1, seldom)+1, random.Intn(2) == 0
	}
	if f.Kind == api.FMachine || random.Intn(2*seldom) == 0 {
		f.Moves = make([]api.Move, 1+random.Intn(4))
		if random.Intn(4*seldom) == 0 {
			f.Moves = make([]api.Move, random.Intn(20))
		}
	}
	for i := range f.Moves {
		f.Moves[i] = api.Move{From: pick(random, 3, 4*seldom), To: pick(random, 3, 4*seldom), Need: -1}
		if random.Intn(3) == 0 && slices.Contains(kinds, api.FCounter) {
			f.Moves[i].Need, f.Moves[i].Least = slices.Index(kinds, api.FCounter), pick(random, 9, 3)
		}
		if random.Intn(4*seldom) == 0 {
			f.Moves[i].Need, f.Moves[i].Least = pick(random, 5, 4), pick(random, 2, 4)
		}
	}
	return f
}

// madeUp returns some declarations, of which seldom something is wrong.
func madeUp(random *rand.Rand, seldom int) api.Decl {
	var d api.Decl
	registers := [][]int{}
	for range 1 + random.Intn(3) {
		var t api.Type
		var kinds, here []int
		for range 1 + random.Intn(4) {
			f := madeUpField(random, kinds, seldom)
			if f.Kind == api.FRegister {
				here = append(here, len(kinds))
			}
			kinds = append(kinds, f.Kind)
			t.Fields = append(t.Fields, f)
		}
		d.Types = append(d.Types, t)
		registers = append(registers, here)
	}
	for range random.Intn(4) {
		p := api.Proj{Type: pick(random, len(d.Types), seldom), Group: pick(random, 2, seldom) + 1, Make: pick(random, 5, seldom) + 1}
		if p.Type >= 0 && p.Type < len(d.Types) {
			p.Field = pick(random, len(d.Types[p.Type].Fields), seldom)
			if here := registers[p.Type]; len(here) > 0 && random.Intn(2) == 0 {
				p.Group, p.By = api.GReg, here[random.Intn(len(here))]
			}
		}
		if random.Intn(seldom) == 0 {
			p.By = pick(random, 4, 4)
		}
		d.Projs = append(d.Projs, p)
	}
	return d
}

// P6.1: made-up declarations, held against the chapter's words; each answer is met.
func TestCheckOfMadeUpDeclarations(t *testing.T) {
	random := rand.New(rand.NewSource(6))
	met := map[api.Errno]int{}
	for range 100000 {
		d := madeUp(random, 20)
		met[whole(d)]++
		wantCheck(t, "made up", d, whole(d))
	}
	for _, e := range []api.Errno{api.OK, api.ErrMany, api.ErrKind, api.ErrArg, api.ErrField} {
		if met[e] < 1000 {
			t.Errorf("the answer %d was met %d times", e, met[e])
		}
	}
}

// wrong are declarations that something is wrong with; Field and Fits answer of them, too.
func wrong() []api.Decl {
	noFields := rich()
	noFields.Types[0].Fields = nil
	return []api.Decl{
		{}, {Types: []api.Type{}}, {Projs: rich().Projs}, {Types: make([]api.Type, 3)}, noFields,
		of(), of(api.Field{}), of(machine()), of(api.Field{Kind: 5, Policy: 9, Floor: true}),
		of(api.Field{Kind: api.FCounter, Moves: make([]api.Move, 2)}, api.Field{Kind: api.FRegister, Policy: -1, Moves: make([]api.Move, 1)}),
		of(api.Field{Kind: api.FSet, Floor: true, Moves: make([]api.Move, 3)}, machine(slices.Repeat([]api.Move{{From: -1, Need: 77}}, 40)...)),
		of(slices.Repeat(rich().Types[0].Fields, 5)...),
		{Types: slices.Repeat(rich().Types, 10)},
		of(api.Field{Kind: 0, Moves: make([]api.Move, 2)}, api.Field{Kind: -1}, api.Field{Kind: 6}, api.Field{Kind: 1<<32 + 1}, api.Field{Kind: 1<<8 + 4, Moves: make([]api.Move, 2)}),
		of(api.Field{Kind: math.MaxInt}, api.Field{Kind: math.MinInt}, api.Field{Kind: math.MinInt + 1}, api.Field{Kind: 1<<16 + 1}),
	}
}

// wantField asks for the field of each number of each type about those that there are, and of numbers that are none.
func wantField(t *testing.T, d api.Decl) {
	t.Helper()
	for _, typ := range append([]int{-2, -1, 0, 1, 2, 3, 7, 8, 9, 19, 20}, edges...) {
		for _, n := range append([]int{-2, -1, 0, 1, 2, 3, 4, 7, 8, 9, 19, 20}, edges...) {
			var want api.Field
			there := false
			for i, one := range d.Types {
				for j, f := range one.Fields {
					if i == typ && j == n {
						want, there = f, true
					}
				}
			}
			got, ok := schema.Field(d, typ, n)
			if ok != there || !sameField(got, want) {
				t.Errorf("Field of %+v, type %d, field %d = %+v, %t, want %+v, %t", d, typ, n, got, ok, want, there)
			}
		}
	}
}

// sameField tells whether two fields are one; that Moves is nil is as good as that it is empty.
func sameField(a, b api.Field) bool {
	return a.Kind == b.Kind && a.Policy == b.Policy && a.Floor == b.Floor && slices.Equal(a.Moves, b.Moves)
}

// P6.2: each field that there is, and none for any other number, also of declarations that are not right.
func TestFieldOfEachNumber(t *testing.T) {
	wantField(t, rich())
	for _, d := range wrong() {
		wantField(t, d)
	}
	random := rand.New(rand.NewSource(62))
	for range 300 {
		wantField(t, madeUp(random, 5))
	}
}

// P6.2: beside false there is the zero value.
func TestFieldThatIsNotThere(t *testing.T) {
	for _, d := range append(wrong(), rich()) {
		for _, x := range [][2]int{{-1, 0}, {0, -1}, {20, 0}, {0, 20}, {20, 20}, {math.MaxInt, math.MaxInt}, {math.MinInt, math.MinInt}, {math.MinInt, 0}, {0, math.MaxInt}} {
			if got, ok := schema.Field(d, x[0], x[1]); ok || !reflect.DeepEqual(got, api.Field{}) {
				t.Errorf("Field of the type %d, the field %d = %+v, %t", x[0], x[1], got, ok)
			}
		}
	}
}

// fits tells what P6.3 says, word by word.
func fits(d api.Decl, typ, n, op, arg int) api.Errno {
	for i, one := range d.Types {
		for j, f := range one.Fields {
			if i == typ && j == n {
				return fitsField(f, op, arg)
			}
		}
	}
	return api.ErrField
}

// fitsField tells what P6.3 says of a field that there is.
func fitsField(f api.Field, op, arg int) api.Errno {
	switch [2]int{op, f.Kind} {
	case [2]int{1, 1}:
		return either(arg != 0, api.ErrArg)
	case [2]int{2, 2}, [2]int{3, 3}, [2]int{4, 3}:
		return api.OK
	case [2]int{5, 4}:
		for i := range f.Moves {
			if i == arg {
				return api.OK
			}
		}
		return api.ErrArg
	}
	return api.ErrKind
}

// wantFits asks for an answer of Fits, which the chapter's words must bear out.
func wantFits(t *testing.T, what string, d api.Decl, typ, n, op, arg int, want api.Errno) {
	t.Helper()
	if said := fits(d, typ, n, op, arg); said != want {
		t.Errorf("%s: %+v, type %d, field %d, op %d, arg %d: the chapter says %d, the test %d", what, d, typ, n, op, arg, said, want)
	}
	if got := schema.Fits(d, typ, n, op, arg); got != want {
		t.Errorf("%s: Fits of %+v, type %d, field %d, op %d, arg %d = %d, want %d", what, d, typ, n, op, arg, got, want)
	}
}

// P6.3: each operation on a field of each kind.
func TestFitsOfEachOperation(t *testing.T) {
	d := rich()
	ofKind := map[int][]int{0: {api.OInc}, 1: {api.OSet}, 2: {api.OAdd, api.ORemove}, 3: {api.OMove}}
	for n, list := range ofKind {
		for _, op := range numbers() {
			for typ := range d.Types {
				want := either(slices.Contains(list, op), api.ErrKind)
				wantFits(t, "an operation", d, typ, n, op, 1, want)
				if op != api.OInc {
					wantFits(t, "an operation", d, typ, n, op, 0, want)
				}
			}
		}
	}
}

// P6.3: each argument of each operation; only that of OInc must not be 0, and that of OMove must be the number of a move.
func TestFitsOfEachArgument(t *testing.T) {
	d := rich()
	for _, arg := range numbers() {
		wantFits(t, "OInc", d, 0, 0, api.OInc, arg, either(arg != 0, api.ErrArg))
		wantFits(t, "OSet", d, 0, 1, api.OSet, arg, api.OK)
		wantFits(t, "OAdd", d, 0, 2, api.OAdd, arg, api.OK)
		wantFits(t, "ORemove", d, 0, 2, api.ORemove, arg, api.OK)
		wantFits(t, "OMove", d, 0, 3, api.OMove, arg, either(arg >= 0 && arg < 3, api.ErrArg))
		for count := range 20 {
			m := of(machine(slices.Repeat([]api.Move{{Need: -1}}, count)...))
			wantFits(t, "OMove of so many moves", m, 0, 0, api.OMove, arg, either(arg >= 0 && arg < count, api.ErrArg))
		}
	}
}

// P6.3: numbers of types and fields that are none, whatever is asked of them.
func TestFitsOfFieldsThatAreNotThere(t *testing.T) {
	d := rich()
	d.Types[1].Fields = d.Types[1].Fields[:2]
	for _, typ := range numbers() {
		for _, n := range numbers() {
			if typ == 0 && n >= 0 && n < 4 || typ == 1 && n >= 0 && n < 2 {
				continue
			}
			for op := range 7 {
				wantFits(t, "no field", d, typ, n, op, 0, api.ErrField)
				wantFits(t, "no field", d, typ, n, op, 1, api.ErrField)
			}
		}
	}
}

// P6.3: of two errors the first one is told.
func TestFitsTellsTheFirstError(t *testing.T) {
	d := rich()
	wantFits(t, "no type, no operation", d, 2, 0, 0, 0, api.ErrField)
	wantFits(t, "no field, no operation", d, 0, 4, 6, 0, api.ErrField)
	wantFits(t, "no field, no argument", d, 0, 4, api.OInc, 0, api.ErrField)
	wantFits(t, "no field, no move", d, 1, -1, api.OMove, 9, api.ErrField)
	wantFits(t, "not of a register, no argument", d, 0, 1, api.OInc, 0, api.ErrKind)
	wantFits(t, "not of a counter, no move", d, 0, 0, api.OMove, -1, api.ErrKind)
}

// P6.3: all operations and some arguments of all fields of declarations that are not right.
func TestFitsOfAnyDeclarations(t *testing.T) {
	list := wrong()
	random := rand.New(rand.NewSource(63))
	for range 300 {
		list = append(list, madeUp(random, 4))
	}
	for _, d := range list {
		for typ := -1; typ <= min(len(d.Types), 9); typ++ {
			for n := -1; n < 10; n++ {
				for op := -1; op <= 6; op++ {
					for _, arg := range []int{-1, 0, 1, 2, 3, 15, 16, 39, 40, math.MinInt, math.MaxInt} {
						wantFits(t, "any declarations", d, typ, n, op, arg, fits(d, typ, n, op, arg))
					}
				}
				for _, op := range edges {
					wantFits(t, "any declarations", d, typ, n, op, 1, fits(d, typ, n, op, 1))
				}
			}
		}
	}
}

// P6.3: what is wrong with a policy, a floor, a move or a projection does not matter.
func TestFitsOfAFieldThatIsWrong(t *testing.T) {
	d := of(
		api.Field{Kind: api.FCounter, Policy: 9, Moves: make([]api.Move, 3)},
		api.Field{Kind: api.FRegister, Floor: true, Moves: make([]api.Move, 3)},
		api.Field{Kind: api.FSet, Policy: -1, Floor: true, Moves: make([]api.Move, 3)},
		api.Field{Kind: api.FMachine, Moves: slices.Repeat([]api.Move{{From: -1, To: -1, Need: 9, Least: 3}}, 18)},
	)
	d.Projs = make([]api.Proj, 9)
	wantFits(t, "a wrong counter", d, 0, 0, api.OInc, -5, api.OK)
	wantFits(t, "a wrong counter", d, 0, 0, api.OMove, 0, api.ErrKind)
	wantFits(t, "a wrong register", d, 0, 1, api.OSet, 0, api.OK)
	wantFits(t, "a wrong register", d, 0, 1, api.OMove, 2, api.ErrKind)
	wantFits(t, "a wrong set", d, 0, 2, api.OAdd, 0, api.OK)
	wantFits(t, "a wrong set", d, 0, 2, api.ORemove, 0, api.OK)
	wantFits(t, "a wrong machine", d, 0, 3, api.OMove, 17, api.OK)
	wantFits(t, "a wrong machine", d, 0, 3, api.OMove, 18, api.ErrArg)
	wantFits(t, "a machine without moves", of(machine()), 0, 0, api.OMove, 0, api.ErrArg)
	wantFits(t, "no kind and no operation", of(api.Field{}), 0, 0, 0, 0, api.ErrKind)
}

// holdProperties holds Check against itself, as P6.4 says: without the last projections, and type by type.
func holdProperties(t *testing.T, d api.Decl) {
	t.Helper()
	told := schema.Check(d)
	for n := len(d.Projs); n >= 0 && told == api.OK; n-- {
		less := api.Decl{Types: d.Types, Projs: d.Projs[:n]}
		if got := schema.Check(less); got != api.OK {
			t.Errorf("Check of %+v = %d, though nothing is wrong with it among more projections", less, got)
		}
	}
	if len(d.Types) < 1 || len(d.Types) > api.MaxTypes {
		return
	}
	want := api.OK
	for _, one := range d.Types {
		got := schema.Check(api.Decl{Types: []api.Type{one}})
		if got == api.ErrMany || want == api.OK {
			want = got
		}
		if want == api.ErrMany {
			break
		}
	}
	if got := schema.Check(api.Decl{Types: d.Types}); got != want {
		t.Errorf("Check of the types of %+v = %d; by themselves: %d", d, got, want)
	}
	if told == api.OK && want != api.OK {
		t.Errorf("Check of %+v = 0; its types by themselves: %d", d, want)
	}
}

// P6.4: declarations that are right, without their last projection, and each type by itself.
func TestPartsOfDeclarations(t *testing.T) {
	for _, d := range append(wrong(), rich()) {
		holdProperties(t, d)
	}
	random := rand.New(rand.NewSource(64))
	right := 0
	for range 50000 {
		d := madeUp(random, 15+random.Intn(200))
		if schema.Check(d) == api.OK && len(d.Projs) > 0 && len(d.Types) > 1 {
			right++
		}
		holdProperties(t, d)
	}
	if right < 1000 {
		t.Errorf("only %d declarations with projections and several types were right", right)
	}
}

// P6.4: a type is right by itself or wrong by itself in each place among types that are right.
func TestTypeAmongOthers(t *testing.T) {
	types := []api.Type{rich().Types[0], {}, of(api.Field{}).Types[0], of(machine()).Types[0], of(machine(api.Move{Need: 0})).Types[0], of(api.Field{Kind: api.FCounter}).Types[0]}
	for _, one := range types {
		alone := schema.Check(api.Decl{Types: []api.Type{one}})
		for count := 1; count <= 8; count++ {
			for place := range count {
				d := api.Decl{Types: slices.Repeat(rich().Types[:1], count)}
				d.Types[place] = one
				if got := schema.Check(d); got != alone {
					t.Errorf("Check of %+v at the place %d of %d = %d, by itself %d", one, place, count, got, alone)
				}
			}
		}
	}
}

// callAll calls everything with d, and drops what is returned.
func callAll(d api.Decl) {
	schema.Check(d)
	for typ := -1; typ <= len(d.Types); typ++ {
		for n := -1; n <= 8; n++ {
			schema.Field(d, typ, n)
			for op := range 7 {
				schema.Fits(d, typ, n, op, 0)
				schema.Fits(d, typ, n, op, 2)
			}
		}
	}
}

// R3: arguments are left as they are, and so is their spare capacity.
func TestArgumentsAreLeftAlone(t *testing.T) {
	random := rand.New(rand.NewSource(3))
	list := append(wrong(), rich())
	for range 1000 {
		list = append(list, madeUp(random, 10))
	}
	for _, d := range list {
		if len(d.Types) > 9 {
			continue
		}
		kept := clone(d)
		for n := range len(d.Types) + 1 {
			for m := range len(d.Projs) + 1 {
				callAll(api.Decl{Types: d.Types[:n], Projs: d.Projs[:m]})
			}
		}
		cut := api.Decl{Types: slices.Clone(d.Types)}
		for i := range cut.Types {
			for n := range len(d.Types[i].Fields) + 1 {
				cut.Types[i].Fields = d.Types[i].Fields[:n]
				callAll(cut)
			}
		}
		if !reflect.DeepEqual(d, kept) {
			t.Fatalf("%+v became %+v", kept, d)
		}
	}
}

// R3: what lies behind the length of a slice does not count.
func TestSpareCapacityDoesNotCount(t *testing.T) {
	d := rich()
	d.Types[0].Fields = append(d.Types[0].Fields, field(api.FCounter))[:4]
	d.Types[0].Fields[3].Moves[0].Need = 4
	wantCheck(t, "a counter behind the fields", d, api.ErrField)
	d = rich()
	d.Types, d.Projs[1].Type = d.Types[:1], 0
	d.Projs = d.Projs[:2]
	wantCheck(t, "a type behind the types", d, api.OK)
	d.Projs[1].Type = 1
	wantCheck(t, "a projection of a type behind the types", d, api.ErrField)
	if f, ok := schema.Field(d, 1, 0); ok || f.Kind != 0 {
		t.Errorf("Field of a type behind the types = %+v, %t", f, ok)
	}
	wantFits(t, "a type behind the types", d, 1, 0, api.OInc, 1, api.ErrField)
	d.Types[0].Fields = d.Types[0].Fields[:2]
	wantFits(t, "a field behind the fields", d, 0, 3, api.OMove, 0, api.ErrField)
	m := machine(slices.Repeat([]api.Move{{Need: -1}}, 20)[:2]...)
	wantCheck(t, "moves behind the moves", of(m), api.OK)
	wantFits(t, "a move behind the moves", of(m), 0, 0, api.OMove, 2, api.ErrArg)
	d = rich()
	d.Projs = slices.Repeat(d.Projs, 6)[:8]
	wantCheck(t, "projections behind the projections", d, api.OK)
	d = rich()
	d.Types = slices.Repeat(d.Types, 6)[:8]
	wantCheck(t, "types behind the types", d, api.OK)
	wantCheck(t, "fields behind the fields", of(slices.Repeat([]api.Field{field(api.FSet)}, 20)[:8]...), api.OK)
}

// fill writes over all that a slice reaches, its spare capacity included.
func fill(moves []api.Move) {
	moves = moves[:cap(moves)]
	for i := range moves {
		moves[i] = api.Move{From: -77, To: -77, Need: -77, Least: -77}
	}
}

// R3: the moves that Field returns are new memory: neither an argument nor another result changes with them.
func TestFieldIsNewMemory(t *testing.T) {
	room := slices.Repeat([]api.Move{{From: 1, To: 2, Need: -1}}, 30)
	for size := range 20 {
		d := of(field(api.FCounter), machine(room[:size]...), api.Field{Kind: api.FSet, Moves: room[:size]})
		for n := 1; n <= 2; n++ {
			kept := clone(d)
			first, _ := schema.Field(d, 0, n)
			second, _ := schema.Field(d, 0, n)
			fill(first.Moves)
			if !reflect.DeepEqual(d, kept) || slices.Contains(room, api.Move{From: -77, To: -77, Need: -77, Least: -77}) {
				t.Fatalf("%d moves: with what Field returned, the declarations became %+v", size, d)
			}
			if !sameField(second, kept.Types[0].Fields[n]) {
				t.Errorf("%d moves: with what Field returned, another result became %+v", size, second)
			}
			behind := slices.Clone(room)
			fill(room)
			if !sameField(second, kept.Types[0].Fields[n]) {
				t.Errorf("%d moves: with the declarations, what Field returned became %+v", size, second)
			}
			copy(room, behind)
		}
	}
}

// R4: the results depend on the arguments alone, not on calls before, also not on ones that wrote over what they got.
func TestResultsDependOnArgumentsAlone(t *testing.T) {
	random := rand.New(rand.NewSource(4))
	for range 500 {
		other := madeUp(random, 6)
		callAll(other)
		if f, ok := schema.Field(other, 0, 0); ok {
			fill(f.Moves)
		}
		wantCheck(t, "after other calls", rich(), api.OK)
		wantFits(t, "after other calls", rich(), 1, 3, api.OMove, 2, api.OK)
		if f, ok := schema.Field(rich(), 1, 3); !ok || !sameField(f, rich().Types[1].Fields[3]) {
			t.Errorf("after other calls, Field = %+v, %t", f, ok)
		}
	}
}

// source is bytes that declarations are made of.
type source struct{ rest []byte }

// next returns the next byte less 4 as a number, or 1 if there is none; one byte is the least int, and one the greatest.
func (s *source) next() int {
	if len(s.rest) == 0 {
		return 1
	}
	x := int(s.rest[0])
	s.rest = s.rest[1:]
	switch x {
	case 254:
		return math.MinInt
	case 255:
		return math.MaxInt
	}
	return x - 4
}

// count returns a number from 0 to 31.
func (s *source) count() int {
	return (s.next() + 4) & 31
}

// decl returns declarations that are made of the bytes.
func (s *source) decl() api.Decl {
	var d api.Decl
	for range s.count() {
		var t api.Type
		for range s.count() {
			f := api.Field{Kind: s.next(), Policy: s.next()}
			f.Floor = s.next()&1 == 0
			for range s.count() {
				f.Moves = append(f.Moves, api.Move{From: s.next(), To: s.next(), Need: s.next(), Least: s.next()})
			}
			t.Fields = append(t.Fields, f)
		}
		d.Types = append(d.Types, t)
	}
	for range s.count() {
		d.Projs = append(d.Projs, api.Proj{Type: s.next(), Field: s.next(), Group: s.next(), By: s.next(), Make: s.next()})
	}
	return d
}

// FuzzDecl holds all calls against the chapter's words for any declarations (P6.1 to P6.4).
func FuzzDecl(f *testing.F) {
	f.Add([]byte{}, 0, 0, 1, 1)
	f.Add([]byte{1, 1, 5, 5, 4, 0, 0}, 0, 0, 1, 0)
	f.Add([]byte{1, 2, 5, 5, 5, 0, 8, 6, 5, 1, 4, 5, 4, 9, 1, 4, 4, 5, 4, 5}, 0, 1, 5, 0)
	f.Add([]byte{2, 1, 6, 7, 5, 0, 1, 7, 6, 5, 0, 1, 4, 4, 7, 4, 9}, 1, 0, 4, -1)
	f.Add([]byte{1, 1, 254, 255, 4, 0}, math.MinInt, math.MaxInt, math.MinInt, math.MaxInt)
	f.Fuzz(func(t *testing.T, b []byte, typ, n, op, arg int) {
		d := (&source{b}).decl()
		kept := clone(d)
		if got, want := schema.Check(d), whole(d); got != want {
			t.Fatalf("Check of %+v = %d, want %d", d, got, want)
		}
		for _, x := range [][4]int{{typ, n, op, arg}, {typ & 3, n & 7, op & 7, arg}, {typ & 3, n & 7, op & 7, arg & 15}} {
			if got, want := schema.Fits(d, x[0], x[1], x[2], x[3]), fits(d, x[0], x[1], x[2], x[3]); got != want {
				t.Fatalf("Fits of %+v, %v = %d, want %d", d, x, got, want)
			}
			got, ok := schema.Field(d, x[0], x[1])
			there := x[0] >= 0 && x[0] < len(d.Types) && x[1] >= 0 && x[1] < len(d.Types[x[0]].Fields)
			if ok != there || there && !sameField(got, d.Types[x[0]].Fields[x[1]]) || !there && !sameField(got, api.Field{}) {
				t.Fatalf("Field of %+v, %v = %+v, %t", d, x, got, ok)
			}
			fill(got.Moves)
		}
		holdProperties(t, d)
		if !reflect.DeepEqual(d, kept) {
			t.Fatalf("%+v became %+v", kept, d)
		}
	})
}
