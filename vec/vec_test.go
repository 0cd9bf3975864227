package vec_test

import (
	"encoding/binary"
	"math"
	"math/big"
	"math/rand"
	"slices"
	"testing"

	"quayside/vec"
)

// named are the names of how vectors stand, by their numbers.
var named = []string{"Same", "Less", "More", "Apart"}

// name returns the name of how two vectors stand.
func name(how int) string {
	if how < 0 || how >= len(named) {
		return "no name"
	}
	return named[how]
}

// entry does what the chapter's definition says: none is missing, and none is below 0.
func entry(v []int, origin int) int {
	for i, n := range v {
		if i == origin && n > 0 {
			return n
		}
	}
	return 0
}

// atLeast tells whether no entry of a is less than that of b.
func atLeast(a, b []int) bool {
	for i := range b {
		if entry(a, i) < entry(b, i) {
			return false
		}
	}
	return true
}

// stand returns how a stands to b.
func stand(a, b []int) int {
	switch {
	case atLeast(a, b) && atLeast(b, a):
		return vec.Same
	case atLeast(b, a):
		return vec.Less
	case atLeast(a, b):
		return vec.More
	}
	return vec.Apart
}

// total returns the sum of all entries, and whether it is an int, by numbers that have no end.
func total(v []int) (int, bool) {
	sum := new(big.Int)
	for i := range v {
		sum.Add(sum, big.NewInt(int64(entry(v, i))))
	}
	if sum.Cmp(big.NewInt(math.MaxInt)) > 0 {
		return 0, false
	}
	return int(sum.Int64()), true
}

// small are all vectors of at most three entries, each of them -1, 0, 1 or 2: nil and empty ones, unlike lengths, noughts at the end.
func small() [][]int {
	list := [][]int{nil, {}}
	last := [][]int{{}}
	for range 3 {
		var next [][]int
		for _, v := range last {
			for n := -1; n <= 2; n++ {
				next = append(next, append(slices.Clone(v), n))
			}
		}
		list = append(list, next...)
		last = next
	}
	return list
}

// edges are vectors with numbers at the ends of what an int can be, and long ones.
func edges() [][]int {
	list := [][]int{
		nil, {}, {0}, {0, 0, 0, 0}, {-1, math.MinInt, math.MinInt + 1},
		{math.MaxInt}, {math.MinInt}, {math.MaxInt, math.MinInt}, {math.MinInt, math.MaxInt},
		{math.MaxInt, math.MaxInt}, {math.MaxInt - 1, math.MaxInt}, {math.MaxInt, math.MaxInt - 1},
		{math.MaxInt, 0, 0}, {0, 0, math.MaxInt}, {1, math.MaxInt - 1}, {1 << 62, 1 << 62}, {1 << 62, 1<<62 - 1},
		{1 << 32, 1}, {1, 1 << 32}, {1<<32 + 1, 1}, {1 << 31, -1 << 31}, {-1 << 31, 1 << 31},
	}
	random := rand.New(rand.NewSource(4))
	for _, size := range []int{4, 63, 64, 65, 200} {
		for range 3 {
			v := make([]int, size)
			for i := range v {
				v[i] = random.Intn(4) - 1
			}
			list = append(list, v)
		}
	}
	return append(list, slices.Repeat([]int{1}, 64), slices.Repeat([]int{1 << 57}, 64), make([]int, 64))
}

// P4.1: an entry that is there, one below 0, one that is missing, and places below 0.
func TestGetOfEachPlace(t *testing.T) {
	v := []int{7, 0, -1, math.MaxInt, math.MinInt, 1}
	for _, x := range []struct{ origin, want int }{
		{0, 7}, {1, 0}, {2, 0}, {3, math.MaxInt}, {4, 0}, {5, 1},
		{6, 0}, {7, 0}, {64, 0}, {1 << 32, 0}, {1<<32 + 3, 0}, {math.MaxInt, 0}, {math.MaxInt - 1, 0},
		{-1, 0}, {-2, 0}, {-3, 0}, {-6, 0}, {-7, 0}, {-1 << 32, 0}, {math.MinInt, 0}, {math.MinInt + 3, 0},
	} {
		if got := vec.Get(v, x.origin); got != x.want {
			t.Errorf("Get of the place %d = %d, want %d", x.origin, got, x.want)
		}
	}
}

// P4.1: no entries, no matter of which replica.
func TestGetOfNoEntries(t *testing.T) {
	for _, v := range [][]int{nil, {}, []int{9, 9}[:0]} {
		for _, origin := range []int{0, 1, 63, -1, math.MaxInt, math.MinInt} {
			if got := vec.Get(v, origin); got != 0 {
				t.Errorf("Get of no entries, the place %d = %d", origin, got)
			}
		}
	}
}

// P4.1: any vector, at its places and about its ends.
func TestGetIsTheEntry(t *testing.T) {
	for _, v := range append(small(), edges()...) {
		for origin := -3; origin < len(v)+3; origin++ {
			if got, want := vec.Get(v, origin), entry(v, origin); got != want {
				t.Errorf("Get of %v, the place %d = %d, want %d", v, origin, got, want)
			}
		}
	}
}

// P4.2: the names have the numbers that the chapter gives them.
func TestNumbersOfTheNames(t *testing.T) {
	if vec.Same != 0 || vec.Less != 1 || vec.More != 2 || vec.Apart != 3 {
		t.Errorf("Same, Less, More, Apart = %d, %d, %d, %d", vec.Same, vec.Less, vec.More, vec.Apart)
	}
}

// P4.2: the chapter's examples, and others that are written out; turned round, Less and More change places.
func TestCmpOfKnownVectors(t *testing.T) {
	for _, x := range []struct {
		a, b []int
		want int
	}{
		{[]int{1, 2}, []int{1, 2, 0}, vec.Same},
		{[]int{1, 2}, []int{1, 3}, vec.Less},
		{[]int{1, 2}, []int{2, 1}, vec.Apart},
		{nil, nil, vec.Same},
		{nil, []int{}, vec.Same},
		{nil, []int{0, 0, 0}, vec.Same},
		{nil, []int{-1, math.MinInt}, vec.Same},
		{[]int{0}, []int{-5}, vec.Same},
		{[]int{-1}, []int{-2}, vec.Same},
		{[]int{3, -1, 0}, []int{3}, vec.Same},
		{nil, []int{1}, vec.Less},
		{nil, []int{0, 0, 1}, vec.Less},
		{[]int{-1}, []int{1}, vec.Less},
		{[]int{math.MinInt}, []int{math.MaxInt}, vec.Less},
		{[]int{math.MaxInt - 1}, []int{math.MaxInt}, vec.Less},
		{[]int{1, 1, 1}, []int{1, 2, 1}, vec.Less},
		{[]int{1, 1}, []int{2, 2}, vec.Less},
		{[]int{5}, []int{5, -7, 1}, vec.Less},
		{[]int{1}, []int{0, 1}, vec.Apart},
		{[]int{2, 1}, []int{1, 1, 1}, vec.Apart},
		{[]int{1, 0, 0}, []int{0, 0, 1}, vec.Apart},
		{[]int{math.MaxInt, math.MinInt}, []int{math.MinInt, math.MaxInt}, vec.Apart},
		{[]int{1 << 32, 1}, []int{1, 1 << 32}, vec.Apart},
	} {
		if got := vec.Cmp(x.a, x.b); got != x.want {
			t.Errorf("Cmp of %v and %v = %s, want %s", x.a, x.b, name(got), name(x.want))
		}
		turned := []int{vec.Same, vec.More, vec.Less, vec.Apart}[x.want]
		if got := vec.Cmp(x.b, x.a); got != turned {
			t.Errorf("Cmp of %v and %v = %s, want %s", x.b, x.a, name(got), name(turned))
		}
	}
}

// P4.2: all pairs of small vectors, and of vectors at the edges.
func TestCmpIsHowVectorsStand(t *testing.T) {
	for _, list := range [][][]int{small(), edges()} {
		for _, a := range list {
			for _, b := range list {
				if got, want := vec.Cmp(a, b), stand(a, b); got != want {
					t.Errorf("Cmp of %v and %v = %s, want %s", a, b, name(got), name(want))
				}
			}
		}
	}
}

// P4.2: one entry is enough, wherever it is; and two that differ the other way round, wherever they are.
func TestCmpOfSingleEntries(t *testing.T) {
	const size = 64
	for i := range size {
		a := slices.Repeat([]int{5}, size)
		b := slices.Clone(a)
		b[i]++
		if got := vec.Cmp(a, b); got != vec.Less {
			t.Errorf("Cmp, the entry %d greater in the second = %s", i, name(got))
		}
		if got := vec.Cmp(b, a); got != vec.More {
			t.Errorf("Cmp, the entry %d greater in the first = %s", i, name(got))
		}
		for j := range size {
			if j == i {
				continue
			}
			a[j]++
			if got := vec.Cmp(a, b); got != vec.Apart {
				t.Errorf("Cmp, the entry %d greater in the first, %d in the second = %s", j, i, name(got))
			}
			a[j]--
		}
	}
}

// P4.3: the chapter's example, and others that are written out.
func TestJoinOfKnownVectors(t *testing.T) {
	for _, x := range []struct{ a, b, want []int }{
		{[]int{1, 5}, []int{2, -3, 4}, []int{2, 5, 4}},
		{nil, nil, nil},
		{nil, []int{}, nil},
		{nil, []int{0, 0}, []int{0, 0}},
		{nil, []int{3, 1}, []int{3, 1}},
		{nil, []int{-3, 1, -1}, []int{0, 1, 0}},
		{[]int{-1}, []int{-2, math.MinInt}, []int{0, 0}},
		{[]int{-1, 2}, []int{1, -2}, []int{1, 2}},
		{[]int{1, 2, 0, 0}, []int{2}, []int{2, 2, 0, 0}},
		{[]int{1, 2, -4}, []int{1, 2}, []int{1, 2, 0}},
		{[]int{math.MaxInt, math.MinInt}, []int{math.MinInt, math.MaxInt}, []int{math.MaxInt, math.MaxInt}},
		{[]int{math.MaxInt - 1}, []int{math.MaxInt, 1 << 32}, []int{math.MaxInt, 1 << 32}},
		{[]int{7, 7}, []int{7, 7}, []int{7, 7}},
	} {
		for _, pair := range [][2][]int{{x.a, x.b}, {x.b, x.a}} {
			if got := vec.Join(pair[0], pair[1]); !slices.Equal(got, x.want) {
				t.Errorf("Join of %v and %v = %v, want %v", pair[0], pair[1], got, x.want)
			}
		}
	}
}

// P4.3: the join of any two vectors is as long as the longer one, and each entry is the greater of the two.
func TestJoinIsTheGreaterOfEachEntry(t *testing.T) {
	for _, list := range [][][]int{small(), edges()} {
		for _, a := range list {
			for _, b := range list {
				got := vec.Join(a, b)
				if len(got) != max(len(a), len(b)) {
					t.Fatalf("Join of %v and %v = %v: %d entries", a, b, got, len(got))
				}
				for i, n := range got {
					if want := max(entry(a, i), entry(b, i)); n != want {
						t.Errorf("Join of %v and %v: the entry %d is %d, want %d", a, b, i, n, want)
					}
				}
			}
		}
	}
}

// P4.4: the chapter's examples, sums that just fit and sums that just don't, wherever the last bit of them stands.
func TestSumOfKnownVectors(t *testing.T) {
	for _, x := range []struct {
		v    []int
		want int
		fits bool
	}{
		{[]int{1, -7, 2}, 3, true},
		{[]int{1 << 62, 1 << 62}, 0, false},
		{nil, 0, true},
		{[]int{}, 0, true},
		{[]int{0, 0, 0}, 0, true},
		{[]int{-1, -2, math.MinInt, math.MinInt}, 0, true},
		{[]int{math.MaxInt}, math.MaxInt, true},
		{[]int{math.MaxInt, 0, 0}, math.MaxInt, true},
		{[]int{0, math.MaxInt}, math.MaxInt, true},
		{[]int{math.MaxInt, 1}, 0, false},
		{[]int{1, math.MaxInt}, 0, false},
		{[]int{math.MaxInt - 1, 1}, math.MaxInt, true},
		{[]int{1, math.MaxInt - 1}, math.MaxInt, true},
		{[]int{1, math.MaxInt - 1, 1}, 0, false},
		{[]int{math.MaxInt - 1, 2}, 0, false},
		{[]int{1 << 62, 1<<62 - 1}, math.MaxInt, true},
		{[]int{1<<62 - 1, 1 << 62}, math.MaxInt, true},
		{[]int{math.MaxInt, -1}, math.MaxInt, true},
		{[]int{math.MaxInt, math.MinInt}, math.MaxInt, true},
		{[]int{math.MaxInt, 1, -1}, 0, false},
		{[]int{math.MinInt, math.MaxInt, 1}, 0, false},
		{[]int{math.MaxInt, 1, math.MinInt}, 0, false},
		{[]int{1 << 32, 1 << 32}, 1 << 33, true},
	} {
		if got, fits := vec.Sum(x.v); got != x.want || fits != x.fits {
			t.Errorf("Sum of %v = %d, %t, want %d, %t", x.v, got, fits, x.want, x.fits)
		}
	}
}

// P4.4: many entries that fit together, and many that don't: no sum that wraps round to a number from 0 on is taken for one.
func TestSumOfManyEntries(t *testing.T) {
	many := slices.Repeat([]int{1 << 57}, 64)
	if got, fits := vec.Sum(many); got != 0 || fits {
		t.Errorf("Sum of 64 times 2^57 = %d, %t", got, fits)
	}
	for i := range many {
		many[i]--
		if got, fits := vec.Sum(many); got != math.MaxInt || !fits {
			t.Errorf("Sum of 64 times 2^57, the entry %d one less = %d, %t", i, got, fits)
		}
		many[i]++
	}
	for count := 2; count <= 9; count++ {
		for _, n := range []int{1 << 62, 1<<62 + 1, 3 << 61, math.MaxInt - 1, math.MaxInt} {
			v := slices.Repeat([]int{n}, count)
			if got, fits := vec.Sum(v); got != 0 || fits {
				t.Errorf("Sum of %d times %d = %d, %t", count, n, got, fits)
			}
		}
	}
}

// P4.4: any vector, held against sums that have no end.
func TestSumIsThatOfAllEntries(t *testing.T) {
	list := append(small(), edges()...)
	random := rand.New(rand.NewSource(44))
	for range 2000 {
		v := make([]int, random.Intn(6))
		for i := range v {
			v[i] = int(random.Uint64()) >> random.Intn(4)
		}
		list = append(list, v)
	}
	for _, v := range list {
		got, fits := vec.Sum(v)
		if want, ok := total(v); got != want || fits != ok {
			t.Errorf("Sum of %v = %d, %t, want %d, %t", v, got, fits, want, ok)
		}
	}
}

// above tells whether a is Same as or More than b.
func above(a, b []int) bool {
	how := vec.Cmp(a, b)
	return how == vec.Same || how == vec.More
}

// P4.5: the join is Same as or More than both vectors, by Cmp and by the definition.
func TestJoinIsAnUpperBound(t *testing.T) {
	for _, list := range [][][]int{small(), edges()} {
		for _, a := range list {
			for _, b := range list {
				joined := vec.Join(a, b)
				for _, x := range [][]int{a, b} {
					if !above(joined, x) || !atLeast(joined, x) {
						t.Errorf("Join of %v and %v = %v, to %v: %s", a, b, joined, x, name(vec.Cmp(joined, x)))
					}
				}
			}
		}
	}
}

// P4.5: every vector that is Same as or More than both is so to the join: all small ones, and those one below the join in an entry are none of them.
func TestJoinIsTheLeastUpperBound(t *testing.T) {
	list := small()
	for _, a := range list {
		for _, b := range list {
			joined := vec.Join(a, b)
			for _, c := range list {
				if above(c, a) && above(c, b) && !above(c, joined) {
					t.Errorf("Join of %v and %v = %v, but %v is an upper bound", a, b, joined, c)
				}
			}
		}
	}
	list = edges()
	for _, a := range list {
		for _, b := range list {
			joined := vec.Join(a, b)
			for i := range joined {
				joined[i]--
				if joined[i] >= 0 && above(joined, a) && above(joined, b) {
					t.Errorf("Join of %v and %v: with an entry %d that is one less it still is an upper bound", a, b, i)
				}
				joined[i]++
			}
		}
	}
}

// callAll calls everything with a and b, and drops what is returned.
func callAll(a, b []int) {
	for origin := -2; origin < len(a)+9; origin++ {
		vec.Get(a, origin)
	}
	vec.Cmp(a, b)
	vec.Cmp(b, a)
	vec.Join(a, b)
	vec.Join(b, a)
	vec.Sum(a)
	vec.Sum(b)
}

// R3: arguments are left as they are, and so is their spare capacity.
func TestArgumentsAreLeftAlone(t *testing.T) {
	for _, x := range [][2][]int{
		{{1, -2, 3, 9, 8, -7, 6, 5}, {4, -5, -6, 7, 3, 2, 1, 0}},
		{{math.MaxInt, math.MinInt, -1, 0, 1, math.MaxInt, 1, 1}, {math.MinInt, 5, 0, -1, 1, 2, 3, 4}},
	} {
		a, b := slices.Clone(x[0]), slices.Clone(x[1])
		for i := range len(a) + 1 {
			for j := range len(b) + 1 {
				callAll(a[:i], b[:j])
				if !slices.Equal(a, x[0]) || !slices.Equal(b, x[1]) {
					t.Fatalf("%d and %d entries: the arguments became %v and %v", i, j, a, b)
				}
			}
		}
	}
}

// R3: what lies behind the length of a vector is none of its entries.
func TestSpareCapacityIsNoEntry(t *testing.T) {
	v := []int{1, 2, 9, math.MaxInt}[:2]
	if got := vec.Get(v, 2); got != 0 {
		t.Errorf("Get behind the length = %d", got)
	}
	if got := vec.Cmp(v, []int{1, 2, 1}); got != vec.Less {
		t.Errorf("Cmp with a longer one = %s", name(got))
	}
	if got := vec.Join(v, []int{0, 0, 0, 4}); !slices.Equal(got, []int{1, 2, 0, 4}) {
		t.Errorf("Join with a longer one = %v", got)
	}
	if got, fits := vec.Sum(v); got != 3 || !fits {
		t.Errorf("Sum = %d, %t", got, fits)
	}
}

// fill writes over all that a slice reaches, its spare capacity included.
func fill(v []int) {
	v = v[:cap(v)]
	for i := range v {
		v[i] = -77
	}
}

// R3: what Join returns is new memory: neither an argument nor another result changes with it, also where it is no other than an argument.
func TestJoinIsNewMemory(t *testing.T) {
	long := []int{4, 5, 6, 7, 8}
	for _, x := range [][2][]int{
		{{1, 2, 3}, nil}, {nil, {1, 2, 3}}, {{1, 2, 3}, {}}, {{1, 2, 3}, {1, 2, 3}}, {{3, 3}, {1, 1}}, {{1, 1}, {3, 3}},
		{{1, 5}, {2, -3, 4}}, {long[:2], {1}}, {{1}, long[:2]}, {long[:3], long[:3]}, {long[:2], long[1:4]}, {nil, nil}, {long[:0], long[:0]},
	} {
		a, b, behind := slices.Clone(x[0]), slices.Clone(x[1]), slices.Clone(long)
		first := vec.Join(x[0], x[1])
		second := vec.Join(x[0], x[1])
		kept := slices.Clone(second)
		fill(first)
		if !slices.Equal(x[0], a) || !slices.Equal(x[1], b) || !slices.Equal(long, behind) {
			t.Fatalf("with Join of %v and %v, the arguments became %v and %v", a, b, x[0], x[1])
		}
		if !slices.Equal(second, kept) {
			t.Errorf("Join of %v and %v: with one result, the other became %v", a, b, second)
		}
		fill(slices.Clip(x[0]))
		fill(slices.Clip(x[1]))
		if !slices.Equal(second, kept) {
			t.Errorf("Join of %v and %v: with the arguments, the result became %v", a, b, second)
		}
		copy(long, behind)
	}
}

// R4: the results depend on the arguments alone, not on calls before.
func TestResultsDependOnArgumentsAlone(t *testing.T) {
	a, b := []int{1, 5}, []int{2, -3, 4}
	for _, other := range edges() {
		callAll(other, a)
		sum, fits := vec.Sum(b)
		if vec.Get(a, 1) != 5 || vec.Cmp(a, b) != vec.Apart || !slices.Equal(vec.Join(a, b), []int{2, 5, 4}) || sum != 6 || !fits {
			t.Errorf("after calls with %v the results are other ones", other)
		}
	}
}

// vector returns a vector that is made of b: eight bytes an entry, and each byte that is left one more, less 3.
func vector(b []byte) []int {
	var v []int
	for len(b) >= 8 {
		v = append(v, int(binary.BigEndian.Uint64(b)))
		b = b[8:]
	}
	for _, x := range b {
		v = append(v, int(x)-3)
	}
	return v
}

// FuzzVectors holds all calls against the definitions, and against one another, for any vectors (P4.1 to P4.5).
func FuzzVectors(f *testing.F) {
	f.Add([]byte{}, []byte{3}, 0)
	f.Add([]byte{4, 8}, []byte{5, 0, 7}, -1)
	f.Add([]byte{127, 255, 255, 255, 255, 255, 255, 255, 4}, []byte{128, 0, 0, 0, 0, 0, 0, 0}, 1)
	f.Fuzz(func(t *testing.T, first, second []byte, origin int) {
		a, b := vector(first), vector(second)
		for _, place := range []int{origin, origin % 16, len(a) - 1, len(a)} {
			if got, want := vec.Get(a, place), entry(a, place); got != want {
				t.Fatalf("Get of %v, the place %d = %d, want %d", a, place, got, want)
			}
		}
		if got, want := vec.Cmp(a, b), stand(a, b); got != want {
			t.Fatalf("Cmp of %v and %v = %s, want %s", a, b, name(got), name(want))
		}
		got, fits := vec.Sum(a)
		if want, ok := total(a); got != want || fits != ok {
			t.Fatalf("Sum of %v = %d, %t, want %d, %t", a, got, fits, want, ok)
		}
		joined := vec.Join(a, b)
		if len(joined) != max(len(a), len(b)) {
			t.Fatalf("Join of %v and %v = %v", a, b, joined)
		}
		for i, n := range joined {
			if n != max(entry(a, i), entry(b, i)) {
				t.Fatalf("Join of %v and %v = %v", a, b, joined)
			}
		}
		if !slices.Equal(a, vector(first)) || !slices.Equal(b, vector(second)) {
			t.Fatalf("the arguments became %v and %v", a, b)
		}
	})
}
