package crc_test

import (
	"bytes"
	"hash/crc32"
	"math/bits"
	"math/rand"
	"testing"

	"quayside/crc"
)

// sums are sums to continue from, most of which are the checksum of nothing known: the edges, each single bit and each missing one, and others.
func sums() []uint32 {
	list := []uint32{0, 1<<32 - 1, 0xcbf43926, 0xedb88320, 0x12345678, 0x00ff00ff, 0xaaaaaaaa, 0x55555555}
	for i := range 32 {
		list = append(list, 1<<i, ^uint32(1<<i))
	}
	return list
}

// byteStrings are byte strings: the edges, and others of many lengths.
func byteStrings() [][]byte {
	list := [][]byte{
		nil, {}, {0}, {255}, []byte("123456789"), []byte("quayside"),
		{0, 0, 0, 0}, {255, 255, 255, 255}, bytes.Repeat([]byte{0}, 300), bytes.Repeat([]byte{255}, 300),
		{0, 1}, {1, 0}, {0x9d, 0x0a, 0xd9, 0x6d}, {0x20, 0x83, 0xb8, 0xed},
	}
	random := rand.New(rand.NewSource(2))
	for size := range 70 {
		b := make([]byte, size)
		random.Read(b)
		list = append(list, b)
	}
	return list
}

// divide does what the chapter's definitions say, bit by bit.
func divide(sum uint32, b []byte) uint32 {
	remainder := ^sum
	for _, x := range b {
		for i := range 8 {
			differs := remainder&1 != uint32(x>>i&1)
			remainder >>= 1
			if differs {
				remainder ^= 0xEDB88320
			}
		}
	}
	return ^remainder
}

// P2.1: the chapter's examples, and sums that are known: none set, all set.
func TestSumOfKnownBytes(t *testing.T) {
	for _, x := range []struct {
		b    string
		want uint32
	}{
		{"123456789", 0xCBF43926},
		{"", 0},
		{"\x00", 0xD202EF8D},
		{"\xff", 0xFF000000},
		{"a", 0xE8B7BE43},
		{"\x00\x00\x00\x00", 0x2144DF1C},
		{"\xff\xff\xff\xff", 0xFFFFFFFF},
		{"\x9d\x0a\xd9\x6d", 0},
		{"The quick brown fox jumps over the lazy dog", 0x414FA339},
	} {
		if got := crc.Sum([]byte(x.b)); got != x.want {
			t.Errorf("Sum of %q = %#x, want %#x", x.b, got, x.want)
		}
	}
	if got := crc.Sum(nil); got != 0 {
		t.Errorf("Sum of nil = %#x", got)
	}
}

// P2.1: the checksum of one byte, each of the 256, and of two, is the complement of the remainder of its bits.
func TestSumOfEachByte(t *testing.T) {
	for x := range 256 {
		one := []byte{byte(x)}
		if got, want := crc.Sum(one), divide(0, one); got != want {
			t.Errorf("Sum of %x = %#x, want %#x", one, got, want)
		}
		for y := range 256 {
			two := []byte{byte(x), byte(y)}
			if got, want := crc.Sum(two), divide(0, two); got != want {
				t.Errorf("Sum of %x = %#x, want %#x", two, got, want)
			}
		}
	}
}

// P2.1: the checksum of longer byte strings is that of IEEE 802.3.
func TestSumIsThatOfTheStandard(t *testing.T) {
	for _, b := range byteStrings() {
		got := crc.Sum(b)
		if want := divide(0, b); got != want {
			t.Errorf("Sum of %x = %#x, want %#x", b, got, want)
		}
		if want := crc32.ChecksumIEEE(b); got != want {
			t.Errorf("Sum of %x = %#x, the library has %#x", b, got, want)
		}
	}
	long := make([]byte, 1<<20+3)
	rand.New(rand.NewSource(3)).Read(long)
	if got, want := crc.Sum(long), crc32.ChecksumIEEE(long); got != want {
		t.Errorf("Sum of many bytes = %#x, want %#x", got, want)
	}
}

// P2.2: the chapter's examples.
func TestMoreOfKnownBytes(t *testing.T) {
	if got := crc.More(0, nil); got != 0 {
		t.Errorf("More of 0 and no bytes = %#x", got)
	}
	if got := crc.More(crc.Sum([]byte("1234")), []byte("56789")); got != 0xCBF43926 {
		t.Errorf("More of Sum of 1234 and 56789 = %#x", got)
	}
}

// P2.2: More continues with any sum, be it the checksum of something known or not.
func TestMoreContinuesWithAnySum(t *testing.T) {
	for _, sum := range sums() {
		for _, b := range byteStrings() {
			if got, want := crc.More(sum, b), divide(sum, b); got != want {
				t.Errorf("More of %#x and %x = %#x, want %#x", sum, b, got, want)
			}
		}
		for x := range 256 {
			one := []byte{byte(x)}
			if got, want := crc.More(sum, one), divide(sum, one); got != want {
				t.Errorf("More of %#x and %x = %#x, want %#x", sum, one, got, want)
			}
		}
	}
}

// P2.2: no bytes leave any sum as it is.
func TestMoreOfNoBytes(t *testing.T) {
	for _, sum := range sums() {
		for _, b := range [][]byte{nil, {}} {
			if got := crc.More(sum, b); got != sum {
				t.Errorf("More of %#x and no bytes = %#x", sum, got)
			}
		}
	}
}

// P2.3: wherever a byte string is cut, the checksum of the first part continued with the second one is that of the whole.
func TestMoreFollowsSum(t *testing.T) {
	for _, b := range byteStrings() {
		whole := crc.Sum(b)
		bytewise := crc.Sum(nil)
		for cut := range len(b) + 1 {
			if got := crc.More(crc.Sum(b[:cut]), b[cut:]); got != whole {
				t.Errorf("%x, cut at %d: %#x, want %#x", b, cut, got, whole)
			}
			if cut < len(b) {
				bytewise = crc.More(bytewise, b[cut:cut+1])
			}
		}
		if bytewise != whole {
			t.Errorf("%x, byte by byte: %#x, want %#x", b, bytewise, whole)
		}
	}
}

// P2.3: also behind bytes whose checksum has no bit set, or all of them.
func TestMoreFollowsEdges(t *testing.T) {
	for _, ahead := range []string{"\x9d\x0a\xd9\x6d", "\xff\xff\xff\xff"} {
		for _, b := range byteStrings() {
			whole := append([]byte(ahead), b...)
			if got, want := crc.More(crc.Sum([]byte(ahead)), b), crc.Sum(whole); got != want {
				t.Errorf("%x behind %x: %#x, want %#x", b, ahead, got, want)
			}
		}
	}
}

// P2.4: different checksums that are continued with the same bytes stay different: whatever bits they differ in, as no combination of what single bits change comes to nothing.
func TestMoreKeepsSumsApart(t *testing.T) {
	for _, b := range byteStrings() {
		none := crc.More(0, b)
		var changes []uint32
		for i := range 32 {
			changes = append(changes, crc.More(1<<i, b)^none)
		}
		if got := rank(changes); got != 32 {
			t.Errorf("after %x only %d of 32 bits are told apart", b, got)
		}
	}
}

// rank returns how many of some numbers are no combination of the others by exclusive or.
func rank(numbers []uint32) int {
	var leading [33]uint32
	count := 0
	for _, n := range numbers {
		for n != 0 && leading[bits.Len32(n)] != 0 {
			n ^= leading[bits.Len32(n)]
		}
		if n != 0 {
			leading[bits.Len32(n)] = n
			count++
		}
	}
	return count
}

// P2.4: many sums, continued with the same bytes, all have different results.
func TestMoreOfManySums(t *testing.T) {
	many := sums()
	for i := range uint32(1 << 12) {
		many = append(many, i*0x9e3779b1+7)
	}
	for _, b := range [][]byte{nil, {0}, {255}, {0x5a}, []byte("123456789"), {0, 0, 0, 0}, {255, 255, 255, 255}} {
		from := map[uint32]uint32{}
		for _, sum := range many {
			got := crc.More(sum, b)
			if other, ok := from[got]; ok && other != sum {
				t.Errorf("More of %#x and of %#x with %x are both %#x", sum, other, b, got)
			}
			from[got] = sum
		}
	}
}

// R3: the argument is left as it is, and so is its spare capacity.
func TestArgumentsAreLeftAlone(t *testing.T) {
	whole := []byte("123456789 and more")
	crc.Sum(whole[:9])
	crc.More(7, whole[:9])
	if string(whole) != "123456789 and more" {
		t.Errorf("the argument became %q", whole)
	}
}

// R4: the result depends on the arguments alone, not on calls before or on what lies behind them.
func TestResultsDependOnArgumentsAlone(t *testing.T) {
	first := crc.Sum([]byte("123456789 and more")[:9])
	crc.More(99, []byte("something else"))
	if second := crc.Sum([]byte("123456789")); first != second {
		t.Errorf("Sum = %#x, then %#x", first, second)
	}
}

// FuzzMore holds More and Sum against the definitions, and against one another, for any sum, bytes and cut (P2.1 to P2.4).
func FuzzMore(f *testing.F) {
	f.Add(uint32(0), uint32(1), []byte("123456789"), uint(4))
	f.Add(uint32(1<<32-1), uint32(0), []byte{}, uint(0))
	f.Fuzz(func(t *testing.T, sum, other uint32, b []byte, at uint) {
		got := crc.More(sum, b)
		if want := divide(sum, b); got != want {
			t.Fatalf("More of %#x and %x = %#x, want %#x", sum, b, got, want)
		}
		if sum != other && got == crc.More(other, b) {
			t.Fatalf("More of %#x and of %#x with %x are both %#x", sum, other, b, got)
		}
		cut := int(at % uint(len(b)+1))
		if whole := crc.More(crc.Sum(b[:cut]), b[cut:]); whole != crc.Sum(b) || whole != divide(0, b) {
			t.Fatalf("%x, cut at %d: %#x, Sum %#x, want %#x", b, cut, whole, crc.Sum(b), divide(0, b))
		}
	})
}
