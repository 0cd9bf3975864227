package pack_test

import (
	"bytes"
	"encoding/hex"
	"math"
	"math/rand"
	"strings"
	"testing"

	"quayside/api"
	"quayside/pack"
)

// ff7 and zeros7 are the seven bytes behind the first one of the widest numbers.
var (
	ff7    = strings.Repeat("ff", 7)
	zeros7 = strings.Repeat("00", 7)
)

// numbers are numbers and their encodings: those at the edges of each width, and those that the chapter names.
var numbers = []struct {
	n    int
	code string
}{
	{0, "00"},
	{1, "0101"}, {-1, "1101"},
	{127, "017f"}, {128, "0180"}, {-128, "1180"}, {-129, "1181"},
	{255, "01ff"}, {-255, "11ff"},
	{256, "020100"}, {-256, "120100"}, {-300, "12012c"},
	{1<<16 - 1, "02ffff"}, {1 << 16, "03010000"}, {-1 << 16, "13010000"},
	{1<<24 - 1, "03ffffff"}, {1 << 24, "0401000000"}, {-1 << 24, "1401000000"},
	{1<<32 - 1, "04ffffffff"}, {1 << 32, "050100000000"}, {-1 << 32, "150100000000"},
	{1<<40 - 1, "05ffffffffff"}, {1 << 40, "06010000000000"}, {-1 << 40, "16010000000000"},
	{1<<48 - 1, "06ffffffffffff"}, {1 << 48, "0701000000000000"}, {-1 << 48, "1701000000000000"},
	{1<<56 - 1, "07" + ff7}, {1 << 56, "0801" + zeros7}, {-1 << 56, "1801" + zeros7},
	{0x0102030405060708, "080102030405060708"}, {-0x0102030405060708, "180102030405060708"},
	{math.MaxInt, "087f" + ff7}, {-math.MaxInt, "187f" + ff7},
	{math.MinInt, "1880" + zeros7},
}

// fromHex returns the bytes that s says.
func fromHex(t *testing.T, s string) []byte {
	t.Helper()
	b, err := hex.DecodeString(s)
	if err != nil {
		t.Fatal(err)
	}
	return b
}

// P1.1: Int appends a head byte and the absolute value, big-endian, without a leading 00.
func TestIntAppendsTheEncoding(t *testing.T) {
	for _, x := range numbers {
		for _, b := range [][]byte{nil, {}, {7}, []byte("ahead")} {
			want := string(b) + string(fromHex(t, x.code))
			if got := pack.Int(b, x.n); string(got) != want {
				t.Errorf("Int(%x, %d) = %x, want %x", b, x.n, got, want)
			}
		}
	}
}

// P1.1: Blob appends the encoding of the length and the bytes themselves.
func TestBlobAppendsTheEncoding(t *testing.T) {
	for _, x := range []struct {
		size int
		code string
	}{{0, "00"}, {1, "0101"}, {2, "0102"}, {255, "01ff"}, {256, "020100"}, {65536, "03010000"}} {
		body := bytes.Repeat([]byte{0xa5}, x.size)
		for _, b := range [][]byte{nil, {0}, []byte("ahead")} {
			want := string(b) + string(fromHex(t, x.code)) + string(body)
			if got := pack.Blob(b, body); string(got) != want {
				t.Errorf("Blob(%x, %d bytes) is wrong", b, x.size)
			}
		}
	}
	if got := pack.Blob(nil, []byte{5, 6}); !bytes.Equal(got, []byte{1, 2, 5, 6}) {
		t.Errorf("Blob of 05 06 = %x", got)
	}
	if got := pack.Blob(nil, nil); !bytes.Equal(got, []byte{0}) {
		t.Errorf("Blob of no bytes = %x", got)
	}
}

// P1.1, R3: what Int and Blob return is new memory, and the spare capacity of an argument is left alone.
func TestEncodingsAreNewMemory(t *testing.T) {
	for name, encode := range map[string]func(b []byte) []byte{
		"Int":        func(b []byte) []byte { return pack.Int(b, 300) },
		"Int 0":      func(b []byte) []byte { return pack.Int(b, 0) },
		"Blob":       func(b []byte) []byte { return pack.Blob(b, []byte{3, 4}) },
		"Blob empty": func(b []byte) []byte { return pack.Blob(b, nil) },
		"Blob twice": func(b []byte) []byte { return pack.Blob(b, b) },
	} {
		whole := []byte("0123456789abcdefghij")
		first := encode(whole[:2])
		second := encode(whole[:2])
		if string(whole) != "0123456789abcdefghij" {
			t.Errorf("%s changed its argument to %q", name, whole)
		}
		want := string(second)
		for _, other := range [][]byte{first[:cap(first)], whole} {
			for i := range other {
				other[i] = 'X'
			}
		}
		if string(second) != want {
			t.Errorf("%s shares memory: %q became %q", name, want, second)
		}
	}
	x := []byte{3, 4}
	got := pack.Blob(nil, x)
	x[0] = 9
	if !bytes.Equal(got, []byte{1, 2, 3, 4}) {
		t.Errorf("Blob shares the memory of the byte string: %x", got)
	}
	got[2] = 8
	if x[0] != 9 {
		t.Errorf("the byte string shares the memory of Blob's result: %x", x)
	}
}

// P1.2: a reader begins at the beginning, and each read that does not fail moves it past what it read.
func TestReadsAdvance(t *testing.T) {
	r := pack.From(fromHex(t, "12012c"+"01020506"+"0103"+"00"+"00"+"1101"))
	if n := r.Int(); n != -300 {
		t.Errorf("first Int = %d", n)
	}
	if x := r.Blob(); !bytes.Equal(x, []byte{5, 6}) {
		t.Errorf("Blob = %x", x)
	}
	if n := r.Count(3); n != 3 {
		t.Errorf("Count = %d", n)
	}
	if x := r.Blob(); len(x) != 0 {
		t.Errorf("empty Blob = %x", x)
	}
	if n := r.Int(); n != 0 {
		t.Errorf("Int of 00 = %d", n)
	}
	if n := r.Int(); n != -1 {
		t.Errorf("last Int = %d", n)
	}
	if e := r.Done(); e != api.OK {
		t.Errorf("Done = %d", e)
	}
}

// P1.2, P1.5: once a read method failed, every later one returns nothing, also where there would be something, and the first error stays.
func TestReadsAfterAFailure(t *testing.T) {
	for _, x := range []struct {
		name string
		code string
		fail func(r *pack.Reader)
		want api.Errno
	}{
		{"Int at a head that is none", "0901010101", func(r *pack.Reader) { r.Int() }, api.ErrLong},
		{"Int at a leading 00", "02000101020506", func(r *pack.Reader) { r.Int() }, api.ErrLong},
		{"Int that is cut short", "030101", func(r *pack.Reader) { r.Int() }, api.ErrShort},
		{"Count of too many", "01030102", func(r *pack.Reader) { r.Count(2) }, api.ErrMany},
		{"Count of too many, and no more", "0103", func(r *pack.Reader) { r.Count(2) }, api.ErrMany},
		{"Blob that is cut short", "01030102", func(r *pack.Reader) { r.Blob() }, api.ErrShort},
		{"Blob of a negative length", "11010101", func(r *pack.Reader) { r.Blob() }, api.ErrMany},
		{"Int at the end", "", func(r *pack.Reader) { r.Int() }, api.ErrShort},
		{"Int at a head behind a number", "0105090101", func(r *pack.Reader) { r.Int(); r.Int() }, api.ErrLong},
	} {
		r := pack.From(fromHex(t, x.code))
		x.fail(r)
		for range 2 {
			if e := r.Done(); e != x.want {
				t.Errorf("%s: Done = %d, want %d", x.name, e, x.want)
			}
			if n := r.Int(); n != 0 {
				t.Errorf("%s: a later Int = %d", x.name, n)
			}
			if n := r.Count(math.MaxInt); n != 0 {
				t.Errorf("%s: a later Count = %d", x.name, n)
			}
			if n := r.Count(-1); n != 0 {
				t.Errorf("%s: a later Count of -1 = %d", x.name, n)
			}
			if b := r.Blob(); len(b) != 0 {
				t.Errorf("%s: a later Blob = %x", x.name, b)
			}
		}
	}
}

// P1.3: Int decodes every number, whatever follows it.
func TestIntDecodes(t *testing.T) {
	for _, x := range numbers {
		for _, after := range []string{"", "00", "09", "ffff"} {
			r := pack.From(fromHex(t, x.code+after))
			want := api.OK
			if after != "" {
				want = api.ErrLong
			}
			if n := r.Int(); n != x.n || r.Done() != want {
				t.Errorf("Int of %s%s = %d, Done %d; want %d, Done %d", x.code, after, n, r.Done(), x.n, want)
			}
		}
	}
}

// P1.3: of several errors Int fails with the one that the chapter names first.
func TestIntFailures(t *testing.T) {
	for _, x := range []struct {
		code string
		want api.Errno
	}{
		{"", api.ErrShort},
		// No such head, also where bytes are missing behind it.
		{"09", api.ErrLong}, {"0f", api.ErrLong}, {"10", api.ErrLong}, {"19", api.ErrLong}, {"20", api.ErrLong},
		{"80", api.ErrLong}, {"ff", api.ErrLong}, {"1000", api.ErrLong}, {"09010101010101010101", api.ErrLong},
		{"1901" + zeros7 + "00", api.ErrLong},
		// Too few bytes, also where the first one is 00.
		{"01", api.ErrShort}, {"11", api.ErrShort}, {"0201", api.ErrShort}, {"0200", api.ErrShort}, {"1200", api.ErrShort},
		{"08ff" + ff7[2:], api.ErrShort}, {"18" + ff7, api.ErrShort}, {"08", api.ErrShort}, {"18", api.ErrShort},
		// The first byte is 00.
		{"0100", api.ErrLong}, {"1100", api.ErrLong}, {"020001", api.ErrLong}, {"1200ff", api.ErrLong}, {"0800" + ff7, api.ErrLong}, {"1800" + ff7, api.ErrLong},
		// The number does not fit into an int.
		{"0880" + zeros7, api.ErrLong}, {"08ff" + ff7, api.ErrLong},
		{"1880" + zeros7[2:] + "01", api.ErrLong}, {"18ff" + ff7, api.ErrLong}, {"1881" + zeros7, api.ErrLong},
	} {
		r := pack.From(fromHex(t, x.code))
		if n := r.Int(); n != 0 || r.Done() != x.want {
			t.Errorf("Int of %q = %d, Done %d; want 0, Done %d", x.code, n, r.Done(), x.want)
		}
	}
}

// P1.3: each byte is a head, or it is none.
func TestIntHeads(t *testing.T) {
	for head := range 256 {
		r := pack.From([]byte{byte(head), 1, 0, 0, 0, 0, 0, 0, 0})
		n, want := r.Int(), 0
		good := head <= 8 || head >= 17 && head <= 24
		if size := head % 16; good && size > 0 {
			want = 1 << (8 * (size - 1))
		}
		if head > 16 {
			want = -want
		}
		if n != want {
			t.Errorf("Int at the head %d = %d, want %d", head, n, want)
		}
		e := api.ErrLong
		if head == 8 || head == 24 {
			e = api.OK
		}
		if r.Done() != e {
			t.Errorf("Done at the head %d = %d, want %d", head, r.Done(), e)
		}
	}
}

// P1.4: Count decodes a number from 0 to most, and checks this last.
func TestCount(t *testing.T) {
	for _, x := range []struct {
		code string
		most int
		n    int
		want api.Errno
	}{
		{"00", 0, 0, api.OK}, {"0103", 3, 3, api.OK}, {"0103", 4, 3, api.OK}, {"0103", math.MaxInt, 3, api.OK},
		{"087f" + ff7, math.MaxInt, math.MaxInt, api.OK},
		{"0103", 2, 0, api.ErrMany}, {"0101", 0, 0, api.ErrMany}, {"087f" + ff7, math.MaxInt - 1, 0, api.ErrMany},
		{"00", -1, 0, api.ErrMany}, {"0103", -1, 0, api.ErrMany}, {"0103", math.MinInt, 0, api.ErrMany},
		{"1101", 5, 0, api.ErrMany}, {"1101", -1, 0, api.ErrMany}, {"1101", -5, 0, api.ErrMany}, {"1880" + zeros7, math.MaxInt, 0, api.ErrMany},
		// What Int fails with comes first.
		{"", -1, 0, api.ErrShort}, {"0203", 2, 0, api.ErrShort}, {"09", -1, 0, api.ErrLong}, {"0100", -1, 0, api.ErrLong}, {"0880" + zeros7, 5, 0, api.ErrLong},
	} {
		r := pack.From(fromHex(t, x.code))
		if n := r.Count(x.most); n != x.n || r.Done() != x.want {
			t.Errorf("Count(%d) of %q = %d, Done %d; want %d, Done %d", x.most, x.code, n, r.Done(), x.n, x.want)
		}
	}
}

// P1.4: Blob decodes a byte string, and fails like Count(2^31 - 1), then for want of bytes.
func TestBlob(t *testing.T) {
	for _, x := range []struct {
		code string
		blob string
		want api.Errno
	}{
		{"00", "", api.OK}, {"0101aa", "aa", api.OK}, {"01020506", "0506", api.OK}, {"0102050607", "0506", api.ErrLong},
		{"", "", api.ErrShort}, {"0102", "", api.ErrShort}, {"010205", "", api.ErrShort}, {"010307", "", api.ErrShort}, {"02ff", "", api.ErrShort},
		{"047fffffff", "", api.ErrShort}, {"047fffffff01", "", api.ErrShort},
		{"0480000000", "", api.ErrMany}, {"087f" + ff7, "", api.ErrMany}, {"1101", "", api.ErrMany}, {"1103070707", "", api.ErrMany}, {"1880" + zeros7, "", api.ErrMany},
		{"09", "", api.ErrLong}, {"10", "", api.ErrLong}, {"0100", "", api.ErrLong}, {"0880" + zeros7, "", api.ErrLong},
	} {
		r := pack.From(fromHex(t, x.code))
		if b := r.Blob(); hex.EncodeToString(b) != x.blob || r.Done() != x.want {
			t.Errorf("Blob of %q = %x, Done %d; want %s, Done %d", x.code, b, r.Done(), x.blob, x.want)
		}
	}
	long := bytes.Repeat([]byte{1, 2, 3}, 1<<16)
	r := pack.From(pack.Blob(nil, long))
	if b := r.Blob(); !bytes.Equal(b, long) || r.Done() != api.OK {
		t.Errorf("a long Blob has %d bytes, Done %d", len(b), r.Done())
	}
}

// P1.5: Done says ErrLong as long as a byte is left, and reads nothing.
func TestDone(t *testing.T) {
	if e := pack.From(nil).Done(); e != api.OK {
		t.Errorf("Done of no bytes = %d", e)
	}
	if e := pack.From([]byte{}).Done(); e != api.OK {
		t.Errorf("Done of an empty slice = %d", e)
	}
	r := pack.From(fromHex(t, "0105"+"0101aa"+"00"))
	for i, read := range []func() bool{
		func() bool { return true },
		func() bool { return r.Int() == 5 },
		func() bool { return bytes.Equal(r.Blob(), []byte{0xaa}) },
	} {
		if !read() {
			t.Errorf("read %d is wrong", i)
		}
		if r.Done() != api.ErrLong || r.Done() != api.ErrLong {
			t.Errorf("after read %d Done = %d", i, r.Done())
		}
	}
	if n := r.Count(0); n != 0 || r.Done() != api.OK || r.Done() != api.OK {
		t.Errorf("the last Count = %d, Done %d", n, r.Done())
	}
	if n := r.Int(); n != 0 || r.Done() != api.ErrShort {
		t.Errorf("Int behind the end = %d, Done %d", n, r.Done())
	}
}

// P1.6: the bytes that are consumed for a number are its encoding. Those of all strings of up to two bytes, and of all first and last bytes behind each longer head.
func TestNumbersAreCanonical(t *testing.T) {
	codes := [][]byte{{}}
	for a := range 256 {
		codes = append(codes, []byte{byte(a)})
		for b := range 256 {
			codes = append(codes, []byte{byte(a), byte(b)})
		}
	}
	for head := range 32 {
		for size := 2; size <= 9; size++ {
			for _, first := range []byte{0, 1, 0x7f, 0x80, 0x81, 0xff} {
				for _, last := range []byte{0, 1, 0xff} {
					code := make([]byte, 1+size)
					code[0], code[1], code[size] = byte(head), first, last
					codes = append(codes, code)
				}
			}
		}
	}
	for _, code := range codes {
		r := pack.From(code)
		n := r.Int()
		if r.Done() == api.OK && !bytes.Equal(pack.Int(nil, n), code) {
			t.Errorf("%x is decoded as %d, the encoding of which is %x", code, n, pack.Int(nil, n))
		}
		r = pack.From(code)
		b := r.Blob()
		if r.Done() == api.OK && !bytes.Equal(pack.Blob(nil, b), code) {
			t.Errorf("%x is decoded as the byte string %x", code, b)
		}
	}
}

// P1.6: values that were encoded one after the other are decoded in that order, and then Done returns OK.
func TestValuesOneAfterTheOther(t *testing.T) {
	random := rand.New(rand.NewSource(1))
	for range 500 {
		var code []byte
		var checks []func(r *pack.Reader) bool
		for range random.Intn(9) {
			n := int(random.Uint64()) >> random.Intn(64)
			x := make([]byte, random.Intn(300))
			random.Read(x)
			switch random.Intn(3) {
			case 0:
				code = pack.Int(code, n)
				checks = append(checks, func(r *pack.Reader) bool { return r.Int() == n })
			case 1:
				n &= math.MaxInt
				code = pack.Int(code, n)
				checks = append(checks, func(r *pack.Reader) bool { return r.Count(n) == n })
			case 2:
				code = pack.Blob(code, x)
				checks = append(checks, func(r *pack.Reader) bool { return bytes.Equal(r.Blob(), x) })
			}
		}
		r := pack.From(code)
		for i, ok := range checks {
			if !ok(r) {
				t.Fatalf("value %d of %x is wrong", i, code)
			}
		}
		if r.Done() != api.OK {
			t.Fatalf("Done of %x = %d", code, r.Done())
		}
	}
}

// R3: a reader keeps nothing of its argument, and gives out nothing of what it keeps.
func TestReadersShareNoMemory(t *testing.T) {
	code := fromHex(t, "01020506"+"01020506"+"0107")
	r := pack.From(code)
	first := r.Blob()
	for i := range code {
		code[i] = 0xee
	}
	first = append(first, 0xee, 0xee, 0xee, 0xee)
	for i := range first {
		first[i] = 0xee
	}
	second := r.Blob()
	if !bytes.Equal(second, []byte{5, 6}) {
		t.Errorf("the second Blob = %x", second)
	}
	if n := r.Int(); n != 7 || r.Done() != api.OK {
		t.Errorf("Int = %d, Done %d", n, r.Done())
	}
	second[0] = 1
	if !bytes.Equal(first, bytes.Repeat([]byte{0xee}, 6)) {
		t.Errorf("the two results share memory: %x", first)
	}
}

// R4: readers of the same bytes do not affect one another.
func TestReadersAreIndependent(t *testing.T) {
	code := fromHex(t, "01050106")
	a, b := pack.From(code), pack.From(code)
	a.Count(0)
	if n := b.Int(); n != 5 {
		t.Errorf("the other reader's Int = %d", n)
	}
	if a.Done() != api.ErrMany || b.Done() != api.ErrLong {
		t.Errorf("Done = %d, and of the other reader %d", a.Done(), b.Done())
	}
}

// FuzzReader holds what is promised against any bytes (R1, P1.2, P1.5, P1.6): reads end, and the bytes that they took are the encodings of their results.
func FuzzReader(f *testing.F) {
	for _, x := range numbers {
		b, _ := hex.DecodeString(x.code + "01020506")
		f.Add(b, []byte{0, 2, 1}, x.n)
	}
	f.Add([]byte{9}, []byte{2, 2}, -1)
	f.Add([]byte{4, 0x80, 0, 0, 0}, []byte{2}, 0)
	f.Fuzz(func(t *testing.T, code, calls []byte, most int) {
		r := pack.From(code)
		var taken []byte
		failed := api.OK
		for _, call := range calls {
			n, x, after := 0, []byte(nil), []byte(nil)
			switch call % 3 {
			case 0:
				n = r.Int()
				after = pack.Int(taken, n)
			case 1:
				n = r.Count(most)
				after = pack.Int(taken, n)
			case 2:
				x = r.Blob()
				after = pack.Blob(taken, x)
			}
			left := api.OK
			if len(after) < len(code) {
				left = api.ErrLong
			}
			now := r.Done()
			if failed == api.OK && bytes.HasPrefix(code, after) && now == left {
				taken = after
				continue
			}
			if n != 0 || len(x) != 0 || now == api.OK || failed != api.OK && now != failed {
				t.Fatalf("%x was taken of %x, and the error was %d; then %d, %x, Done %d", taken, code, failed, n, x, now)
			}
			failed = now
		}
	})
}
