package frame_test

import (
	"bytes"
	"encoding/binary"
	"hash/crc32"
	"math"
	"math/rand"
	"reflect"
	"testing"

	"quayside/api"
	"quayside/frame"
)

// example is the encoding of the chapter's example: kind 7, body 01 02.
var example = []byte{0x07, 0, 0, 2, 1, 2, 0x58, 0x56, 0x15, 0x18, 0x0A}

// encoding does what the chapter's definition says, by the library's checksum.
func encoding(kind byte, body []byte) []byte {
	size := binary.BigEndian.AppendUint32(nil, uint32(len(body)))
	b := append([]byte{kind}, size[1:]...)
	b = append(b, body...)
	b = binary.BigEndian.AppendUint32(b, crc32.ChecksumIEEE(b))
	return append(b, 0x0A)
}

// bodies are bodies of many lengths: the edges of each byte of the length, and small ones.
func bodies() [][]byte {
	list := [][]byte{nil, {}, {0}, {0x0A}, {255}, {0x07, 0, 0, 0}, example, []byte("quayside")}
	random := rand.New(rand.NewSource(3))
	for _, size := range []int{2, 3, 4, 5, 16, 100, 255, 256, 257, 511, 512, 4096, 65279, 65280, 65281, api.MaxBody - 1, api.MaxBody} {
		body := make([]byte, size)
		random.Read(body)
		list = append(list, body)
	}
	return append(list, make([]byte, api.MaxBody), bytes.Repeat([]byte{255}, api.MaxBody))
}

// put returns the encoding of a frame that has one.
func put(t *testing.T, f api.Frame) []byte {
	t.Helper()
	b, e := frame.Put(f)
	if e != api.OK {
		t.Fatalf("Put of kind %d with %d bytes: error %d", f.Kind, len(f.Body), e)
	}
	return b
}

// sameFrame tells whether two frames are the same, a body that is nil and an empty one alike.
func sameFrame(f, g api.Frame) bool {
	return f.Kind == g.Kind && bytes.Equal(f.Body, g.Body)
}

// sameFrames tells the same of two lists.
func sameFrames(fs, gs []api.Frame) bool {
	if len(fs) != len(gs) {
		return false
	}
	for i := range fs {
		if !sameFrame(fs[i], gs[i]) {
			return false
		}
	}
	return true
}

// wantError fails unless Get of b returns the error e and nothing else, and Scan of it no frame.
func wantError(t *testing.T, what string, b []byte, e api.Errno) {
	t.Helper()
	f, size, got := frame.Get(b)
	if got != e {
		t.Errorf("%s: Get returned error %d, want %d", what, got, e)
	}
	if !reflect.DeepEqual(f, api.Frame{}) || size != 0 {
		t.Errorf("%s: Get returned kind %d, %d bytes of body and the size %d beside an error", what, f.Kind, len(f.Body), size)
	}
	if fs, size := frame.Scan(b); len(fs) != 0 || size != 0 {
		t.Errorf("%s: Scan returned %d frames with %d bytes", what, len(fs), size)
	}
}

// P3.1: the chapter's example.
func TestPutOfTheExample(t *testing.T) {
	if b := put(t, api.Frame{Kind: 7, Body: []byte{1, 2}}); !bytes.Equal(b, example) {
		t.Errorf("Put = % x, want % x", b, example)
	}
}

// P3.1: encodings that are written out: an empty body, the least and the greatest kind.
func TestPutOfKnownFrames(t *testing.T) {
	for _, x := range []struct {
		f    api.Frame
		want []byte
	}{
		{api.Frame{Kind: 1}, []byte{1, 0, 0, 0, 0x99, 0xf8, 0xb8, 0x79, 0x0A}},
		{api.Frame{Kind: 1, Body: []byte{}}, []byte{1, 0, 0, 0, 0x99, 0xf8, 0xb8, 0x79, 0x0A}},
		{api.Frame{Kind: 255}, []byte{255, 0, 0, 0, 0xff, 0x41, 0xd9, 0xed, 0x0A}},
		{api.Frame{Kind: 2, Body: []byte{0}}, []byte{2, 0, 0, 1, 0, 0xa5, 0xf9, 0x95, 0x3c, 0x0A}},
	} {
		if b := put(t, x.f); !bytes.Equal(b, x.want) {
			t.Errorf("Put of kind %d, body % x = % x, want % x", x.f.Kind, x.f.Body, b, x.want)
		}
	}
}

// P3.1: a frame of any kind and any length is encoded as the definition says.
func TestPutOfEachKindAndLength(t *testing.T) {
	for kind := 1; kind <= 255; kind++ {
		body := bytes.Repeat([]byte{byte(kind)}, kind%7)
		if b := put(t, api.Frame{Kind: kind, Body: body}); !bytes.Equal(b, encoding(byte(kind), body)) {
			t.Errorf("Put of kind %d, body % x = % x", kind, body, b)
		}
	}
	for _, body := range bodies() {
		if b := put(t, api.Frame{Kind: 200, Body: body}); !bytes.Equal(b, encoding(200, body)) {
			t.Errorf("Put of a body of %d bytes is not its encoding", len(body))
		}
	}
}

// wantPutError fails unless Put of f returns the error e and no bytes.
func wantPutError(t *testing.T, f api.Frame, e api.Errno) {
	t.Helper()
	b, got := frame.Put(f)
	if got != e {
		t.Errorf("Put of kind %d with %d bytes: error %d, want %d", f.Kind, len(f.Body), got, e)
	}
	if len(b) != 0 {
		t.Errorf("Put of kind %d with %d bytes returned %d bytes beside an error", f.Kind, len(f.Body), len(b))
	}
}

// P3.1: no kind below 1 and none above 255 is one, though its lowest byte be.
func TestPutOfWrongKinds(t *testing.T) {
	for _, kind := range []int{0, -1, -7, -255, -256, 256, 257, 256 + 7, 1 << 16, 1<<32 + 7, math.MaxInt, math.MinInt, math.MinInt + 7} {
		wantPutError(t, api.Frame{Kind: kind, Body: []byte{1, 2}}, api.ErrKind)
		wantPutError(t, api.Frame{Kind: kind}, api.ErrKind)
	}
}

// P3.1: a body has at most MaxBody bytes; no greater length is taken for the one that is left of it in two or three bytes.
func TestPutOfBodiesThatAreTooLong(t *testing.T) {
	put(t, api.Frame{Kind: 7, Body: make([]byte, api.MaxBody)})
	for _, size := range []int{api.MaxBody + 1, api.MaxBody + 2, 2 * api.MaxBody, 1<<24 - 1, 1 << 24, 1<<24 + 2} {
		wantPutError(t, api.Frame{Kind: 7, Body: make([]byte, size)}, api.ErrLong)
	}
}

// P3.1: of two errors that apply, the first one.
func TestPutReturnsTheFirstError(t *testing.T) {
	for _, kind := range []int{-1, 0, 256, math.MaxInt} {
		wantPutError(t, api.Frame{Kind: kind, Body: make([]byte, api.MaxBody+1)}, api.ErrKind)
	}
}

// P3.2: the chapter's examples.
func TestGetOfTheExamples(t *testing.T) {
	for _, behind := range []string{"", "\x00", "\x0A", "and more", string(example)} {
		f, size, e := frame.Get(append(bytes.Clone(example), behind...))
		if e != api.OK || size != 11 || f.Kind != 7 || !bytes.Equal(f.Body, []byte{1, 2}) {
			t.Errorf("Get, %q behind it: kind %d, body % x, size %d, error %d", behind, f.Kind, f.Body, size, e)
		}
	}
	wantError(t, "without the 0A", example[:10], api.ErrShort)
	wantError(t, "another byte instead of the 0A", append(bytes.Clone(example[:10]), 0x0B), api.ErrSum)
	wantError(t, "07 00 00", []byte{7, 0, 0}, api.ErrShort)
	wantError(t, "00 00 00 00", []byte{0, 0, 0, 0}, api.ErrKind)
	wantError(t, "07 01 00 01", []byte{7, 1, 0, 1}, api.ErrLong)
}

// P3.2: each kind and each length is decoded, whatever follows.
func TestGetOfEachKindAndLength(t *testing.T) {
	for kind := 1; kind <= 255; kind++ {
		b := encoding(byte(kind), []byte{byte(kind), 9})
		f, size, e := frame.Get(b)
		if e != api.OK || size != 11 || !sameFrame(f, api.Frame{Kind: kind, Body: []byte{byte(kind), 9}}) {
			t.Errorf("Get of kind %d: kind %d, body % x, size %d, error %d", kind, f.Kind, f.Body, size, e)
		}
	}
	for _, body := range bodies() {
		for _, behind := range []string{"", "\x0A", "and more"} {
			b := append(encoding(9, body), behind...)
			f, size, e := frame.Get(b)
			if e != api.OK || size != len(body)+9 || !sameFrame(f, api.Frame{Kind: 9, Body: body}) {
				t.Errorf("Get of a body of %d bytes: kind %d, %d bytes, size %d, error %d", len(body), f.Kind, len(f.Body), size, e)
			}
		}
	}
}

// P3.2: fewer than four bytes are too few, whatever they are: also where they would be of no kind, or too long.
func TestGetOfFewerThanFourBytes(t *testing.T) {
	for _, b := range [][]byte{nil, {}, {7}, {0}, {255}, {7, 1}, {0, 255}, {7, 255, 255}, {0, 0, 0}, {0, 255, 255}, {7, 1, 0}} {
		wantError(t, "few bytes", b, api.ErrShort)
	}
	for size := range 4 {
		wantError(t, "the beginning of a frame", example[:size:size], api.ErrShort)
		wantError(t, "the beginning of a frame, the rest behind the length", example[:size], api.ErrShort)
	}
}

// P3.2: 00 is no kind, whatever follows it: also where it would be too long, too short or complete.
func TestGetOfNoKind(t *testing.T) {
	for _, b := range [][]byte{
		{0, 0, 0, 0}, {0, 255, 255, 255}, {0, 1, 0, 1}, {0, 0, 0, 5}, encoding(0, nil), encoding(0, []byte{1, 2}), make([]byte, 100),
	} {
		wantError(t, "no kind", b, api.ErrKind)
	}
}

// P3.2: a length of more than MaxBody is too much, whether as many bytes follow or not.
func TestGetOfLengthsThatSayTooMuch(t *testing.T) {
	for _, size := range [][]byte{{1, 0, 1}, {1, 1, 0}, {1, 255, 255}, {2, 0, 0}, {128, 0, 0}, {255, 0, 0}, {255, 255, 255}} {
		for _, kind := range []byte{1, 7, 255} {
			wantError(t, "too long", append([]byte{kind}, size...), api.ErrLong)
			wantError(t, "too long, with bytes behind", append(append([]byte{kind}, size...), make([]byte, 300)...), api.ErrLong)
		}
	}
	wantError(t, "too long, complete", encoding(7, make([]byte, api.MaxBody+1)), api.ErrLong)
	wantError(t, "too long, complete", encoding(7, make([]byte, 2*api.MaxBody)), api.ErrLong)
	wantError(t, "as long as may be, not complete", []byte{7, 1, 0, 0}, api.ErrShort)
}

// P3.2: a frame that is truncated at any place is too short, also where its bytes are wrong, and what lies behind the length of the slice does not count.
func TestGetOfTruncatedFrames(t *testing.T) {
	for _, body := range bodies() {
		b := encoding(255, body)
		step := 1 + len(b)/300
		for cut := 0; cut < len(b); cut += step {
			if _, size, e := frame.Get(b[:cut]); e != api.ErrShort || size != 0 {
				t.Errorf("a frame of %d bytes, %d of them: size %d, error %d", len(b), cut, size, e)
			}
		}
		for cut := max(0, len(b)-10); cut < len(b); cut++ {
			wantError(t, "truncated", b[:cut], api.ErrShort)
		}
	}
	wrong := bytes.Clone(example)
	wrong[6] ^= 1
	for cut := range len(wrong) {
		wantError(t, "truncated, the checksum wrong", wrong[:cut], api.ErrShort)
	}
}

// P3.2: any byte of a frame that is another one is found out, bit by bit.
func TestGetOfChangedFrames(t *testing.T) {
	for _, body := range [][]byte{nil, {1, 2}, {0, 0, 0, 0}, []byte("quayside")} {
		b := encoding(7, body)
		for at := range b {
			if at > 0 && at < 4 {
				continue // another length, which another error may tell
			}
			for x := range 256 {
				changed := bytes.Clone(b)
				changed[at] = byte(x)
				switch {
				case changed[at] == b[at]:
				case at == 0 && x == 0:
					wantError(t, "the kind 00", changed, api.ErrKind)
				default:
					wantError(t, "a changed byte", changed, api.ErrSum)
				}
			}
		}
	}
}

// P3.2: a checksum over the wrong bytes, or in the wrong order, is wrong.
func TestGetOfWrongChecksums(t *testing.T) {
	head, body := []byte{7, 0, 0, 2}, []byte{1, 2}
	whole := append(bytes.Clone(head), body...)
	right := crc32.ChecksumIEEE(whole)
	for _, sum := range [][]byte{
		binary.LittleEndian.AppendUint32(nil, right),
		binary.BigEndian.AppendUint32(nil, ^right),
		binary.BigEndian.AppendUint32(nil, crc32.ChecksumIEEE(body)),
		binary.BigEndian.AppendUint32(nil, crc32.ChecksumIEEE(whole[1:])),
		{0, 0, 0, 0},
		{255, 255, 255, 255},
	} {
		b := append(append(bytes.Clone(whole), sum...), 0x0A)
		wantError(t, "a wrong checksum", b, api.ErrSum)
		b[len(b)-1] = 0
		wantError(t, "a wrong checksum, and no 0A", b, api.ErrSum)
	}
}

// P3.2: a length that says less than there is leaves a frame whose checksum is wrong.
func TestGetOfLengthsThatSayTooLittle(t *testing.T) {
	b := encoding(7, []byte("quayside"))
	for size := range byte(8) {
		b[3] = size
		wantError(t, "a lesser length", b, api.ErrSum)
	}
	b[3] = 9
	wantError(t, "a greater length", b, api.ErrShort)
}

// sampleFrames are frames of many kinds and lengths.
func sampleFrames() []api.Frame {
	list := []api.Frame{{Kind: 1}, {Kind: 7, Body: []byte{1, 2}}, {Kind: 255, Body: example}, {Kind: 10, Body: []byte{0x0A}}}
	random := rand.New(rand.NewSource(5))
	for range 6 {
		body := make([]byte, random.Intn(20))
		random.Read(body)
		list = append(list, api.Frame{Kind: 1 + random.Intn(255), Body: body})
	}
	return list
}

// P3.3: Scan of no bytes, and of one frame alone.
func TestScanOfFewFrames(t *testing.T) {
	for _, b := range [][]byte{nil, {}} {
		if fs, size := frame.Scan(b); len(fs) != 0 || size != 0 {
			t.Errorf("Scan of no bytes: %d frames, size %d", len(fs), size)
		}
	}
	if fs, size := frame.Scan(example); size != 11 || !sameFrames(fs, []api.Frame{{Kind: 7, Body: []byte{1, 2}}}) {
		t.Errorf("Scan of the example: %v, size %d", fs, size)
	}
}

// P3.3: Scan returns all frames up to the first place at which there is none, whatever the error is there, and frames behind it do not count.
func TestScanEndsAtTheFirstFault(t *testing.T) {
	frames := sampleFrames()
	var b []byte
	for n, f := range frames {
		for _, behind := range [][]byte{
			nil, {7}, {7, 0, 0}, {0, 0, 0, 0}, {7, 1, 0, 1}, {7, 0, 0, 2, 1, 2}, example[:10],
			append(bytes.Clone(example[:10]), 0), append([]byte{0x0A}, example...), append(encoding(7, []byte{1})[:9], example...), encoding(0, nil),
		} {
			fs, size := frame.Scan(append(bytes.Clone(b), behind...))
			if size != len(b) || !sameFrames(fs, frames[:n]) {
				t.Errorf("Scan of %d frames, % x behind them: %d frames, size %d, want %d", n, behind, len(fs), size, len(b))
			}
		}
		b = append(b, encoding(byte(f.Kind), f.Body)...)
	}
}

// P3.3: a fault in the middle hides the frames behind it, and no frame ahead of it.
func TestScanOfAFaultInTheMiddle(t *testing.T) {
	frames := sampleFrames()
	var b []byte
	var ends []int
	for _, f := range frames {
		b = append(b, encoding(byte(f.Kind), f.Body)...)
		ends = append(ends, len(b))
	}
	for n := range frames {
		changed := bytes.Clone(b)
		changed[ends[n]-1] = 0x0B
		start := 0
		if n > 0 {
			start = ends[n-1]
		}
		if fs, size := frame.Scan(changed); size != start || !sameFrames(fs, frames[:n]) {
			t.Errorf("a fault in frame %d: %d frames, size %d, want %d", n, len(fs), size, start)
		}
	}
}

// P3.3: many frames and great ones.
func TestScanOfManyFrames(t *testing.T) {
	var frames []api.Frame
	var b []byte
	for i := range 3000 {
		frames = append(frames, api.Frame{Kind: 1 + i%255, Body: make([]byte, i%5)})
	}
	for _, body := range bodies() {
		frames = append(frames, api.Frame{Kind: 3, Body: body})
	}
	for _, f := range frames {
		b = append(b, put(t, f)...)
	}
	if fs, size := frame.Scan(b); size != len(b) || !sameFrames(fs, frames) {
		t.Errorf("Scan of %d frames with %d bytes: %d frames, size %d", len(frames), len(b), len(fs), size)
	}
}

// P3.4: wherever the encodings of some frames are truncated, Scan returns those that are complete.
func TestScanOfTruncatedFrames(t *testing.T) {
	frames := sampleFrames()
	var b []byte
	var ends []int
	for _, f := range frames {
		b = append(b, put(t, f)...)
		ends = append(ends, len(b))
	}
	for cut := range len(b) + 1 {
		complete, end := 0, 0
		for complete < len(ends) && ends[complete] <= cut {
			end = ends[complete]
			complete++
		}
		if fs, size := frame.Scan(b[:cut]); size != end || !sameFrames(fs, frames[:complete]) {
			t.Errorf("%d of %d bytes: %d frames, size %d, want %d frames, size %d", cut, len(b), len(fs), size, complete, end)
		}
	}
}

// P3.4: so too for a frame of MaxBody bytes behind another one.
func TestScanOfATruncatedGreatFrame(t *testing.T) {
	first := put(t, api.Frame{Kind: 7, Body: []byte{1, 2}})
	b := append(bytes.Clone(first), put(t, api.Frame{Kind: 8, Body: bytes.Repeat([]byte{0x0A}, api.MaxBody)})...)
	cuts := []int{len(b) - 1, len(b) - 2, len(b) - 5, len(b) - 6, 11, 12, 15, 16}
	for cut := 11; cut < len(b); cut += 997 {
		cuts = append(cuts, cut)
	}
	for _, cut := range cuts {
		if fs, size := frame.Scan(b[:cut]); size != 11 || len(fs) != 1 || fs[0].Kind != 7 {
			t.Errorf("%d of %d bytes: %d frames, size %d", cut, len(b), len(fs), size)
		}
	}
	if fs, size := frame.Scan(b); size != len(b) || len(fs) != 2 || len(fs[1].Body) != api.MaxBody {
		t.Errorf("all bytes: %d frames, size %d", len(fs), size)
	}
}

// P3.5: Get of what Put returned, whatever follows it, returns the frame; Put of it returns the same bytes again.
func TestGetFollowsPut(t *testing.T) {
	for i, body := range bodies() {
		for _, kind := range []int{1, 2, 7, 10, 127, 128, 254, 255} {
			f := api.Frame{Kind: kind, Body: body}
			b := put(t, f)
			for _, behind := range []string{"", "\x00", "\x0A", "\x07\x00\x00\x00", string(example)} {
				g, size, e := frame.Get(append(bytes.Clone(b), behind...))
				if e != api.OK || size != len(b) || !sameFrame(f, g) {
					t.Fatalf("body %d, kind %d, %q behind it: kind %d, %d bytes, size %d, error %d", i, kind, behind, g.Kind, len(g.Body), size, e)
				}
				if !bytes.Equal(put(t, g), b) {
					t.Fatalf("body %d, kind %d: Put of what Get returned is something else", i, kind)
				}
			}
		}
	}
}

// R3: arguments are left as they are, and so is their spare capacity.
func TestArgumentsAreLeftAlone(t *testing.T) {
	room := []byte("body, and what lies behind it: more than a frame adds")
	kept := bytes.Clone(room)
	put(t, api.Frame{Kind: 7, Body: room[:4]})
	put(t, api.Frame{Kind: 7, Body: room[:0]})
	if !bytes.Equal(room, kept) {
		t.Errorf("Put made % x of its argument", room)
	}
	whole := append(append(bytes.Clone(example), example...), "and more"...)
	kept = bytes.Clone(whole)
	for cut := range len(whole) + 1 {
		frame.Get(whole[:cut])
		frame.Scan(whole[:cut])
	}
	if !bytes.Equal(whole, kept) {
		t.Errorf("Get and Scan made % x of their argument", whole)
	}
}

// fill writes over all that a slice reaches, its spare capacity included.
func fill(b []byte) {
	b = b[:cap(b)]
	for i := range b {
		b[i] = 0xEE
	}
}

// R3: results are new memory: neither an argument nor another result changes with them.
func TestResultsAreNewMemory(t *testing.T) {
	body := []byte{1, 2}
	b := put(t, api.Frame{Kind: 7, Body: body})
	fill(body)
	if !bytes.Equal(b, example) {
		t.Errorf("with its argument, what Put returned became % x", b)
	}
	body = []byte{1, 2}
	fill(put(t, api.Frame{Kind: 7, Body: body}))
	if !bytes.Equal(body, []byte{1, 2}) {
		t.Errorf("with what Put returned, its argument became % x", body)
	}

	b = bytes.Clone(example)
	f, _, _ := frame.Get(b)
	fill(b)
	if !bytes.Equal(f.Body, []byte{1, 2}) {
		t.Errorf("with its argument, what Get returned became % x", f.Body)
	}
	b = bytes.Clone(example)
	f, _, _ = frame.Get(b)
	fill(f.Body)
	if !bytes.Equal(b, example) {
		t.Errorf("with what Get returned, its argument became % x", b)
	}
}

// R3: the bodies of the frames that Scan returns share no memory, neither with one another nor with the argument.
func TestBodiesOfScanAreApart(t *testing.T) {
	whole := bytes.Repeat(example, 3)
	fs, _ := frame.Scan(whole)
	fill(fs[1].Body)
	if want := []byte{1, 2}; !bytes.Equal(fs[0].Body, want) || !bytes.Equal(fs[2].Body, want) {
		t.Errorf("with the second body, the others became % x and % x", fs[0].Body, fs[2].Body)
	}
	if !bytes.Equal(whole, bytes.Repeat(example, 3)) {
		t.Errorf("with a body, the argument became % x", whole)
	}
	fs, _ = frame.Scan(whole)
	fill(whole)
	for i, f := range fs {
		if !bytes.Equal(f.Body, []byte{1, 2}) {
			t.Errorf("with the argument, body %d became % x", i, f.Body)
		}
	}
}

// R4: the results depend on the arguments alone, not on calls before.
func TestResultsDependOnArgumentsAlone(t *testing.T) {
	first := put(t, api.Frame{Kind: 7, Body: []byte{1, 2}})
	put(t, api.Frame{Kind: 9, Body: make([]byte, 1000)})
	frame.Put(api.Frame{})
	frame.Scan(bytes.Repeat(example, 5))
	if second := put(t, api.Frame{Kind: 7, Body: []byte{1, 2}}); !bytes.Equal(first, second) {
		t.Errorf("Put = % x, then % x", first, second)
	}
	if f, size, e := frame.Get(first); e != api.OK || size != 11 || f.Kind != 7 {
		t.Errorf("Get: kind %d, size %d, error %d", f.Kind, size, e)
	}
}

// FuzzScan holds Get, Scan and Put against one another, for any bytes (P3.1 to P3.5).
func FuzzScan(f *testing.F) {
	f.Add([]byte{}, byte(0))
	f.Add(bytes.Repeat(example, 3), byte(1))
	f.Add(append(bytes.Clone(example), 7, 0, 0), byte(255))
	f.Add([]byte{7, 1, 0, 1}, byte(7))
	f.Fuzz(func(t *testing.T, b []byte, kind byte) {
		fs, size := frame.Scan(b)
		var again []byte
		for _, x := range fs {
			again = append(again, encoding(byte(x.Kind), x.Body)...)
			if x.Kind == 0 || !bytes.Equal(put(t, x), encoding(byte(x.Kind), x.Body)) {
				t.Fatalf("Put of kind %d, body % x is not its encoding", x.Kind, x.Body)
			}
		}
		if size > len(b) || !bytes.Equal(again, b[:size]) {
			t.Fatalf("Scan returned %d frames, whose bytes are not the first %d", len(fs), size)
		}
		if _, n, e := frame.Get(b[size:]); e == api.OK || n != 0 {
			t.Fatalf("behind what Scan returned Get found a frame of %d bytes, error %d", n, e)
		}

		if kind == 0 || len(b) > api.MaxBody {
			return
		}
		x := api.Frame{Kind: int(kind), Body: b}
		one := put(t, x)
		if fs, n := frame.Scan(append(bytes.Clone(one), b[size:]...)); n != len(one) || !sameFrames(fs, []api.Frame{x}) {
			t.Fatalf("Scan of one frame: %d frames, size %d, want %d", len(fs), n, len(one))
		}
		if fs, n := frame.Scan(one[:len(one)-1]); n != 0 || len(fs) != 0 {
			t.Fatalf("Scan of one frame without its last byte: %d frames, size %d", len(fs), n)
		}
	})
}
