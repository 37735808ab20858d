package tests

import (
	"bytes"
	"math/rand"
	"slices"
	"testing"

	"loop.example/g00399/impl"
)

const (
	mostBack  = 255
	leastRun  = 3
	mostRun   = 100
	mostBytes = 3000
)

// plainBytes are so many bytes 1 .. 127 that hold no three in a row a second time.
func plainBytes(size int) []byte { return apartBytes(size, 1, 127) }

// highBytes are so many bytes 128 .. 255 that hold no three in a row a second time.
func highBytes(size int) []byte { return apartBytes(size, 128, 128) }

// apartBytes goes round by a greater step each time, so that no two beginnings are gone on with alike.
func apartBytes(size int, first int, count int) []byte {
	var out []byte
	for step := 0; len(out) < size; step++ {
		for i := 0; i < count && len(out) < size; i++ {
			out = append(out, byte(first+(i*(2*step+1)+step)%count))
		}
	}
	return out
}

func joined(parts ...[]byte) []byte { return slices.Concat(parts...) }

func many(c byte, size int) []byte { return bytes.Repeat([]byte{c}, size) }

func wantBytes(t *testing.T, what string, got []byte, want []byte) {
	t.Helper()
	if !bytes.Equal(got, want) {
		t.Errorf("%s tells %v, not %v", what, got, want)
	}
}

func wantRun(t *testing.T, b []byte, at int, back int, want int) {
	t.Helper()
	if got := impl.Run(b, at, back); got != want {
		t.Errorf("Run in %d bytes at %d, %d back, tells %d, not %d", len(b), at, back, got, want)
	}
}

func wantSpread(t *testing.T, b []byte, want []byte) {
	t.Helper()
	if got, ok := impl.Spread(b); !ok || !bytes.Equal(got, want) {
		t.Errorf("Spread of %v tells %v, %v, not %v", b, got, ok, want)
	}
}

func wantNoSpread(t *testing.T, why string, b []byte) {
	t.Helper()
	if got, ok := impl.Spread(b); ok || len(got) != 0 {
		t.Errorf("%s: Spread of %v tells %v, %v", why, b, got, ok)
	}
}

// wantSqueezed asks for the bytes in both directions.
func wantSqueezed(t *testing.T, b []byte, want []byte) {
	t.Helper()
	wantBytes(t, "Squeeze", impl.Squeeze(b), want)
	wantSpread(t, want, b)
}

func TestSqueezeLimits(t *testing.T) {
	if impl.MaxBack != mostBack || impl.MinRun != leastRun || impl.MaxBytes != mostBytes {
		t.Errorf("MaxBack is %d, MinRun %d, MaxBytes %d", impl.MaxBack, impl.MinRun, impl.MaxBytes)
	}
}

// What the other tests lean on: bytes in which nothing repeats are squeezed to no run.
func TestBytesThatDoNotRepeat(t *testing.T) {
	for _, b := range [][]byte{plainBytes(mostBytes), highBytes(mostBytes)} {
		for at := range b {
			for back := 1; back <= min(at, mostBack); back++ {
				if impl.Run(b, at, back) >= leastRun {
					t.Fatalf("at %d a run of %d from %d behind", at, impl.Run(b, at, back), back)
				}
			}
		}
	}
}

func TestRun(t *testing.T) {
	b := []byte("abcabcabx")
	for _, c := range []struct{ at, back, want int }{
		{0, 0, 0}, {0, 1, 0}, {3, 3, 5}, {4, 3, 4}, {7, 3, 1}, {8, 3, 0}, {6, 6, 2}, {6, 3, 2}, {3, 1, 0}, {3, 2, 0}, {3, 4, 0}, {8, 8, 0}, {9, 3, 0}, {9, 9, 0},
	} {
		wantRun(t, b, c.at, c.back, c.want)
	}
	wantRun(t, []byte("aaaa"), 1, 1, 3)
	wantRun(t, []byte("aaaa"), 3, 3, 1)
	wantRun(t, []byte("aa"), 1, 1, 1)
	wantRun(t, []byte{0, 0, 128, 0, 0, 128}, 3, 3, 3)
}

func TestRunEndsAtMostRun(t *testing.T) {
	for _, size := range []int{99, 100, 101, 102, 250} {
		wantRun(t, many(7, size+1), 1, 1, min(size, mostRun))
		part := plainBytes(size)
		wantRun(t, joined(part, part), size, size, min(size, mostRun))
		wantRun(t, joined(part, part, []byte{200}), size, size, min(size, mostRun))
	}
}

func TestRunAtEdgesOfBack(t *testing.T) {
	b := many(9, 400)
	for _, back := range []int{1, 2, 254, 255} {
		wantRun(t, b, 300, back, 100)
		wantRun(t, b, 390, back, 10)
		wantRun(t, b, back, back, min(100, 400-back))
		wantRun(t, b, back-1, back, 0)
	}
	for _, back := range append([]int{0, 256, 257, 300, 301}, farPlaces...) {
		wantRun(t, b, 300, back, 0)
		wantRun(t, b, 399, back, 0)
	}
}

func TestRunAtNoPlace(t *testing.T) {
	for _, b := range [][]byte{nil, {}, {5}, many(5, 10), many(5, 300)} {
		for _, at := range append([]int{len(b), len(b) + 1, len(b) + 255}, farPlaces...) {
			for _, back := range append([]int{0, 1, 2, 255, 256}, farPlaces...) {
				wantRun(t, b, at, back, 0)
			}
		}
	}
}

func TestRunLooksAtNoSpareRoom(t *testing.T) {
	room := many(4, 20)
	wantRun(t, room[:5], 2, 1, 3)
	wantRun(t, room[:5], 5, 1, 0)
	wantRun(t, room[5:10], 1, 2, 0)
}

// runPlainly puts the bytes that are behind again and again, and holds both pieces against each other.
func runPlainly(b []byte, at int, back int) int {
	most := 0
	for n := 1; n <= mostRun && at+n <= len(b); n++ {
		piece := bytes.Repeat(b[at-back:at], n/back+1)[:n]
		if bytes.Equal(piece, b[at:at+n]) {
			most = n
		}
	}
	return most
}

func TestRunOfMany(t *testing.T) {
	for _, b := range mixedBytes(6, 60, 300) {
		for at := range b {
			for _, back := range []int{1, 2, 3, 7, 100, 254, 255} {
				if back <= at {
					wantRun(t, b, at, back, runPlainly(b, at, back))
				}
			}
		}
	}
}

// mixedBytes are bytes of few and of many kinds, some of which repeat what was, of at most so many bytes.
func mixedBytes(seed int64, count int, most int) [][]byte {
	source := rand.New(rand.NewSource(seed))
	var lists [][]byte
	for range count {
		kinds := []int{1, 2, 3, 5, 20, 256}[source.Intn(6)]
		first := []int{0, 97, 126, 200}[source.Intn(4)]
		size := source.Intn(most + 1)
		var b []byte
		for len(b) < size {
			if len(b) > 0 && source.Intn(6) == 0 {
				from := source.Intn(len(b))
				b = append(b, b[from:min(len(b), from+source.Intn(130))]...)
			}
			b = append(b, byte(first+source.Intn(kinds)))
		}
		lists = append(lists, b[:size])
	}
	return lists
}

func TestSqueezeWithoutRuns(t *testing.T) {
	for _, c := range []struct{ b, want []byte }{
		{nil, nil},
		{[]byte{0}, []byte{0, 0}},
		{[]byte{1}, []byte{1}},
		{[]byte{127}, []byte{127}},
		{[]byte{128}, []byte{0, 128}},
		{[]byte{129}, []byte{0, 129}},
		{[]byte{130}, []byte{0, 130}},
		{[]byte{131}, []byte{0, 131}},
		{[]byte{228}, []byte{0, 228}},
		{[]byte{229}, []byte{0, 229}},
		{[]byte{255}, []byte{0, 255}},
		{[]byte{0, 0}, []byte{0, 0, 0, 0}},
		{[]byte{0, 127, 128, 255, 1}, []byte{0, 0, 127, 0, 128, 0, 255, 1}},
		{[]byte("abab"), []byte("abab")},
		{[]byte("abcab"), []byte("abcab")},
		{[]byte("aaa"), []byte("aaa")},
	} {
		wantSqueezed(t, c.b, c.want)
	}
}

func TestEachByteAlone(t *testing.T) {
	for n := range 256 {
		want := []byte{byte(n)}
		if n == 0 || n >= 128 {
			want = []byte{0, byte(n)}
		}
		wantSqueezed(t, []byte{byte(n)}, want)
	}
}

func TestSqueezeRuns(t *testing.T) {
	for _, c := range []struct{ b, want []byte }{
		{[]byte("abcabcabx"), []byte("abc\x85\x03x")},
		{[]byte("aaaa"), []byte("a\x83\x01")},
		{[]byte("aaaaa"), []byte("a\x84\x01")},
		{[]byte("ababa"), []byte("ab\x83\x02")},
		{[]byte("abcabc"), []byte("abc\x83\x03")},
		{[]byte("abcdabcxabcd"), []byte("abcd\x83\x04x\x84\x08")},
		{[]byte("abcdxabcyabcd"), []byte("abcdx\x83\x05y\x84\x09")},
		{many(0, 4), []byte{0, 0, 131, 1}},
		{many(128, 4), []byte{0, 128, 131, 1}},
		{many(255, 5), []byte{0, 255, 132, 1}},
	} {
		wantSqueezed(t, c.b, c.want)
	}
}

// Of runs that are alike in length the nearest one counts, whatever was told ahead of it.
func TestSqueezeTakesTheLeastBack(t *testing.T) {
	wantSqueezed(t, []byte("abcXabcYabcZ"), []byte("abcX\x83\x04Y\x83\x04Z"))
	wantSqueezed(t, []byte("aaaaXaaaa"), []byte("a\x83\x01X\x84\x05"))
	wantSqueezed(t, []byte("abcdXabcYabcd"), []byte("abcdX\x83\x05Y\x84\x09"))
	wantSqueezed(t, []byte("abcdXabcdYabcd"), []byte("abcdX\x84\x05Y\x84\x05"))
}

// The longest run at a place is taken, though one place further a longer one would begin.
func TestSqueezeLooksAtOnePlaceAtATime(t *testing.T) {
	wantSqueezed(t, []byte("bcdefXabcYabcdef"), []byte("bcdefXabcY\x83\x04\x83\x0b"))
	wantSqueezed(t, []byte("bcdefgXabcYabcdefg"), []byte("bcdefgXabcY\x83\x04\x84\x0c"))
}

func TestSqueezeAtMostRun(t *testing.T) {
	for _, size := range []int{99, 100} {
		wantSqueezed(t, many(7, 1+size), []byte{7, byte(128 + size), 1})
		part := plainBytes(size)
		wantSqueezed(t, joined(part, part), joined(part, []byte{byte(128 + size), byte(size)}))
	}
	wantSqueezed(t, many(7, 102), []byte{7, 228, 1, 7})
	wantSqueezed(t, many(7, 103), []byte{7, 228, 1, 7, 7})
	wantSqueezed(t, many(7, 104), []byte{7, 228, 1, 131, 1})
	wantSqueezed(t, many(7, 201), []byte{7, 228, 1, 228, 1})
	wantSqueezed(t, many(0, 102), []byte{0, 0, 228, 1, 0, 0})
	part := plainBytes(103)
	wantSqueezed(t, joined(part, part), joined(part, []byte{228, 103, 131, 103}))
	wantSqueezed(t, joined(part[:102], part[:102]), joined(part[:102], []byte{228, 102}, part[100:102]))
}

func TestSqueezeAtMostBack(t *testing.T) {
	for _, size := range []int{253, 254, 255} {
		part := plainBytes(size)
		wantSqueezed(t, joined(part, part[:3]), joined(part, []byte{131, byte(size)}))
		wantSqueezed(t, joined(part, part[:50], []byte{1}), joined(part, []byte{178, byte(size)}, []byte{1}))
	}
	for _, size := range []int{256, 257, 300} {
		part := plainBytes(size)
		wantSqueezed(t, joined(part, part[:3]), joined(part, part[:3]))
	}
	part := plainBytes(256)
	wantSqueezed(t, joined(part, part[:4]), joined(part, part[:4]))
	wantSqueezed(t, joined(part, part[1:5]), joined(part, []byte{132, 255}))
}

func TestSqueezeAtMostBytes(t *testing.T) {
	for _, size := range []int{mostBytes - 1, mostBytes} {
		wantSqueezed(t, plainBytes(size), plainBytes(size))
		var doubled []byte
		for _, c := range highBytes(size) {
			doubled = append(doubled, 0, c)
		}
		wantSqueezed(t, highBytes(size), doubled)
	}
	for _, size := range []int{mostBytes + 1, mostBytes + 2, 2 * mostBytes, 100000} {
		for _, b := range [][]byte{plainBytes(size), highBytes(size), many(0, size), many(7, size)} {
			wantBytes(t, "Squeeze of too many", impl.Squeeze(b), nil)
		}
	}
}

// Some 1500 bytes are squeezed to just MaxBytes and more; that is no limit of theirs.
func TestSqueezedMayBeLongerThanMostBytes(t *testing.T) {
	for _, size := range []int{1499, 1500, 1501, 2000, 2999, 3000} {
		b := highBytes(size)
		squeezed := impl.Squeeze(b)
		if len(squeezed) != 2*size {
			t.Errorf("%d bytes are squeezed to %d", size, len(squeezed))
		}
		wantSpread(t, squeezed, b)
	}
}

func TestSpreadOfPlainForms(t *testing.T) {
	wantSpread(t, nil, nil)
	wantSpread(t, []byte{}, nil)
	wantSpread(t, []byte{1, 127, 64}, []byte{1, 127, 64})
	wantSpread(t, []byte{0, 0, 0, 0}, []byte{0, 0})
	wantSpread(t, []byte{0, 0, 0, 128, 0, 255, 5}, []byte{0, 128, 255, 5})
	wantSpread(t, []byte("abc\x85\x03x"), []byte("abcabcabx"))
	wantSpread(t, []byte("abcdef\x83\x06\x84\x02"), []byte("abcdefabcbcbc"))
	wantSpread(t, []byte{0, 0, 131, 1, 0, 200, 132, 2}, []byte{0, 0, 0, 0, 200, 0, 200, 0, 200})
}

// Squeeze would tell these in another way; they are told of nevertheless.
func TestSpreadOfWhatSqueezeDoesNotTell(t *testing.T) {
	wantSpread(t, []byte("aaaaaa"), []byte("aaaaaa"))
	wantSpread(t, []byte("aaaa\x83\x04"), []byte("aaaaaaa"))
	wantSpread(t, []byte("ab\x83\x01\x83\x02"), []byte("abbbbbbb"))
	wantSpread(t, []byte("a\x83\x01\x83\x01"), []byte("aaaaaaa"))
}

func TestSpreadOfWhatIsNone(t *testing.T) {
	wantNoSpread(t, "a byte 0 at the end", []byte{0})
	wantNoSpread(t, "a byte 0 at the end", []byte{5, 0})
	wantNoSpread(t, "a byte 0 at the end", []byte{0, 0, 0})
	wantNoSpread(t, "a run without its byte", []byte{131})
	wantNoSpread(t, "a run without its byte", []byte("abc\x83"))
	wantNoSpread(t, "a run without its byte", []byte("abc\xe4"))
	wantNoSpread(t, "a run from ahead of all", []byte{131, 1})
	wantNoSpread(t, "a run from further behind", []byte("a\x83\x02"))
	wantNoSpread(t, "a run from where it begins", []byte("abc\x83\x00"))
	wantNoSpread(t, "what is none at the end", []byte("abc\x83\x03\x00a"))
	wantNoSpread(t, "what is none at the beginning", []byte("\x00aabc\x83\x03"))
}

func TestSpreadOfAByteBehindZero(t *testing.T) {
	for n := range 256 {
		for _, ahead := range [][]byte{nil, []byte("abc")} {
			b := joined(ahead, []byte{0, byte(n)})
			if n == 0 || n >= 128 {
				wantSpread(t, b, joined(ahead, []byte{byte(n)}))
				wantSpread(t, joined(b, []byte{7}), joined(ahead, []byte{byte(n), 7}))
			} else {
				wantNoSpread(t, "a byte that needs no 0", b)
				wantNoSpread(t, "a byte that needs no 0", joined(b, []byte{7}))
			}
		}
	}
}

func TestSpreadOfEachLength(t *testing.T) {
	ahead := plainBytes(200)
	for n := 128; n < 256; n++ {
		b := joined(ahead, []byte{byte(n), 150}, []byte{9})
		length := n - 128
		if length < leastRun || length > mostRun {
			wantNoSpread(t, "no length of a run", b)
			wantNoSpread(t, "no length of a run", []byte{9, byte(n), 1})
			wantNoSpread(t, "no length of a run", []byte{9, byte(n)})
			wantNoSpread(t, "no length of a run", []byte{byte(n)})
		} else {
			wantSpread(t, b, joined(ahead, ahead[50:50+length], []byte{9}))
			wantSpread(t, []byte{9, byte(n), 1}, many(9, length+1))
		}
	}
}

func TestSpreadOfEachBack(t *testing.T) {
	for _, size := range []int{0, 1, 2, 3, 4, 127, 128, 253, 254, 255, 256, 300} {
		ahead := plainBytes(size)
		for back := range 256 {
			b := joined(ahead, []byte{131, byte(back)})
			if back == 0 || back > size {
				wantNoSpread(t, "no place so far behind", b)
				continue
			}
			again := bytes.Repeat(ahead[size-back:], 3)[:3]
			wantSpread(t, b, joined(ahead, again))
		}
	}
}

// A run is from what was told, not from the bytes that tell it.
func TestSpreadCountsWhatWasTold(t *testing.T) {
	wantNoSpread(t, "two bytes tell one", []byte{0, 200, 131, 2})
	wantSpread(t, []byte{0, 200, 131, 1}, many(200, 4))
	wantSpread(t, []byte{9, 228, 1, 131, 101}, many(9, 104))
	wantNoSpread(t, "one more than was told", []byte{9, 228, 1, 131, 102})
	wantSpread(t, []byte("abc\x83\x03x\x84\x07"), []byte("abcabcxabca"))
}

func TestSpreadOfARunOverItsBeginning(t *testing.T) {
	wantSpread(t, []byte("ab\x85\x02"), []byte("abababa"))
	wantSpread(t, []byte("abc\xe4\x02"), joined([]byte("abc"), bytes.Repeat([]byte("bc"), 50)))
	wantSpread(t, []byte("abc\xe3\x03"), bytes.Repeat([]byte("abc"), 34))
	wantSpread(t, []byte("abc\xe4\x03"), joined(bytes.Repeat([]byte("abc"), 34), []byte("a")))
}

func TestSpreadAtMostBytes(t *testing.T) {
	runs := bytes.Repeat([]byte{228, 1}, 29)
	for _, size := range []int{98, 99, 100} {
		ahead := many(7, size)
		wantSpread(t, joined(ahead, runs), many(7, 2900+size))
	}
	wantNoSpread(t, "one more", joined(many(7, 101), runs))
	wantNoSpread(t, "one more by a byte at the end", joined(many(7, 100), runs, []byte{7}))
	wantNoSpread(t, "one more by a pair at the end", joined(many(7, 100), runs, []byte{0, 200}))
	wantNoSpread(t, "more by a run at the end", joined(many(7, 100), runs, []byte{131, 1}))
	wantSpread(t, joined(many(7, 97), runs, []byte{131, 1}), many(7, mostBytes))
	wantNoSpread(t, "one more by a run at the end", joined(many(7, 98), runs, []byte{131, 1}))
	wantNoSpread(t, "far more by a run at the end", joined(many(7, 98), runs, []byte{228, 1}))
	wantSpread(t, plainBytes(mostBytes), plainBytes(mostBytes))
	wantNoSpread(t, "one byte more", plainBytes(mostBytes+1))
	wantSpread(t, bytes.Repeat([]byte{0, 200}, mostBytes), many(200, mostBytes))
	wantNoSpread(t, "one pair more", bytes.Repeat([]byte{0, 200}, mostBytes+1))
	wantNoSpread(t, "far more", many(7, 1000000))
	wantNoSpread(t, "far more", joined([]byte{7}, bytes.Repeat([]byte{228, 1}, 100000)))
}

// squeezePlainly looks for the longest piece at a place by cutting what is ahead of it shorter and shorter.
func squeezePlainly(b []byte) []byte {
	var out []byte
	for at := 0; at < len(b); {
		length, back := 0, 0
		for far := min(mostBack, at); far >= 1; far-- {
			if n := runPlainly(b, at, far); n >= leastRun && n >= length {
				length, back = n, far
			}
		}
		switch {
		case length > 0:
			out = append(out, byte(length+128), byte(back))
			at += length
		case b[at] > 0 && b[at] < 128:
			out = append(out, b[at])
			at++
		default:
			out = append(out, 0, b[at])
			at++
		}
	}
	return out
}

// spreadPlainly reads one byte at a time and remembers what it waits for.
func spreadPlainly(b []byte) ([]byte, bool) {
	const nothing, other = -1, 0
	waits := nothing
	out := []byte{}
	for _, c := range b {
		switch {
		case waits == nothing && c >= 1 && c <= 127:
			out = append(out, c)
		case waits == nothing && c == 0:
			waits = other
		case waits == nothing && c >= 131 && c <= 228:
			waits = int(c) - 128
		case waits == nothing:
			return nil, false
		case waits == other && c >= 1 && c <= 127:
			return nil, false
		case waits == other:
			out = append(out, c)
			waits = nothing
		case c == 0 || int(c) > len(out):
			return nil, false
		default:
			piece := bytes.Repeat(out[len(out)-int(c):], waits)[:waits]
			out = append(out, piece...)
			waits = nothing
		}
	}
	if waits != nothing || len(out) > mostBytes {
		return nil, false
	}
	return out, true
}

func TestSqueezeOfMany(t *testing.T) {
	for _, b := range mixedBytes(7, 150, 250) {
		wantSqueezed(t, b, squeezePlainly(b))
	}
}

func TestWhatIsSqueezedSpreadsToWhatItWas(t *testing.T) {
	lists := append(mixedBytes(8, 300, mostBytes), mixedBytes(9, 2000, 60)...)
	lists = append(lists, many(0, mostBytes), many(1, mostBytes), many(127, mostBytes), many(128, mostBytes), many(255, mostBytes))
	for _, b := range lists {
		squeezed := impl.Squeeze(b)
		got, ok := impl.Spread(squeezed)
		if !ok || !bytes.Equal(got, b) {
			t.Fatalf("%v is squeezed to %v, which spreads to %v, %v", b, squeezed, got, ok)
		}
	}
}

// All bytes below a short length, of kinds that meet at each edge of Spread.
func TestSpreadOfAllShortOnes(t *testing.T) {
	kinds := []byte{0, 1, 2, 3, 127, 128, 130, 131, 132, 228, 229, 255}
	lists := [][]byte{nil}
	for size := 0; size < 4; size++ {
		var longer [][]byte
		for _, b := range lists {
			for _, c := range kinds {
				longer = append(longer, joined(b, []byte{c}))
			}
		}
		for _, b := range longer {
			want, ok := spreadPlainly(b)
			if ok {
				wantSpread(t, b, want)
			} else {
				wantNoSpread(t, "what is none", b)
			}
		}
		lists = longer
	}
}

func TestSpreadOfMany(t *testing.T) {
	source := rand.New(rand.NewSource(10))
	told := 0
	for _, b := range mixedBytes(11, 3000, 80) {
		spread := impl.Squeeze(b)
		if len(spread) > 0 {
			spread[source.Intn(len(spread))] = byte(source.Intn(256))
		}
		want, ok := spreadPlainly(spread)
		if !ok {
			wantNoSpread(t, "what is none", spread)
			continue
		}
		told++
		wantSpread(t, spread, want)
	}
	if told < 300 {
		t.Errorf("only %d of them tell anything", told)
	}
}

// squeezeLists are bytes of every kind that the chapter names.
func squeezeLists() [][]byte {
	lists := [][]byte{nil, {}, {0}, {131}, {131, 1}, []byte("abcabcabx"), []byte("abc\x85\x03x"), []byte("a\x83\x02"), {0, 1}, {0, 0, 131, 1}, many(7, mostBytes), many(7, mostBytes+1), many(200, mostBytes), bytes.Repeat([]byte{0, 200}, mostBytes+1)}
	return append(lists, mixedBytes(12, 100, 400)...)
}

// spoilBytes writes into bytes and all of their spare room.
func spoilBytes(b []byte) {
	whole := b[:cap(b)]
	for i := range whole {
		whole[i] = 99
	}
}

func TestSqueezeWritesIntoNoArgument(t *testing.T) {
	for _, list := range squeezeLists() {
		room := joined([]byte{77, 78}, list, []byte{79, 80, 81, 82, 83, 84})
		was := bytes.Clone(room)
		given := room[2 : 2+len(list)]
		spread, _ := impl.Spread(given)
		spoilBytes(spread)
		spoilBytes(impl.Squeeze(given))
		for _, at := range append([]int{0, 1, len(list) - 1, len(list), len(list) + 1}, farPlaces...) {
			impl.Run(given, at, 1)
			impl.Run(given, at, 2)
		}
		if !bytes.Equal(room, was) {
			t.Errorf("%v was changed to %v", was, room)
		}
	}
}

func TestSqueezeTellsNewMemory(t *testing.T) {
	for _, list := range squeezeLists() {
		one, two := impl.Squeeze(list), impl.Squeeze(list)
		was := bytes.Clone(two)
		spoilBytes(one)
		wantBytes(t, "what is squeezed twice", two, was)
		first, _ := impl.Spread(list)
		second, _ := impl.Spread(list)
		was = bytes.Clone(second)
		spoilBytes(first)
		wantBytes(t, "what is spread twice", second, was)
	}
}

func TestSqueezeLooksAtNoSpareRoom(t *testing.T) {
	room := []byte("abcabc\x83\x03")
	wantBytes(t, "Squeeze of what is cut", impl.Squeeze(room[:5]), []byte("abcab"))
	wantNoSpread(t, "a run whose byte is in the spare room", room[:7])
	wantNoSpread(t, "a byte 0 whose byte is in the spare room", []byte{0, 200}[:1])
	wantSpread(t, room[:6], []byte("abcabc"))
}
