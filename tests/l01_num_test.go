package tests

import (
	"bytes"
	"hash/adler32"
	"math"
	"math/big"
	"math/rand"
	"slices"
	"testing"

	"loop.example/g00399/impl"
)

const greatestNum = 2147483647

// numForms holds each edge at which a number takes one byte more, with its bytes written out.
var numForms = []struct {
	n    int
	form []byte
}{
	{0, []byte{0}},
	{1, []byte{1}},
	{70, []byte{70}},
	{127, []byte{127}},
	{128, []byte{128, 1}},
	{129, []byte{129, 1}},
	{255, []byte{255, 1}},
	{256, []byte{128, 2}},
	{300, []byte{172, 2}},
	{16383, []byte{255, 127}},
	{16384, []byte{128, 128, 1}},
	{2097151, []byte{255, 255, 127}},
	{2097152, []byte{128, 128, 128, 1}},
	{268435455, []byte{255, 255, 255, 127}},
	{268435456, []byte{128, 128, 128, 128, 1}},
	{greatestNum - 1, []byte{254, 255, 255, 255, 7}},
	{greatestNum, []byte{255, 255, 255, 255, 7}},
}

// noNums are numbers that have no bytes.
var noNums = []int{-1, -2, -127, -128, -300, -greatestNum, -greatestNum - 1, greatestNum + 1, greatestNum + 2, 1 << 32, 1<<32 + 5, 1 << 35, math.MaxInt, math.MaxInt - 1, math.MinInt, math.MinInt + 1}

// noForms are bytes at whose beginning no number stands.
var noForms = []struct {
	why string
	b   []byte
}{
	{"nil", nil},
	{"no bytes", []byte{}},
	{"ends behind the first byte", []byte{128}},
	{"ends behind the first byte, all bits set", []byte{255}},
	{"ends behind the second byte", []byte{172, 130}},
	{"ends ahead of the fifth byte", []byte{255, 255, 255, 255}},
	{"fifth byte tells that there is more", []byte{255, 255, 255, 255, 135}},
	{"0 in two bytes", []byte{128, 0}},
	{"0 in three bytes", []byte{128, 128, 0}},
	{"0 in five bytes", []byte{128, 128, 128, 128, 0}},
	{"1 in two bytes", []byte{129, 0}},
	{"127 in two bytes", []byte{255, 0}},
	{"300 in three bytes", []byte{172, 130, 0}},
	{"16383 in three bytes", []byte{255, 255, 0}},
	{"268435455 in five bytes", []byte{255, 255, 255, 255, 0}},
	{"the number behind the greatest one", []byte{128, 128, 128, 128, 8}},
	{"5 and 2 to the 32nd", []byte{133, 128, 128, 128, 16}},
	{"five bytes, all bits set", []byte{255, 255, 255, 255, 127}},
	{"greatest one in six bytes", []byte{255, 255, 255, 255, 135, 0}},
	{"six bytes", []byte{128, 128, 128, 128, 128, 1}},
	{"0 in six bytes", []byte{128, 128, 128, 128, 128, 0}},
	{"ten bytes, round 64 bits", []byte{133, 128, 128, 128, 128, 128, 128, 128, 128, 2}},
	{"eleven bytes", []byte{128, 128, 128, 128, 128, 128, 128, 128, 128, 128, 1}},
	{"very many bytes", bytes.Repeat([]byte{255}, 5000)},
	{"very many bytes and an end", append(bytes.Repeat([]byte{128}, 5000), 1)},
}

func wantNoNum(t *testing.T, why string, b []byte, at int) {
	t.Helper()
	n, next, ok := impl.GetNum(b, at)
	if n != 0 || next != 0 || ok {
		t.Errorf("%s: GetNum at %d tells %d, %d, %v, not 0, 0, false", why, at, n, next, ok)
	}
}

func wantNum(t *testing.T, b []byte, at int, n int, next int) {
	t.Helper()
	gotN, gotNext, ok := impl.GetNum(b, at)
	if gotN != n || gotNext != next || !ok {
		t.Errorf("GetNum at %d tells %d, %d, %v, not %d, %d, true", at, gotN, gotNext, ok, n, next)
	}
}

func TestDigits(t *testing.T) {
	for _, c := range []struct {
		n    int
		want string
	}{
		{0, "0"},
		{1, "1"},
		{9, "9"},
		{10, "10"},
		{99, "99"},
		{100, "100"},
		{70, "70"},
		{-1, "-1"},
		{-9, "-9"},
		{-10, "-10"},
		{-70, "-70"},
		{1000000, "1000000"},
		{greatestNum, "2147483647"},
		{greatestNum + 1, "2147483648"},
		{-greatestNum - 1, "-2147483648"},
		{-greatestNum - 2, "-2147483649"},
		{math.MaxInt, "9223372036854775807"},
		{math.MaxInt - 1, "9223372036854775806"},
		{math.MinInt, "-9223372036854775808"},
		{math.MinInt + 1, "-9223372036854775807"},
	} {
		if got := impl.Digits(c.n); got != c.want {
			t.Errorf("Digits of %d tells %q, not %q", c.n, got, c.want)
		}
	}
}

func TestDigitsOfMany(t *testing.T) {
	source := rand.New(rand.NewSource(1))
	for range 20000 {
		n := int(source.Uint64()) >> source.Intn(64)
		if got, want := impl.Digits(n), big.NewInt(int64(n)).String(); got != want {
			t.Fatalf("Digits tells %q, not %q", got, want)
		}
	}
}

func TestPutNumForms(t *testing.T) {
	for _, c := range numForms {
		if got := impl.PutNum(c.n); !bytes.Equal(got, c.form) {
			t.Errorf("PutNum of %d tells %v, not %v", c.n, got, c.form)
		}
	}
}

func TestPutNumOfNoNumber(t *testing.T) {
	for _, n := range noNums {
		if got := impl.PutNum(n); len(got) != 0 {
			t.Errorf("PutNum of %d tells %v, not nothing", n, got)
		}
	}
}

func TestGetNumForms(t *testing.T) {
	for _, c := range numForms {
		wantNum(t, c.form, 0, c.n, len(c.form))
	}
}

func TestGetNumWithinOthers(t *testing.T) {
	ahead := []byte{255, 128, 0}
	for _, c := range numForms {
		for _, behind := range [][]byte{nil, {0}, {1}, {127}, {128}, {255, 255}} {
			b := append(append(bytes.Clone(ahead), c.form...), behind...)
			wantNum(t, b, len(ahead), c.n, len(ahead)+len(c.form))
		}
	}
}

func TestGetNumOneBehindTheOther(t *testing.T) {
	var b []byte
	for _, c := range numForms {
		b = append(b, impl.PutNum(c.n)...)
	}
	at := 0
	for _, c := range numForms {
		n, next, ok := impl.GetNum(b, at)
		if !ok || n != c.n || next != at+len(c.form) {
			t.Fatalf("at %d: %d, %d, %v, not %d", at, n, next, ok, c.n)
		}
		at = next
	}
	wantNoNum(t, "behind the last one", b, at)
}

func TestGetNumCutShort(t *testing.T) {
	for _, c := range numForms {
		for end := range len(c.form) {
			wantNoNum(t, "cut short", c.form[:end], 0)
		}
	}
}

func TestGetNumOfNoForm(t *testing.T) {
	for _, c := range noForms {
		wantNoNum(t, c.why, c.b, 0)
		ahead := append([]byte{9, 200}, c.b...)
		wantNoNum(t, c.why+", behind others", ahead, 2)
	}
}

func TestGetNumAtNoPlace(t *testing.T) {
	b := []byte{5, 6, 7}
	for _, at := range []int{-1, -2, -3, 3, 4, 5, 100, greatestNum, 1 << 32, -1 << 32, math.MaxInt, math.MaxInt - 1, math.MaxInt - 4, math.MinInt, math.MinInt + 1} {
		wantNoNum(t, "three bytes", b, at)
		wantNoNum(t, "no bytes", nil, at)
	}
	wantNum(t, b, 2, 7, 3)
}

// Bytes behind the length of a slice are none of its bytes, though they can be reached.
func TestGetNumLooksAtNoSpareRoom(t *testing.T) {
	room := []byte{172, 2, 7}
	wantNoNum(t, "the end lies in the spare room", room[:1], 0)
	wantNoNum(t, "it begins in the spare room", room[:2], 2)
}

func TestNumIsReadAsItWas(t *testing.T) {
	for n := range 1 << 18 {
		b := impl.PutNum(n)
		got, next, ok := impl.GetNum(b, 0)
		if !ok || got != n || next != len(b) {
			t.Fatalf("%d is read as %d, %d, %v", n, got, next, ok)
		}
	}
	source := rand.New(rand.NewSource(2))
	for range 200000 {
		n := source.Intn(greatestNum+1) >> source.Intn(31)
		b := impl.PutNum(n)
		got, next, ok := impl.GetNum(b, 0)
		if !ok || got != n || next != len(b) {
			t.Fatalf("%d is read as %d, %d, %v", n, got, next, ok)
		}
	}
}

func wantReadPlainly(t *testing.T, b []byte) {
	t.Helper()
	n, next, ok := impl.GetNum(b, 0)
	wantN, wantNext, wantOk := readPlainly(b)
	if n != wantN || next != wantNext || ok != wantOk {
		t.Fatalf("%v is read as %d, %d, %v, not %d, %d, %v", b, n, next, ok, wantN, wantNext, wantOk)
	}
	if ok && !bytes.Equal(impl.PutNum(n), b[:next]) {
		t.Fatalf("%v is read as %d, which is put as %v", b, n, impl.PutNum(n))
	}
}

// Whatever bytes stand there: what is read of them is put as the very same bytes, and nothing else is read.
func TestOnlyWhatIsPutIsRead(t *testing.T) {
	for x := range 1 << 16 {
		two := []byte{byte(x), byte(x >> 8)}
		wantReadPlainly(t, two)
		for _, last := range []byte{0, 1, 127, 128, 255} {
			wantReadPlainly(t, append(bytes.Clone(two), last))
		}
	}
	for last := range 256 {
		wantReadPlainly(t, []byte{128, 128, 128, 128, byte(last)})
		wantReadPlainly(t, []byte{255, 255, 255, 255, byte(last), 1})
	}
	source := rand.New(rand.NewSource(3))
	for range 300000 {
		b := make([]byte, source.Intn(8))
		for i := range b {
			b[i] = byte(source.Intn(256)) | byte(source.Intn(2)<<7)
		}
		wantReadPlainly(t, b)
	}
}

// readPlainly reads from the last byte to the first one, by numbers without an end.
func readPlainly(b []byte) (int, int, bool) {
	end := slices.IndexFunc(b, func(c byte) bool { return c < 128 })
	if end < 0 || end > 0 && b[end] == 0 {
		return 0, 0, false
	}
	sum := big.NewInt(0)
	for i := end; i >= 0; i-- {
		sum.Mul(sum, big.NewInt(128))
		sum.Add(sum, big.NewInt(int64(b[i]&127)))
	}
	if sum.Cmp(big.NewInt(greatestNum)) > 0 {
		return 0, 0, false
	}
	return int(sum.Int64()), end + 1, true
}

func TestSumOf(t *testing.T) {
	for _, c := range []struct {
		b    []byte
		want int
	}{
		{nil, 1},
		{[]byte{}, 1},
		{[]byte{0}, 1*65536 + 1},
		{[]byte{1}, 2*65536 + 2},
		{[]byte{255}, 256*65536 + 256},
		{[]byte{0, 0, 0}, 3*65536 + 1},
		{[]byte{1, 2}, 6*65536 + 4},
		{[]byte{2, 1}, 7*65536 + 4},
		{[]byte("Wikipedia"), 0x11E60398},
	} {
		if got := impl.SumOf(c.b); got != c.want {
			t.Errorf("SumOf of %v tells %d, not %d", c.b, got, c.want)
		}
	}
}

func TestSumOfMany(t *testing.T) {
	source := rand.New(rand.NewSource(4))
	for _, size := range []int{1, 2, 255, 256, 257, 258, 360, 361, 362, 3000, 65521, 65536, 300000} {
		high := bytes.Repeat([]byte{255}, size)
		low := make([]byte, size)
		mixed := make([]byte, size)
		source.Read(mixed)
		for _, b := range [][]byte{high, low, mixed} {
			if got, want := impl.SumOf(b), int(adler32.Checksum(b)); got != want {
				t.Errorf("SumOf of %d bytes tells %d, not %d", size, got, want)
			}
		}
	}
}

// 1, 256 bytes 255 and a byte 239 are 65520 together, the most that is left by 65521; a byte 1 more leaves 0.
func TestSumOfAtItsModulus(t *testing.T) {
	b := append(bytes.Repeat([]byte{255}, 256), 239)
	if got := impl.SumOf(b) % 65536; got != 65520 {
		t.Errorf("the first one is %d, not 65520", got)
	}
	b = append(b, 1)
	if got := impl.SumOf(b) % 65536; got != 0 {
		t.Errorf("the first one is %d, not 0", got)
	}
}

func TestNumWritesIntoNoArgument(t *testing.T) {
	var lists [][]byte
	for _, c := range numForms {
		lists = append(lists, c.form)
	}
	for _, c := range noForms {
		lists = append(lists, c.b)
	}
	for _, list := range lists {
		room := append(append([]byte{77}, list...), 78, 79, 80)
		was := bytes.Clone(room)
		given := room[1 : 1+len(list)]
		for at := -1; at <= min(len(given), 12)+1; at++ {
			impl.GetNum(given, at)
		}
		impl.SumOf(given)
		if !bytes.Equal(room, was) {
			t.Errorf("%v was changed to %v", was, room)
		}
	}
}

func TestPutNumTellsNewMemory(t *testing.T) {
	for _, c := range numForms {
		one, two := impl.PutNum(c.n), impl.PutNum(c.n)
		for i := range one {
			one[i] = 99
		}
		_ = append(one, 99, 99, 99)
		if !bytes.Equal(two, c.form) || !bytes.Equal(impl.PutNum(c.n), c.form) {
			t.Errorf("PutNum of %d shares what it tells", c.n)
		}
	}
}
