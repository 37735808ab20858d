package tests

import (
	"bytes"
	"math"
	"math/rand"
	"slices"
	"testing"

	"loop.example/g00399/impl"
)

const (
	kindData  = 1
	kindAck   = 2
	kindClear = 3
	kindCopy  = 4
	kindDone  = 5
	mostGens  = 12
	mostGen   = 100000
)

// farNumbers are as far off as a number can be, and such as wrap round to a small one.
var farNumbers = []int{math.MinInt, math.MinInt + 1, math.MaxInt, -1 << 32, 1 << 32, 1<<32 + 1, 256, 257}

// gensFrom are so many generations, each one more than the one ahead.
func gensFrom(first int, count int) []int {
	var out []int
	for i := range count {
		out = append(out, first+i)
	}
	return out
}

var goodGens = [][]int{
	nil,
	{},
	{1},
	{2, 1},
	{1, 2},
	{100000},
	{99999, 100000, 1},
	{127, 128, 16383, 16384},
	gensFrom(1, mostGens-1),
	gensFrom(1, mostGens),
	gensFrom(mostGen-mostGens+1, mostGens),
}

var badGens = [][]int{
	{0},
	{-1},
	{100001},
	{0, 1},
	{1, 0},
	{5, 5},
	{5, 6, 5},
	{6, 5, 5},
	{3, 100001},
	{math.MinInt},
	{math.MaxInt},
	{1<<32 + 1},
	gensFrom(1, mostGens+1),
	gensFrom(1, 100),
	append(gensFrom(1, mostGens-1), 1),
	append(gensFrom(1, mostGens-1), 0),
	slices.Repeat([]int{1}, mostGens+1),
}

// ordinaryMsgs are messages of each kind, at the edges of what their kind allows, too.
func ordinaryMsgs() []impl.Msg {
	var list []impl.Msg
	for _, at := range []int{0, 1, 6, 7} {
		for _, n := range []int{1, 2, 127, 128, 199, 200} {
			list = append(list, impl.Msg{Kind: kindData, Cell: at, Val: n}, impl.Msg{Kind: kindAck, Cell: at, Val: n}, impl.Msg{Kind: kindCopy, Cell: at, Val: n})
			for who := range 3 {
				list = append(list, impl.Msg{Kind: kindClear, Cell: at, Val: n, Who: who})
			}
		}
		list = append(list, impl.Msg{Kind: kindAck, Cell: at}, impl.Msg{Kind: kindCopy, Cell: at})
	}
	for _, gens := range goodGens {
		for _, n := range []int{0, 1, 127, 128, 200} {
			list = append(list, impl.Msg{Kind: kindDone, Val: n, Gens: slices.Clone(gens)})
		}
	}
	return list
}

// wrongMsgs are each wrong in one thing alone.
func wrongMsgs() []impl.Msg {
	list := []impl.Msg{
		{},
		{Kind: 0, Cell: 2, Val: 5},
		{Kind: 6, Cell: 2, Val: 5},
		{Kind: -1, Cell: 2, Val: 5},
		{Kind: kindData, Cell: 2},
		{Kind: kindClear, Cell: 2, Who: 1},
		{Kind: kindDone, Cell: 1, Val: 5, Gens: []int{1}},
		{Kind: kindDone, Cell: -1, Val: 5},
		{Kind: kindDone, Val: 5, Who: 1},
		{Kind: kindDone, Val: 5, Who: -1},
		{Kind: kindDone, Val: -1},
		{Kind: kindDone, Val: 201},
		{Kind: kindClear, Cell: 2, Val: 5, Who: 3},
		{Kind: kindClear, Cell: 2, Val: 5, Who: -1},
	}
	for _, kind := range []int{kindData, kindAck, kindClear, kindCopy} {
		for _, at := range []int{-1, 8} {
			list = append(list, impl.Msg{Kind: kind, Cell: at, Val: 5})
		}
		for _, n := range []int{-1, 201} {
			list = append(list, impl.Msg{Kind: kind, Cell: 2, Val: n})
		}
		list = append(list, impl.Msg{Kind: kind, Cell: 2, Val: 5, Gens: []int{1}})
		if kind != kindClear {
			list = append(list, impl.Msg{Kind: kind, Cell: 2, Val: 5, Who: 1}, impl.Msg{Kind: kind, Cell: 2, Val: 5, Who: 2}, impl.Msg{Kind: kind, Cell: 2, Val: 5, Who: -1})
		}
	}
	for _, gens := range badGens {
		list = append(list, impl.Msg{Kind: kindDone, Val: 5, Gens: slices.Clone(gens)})
	}
	return list
}

func gensPlainly(g []int) bool {
	seen := map[int]int{}
	for _, n := range g {
		seen[n]++
		if n <= 0 || n >= mostGen+1 {
			return false
		}
	}
	return len(g) <= mostGens && len(seen) == len(g)
}

// okPlainly asks for what a kind allows by a row of bounds.
func okPlainly(m impl.Msg) bool {
	rows := map[int]struct{ mostCell, leastVal, mostWho int }{
		kindData:  {7, 1, 0},
		kindAck:   {7, 0, 0},
		kindClear: {7, 1, 2},
		kindCopy:  {7, 0, 0},
		kindDone:  {0, 0, 0},
	}
	row, is := rows[m.Kind]
	within := m.Cell >= 0 && m.Cell <= row.mostCell && m.Val >= row.leastVal && m.Val <= 200 && m.Who >= 0 && m.Who <= row.mostWho
	if m.Kind == kindDone {
		return within && gensPlainly(m.Gens)
	}
	return is && within && len(m.Gens) == 0
}

// numPlainly writes a number from 0 on, shorter than 2097152.
func numPlainly(n int) []byte {
	switch {
	case n < 128:
		return []byte{byte(n)}
	case n < 16384:
		return []byte{byte(n%128 + 128), byte(n / 128)}
	}
	return []byte{byte(n%128 + 128), byte(n/128%128 + 128), byte(n / 16384)}
}

// framed puts a body into its frame, whatever it tells.
func framed(body []byte) []byte {
	first, second := 1, 0
	for _, c := range body {
		first += int(c)
		second += first
	}
	first, second = first%65521, second%65521
	sum := []byte{byte(first), byte(first / 256), byte(second), byte(second / 256)}
	return joined(numPlainly(len(body)), body, sum)
}

func bodyPlainly(m impl.Msg) []byte {
	body := joined(numPlainly(m.Kind), numPlainly(m.Cell), numPlainly(m.Val), numPlainly(m.Who), numPlainly(len(m.Gens)))
	for _, n := range m.Gens {
		body = append(body, numPlainly(n)...)
	}
	return body
}

// framePlainly tells the frame of a message whose numbers are not below 0, though it need not be MsgOk.
func framePlainly(m impl.Msg) []byte { return framed(bodyPlainly(m)) }

func framesPlainly(list []impl.Msg) []byte {
	var out []byte
	for _, m := range list {
		out = append(out, framePlainly(m)...)
	}
	return out
}

// escapedPlainly tells bytes without any run.
func escapedPlainly(b []byte) []byte {
	var out []byte
	for _, c := range b {
		if c == 0 || c >= 128 {
			out = append(out, 0)
		}
		out = append(out, c)
	}
	return out
}

func alikeMsgs(a impl.Msg, b impl.Msg) bool {
	return a.Kind == b.Kind && a.Cell == b.Cell && a.Val == b.Val && a.Who == b.Who && slices.Equal(a.Gens, b.Gens)
}

func cloneMsgs(list []impl.Msg) []impl.Msg {
	out := slices.Clone(list)
	for i := range out {
		out[i].Gens = slices.Clone(out[i].Gens)
	}
	return out
}

func wantMsgOf(t *testing.T, b []byte, at int, want impl.Msg, behind int) {
	t.Helper()
	got, next, ok := impl.MsgOf(b, at)
	if !ok || next != behind || !alikeMsgs(got, want) {
		t.Errorf("MsgOf of %v at %d tells %v, %d, %v, not %v, %d", b, at, got, next, ok, want, behind)
	}
}

func wantNoMsgOf(t *testing.T, why string, b []byte, at int) {
	t.Helper()
	if got, next, ok := impl.MsgOf(b, at); ok || next != 0 || !alikeMsgs(got, impl.Msg{}) {
		t.Errorf("%s: MsgOf of %v at %d tells %v, %d, %v", why, b, at, got, next, ok)
	}
}

func wantUnpack(t *testing.T, b []byte, want []impl.Msg) {
	t.Helper()
	if got, ok := impl.Unpack(b); !ok || !slices.EqualFunc(got, want, alikeMsgs) {
		t.Errorf("Unpack of %v tells %v, %v, not %v", b, got, ok, want)
	}
}

func wantNoUnpack(t *testing.T, why string, b []byte) {
	t.Helper()
	if got, ok := impl.Unpack(b); ok || len(got) != 0 {
		t.Errorf("%s: Unpack of %v tells %v, %v", why, b, got, ok)
	}
}

func TestMsgLimits(t *testing.T) {
	kinds := []int{impl.MsData, impl.MsAck, impl.MsClear, impl.MsCopy, impl.MsDone}
	wantList(t, "the kinds", kinds, kindData, kindAck, kindClear, kindCopy, kindDone)
	if impl.MaxGens != mostGens || impl.MaxGen != mostGen {
		t.Errorf("MaxGens is %d, MaxGen %d", impl.MaxGens, impl.MaxGen)
	}
}

func TestMsgOk(t *testing.T) {
	for _, m := range ordinaryMsgs() {
		if !impl.MsgOk(m) {
			t.Errorf("%v is a message", m)
		}
	}
	for _, m := range wrongMsgs() {
		if impl.MsgOk(m) {
			t.Errorf("%v is no message", m)
		}
	}
}

// Each number at each of its edges beside each of the others.
func TestMsgOkAtAllEdges(t *testing.T) {
	kinds := append([]int{-1, 0, 1, 2, 3, 4, 5, 6, 7}, farNumbers...)
	cells := append([]int{-1, 0, 1, 7, 8}, farNumbers...)
	vals := append([]int{-1, 0, 1, 200, 201}, farNumbers...)
	whos := append([]int{-1, 0, 1, 2, 3}, farNumbers...)
	gens := [][]int{nil, {}, {1}, {0}, {5, 5}, gensFrom(1, mostGens), gensFrom(1, mostGens+1)}
	for _, kind := range kinds {
		for _, at := range cells {
			for _, n := range vals {
				for _, who := range whos {
					for _, g := range gens {
						m := impl.Msg{Kind: kind, Cell: at, Val: n, Who: who, Gens: g}
						if impl.MsgOk(m) != okPlainly(m) {
							t.Fatalf("MsgOk of %v is %v", m, impl.MsgOk(m))
						}
					}
				}
			}
		}
	}
}

func TestMsgOkOfGens(t *testing.T) {
	for _, g := range goodGens {
		if !impl.MsgOk(impl.Msg{Kind: kindDone, Gens: g}) {
			t.Errorf("%v are generations", g)
		}
		for kind := kindData; kind < kindDone; kind++ {
			if impl.MsgOk(impl.Msg{Kind: kind, Val: 1, Gens: g}) != (len(g) == 0) {
				t.Errorf("kind %d with the generations %v", kind, g)
			}
		}
	}
	for _, g := range badGens {
		for kind := kindData; kind <= kindDone; kind++ {
			if impl.MsgOk(impl.Msg{Kind: kind, Val: 1, Gens: g}) {
				t.Errorf("kind %d with the generations %v", kind, g)
			}
		}
	}
}

func TestMsgOkLooksAtNoSpareRoom(t *testing.T) {
	room := []int{3, 2, 2, 0}
	if !impl.MsgOk(impl.Msg{Kind: kindDone, Gens: room[:2]}) || !impl.MsgOk(impl.Msg{Kind: kindData, Val: 1, Gens: room[:0]}) {
		t.Error("the spare room is asked")
	}
	if impl.MsgOk(impl.Msg{Kind: kindDone, Gens: room[:3]}) {
		t.Error("two alike are generations")
	}
}

func TestMsgBytes(t *testing.T) {
	for _, c := range []struct {
		m    impl.Msg
		want []byte
	}{
		{impl.Msg{Kind: kindData, Cell: 2, Val: 5}, []byte{5, 1, 2, 5, 0, 0, 9, 0, 33, 0}},
		{impl.Msg{Kind: kindAck, Cell: 7}, []byte{5, 2, 7, 0, 0, 0, 10, 0, 43, 0}},
		{impl.Msg{Kind: kindClear, Cell: 0, Val: 1, Who: 2}, []byte{5, 3, 0, 1, 2, 0, 7, 0, 27, 0}},
		{impl.Msg{Kind: kindCopy, Cell: 7, Val: 200}, []byte{6, 4, 7, 200, 1, 0, 0, 213, 0, 100, 3}},
		{impl.Msg{Kind: kindDone, Val: 3, Gens: []int{2, 1}}, []byte{7, 5, 0, 3, 0, 2, 2, 1, 14, 0, 68, 0}},
		{impl.Msg{Kind: kindDone}, []byte{5, 5, 0, 0, 0, 0, 6, 0, 30, 0}},
		{impl.Msg{Kind: kindDone, Val: 128, Gens: []int{100000}}, []byte{9, 5, 0, 128, 1, 0, 1, 160, 141, 6, 187, 1, 192, 6}},
	} {
		wantBytes(t, "MsgBytes", impl.MsgBytes(c.m), c.want)
		wantBytes(t, "the plain frame", framePlainly(c.m), c.want)
		wantMsgOf(t, c.want, 0, c.m, len(c.want))
	}
}

func TestMsgBytesOfMany(t *testing.T) {
	for _, m := range ordinaryMsgs() {
		wantBytes(t, "MsgBytes", impl.MsgBytes(m), framePlainly(m))
	}
	for _, m := range wrongMsgs() {
		wantBytes(t, "MsgBytes of what is no message", impl.MsgBytes(m), nil)
	}
}

func TestMsgOfWhatIsWhole(t *testing.T) {
	for _, m := range ordinaryMsgs() {
		frame := framePlainly(m)
		wantMsgOf(t, frame, 0, m, len(frame))
		for _, ahead := range [][]byte{{0}, {255}, {5, 1}, many(128, 40), frame} {
			for _, behind := range [][]byte{nil, {0}, {255}, frame, many(255, 40)} {
				wantMsgOf(t, joined(ahead, frame, behind), len(ahead), m, len(ahead)+len(frame))
			}
		}
	}
}

func TestMsgOfWhatIsCutShort(t *testing.T) {
	for _, m := range ordinaryMsgs() {
		frame := framePlainly(m)
		for size := range frame {
			wantNoMsgOf(t, "cut short", frame[:size], 0)
			wantNoMsgOf(t, "cut short in new memory", bytes.Clone(frame[:size]), 0)
			wantNoMsgOf(t, "cut short behind others", joined([]byte{9, 9}, frame[:size]), 2)
			wantNoMsgOf(t, "cut short from the left", frame[size+1:], 0)
		}
	}
}

// No frame is another one by one byte: a length, a body or a sum that is another one is none.
func TestMsgOfWithOneOtherByte(t *testing.T) {
	for _, m := range ordinaryMsgs() {
		frame := framePlainly(m)
		for at := range frame {
			for _, add := range []byte{1, 2, 64, 127, 128, 129, 254, 255} {
				other := bytes.Clone(frame)
				other[at] += add
				wantNoMsgOf(t, "another byte", other, 0)
				wantNoMsgOf(t, "another byte, with room behind", joined(other, many(0, 50)), 0)
			}
		}
	}
}

func TestMsgOfWithAByteLessOrMore(t *testing.T) {
	for _, m := range ordinaryMsgs() {
		frame := framePlainly(m)
		for at := range frame {
			less := slices.Delete(bytes.Clone(frame), at, at+1)
			if !bytes.HasPrefix(less, frame) {
				wantNoMsgOf(t, "a byte less", less, 0)
			}
			for _, c := range []byte{0, 1, 128} {
				more := slices.Insert(bytes.Clone(frame), at, c)
				if !bytes.HasPrefix(more, frame) {
					wantNoMsgOf(t, "a byte more", more, 0)
				}
			}
		}
	}
}

// Frames whose length and sum are right, but whose body tells no message, or tells it in another way.
func TestMsgOfWithAnotherBody(t *testing.T) {
	for why, body := range map[string][]byte{
		"no body":                       {},
		"only a kind":                   {1},
		"no Gens' count":                {1, 2, 5, 0},
		"a kind in two bytes":           {129, 0, 2, 5, 0, 0},
		"a cell in two bytes":           {1, 130, 0, 5, 0, 0},
		"a write in two bytes":          {1, 2, 133, 0, 0, 0},
		"a node in two bytes":           {1, 2, 5, 128, 0, 0},
		"a count in two bytes":          {1, 2, 5, 0, 128, 0},
		"a generation in two bytes":     {5, 0, 5, 0, 1, 129, 0},
		"a generation without its end":  {5, 0, 5, 0, 1, 129},
		"a byte behind it":              {1, 2, 5, 0, 0, 0},
		"fewer Gens than told":          {5, 0, 3, 0, 3, 2, 1},
		"more Gens than told":           {5, 0, 3, 0, 1, 2, 1},
		"Gens of one that has none":     {1, 2, 5, 0, 1, 1},
		"no more Gens than bytes":       {5, 0, 3, 0, 127},
		"far more Gens than bytes":      {5, 0, 3, 0, 255, 255, 255, 255, 7},
		"a number above all":            {5, 0, 255, 255, 255, 255, 8, 0, 0},
		"a number of more than 5 bytes": {5, 0, 255, 255, 255, 255, 255, 1, 0, 0},
	} {
		wantNoMsgOf(t, why, framed(body), 0)
		wantNoMsgOf(t, why+", with room behind", joined(framed(body), many(1, 60)), 0)
	}
	for _, m := range wrongMsgs() {
		if min(m.Kind, m.Cell, m.Val, m.Who) >= 0 && slices.Min(append(m.Gens, 0)) >= 0 && slices.Max(append(m.Gens, 0)) < 2097152 {
			wantNoMsgOf(t, "what is no message, in a frame", framePlainly(m), 0)
		}
	}
}

func TestMsgOfWithAnotherLength(t *testing.T) {
	m := impl.Msg{Kind: kindData, Cell: 2, Val: 5}
	body := bodyPlainly(m)
	frame := framed(body)
	sum := frame[len(frame)-4:]
	for n := range 128 {
		if n != len(body) {
			wantNoMsgOf(t, "another length", joined([]byte{byte(n)}, body, sum, many(0, 200)), 0)
		}
	}
	wantNoMsgOf(t, "a length in two bytes", joined([]byte{133, 0}, body, sum), 0)
	wantNoMsgOf(t, "a length without its end", []byte{133}, 0)
	wantNoMsgOf(t, "a length above all", joined([]byte{255, 255, 255, 255, 7}, body, sum), 0)
	wantNoMsgOf(t, "no length", []byte{255, 255, 255, 255, 8}, 0)
}

func TestMsgOfWithAnotherSum(t *testing.T) {
	m := impl.Msg{Kind: kindCopy, Cell: 7, Val: 200}
	body := bodyPlainly(m)
	frame := framed(body)
	sum := bytes.Clone(frame[len(frame)-4:])
	ahead := frame[:len(frame)-4]
	slices.Reverse(sum)
	wantNoMsgOf(t, "the high bytes first", joined(ahead, sum), 0)
	wantNoMsgOf(t, "a sum of nothing", joined(ahead, []byte{1, 0, 0, 0}), 0)
	wholeSum := impl.SumOf(ahead)
	wantNoMsgOf(t, "a sum of the length, too", joined(ahead, []byte{byte(wholeSum), byte(wholeSum >> 8), byte(wholeSum >> 16), byte(wholeSum >> 24)}), 0)
}

func TestMsgOfAtEachPlace(t *testing.T) {
	one, two := impl.Msg{Kind: kindData, Cell: 2, Val: 5}, impl.Msg{Kind: kindDone, Val: 200, Gens: []int{300, 2, 1}}
	first, second := framePlainly(one), framePlainly(two)
	b := joined(first, second)
	for at := range b {
		switch at {
		case 0:
			wantMsgOf(t, b, at, one, len(first))
		case len(first):
			wantMsgOf(t, b, at, two, len(b))
		default:
			wantNoMsgOf(t, "within a frame", b, at)
		}
	}
	for _, at := range append([]int{len(b), len(b) + 1, -len(b), -len(second)}, farPlaces...) {
		wantNoMsgOf(t, "no such place", b, at)
		wantNoMsgOf(t, "no such place in nothing", nil, at)
	}
	wantNoMsgOf(t, "nothing", nil, 0)
	wantNoMsgOf(t, "nothing", []byte{}, 0)
}

func TestMsgOfAtTheLastPlace(t *testing.T) {
	frame := framePlainly(impl.Msg{Kind: kindAck, Cell: 1, Val: 9})
	for last := range 256 {
		wantNoMsgOf(t, "one byte at the end", joined(frame, []byte{byte(last)}), len(frame))
	}
}

// Any bytes at all: what is told of them is what MsgBytes tells.
func TestMsgOfOfMany(t *testing.T) {
	source := rand.New(rand.NewSource(41))
	for range 20000 {
		body := make([]byte, source.Intn(12))
		for i := range body {
			body[i] = byte([]int{0, 1, 2, 3, 4, 5, 7, 8, 127, 128, 200, 255}[source.Intn(12)])
		}
		b := joined(framed(body), make([]byte, source.Intn(3)))
		m, next, ok := impl.MsgOf(b, 0)
		if !ok {
			wantNoMsgOf(t, "what is none", b, 0)
			continue
		}
		if !okPlainly(m) || next != len(framed(body)) || !bytes.Equal(framePlainly(m), b[:next]) {
			t.Fatalf("MsgOf of %v tells %v, %d", b, m, next)
		}
	}
}

func TestPack(t *testing.T) {
	wantBytes(t, "Pack of none", impl.Pack(nil), nil)
	wantBytes(t, "Pack of none", impl.Pack([]impl.Msg{}), nil)
	m := impl.Msg{Kind: kindData, Cell: 2, Val: 5}
	done := impl.Msg{Kind: kindDone, Val: 3, Gens: []int{2, 1}}
	wantBytes(t, "Pack of one", impl.Pack([]impl.Msg{m}), []byte{5, 1, 2, 5, 0, 0, 0, 0, 9, 0, 0, 33, 0, 0})
	wantBytes(t, "Pack of one twice", impl.Pack([]impl.Msg{m, m}), []byte{5, 1, 2, 5, 0, 0, 0, 0, 9, 0, 0, 33, 0, 0, 138, 10})
	for _, list := range [][]impl.Msg{{m}, {m, m}, {m, done, m}, {done, m, done}, ordinaryMsgs()[:20]} {
		wantBytes(t, "Pack", impl.Pack(list), squeezePlainly(framesPlainly(list)))
	}
}

// Of what is no message MsgBytes is nothing, and so it is left away.
func TestPackLeavesAwayWhatIsNoMessage(t *testing.T) {
	m := impl.Msg{Kind: kindData, Cell: 2, Val: 5}
	done := impl.Msg{Kind: kindDone, Val: 3, Gens: []int{2, 1}}
	want := impl.Pack([]impl.Msg{m, done})
	for _, wrong := range wrongMsgs() {
		for _, list := range [][]impl.Msg{{wrong, m, done}, {m, wrong, done}, {m, done, wrong}, {wrong, m, wrong, wrong, done}} {
			wantBytes(t, "Pack with what is no message", impl.Pack(list), want)
		}
		wantBytes(t, "Pack of what is no message", impl.Pack([]impl.Msg{wrong}), nil)
	}
	wantBytes(t, "Pack of many that are no messages", impl.Pack(make([]impl.Msg, 5000)), nil)
	wantUnpack(t, want, []impl.Msg{m, done})
}

// A frame of 10 bytes 300 times is MaxBytes; what makes it one more has 11.
func TestPackAtMostBytes(t *testing.T) {
	ten, eleven := impl.Msg{Kind: kindData, Cell: 2, Val: 5}, impl.Msg{Kind: kindData, Cell: 2, Val: 200}
	if len(framePlainly(ten)) != 10 || len(framePlainly(eleven)) != 11 {
		t.Fatal("other frames")
	}
	most := slices.Repeat([]impl.Msg{ten}, mostBytes/10)
	wantBytes(t, "Pack of just MaxBytes", impl.Pack(most), squeezePlainly(framesPlainly(most)))
	wantUnpack(t, impl.Pack(most), most)
	withWrong := append(cloneMsgs(most), impl.Msg{Kind: 6})
	wantBytes(t, "Pack of just MaxBytes and of what is no message", impl.Pack(withWrong), impl.Pack(most))
	for at := range most {
		more := cloneMsgs(most)
		more[at] = eleven
		wantBytes(t, "Pack of one byte more", impl.Pack(more), nil)
	}
	wantBytes(t, "Pack of one message more", impl.Pack(append(cloneMsgs(most), ten)), nil)
	wantBytes(t, "Pack of far more", impl.Pack(slices.Repeat(most, 20)), nil)
}

func TestUnpackOfNothing(t *testing.T) {
	wantUnpack(t, nil, nil)
	wantUnpack(t, []byte{}, nil)
	wantUnpack(t, impl.Pack(nil), nil)
}

func TestUnpackOfWhatIsNone(t *testing.T) {
	m := impl.Msg{Kind: kindData, Cell: 2, Val: 5}
	frame := framePlainly(m)
	pack := impl.Pack([]impl.Msg{m})
	for why, b := range map[string][]byte{
		"a byte 0 without another":   {0},
		"a byte behind 0 alone":      {0, 5},
		"a run from nowhere":         {131, 1},
		"no run":                     {5, 130, 1},
		"one byte":                   {1},
		"a byte 0":                   {0, 0},
		"bytes that are no frames":   []byte("abcabcabx"),
		"bytes with a run":           []byte("abc\x85\x03x"),
		"a frame that isn't spread":  frame,
		"a byte behind it":           joined(pack, []byte{1}),
		"a byte 0 behind it":         joined(pack, []byte{0, 0}),
		"half a byte behind it":      joined(pack, []byte{0}),
		"a byte ahead of it":         joined([]byte{1}, pack),
		"what is no message":         squeezePlainly(framed([]byte{6, 2, 5, 0, 0})),
		"no message behind another":  squeezePlainly(joined(frame, framed([]byte{1, 8, 5, 0, 0}))),
		"no message ahead of one":    squeezePlainly(joined(framed([]byte{1, 2, 0, 0, 0}), frame)),
		"an empty frame":             squeezePlainly(framed(nil)),
		"more bytes than MaxBytes":   squeezePlainly(bytes.Repeat(frame, mostBytes/10+1)),
		"far more bytes than all":    many(7, 100000),
		"a long one that is no Pack": many(5, mostBytes),
	} {
		wantNoUnpack(t, why, b)
	}
}

// Each spreads to messages, but Pack tells these in another way.
func TestUnpackOfWhatIsNoPack(t *testing.T) {
	m := impl.Msg{Kind: kindData, Cell: 2, Val: 5}
	frame := framePlainly(m)
	plain := escapedPlainly(frame)
	if !bytes.Equal(plain, impl.Pack([]impl.Msg{m})) {
		t.Fatal("a message alone has a run")
	}
	wantUnpack(t, plain, []impl.Msg{m})
	wantUnpack(t, joined(plain, []byte{138, 10}), []impl.Msg{m, m})
	for why, b := range map[string][]byte{
		"no run":                          joined(plain, plain),
		"a shorter run and a byte":        joined(plain, []byte{137, 10}, []byte{0, 0}),
		"two runs":                        joined(plain, []byte{133, 10, 133, 10}),
		"a byte and a shorter run":        joined(plain, []byte{5}, []byte{137, 10}),
		"a run from further behind":       joined(plain, []byte{138, 10, 138, 20}),
		"a run where it is from further":  joined(plain, []byte{138, 10, 148, 20}),
		"a run, and none behind it":       joined(plain, []byte{138, 10}, plain),
		"no run, and one behind it":       joined(plain, plain, []byte{138, 10}),
		"a run that is one too short":     joined(plain, []byte{147, 10}, []byte{0, 0}),
		"three messages with a run alone": joined(plain, []byte{138, 10, 138, 10}),
	} {
		spread, ok := impl.Spread(b)
		if !ok || len(spread)%len(frame) != 0 || !bytes.Equal(spread, bytes.Repeat(frame, len(spread)/len(frame))) {
			t.Errorf("%s: %v spreads to %v, %v", why, b, spread, ok)
		}
		wantNoUnpack(t, why, b)
	}
}

// Of one message alone nothing but the whole is a message; of several, what is left may be the Pack of fewer.
func TestUnpackOfWhatIsCutShort(t *testing.T) {
	for _, m := range ordinaryMsgs() {
		pack := impl.Pack([]impl.Msg{m})
		for size := 1; size < len(pack); size++ {
			wantNoUnpack(t, "cut short", pack[:size])
			wantNoUnpack(t, "cut short in new memory", bytes.Clone(pack[:size]))
			wantNoUnpack(t, "cut short from the left", pack[size:])
		}
	}
	for _, list := range mixedMsgs(42, 40, 8) {
		pack := impl.Pack(list)
		fewer := packsOfFewer(list)
		for size := range pack {
			cut := pack[:size]
			if count, is := fewer[string(cut)]; is {
				wantUnpack(t, cut, list[:count])
			} else {
				wantNoUnpack(t, "cut short", cut)
			}
		}
	}
}

// packsOfFewer tells, by the bytes, how many of the first ones are packed to them.
func packsOfFewer(list []impl.Msg) map[string]int {
	out := map[string]int{}
	for count := range list {
		out[string(squeezePlainly(framesPlainly(list[:count])))] = count
	}
	return out
}

func TestUnpackWithOneOtherByte(t *testing.T) {
	for _, list := range mixedMsgs(43, 30, 6) {
		pack := impl.Pack(list)
		for at := range pack {
			for _, add := range []byte{1, 2, 127, 128, 255} {
				other := bytes.Clone(pack)
				other[at] += add
				wantUnpackPlainly(t, other)
			}
		}
	}
}

// wantUnpackPlainly holds what Unpack tells against what the bytes spread to.
func wantUnpackPlainly(t *testing.T, b []byte) {
	t.Helper()
	got, ok := impl.Unpack(b)
	if !ok {
		wantNoUnpack(t, "another byte", b)
		return
	}
	for _, m := range got {
		if !okPlainly(m) {
			t.Errorf("Unpack of %v tells %v", b, got)
		}
	}
	if !bytes.Equal(squeezePlainly(framesPlainly(got)), b) {
		t.Errorf("Unpack of %v tells %v, which is packed to another", b, got)
	}
}

// mixedMsgs are lists of at most so many messages, some of which stand twice.
func mixedMsgs(seed int64, count int, most int) [][]impl.Msg {
	source := rand.New(rand.NewSource(seed))
	from := ordinaryMsgs()
	var lists [][]impl.Msg
	for range count {
		var list []impl.Msg
		for range source.Intn(most + 1) {
			if len(list) > 0 && source.Intn(3) == 0 {
				list = append(list, list[source.Intn(len(list))])
			} else {
				list = append(list, from[source.Intn(len(from))])
			}
		}
		lists = append(lists, cloneMsgs(list))
	}
	return lists
}

func TestWhatIsPackedIsUnpackedAsItWas(t *testing.T) {
	for _, m := range ordinaryMsgs() {
		wantUnpack(t, impl.Pack([]impl.Msg{m}), []impl.Msg{m})
		wantUnpack(t, impl.Pack([]impl.Msg{m, m, m}), []impl.Msg{m, m, m})
	}
	whole := 0
	for _, list := range append(mixedMsgs(44, 400, 12), mixedMsgs(45, 60, 300)...) {
		if len(framesPlainly(list)) > mostBytes {
			wantBytes(t, "Pack of too many", impl.Pack(list), nil)
			continue
		}
		whole++
		wantUnpack(t, impl.Pack(list), list)
	}
	if whole < 400 {
		t.Errorf("only %d lists are packed", whole)
	}
}

// inRoom lays numbers into a longer list, so that there is room behind them.
func inRoom(list []int) ([]int, []int) {
	room := slices.Concat([]int{77, 78}, list, []int{79, 80, 81, 82})
	return room, room[2 : 2+len(list)]
}

func spoilNumbers(list []int) {
	whole := list[:cap(list)]
	for i := range whole {
		whole[i] = 9999
	}
}

func spoilMsgs(list []impl.Msg) {
	whole := list[:cap(list)]
	for i := range whole {
		spoilNumbers(whole[i].Gens)
		whole[i] = impl.Msg{Kind: 99, Cell: 99, Val: 99, Who: 99, Gens: []int{99}}
	}
}

func TestMsgWritesIntoNoMessage(t *testing.T) {
	for _, m := range append(ordinaryMsgs(), wrongMsgs()...) {
		room, gens := inRoom(m.Gens)
		was := slices.Clone(room)
		m.Gens = gens
		list := []impl.Msg{{Kind: 55}, m, m, {Kind: 56}, {Kind: 57}}
		wasList := slices.Clone(list)
		impl.MsgOk(m)
		spoilBytes(impl.MsgBytes(m))
		spoilBytes(impl.Pack(list[1:3]))
		if !slices.Equal(room, was) || !slices.EqualFunc(list, wasList, alikeMsgs) {
			t.Errorf("%v was changed to %v, %v to %v", was, room, wasList, list)
		}
	}
}

func TestMsgWritesIntoNoBytes(t *testing.T) {
	var lists [][]byte
	for _, list := range mixedMsgs(46, 60, 6) {
		lists = append(lists, framesPlainly(list), impl.Pack(list), joined(impl.Pack(list), []byte{1}))
	}
	for _, b := range append(lists, squeezeLists()...) {
		room := joined([]byte{77, 78}, b, []byte{79, 80, 81, 82, 83, 84})
		was := bytes.Clone(room)
		given := room[2 : 2+len(b)]
		got, _ := impl.Unpack(given)
		spoilMsgs(got)
		for _, at := range append([]int{0, 1, len(b) - 1, len(b), len(b) + 1}, farPlaces...) {
			m, _, _ := impl.MsgOf(given, at)
			spoilNumbers(m.Gens)
		}
		if !bytes.Equal(room, was) {
			t.Errorf("%v was changed to %v", was, room)
		}
	}
}

func TestMsgLooksAtNoSpareRoomOfBytes(t *testing.T) {
	m := impl.Msg{Kind: kindDone, Val: 200, Gens: []int{300, 2, 1}}
	frame := framePlainly(m)
	pack := impl.Pack([]impl.Msg{m, m})
	for size := range frame {
		wantNoMsgOf(t, "the rest is in the spare room", frame[:size], 0)
	}
	wantNoUnpack(t, "the rest is in the spare room", pack[:len(pack)-1])
}

// No Gens of one answer share memory with those of another message, nor with a second answer.
func TestMsgTellsNewMemory(t *testing.T) {
	done := impl.Msg{Kind: kindDone, Val: 3, Gens: []int{300, 2, 1}}
	list := []impl.Msg{done, {Kind: kindData, Cell: 1, Val: 1}, done, {Kind: kindDone}, {Kind: kindDone, Gens: gensFrom(5, mostGens)}, done}
	pack := impl.Pack(list)
	for i := range list {
		one, _ := impl.Unpack(pack)
		two, _ := impl.Unpack(pack)
		spoilNumbers(one[i].Gens)
		for k := range list {
			if k != i && !alikeMsgs(one[k], list[k]) {
				t.Errorf("message %d shares its Gens with message %d", i, k)
			}
		}
		spoilMsgs(one)
		if !slices.EqualFunc(two, list, alikeMsgs) {
			t.Errorf("what is unpacked twice shares memory: %v", two)
		}
	}
	frame := impl.MsgBytes(done)
	one, _, _ := impl.MsgOf(frame, 0)
	two, _, _ := impl.MsgOf(frame, 0)
	spoilNumbers(one.Gens)
	spoilBytes(frame)
	if !alikeMsgs(two, done) {
		t.Errorf("what is read twice shares memory: %v", two)
	}
	again := impl.MsgBytes(done)
	spoilBytes(impl.MsgBytes(done))
	wantBytes(t, "MsgBytes twice", again, framePlainly(done))
}
