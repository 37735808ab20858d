package tests

import (
	"bytes"
	"encoding/binary"
	"fmt"
	"math"
	"math/rand"
	"slices"
	"testing"

	"loop.example/g00399/impl"
)

const (
	slotSize  = 160
	mostSeq   = 1000000
	metaPlace = 5
	endPlace  = 156
)

// goodSeqs are numbers at their edges, and where another byte begins.
var goodSeqs = []int{1, 2, 127, 128, 255, 256, 257, 65535, 65536, 65537, mostSeq - 1, mostSeq}

var badSeqs = []int{0, mostSeq + 1, mostSeq + 2, 1<<24 + 1, 1<<24 - 1, 1<<31 - 1, 1 << 31, 1<<32 - 1}

// slotWith lays bytes into a slot, whatever they tell.
func slotWith(first int, size int, known []byte, last int) []byte {
	b := binary.LittleEndian.AppendUint32(nil, uint32(first))
	b = append(append(b, byte(size)), known...)
	b = append(b, many(0, endPlace-len(b))...)
	return binary.LittleEndian.AppendUint32(b, uint32(last))
}

func slotPlainly(m impl.Meta, seq int) []byte {
	known := metaPlainly(m)
	return slotWith(seq, len(known), known, seq)
}

// slotOfPlainly asks for each part by itself.
func slotOfPlainly(b []byte) (impl.Meta, int, bool) {
	if len(b) != slotSize || !bytes.Equal(b[:4], b[endPlace:]) {
		return impl.Meta{}, 0, false
	}
	seq, size := int(binary.LittleEndian.Uint32(b)), int(b[4])
	if seq == 0 || seq > mostSeq || metaPlace+size > endPlace {
		return impl.Meta{}, 0, false
	}
	known, between := b[metaPlace:metaPlace+size], b[metaPlace+size:endPlace]
	m, ok := metaOfPlainly(known)
	if !ok || len(bytes.Trim(between, "\x00")) > 0 {
		return impl.Meta{}, 0, false
	}
	return m, seq, true
}

func getPlainly(s impl.Slots) (impl.Meta, int, bool) {
	one, first, isFirst := slotOfPlainly(s.A)
	two, second, isSecond := slotOfPlainly(s.B)
	switch {
	case isFirst && isSecond && second > first, isSecond && !isFirst:
		return two, second, true
	case isFirst:
		return one, first, true
	}
	return impl.Meta{}, 0, false
}

// intoPlainly tells which slot is written, A or B, and with which number; neither where nothing is.
func intoPlainly(s impl.Slots, m impl.Meta) (string, int) {
	_, seq, ok := getPlainly(s)
	_, first, isFirst := slotOfPlainly(s.A)
	switch {
	case !metaOkPlainly(m) || seq == mostSeq:
		return "", 0
	case ok && isFirst && first == seq:
		return "B", seq + 1
	}
	return "A", seq + 1
}

func putPlainly(s impl.Slots, m impl.Meta) impl.Slots {
	into, seq := intoPlainly(s, m)
	switch into {
	case "A":
		return impl.Slots{A: slotPlainly(m, seq), B: s.B}
	case "B":
		return impl.Slots{A: s.A, B: slotPlainly(m, seq)}
	}
	return s
}

// tornPlainly goes from byte to byte: each is new, or what stood there.
func tornPlainly(was []byte, now []byte, n int) []byte {
	var out []byte
	for at := range max(len(was), len(now)) {
		if at < n && at < len(now) {
			out = append(out, now[at])
		} else if at < len(was) {
			out = append(out, was[at])
		}
	}
	return out
}

func tearPlainly(s impl.Slots, m impl.Meta, n int) impl.Slots {
	now := putPlainly(s, m)
	switch into, _ := intoPlainly(s, m); into {
	case "A":
		return impl.Slots{A: tornPlainly(s.A, now.A, n), B: s.B}
	case "B":
		return impl.Slots{A: s.A, B: tornPlainly(s.B, now.B, n)}
	}
	return s
}

func alikeSlots(a impl.Slots, b impl.Slots) bool {
	return bytes.Equal(a.A, b.A) && bytes.Equal(a.B, b.B)
}

func cloneSlots(s impl.Slots) impl.Slots {
	return impl.Slots{A: bytes.Clone(s.A), B: bytes.Clone(s.B)}
}

func wantSlotOf(t *testing.T, b []byte, want impl.Meta, number int) {
	t.Helper()
	if got, seq, ok := impl.SlotOf(b); !ok || seq != number || !alikeMetas(got, want) {
		t.Errorf("SlotOf of %v tells %v, %d, %v, not %v, %d", b, got, seq, ok, want, number)
	}
}

func wantNoSlotOf(t *testing.T, why string, b []byte) {
	t.Helper()
	if got, seq, ok := impl.SlotOf(b); ok || seq != 0 || !alikeMetas(got, impl.Meta{}) {
		t.Errorf("%s: SlotOf of %v tells %v, %d, %v", why, b, got, seq, ok)
	}
}

func wantSlotOfPlainly(t *testing.T, b []byte) {
	t.Helper()
	if want, seq, ok := slotOfPlainly(b); ok {
		wantSlotOf(t, b, want, seq)
	} else {
		wantNoSlotOf(t, "no slot", b)
	}
}

func wantSlotGet(t *testing.T, why string, s impl.Slots, want impl.Meta, number int) {
	t.Helper()
	if got, seq, ok := impl.SlotGet(s); !ok || seq != number || !alikeMetas(got, want) {
		t.Errorf("%s: SlotGet of %v tells %v, %d, %v, not %v, %d", why, s, got, seq, ok, want, number)
	}
}

func wantNoSlotGet(t *testing.T, why string, s impl.Slots) {
	t.Helper()
	if got, seq, ok := impl.SlotGet(s); ok || seq != 0 || !alikeMetas(got, impl.Meta{}) {
		t.Errorf("%s: SlotGet of %v tells %v, %d, %v", why, s, got, seq, ok)
	}
}

func wantSlots(t *testing.T, why string, got impl.Slots, want impl.Slots) {
	t.Helper()
	if !alikeSlots(got, want) {
		t.Errorf("%s: %v, not %v", why, got, want)
	}
}

// shortOrLong are bytes that are whole but for their size.
func shortOrLong() [][]byte {
	whole := slotPlainly(metaWith(1), 6)
	return [][]byte{
		nil,
		{},
		{0},
		{6},
		whole[:4],
		whole[:100],
		whole[:slotSize-1],
		joined(whole, []byte{0}),
		joined(whole, []byte{9}),
		joined(whole, whole),
		many(7, 1000),
	}
}

// tornSlots are of the right size, but not whole.
func tornSlots() [][]byte {
	one, two := slotPlainly(metaWith(1), 8), slotPlainly(metaWith(4), 10)
	list := [][]byte{many(0, slotSize), many(255, slotSize), many(1, slotSize), slotPlainly(metaWith(6), 9), slotPlainly(metaWith(3), 0), slotPlainly(metaWith(3), mostSeq+1)}
	for _, n := range []int{1, 3, 4, 5, 30, endPlace - 1, endPlace} {
		list = append(list, tornPlainly(one, two, n))
	}
	return list
}

func wholeSlots() [][]byte {
	list := [][]byte{slotPlainly(impl.MetaNew(77), 3)}
	for i, seq := range goodSeqs {
		list = append(list, slotPlainly(metaWith(i%6), seq))
	}
	return list
}

// mixedSlots are each of all slots beside each.
func mixedSlots() []impl.Slots {
	all := slices.Concat(shortOrLong(), tornSlots(), wholeSlots())
	var list []impl.Slots
	for _, a := range all {
		for _, b := range all {
			list = append(list, cloneSlots(impl.Slots{A: a, B: b}))
		}
	}
	return list
}

func TestSlotLimits(t *testing.T) {
	if impl.SlotSize != slotSize || impl.MaxSeq != mostSeq {
		t.Errorf("SlotSize is %d, MaxSeq %d", impl.SlotSize, impl.MaxSeq)
	}
}

func TestSlotOfWhatIsWhole(t *testing.T) {
	for _, m := range append(ordinaryMetas(), mixedMetas(61, 100)...) {
		for _, seq := range goodSeqs {
			wantSlotOf(t, slotPlainly(m, seq), m, seq)
		}
	}
	m := impl.MetaNew(3)
	for _, c := range []struct{ ahead, behind []byte }{
		{[]byte{1, 0, 0, 0, 7, 1, 3, 0, 0, 0, 1, 0}, []byte{1, 0, 0, 0}},
		{[]byte{2, 1, 0, 0, 7, 1, 3, 0, 0, 0, 1, 0}, []byte{2, 1, 0, 0}},
		{[]byte{64, 66, 15, 0, 7, 1, 3, 0, 0, 0, 1, 0}, []byte{64, 66, 15, 0}},
	} {
		b := joined(c.ahead, many(0, 144), c.behind)
		seq := int(c.ahead[0]) + 256*int(c.ahead[1]) + 65536*int(c.ahead[2])
		wantSlotOf(t, b, m, seq)
		wantBytes(t, "the plain slot", slotPlainly(m, seq), b)
	}
}

func TestSlotOfSizes(t *testing.T) {
	whole := slotPlainly(metaWith(1), 5)
	for _, b := range shortOrLong() {
		wantNoSlotOf(t, "another size", b)
	}
	for size := range slotSize {
		wantNoSlotOf(t, "the first bytes alone", whole[:size])
		wantNoSlotOf(t, "the first bytes alone, in new memory", bytes.Clone(whole[:size]))
		wantNoSlotOf(t, "the last bytes alone", whole[slotSize-size:])
		wantNoSlotOf(t, "a byte less", slices.Delete(bytes.Clone(whole), size, size+1))
		wantNoSlotOf(t, "a byte 0 more", slices.Insert(bytes.Clone(whole), size, 0))
	}
	wantNoSlotOf(t, "a byte behind", joined(whole, []byte{0}))
	wantNoSlotOf(t, "a byte ahead", joined([]byte{0}, whole))
	wantNoSlotOf(t, "twice", joined(whole, whole))
	wantNoSlotOf(t, "very many", many(0, 1<<20))
}

func TestSlotOfNumbers(t *testing.T) {
	for _, m := range []impl.Meta{impl.MetaNew(3), metaWith(5)} {
		for _, seq := range goodSeqs {
			wantSlotOf(t, slotPlainly(m, seq), m, seq)
		}
		for _, seq := range badSeqs {
			wantNoSlotOf(t, "a number that is none", slotPlainly(m, seq))
		}
	}
}

func TestSlotOfWithAnotherNumberAtTheEnd(t *testing.T) {
	known := metaPlainly(metaWith(2))
	all := append(slices.Clone(goodSeqs), badSeqs...)
	for _, first := range all {
		for _, last := range all {
			if first != last {
				wantNoSlotOf(t, "another number at the end", slotWith(first, len(known), known, last))
			}
		}
		turned := slotWith(first, len(known), known, first)
		slices.Reverse(turned[endPlace:])
		wantSlotOfPlainly(t, turned)
		slices.Reverse(turned[:4])
		wantSlotOfPlainly(t, turned)
	}
}

func TestSlotOfWithEachLength(t *testing.T) {
	for _, m := range append(ordinaryMetas(), mixedMetas(62, 20)...) {
		known := metaPlainly(m)
		for size := range 256 {
			b := slotWith(9, size, known, 9)
			if size == len(known) {
				wantSlotOf(t, b, m, 9)
			} else {
				wantNoSlotOf(t, "another length", b)
			}
		}
	}
	for size := range 256 {
		wantNoSlotOf(t, "no meta, of each length", slotWith(9, size, nil, 9))
	}
}

func TestSlotOfWithBytesBetween(t *testing.T) {
	for _, m := range []impl.Meta{impl.MetaNew(3), metaWith(5), {Gens: gensFrom(mostGen-mostGens+1, mostGens), Bits: slices.Repeat([][]int{{0, 1, 2, 3, 4, 5, 6, 7}}, 3), Last: 200}} {
		whole := slotPlainly(m, 7)
		for at := metaPlace + len(metaPlainly(m)); at < endPlace; at++ {
			for c := 1; c < 256; c++ {
				whole[at] = byte(c)
				wantNoSlotOf(t, "a byte between that is not 0", whole)
			}
			whole[at] = 0
		}
		wantSlotOf(t, whole, m, 7)
	}
}

// The greatest meta that can be leaves room enough.
func TestSlotOfTheGreatestMeta(t *testing.T) {
	m := impl.Meta{Gens: gensFrom(mostGen-mostGens+1, mostGens), Bits: slices.Repeat([][]int{{0, 1, 2, 3, 4, 5, 6, 7}}, 3), Fine: true, Held: true, Last: 200}
	if size := len(metaPlainly(m)); size != 67 {
		t.Errorf("the greatest meta has %d bytes", size)
	}
	wantSlotOf(t, slotPlainly(m, mostSeq), m, mostSeq)
	wantSlotGet(t, "the greatest meta", impl.SlotPut(impl.Slots{}, m), m, 1)
}

func TestSlotOfWhatIsNoMeta(t *testing.T) {
	for _, m := range wrongMetas() {
		lists := append(slices.Clone(m.Bits), m.Gens, []int{m.Last})
		least, most := slices.Min(slices.Concat(lists...)), slices.Max(slices.Concat(lists...))
		if least >= 0 && most <= greatestNum && len(metaPlainly(m)) <= endPlace-metaPlace {
			wantNoSlotOf(t, "what is no meta, as a slot", slotPlainly(m, 4))
		}
	}
	for why, known := range map[string][]byte{
		"nothing":              {},
		"one byte":             {1},
		"a meta cut short":     {1, 3, 0, 0, 0, 1},
		"a byte behind a meta": {1, 3, 0, 0, 0, 1, 0, 0},
		"a longer number":      {1, 131, 0, 0, 0, 0, 1, 0},
		"a meta twice":         {1, 3, 0, 0, 0, 1, 0, 1, 3, 0, 0, 0, 1, 0},
		"all the room":         many(1, endPlace-metaPlace),
		"all the room with 0":  many(0, endPlace-metaPlace),
	} {
		wantNoSlotOf(t, why, slotWith(4, len(known), known, 4))
	}
	for size := endPlace - metaPlace + 1; size < 256; size++ {
		wantNoSlotOf(t, "no room for so much", slotWith(4, size, many(1, endPlace-metaPlace), 4))
	}
}

// Another byte within the meta may make another meta of it: then it is that one. Anywhere else it is none.
func TestSlotOfWithOneOtherByte(t *testing.T) {
	for _, m := range []impl.Meta{impl.MetaNew(3), metaWith(0), metaWith(5), {Gens: gensFrom(1, mostGens), Bits: [][]int{{1}, {2}, {3}}, Last: 200}} {
		for _, seq := range []int{1, 257, mostSeq} {
			whole := slotPlainly(m, seq)
			behind := metaPlace + len(metaPlainly(m))
			for at := range whole {
				other := bytes.Clone(whole)
				for c := range 256 {
					other[at] = byte(c)
					wantSlotOfPlainly(t, other)
					if _, _, ok := impl.SlotOf(other); ok && byte(c) != whole[at] && (at < metaPlace || at >= behind) {
						t.Errorf("%d at place %d makes a whole slot of %v", c, at, whole)
					}
				}
			}
		}
	}
}

func TestSlotOfBytesByChance(t *testing.T) {
	source := rand.New(rand.NewSource(63))
	for _, m := range mixedMetas(64, 200) {
		whole := slotPlainly(m, 1+source.Intn(mostSeq))
		for range 20 {
			other := bytes.Clone(whole)
			for range 1 + source.Intn(3) {
				other[source.Intn(80)] = byte(source.Intn(13))
			}
			wantSlotOfPlainly(t, other)
		}
		wantNoSlotOf(t, "bytes by chance", bytesByChance(source, slotSize))
	}
}

func bytesByChance(source *rand.Rand, size int) []byte {
	b := make([]byte, size)
	source.Read(b)
	return b
}

func TestSlotGetOfNone(t *testing.T) {
	wantNoSlotGet(t, "nothing", impl.Slots{})
	wantNoSlotGet(t, "empty ones", impl.Slots{A: []byte{}, B: []byte{}})
	none := append(shortOrLong(), tornSlots()...)
	for _, a := range none {
		for _, b := range none {
			wantNoSlotGet(t, "none is whole", impl.Slots{A: a, B: b})
		}
	}
}

func TestSlotGetOfOneAlone(t *testing.T) {
	m := metaWith(3)
	for _, none := range append(shortOrLong(), tornSlots()...) {
		for _, seq := range goodSeqs {
			wantSlotGet(t, "A alone", impl.Slots{A: slotPlainly(m, seq), B: none}, m, seq)
			wantSlotGet(t, "B alone", impl.Slots{A: none, B: slotPlainly(m, seq)}, m, seq)
		}
	}
}

func TestSlotGetOfBoth(t *testing.T) {
	one, two := metaWith(3), impl.MetaNew(9)
	for _, first := range goodSeqs {
		for _, second := range goodSeqs {
			s := impl.Slots{A: slotPlainly(one, first), B: slotPlainly(two, second)}
			if second > first {
				wantSlotGet(t, "the greater number in B", s, two, second)
			} else {
				wantSlotGet(t, "the greater number in A, or alike ones", s, one, first)
			}
		}
	}
}

func TestSlotGetOfEachTwo(t *testing.T) {
	for _, s := range mixedSlots() {
		if want, seq, ok := getPlainly(s); ok {
			wantSlotGet(t, "each two", s, want, seq)
		} else {
			wantNoSlotGet(t, "each two", s)
		}
	}
}

func TestSlotPutIsInTurn(t *testing.T) {
	var s impl.Slots
	for seq := 1; seq <= 600; seq++ {
		m := metaWith(seq % 6)
		m.Gens[0] = 1000 + seq
		was := s
		s = impl.SlotPut(s, m)
		if seq%2 == 1 {
			wantSlots(t, "A in its turn", s, impl.Slots{A: slotPlainly(m, seq), B: was.B})
		} else {
			wantSlots(t, "B in its turn", s, impl.Slots{A: was.A, B: slotPlainly(m, seq)})
		}
		wantSlotGet(t, "what was put", s, m, seq)
	}
}

func TestSlotPutIntoNone(t *testing.T) {
	m := metaWith(4)
	none := append(shortOrLong(), tornSlots()...)
	for _, a := range none {
		for _, b := range none {
			s := impl.SlotPut(impl.Slots{A: a, B: b}, m)
			wantSlots(t, "A, where none is whole", s, impl.Slots{A: slotPlainly(m, 1), B: b})
			wantSlotGet(t, "A, where none is whole", s, m, 1)
		}
	}
}

func TestSlotPutBesideOneAlone(t *testing.T) {
	m, kept := metaWith(4), impl.MetaNew(9)
	for _, none := range append(shortOrLong(), tornSlots()...) {
		for _, seq := range []int{1, 2, 255, 65535, mostSeq - 1} {
			b := slotPlainly(kept, seq)
			wantSlots(t, "beside A alone", impl.SlotPut(impl.Slots{A: b, B: none}, m), impl.Slots{A: b, B: slotPlainly(m, seq+1)})
			wantSlots(t, "beside B alone", impl.SlotPut(impl.Slots{A: none, B: b}, m), impl.Slots{A: slotPlainly(m, seq+1), B: b})
		}
	}
}

func TestSlotPutBesideBoth(t *testing.T) {
	m := metaWith(4)
	for _, first := range goodSeqs {
		for _, second := range goodSeqs {
			a, b := slotPlainly(metaWith(1), first), slotPlainly(impl.MetaNew(9), second)
			want := impl.Slots{A: a, B: slotPlainly(m, first+1)}
			if second > first {
				want = impl.Slots{A: slotPlainly(m, second+1), B: b}
			}
			if max(first, second) == mostSeq {
				want = impl.Slots{A: a, B: b}
			}
			wantSlots(t, "beside both", impl.SlotPut(impl.Slots{A: a, B: b}, m), want)
		}
	}
}

func TestSlotPutAtTheLastNumber(t *testing.T) {
	m, kept := metaWith(4), impl.MetaNew(9)
	s := impl.SlotPut(impl.Slots{A: slotPlainly(kept, mostSeq-1)}, m)
	wantSlotGet(t, "the last number", s, m, mostSeq)
	wantSlots(t, "behind the last number", impl.SlotPut(s, kept), s)
	alone := impl.Slots{B: slotPlainly(kept, mostSeq)}
	wantSlots(t, "behind the last number, alone", impl.SlotPut(alone, m), alone)
	for n := -1; n <= slotSize+1; n++ {
		wantSlots(t, "behind the last number, torn", impl.Tear(s, kept, n), s)
		wantSlots(t, "behind the last number, alone and torn", impl.Tear(alone, m, n), alone)
	}
	above := impl.Slots{A: slotPlainly(kept, mostSeq+1)}
	wantSlots(t, "a number above all is none", impl.SlotPut(above, m), impl.Slots{A: slotPlainly(m, 1)})
}

func TestSlotPutOfWhatIsNoMeta(t *testing.T) {
	some := []impl.Slots{
		{},
		{A: []byte{1, 2}, B: []byte{3}},
		{A: slotPlainly(metaWith(1), 4), B: slotPlainly(metaWith(2), 5)},
		{A: many(9, 200), B: slotPlainly(metaWith(2), mostSeq)},
	}
	for _, m := range wrongMetas() {
		for _, s := range some {
			wantSlots(t, "what is no meta", impl.SlotPut(s, m), s)
			for _, n := range []int{-1, 0, 1, 80, slotSize - 1, slotSize, slotSize + 1} {
				wantSlots(t, "what is no meta, torn", impl.Tear(s, m, n), s)
			}
		}
	}
}

func TestSlotPutOfEachTwo(t *testing.T) {
	for _, s := range mixedSlots() {
		for _, m := range []impl.Meta{impl.MetaNew(9), metaWith(5), metaWith(6), {}} {
			wantSlots(t, "each two", impl.SlotPut(s, m), putPlainly(s, m))
		}
	}
}

func TestSlotPutOfManyMetas(t *testing.T) {
	for _, m := range append(ordinaryMetas(), mixedMetas(65, 300)...) {
		for _, seq := range []int{254, 255, 65534, mostSeq - 1} {
			s := impl.SlotPut(impl.Slots{A: slotPlainly(impl.MetaNew(1), seq)}, m)
			wantBytes(t, "SlotPut", s.B, slotPlainly(m, seq+1))
			wantSlotGet(t, "SlotPut", s, m, seq+1)
		}
	}
}

func TestTearAtEachPlace(t *testing.T) {
	m := metaWith(5)
	places := append([]int{math.MinInt, -160, -1, slotSize, slotSize + 1, slotSize + 40, math.MaxInt}, gensFrom(0, slotSize)...)
	for _, was := range slices.Concat(shortOrLong(), tornSlots(), wholeSlots()[:3]) {
		kept := slotPlainly(impl.MetaNew(9), 700)
		now := slotPlainly(m, 701)
		for _, n := range places {
			want := tornPlainly(was, now, n)
			wantSlots(t, "torn in A", impl.Tear(impl.Slots{A: was, B: kept}, m, n), impl.Slots{A: want, B: kept})
			wantSlots(t, "torn in B", impl.Tear(impl.Slots{A: kept, B: was}, m, n), impl.Slots{A: kept, B: want})
		}
	}
}

func TestTearFromNothing(t *testing.T) {
	m := metaWith(5)
	now := slotPlainly(m, 1)
	for n := -2; n <= slotSize+2; n++ {
		s := impl.Tear(impl.Slots{}, m, n)
		wantBytes(t, "A, torn from nothing", s.A, now[:max(0, min(n, slotSize))])
		wantBytes(t, "B, beside what is torn", s.B, nil)
		if n < slotSize {
			wantNoSlotGet(t, "torn from nothing", s)
		} else {
			wantSlotGet(t, "all of it, from nothing", s, m, 1)
		}
	}
}

// A slot that was longer stays so, and is not whole; SlotPut makes it whole.
func TestTearOfALongerSlot(t *testing.T) {
	m, kept := metaWith(5), slotPlainly(impl.MetaNew(9), 700)
	long := many(7, 200)
	for _, n := range []int{slotSize, slotSize + 1, 199, 200, 201, math.MaxInt} {
		s := impl.Tear(impl.Slots{A: long, B: kept}, m, n)
		wantBytes(t, "a longer slot", s.A, joined(slotPlainly(m, 701), many(7, 40)))
		wantSlotGet(t, "beside a longer slot", s, impl.MetaNew(9), 700)
	}
	wantSlotGet(t, "put over a longer slot", impl.SlotPut(impl.Slots{A: long, B: kept}, m), m, 701)
}

func TestTearOfAShorterSlot(t *testing.T) {
	m, kept := metaWith(5), slotPlainly(impl.MetaNew(9), 700)
	now := slotPlainly(m, 701)
	for size := range slotSize {
		short := many(7, size)
		for _, n := range []int{-1, 0, 1, size - 1, size, size + 1, slotSize - 1, slotSize, slotSize + 1} {
			s := impl.Tear(impl.Slots{A: kept, B: short}, m, n)
			wantBytes(t, "a shorter slot", s.B, tornPlainly(short, now, n))
			if n >= slotSize {
				wantSlotGet(t, "all over a shorter slot", s, m, 701)
			}
		}
	}
}

func TestTearOfEachTwo(t *testing.T) {
	for _, s := range mixedSlots() {
		for _, n := range []int{-1, 0, 1, 2, 4, 5, 20, 100, slotSize - 4, slotSize - 3, slotSize - 1, slotSize, slotSize + 1, 300} {
			for _, m := range []impl.Meta{metaWith(5), metaWith(6)} {
				wantSlots(t, "each two, torn", impl.Tear(s, m, n), tearPlainly(s, m, n))
			}
		}
	}
}

func TestTearOfNoneAndAllOfIt(t *testing.T) {
	for _, m := range append(ordinaryMetas(), mixedMetas(66, 50)...) {
		for _, s := range []impl.Slots{{A: slotPlainly(m, 1)}, {A: slotPlainly(m, 5), B: slotPlainly(m, 4)}, {A: slotPlainly(m, 65535), B: slotPlainly(m, 65536)}} {
			wantSlots(t, "nothing new", impl.Tear(s, m, 0), s)
			wantSlots(t, "all new", impl.Tear(s, m, slotSize), impl.SlotPut(s, m))
		}
	}
}

// gotOldOrNew tells whether what is got is what was got ahead of it, or m.
func gotOldOrNew(old impl.Slots, now impl.Slots, m impl.Meta) bool {
	was, before, had := impl.SlotGet(old)
	got, seq, ok := impl.SlotGet(now)
	isOld := ok == had && seq == before && alikeMetas(got, was)
	isNew := ok && seq == before+1 && alikeMetas(got, m)
	return isOld || isNew
}

func TestTornAnywhereTheOldOrTheNewIsGot(t *testing.T) {
	m := metaWith(1)
	old := metaWith(4)
	old.Gens = gensFrom(90000, mostGens)
	for _, last := range []int{0, 1, 2, 3, 127, 128, 254, 255, 256, 257, 510, 511, 512, 65534, 65535, 65536, 65537, mostSeq - 2, mostSeq - 1, mostSeq} {
		var s impl.Slots
		if last > 1 {
			s.B = slotPlainly(old, last-1)
		}
		if last > 0 {
			s.A = slotPlainly(old, last)
		}
		turned := impl.Slots{A: s.B, B: s.A}
		for _, was := range []impl.Slots{s, turned} {
			for n := -1; n <= slotSize+1; n++ {
				now := impl.Tear(was, m, n)
				if !gotOldOrNew(was, now, m) {
					t.Errorf("behind %d, torn at %d: neither the old one nor the new one", last, n)
				}
				if !gotOldOrNew(now, impl.SlotPut(now, old), old) {
					t.Errorf("behind %d, torn at %d: what is put next is not got", last, n)
				}
			}
			whole := impl.Tear(was, m, slotSize)
			if last < mostSeq {
				wantSlotGet(t, "not torn at all", whole, m, last+1)
			} else {
				wantSlots(t, "behind the last number", whole, was)
			}
		}
	}
}

// A slot that is torn once is torn again: what was got ahead of that stays.
func TestTornAgainAndAgain(t *testing.T) {
	source := rand.New(rand.NewSource(67))
	metas := mixedMetas(68, 200)
	for _, last := range []int{0, 250, 65530, mostSeq - 20} {
		var s impl.Slots
		if last > 0 {
			s = impl.Slots{A: slotPlainly(metas[0], last-1), B: slotPlainly(metas[1], last)}
		}
		for step := range 2000 {
			m := metas[source.Intn(len(metas))]
			n := []int{source.Intn(8), source.Intn(slotSize + 2), slotSize - source.Intn(6)}[source.Intn(3)]
			now := impl.Tear(s, m, n)
			if !gotOldOrNew(s, now, m) {
				t.Fatalf("step %d: %v, torn at %d by %v, is %v", step, s, n, m, now)
			}
			wantSlots(t, "torn again", now, tearPlainly(s, m, n))
			s = now
		}
		if _, seq, ok := impl.SlotGet(s); !ok || seq <= last {
			t.Errorf("from %d on only %d is reached", last, seq)
		}
	}
}

// The slot that was got is never touched, at whatever place the other one is torn.
func TestTearLeavesTheLatestOne(t *testing.T) {
	for _, s := range mixedSlots() {
		_, seq, ok := getPlainly(s)
		_, first, isFirst := slotOfPlainly(s.A)
		for _, n := range []int{1, 5, 157, slotSize} {
			now := impl.Tear(s, metaWith(5), n)
			if ok && isFirst && first == seq {
				wantBytes(t, "A", now.A, s.A)
			} else {
				wantBytes(t, "B", now.B, s.B)
			}
		}
	}
}

// slotsInRoom lays both slots into one longer piece of memory, and tells it.
func slotsInRoom(s impl.Slots) (impl.Slots, []byte) {
	room := joined([]byte{71, 72}, s.A, many(73, 200), s.B, many(74, 200))
	b := 202 + len(s.A)
	return impl.Slots{A: room[2 : 2+len(s.A)], B: room[b : b+len(s.B)]}, room
}

func TestSlotsAreNotWrittenInto(t *testing.T) {
	for _, s := range mixedSlots() {
		given, room := slotsInRoom(s)
		was := bytes.Clone(room)
		one, _, _ := impl.SlotOf(given.A)
		two, _, _ := impl.SlotGet(given)
		spoilMeta(one)
		spoilMeta(two)
		for _, m := range []impl.Meta{metaWith(5), metaWith(6)} {
			answers := []impl.Slots{impl.SlotPut(given, m)}
			for _, n := range []int{-1, 0, 1, 100, slotSize - 1, slotSize, slotSize + 1} {
				answers = append(answers, impl.Tear(given, m, n))
			}
			for _, answer := range answers {
				spoilBytes(append(answer.A, 5))
				spoilBytes(append(answer.B, 5))
				spoilBytes(answer.A)
				spoilBytes(answer.B)
			}
		}
		if !bytes.Equal(room, was) {
			t.Errorf("%v was changed to %v", was, room)
		}
	}
}

func TestSlotsWriteIntoNoMeta(t *testing.T) {
	some := []impl.Slots{{}, {A: slotPlainly(metaWith(1), 4), B: slotPlainly(metaWith(2), 5)}, {A: many(9, 200), B: many(8, 10)}}
	for _, m := range slices.Concat(ordinaryMetas(), wrongMetas(), mixedMetas(69, 50)) {
		given, rooms, outer := metaInRoom(m)
		was := fmt.Sprint(rooms, outer)
		for _, s := range some {
			impl.SlotPut(s, given)
			for _, n := range []int{-1, 0, 80, slotSize} {
				impl.Tear(s, given, n)
			}
		}
		if now := fmt.Sprint(rooms, outer); now != was {
			t.Errorf("%s was changed to %s", was, now)
		}
	}
}

// Both slots of an answer are their own, also where those of the argument are one.
func TestSlotsTellNewMemory(t *testing.T) {
	shared := slotPlainly(metaWith(1), 4)
	list := append(mixedSlots(), impl.Slots{A: shared, B: shared}, impl.Slots{A: shared[:100], B: shared[:100]})
	for _, s := range list {
		for _, m := range []impl.Meta{metaWith(5), metaWith(6)} {
			ask := []func() impl.Slots{func() impl.Slots { return impl.SlotPut(s, m) }}
			for _, n := range []int{0, 100, slotSize, slotSize + 1} {
				ask = append(ask, func() impl.Slots { return impl.Tear(s, m, n) })
			}
			for _, tell := range ask {
				one, other, want := tell(), tell(), cloneSlots(tell())
				spoilBytes(append(one.A, 5))
				spoilBytes(one.A)
				wantBytes(t, "B beside a spoiled A", one.B, want.B)
				spoilBytes(append(other.B, 5))
				spoilBytes(other.B)
				wantBytes(t, "A beside a spoiled B", other.A, want.A)
				wantSlots(t, "told once more", tell(), want)
			}
		}
	}
}

func TestSlotOfTellsNewMemory(t *testing.T) {
	for _, m := range append(ordinaryMetas(), mixedMetas(70, 50)...) {
		s := impl.Slots{A: slotPlainly(m, 3), B: slotPlainly(m, 4)}
		want := listsOf(m)
		for i := range want {
			one, _, _ := impl.SlotOf(s.A)
			two, _, _ := impl.SlotGet(s)
			for _, got := range []impl.Meta{one, two} {
				lists := listsOf(got)
				spoilNumbers(append(lists[i], 5555))
				spoilNumbers(lists[i])
				for k := range lists {
					if k != i && !slices.Equal(lists[k], want[k]) {
						t.Errorf("list %d of %v shares memory with list %d", i, m, k)
					}
				}
			}
		}
		got, _, _ := impl.SlotGet(s)
		spoilBytes(s.A)
		spoilBytes(s.B)
		if !alikeMetas(got, m) {
			t.Errorf("what is got shares memory with its slot: %v", got)
		}
	}
}

func TestSlotsLookAtNoSpareRoom(t *testing.T) {
	whole, m := slotPlainly(metaWith(1), 4), metaWith(5)
	for size := range whole {
		wantNoSlotOf(t, "the rest is in the spare room", whole[:size])
		wantNoSlotGet(t, "the rest is in the spare room", impl.Slots{A: whole[:size], B: whole[:size]})
		wantSlots(t, "the rest is in the spare room", impl.SlotPut(impl.Slots{A: whole[:size]}, m), impl.Slots{A: slotPlainly(m, 1)})
		wantBytes(t, "the rest is in the spare room", impl.Tear(impl.Slots{A: whole[:size]}, m, 3).A, tornPlainly(whole[:size], slotPlainly(m, 1), 3))
	}
	wantSlotOf(t, joined(whole, whole)[:slotSize], metaWith(1), 4)
}
