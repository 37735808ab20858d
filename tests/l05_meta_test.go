package tests

import (
	"bytes"
	"encoding/binary"
	"fmt"
	"math/rand"
	"slices"
	"testing"

	"loop.example/g00399/impl"
)

const bitsCount = 3

var goodMarks = [][]int{
	nil,
	{},
	{0},
	{7},
	{0, 7},
	{1, 7},
	{2, 3, 5},
	{0, 1, 2, 3, 4, 5, 6, 7},
}

// badMarks are each wrong in one thing: a place that is no cell, one that is twice there, an order.
var badMarks = [][]int{
	{-1},
	{8},
	{-1, 0},
	{7, 8},
	{0, 8},
	{0, 1, 2, 3, 4, 5, 6, 7, 8},
	{3, 3},
	{0, 0},
	{7, 7},
	{0, 1, 1, 2},
	{2, 1},
	{7, 0},
	{0, 2, 1},
	{0, 1, 2, 3, 4, 5, 6, 7, 7},
	{-1 << 62},
	{1<<32 + 1},
}

var goodLasts = []int{0, 1, 127, 128, 199, 200}

var badLasts = append([]int{-1, -200, 201, 1000}, farNumbers...)

// metaWith is a meta that is as it should be, whatever the flags.
func metaWith(flags int) impl.Meta {
	return impl.Meta{
		Gens: []int{300, 2, 1},
		Bits: [][]int{{0, 7}, {}, {2, 3, 5}},
		Fine: flags%2 == 1,
		Old:  flags/2%2 == 1,
		Held: flags/4%2 == 1,
		Last: 9,
	}
}

func cloneMeta(m impl.Meta) impl.Meta {
	m.Gens = slices.Clone(m.Gens)
	m.Bits = slices.Clone(m.Bits)
	for id := range m.Bits {
		m.Bits[id] = slices.Clone(m.Bits[id])
	}
	return m
}

// ordinaryMetas are metas of each kind, at the edges of what is allowed, too.
func ordinaryMetas() []impl.Meta {
	var list []impl.Meta
	for flags := range 6 {
		list = append(list, metaWith(flags))
		for _, gens := range goodGens[2:] {
			m := metaWith(flags)
			m.Gens = gens
			list = append(list, m)
		}
		for id := range bitsCount {
			for _, marks := range goodMarks {
				m := metaWith(flags)
				m.Bits[id] = marks
				list = append(list, m)
			}
		}
		for _, last := range goodLasts {
			m := metaWith(flags)
			m.Last = last
			list = append(list, m)
		}
	}
	for _, marks := range goodMarks {
		list = append(list, impl.Meta{Gens: gensFrom(mostGen-mostGens+1, mostGens), Bits: [][]int{marks, marks, marks}, Last: 200})
	}
	for i := range list {
		list[i] = cloneMeta(list[i])
	}
	return list
}

// wrongMetas are each wrong in one thing alone, but for the first one.
func wrongMetas() []impl.Meta {
	list := []impl.Meta{{}, metaWith(6), metaWith(7)}
	add := func(turn func(m *impl.Meta)) {
		for _, flags := range []int{0, 1, 3, 5} {
			m := metaWith(flags)
			turn(&m)
			list = append(list, cloneMeta(m))
		}
	}
	for _, gens := range append([][]int{nil, {}}, badGens...) {
		add(func(m *impl.Meta) { m.Gens = gens })
	}
	for _, marks := range badMarks {
		for id := range bitsCount {
			add(func(m *impl.Meta) { m.Bits[id] = marks })
		}
	}
	for _, count := range []int{0, 1, 2, 4, 5, 30} {
		add(func(m *impl.Meta) { m.Bits = slices.Repeat([][]int{{1}}, count) })
		add(func(m *impl.Meta) { m.Bits = make([][]int, count) })
	}
	add(func(m *impl.Meta) { m.Bits = nil })
	for _, last := range badLasts {
		add(func(m *impl.Meta) { m.Last = last })
	}
	return list
}

// marksAreGood asks for the marks in another way: they are what is left of all cells.
func marksAreGood(marks []int) bool {
	var kept []int
	for at := range cellCount {
		if slices.Contains(marks, at) {
			kept = append(kept, at)
		}
	}
	return slices.Equal(kept, marks)
}

func metaOkPlainly(m impl.Meta) bool {
	good := 0
	for _, marks := range m.Bits {
		if marksAreGood(marks) {
			good++
		}
	}
	return len(m.Gens) >= 1 && gensPlainly(m.Gens) && good == bitsCount && len(m.Bits) == bitsCount && m.Last >= 0 && m.Last <= mostWrites && (!m.Old || !m.Held)
}

// metaPlainly tells the bytes of a meta whose numbers are not below 0, though it need not be MetaOk.
func metaPlainly(m impl.Meta) []byte {
	flags := map[bool]int{true: 1}
	nums := append([]int{len(m.Gens)}, m.Gens...)
	for _, marks := range m.Bits {
		nums = append(append(nums, len(marks)), marks...)
	}
	return numsPlainly(append(nums, flags[m.Fine]+2*flags[m.Old]+4*flags[m.Held], m.Last)...)
}

func numsPlainly(nums ...int) []byte {
	var out []byte
	for _, n := range nums {
		out = binary.AppendUvarint(out, uint64(n))
	}
	return out
}

// takePlainly takes a number, in its shortest form, from the left of bytes.
func takePlainly(b *[]byte) (int, bool) {
	n, size := binary.Uvarint(*b)
	if size <= 0 || n > greatestNum || len(numsPlainly(int(n))) != size {
		return 0, false
	}
	*b = (*b)[size:]
	return int(n), true
}

func takeListPlainly(b *[]byte) ([]int, bool) {
	count, ok := takePlainly(b)
	if !ok || count > len(*b) {
		return nil, false
	}
	var list []int
	for range count {
		n, ok := takePlainly(b)
		if !ok {
			return nil, false
		}
		list = append(list, n)
	}
	return list, true
}

// metaOfPlainly reads from the left, and asks each thing of what it has read.
func metaOfPlainly(b []byte) (impl.Meta, bool) {
	var lists [1 + bitsCount][]int
	for i := range lists {
		list, ok := takeListPlainly(&b)
		if !ok {
			return impl.Meta{}, false
		}
		lists[i] = list
	}
	flags, okFlags := takePlainly(&b)
	last, okLast := takePlainly(&b)
	m := impl.Meta{Gens: lists[0], Bits: lists[1:], Fine: flags%2 == 1, Old: flags == 2 || flags == 3, Held: flags == 4 || flags == 5, Last: last}
	if !okFlags || !okLast || len(b) > 0 || flags > 5 || !metaOkPlainly(m) {
		return impl.Meta{}, false
	}
	return m, true
}

// metaText tells two metas apart exactly where they are not alike.
func metaText(m impl.Meta) string {
	return fmt.Sprintf("%d %v %d %v %v %v %v %d", len(m.Gens), m.Gens, len(m.Bits), m.Bits, m.Fine, m.Old, m.Held, m.Last)
}

func alikeMetas(a impl.Meta, b impl.Meta) bool {
	flags := a.Fine == b.Fine && a.Old == b.Old && a.Held == b.Held
	return flags && a.Last == b.Last && slices.Equal(a.Gens, b.Gens) && slices.EqualFunc(a.Bits, b.Bits, slices.Equal[[]int])
}

func wantMetaOk(t *testing.T, m impl.Meta, want bool) {
	t.Helper()
	if impl.MetaOk(m) != want {
		t.Errorf("MetaOk of %v is %v", m, !want)
	}
}

func wantMetaOf(t *testing.T, b []byte, want impl.Meta) {
	t.Helper()
	if got, ok := impl.MetaOf(b); !ok || !alikeMetas(got, want) {
		t.Errorf("MetaOf of %v tells %v, %v, not %v", b, got, ok, want)
	}
}

func wantNoMetaOf(t *testing.T, why string, b []byte) {
	t.Helper()
	if got, ok := impl.MetaOf(b); ok || !alikeMetas(got, impl.Meta{}) {
		t.Errorf("%s: MetaOf of %v tells %v, %v", why, b, got, ok)
	}
}

func wantMetaOfPlainly(t *testing.T, b []byte) {
	t.Helper()
	if want, ok := metaOfPlainly(b); ok {
		wantMetaOf(t, b, want)
	} else {
		wantNoMetaOf(t, "no meta", b)
	}
}

func wantSame(t *testing.T, why string, a impl.Meta, b impl.Meta, want bool) {
	t.Helper()
	if impl.SameMeta(a, b) != want || impl.SameMeta(b, a) != want {
		t.Errorf("%s: SameMeta of %v and %v is %v, the other way round %v", why, a, b, impl.SameMeta(a, b), impl.SameMeta(b, a))
	}
}

func TestMetaOk(t *testing.T) {
	for _, m := range ordinaryMetas() {
		wantMetaOk(t, m, true)
	}
	for _, m := range wrongMetas() {
		wantMetaOk(t, m, false)
	}
}

// Each thing at each of its edges beside each of the others.
func TestMetaOkAtAllEdges(t *testing.T) {
	gens := [][]int{nil, {}, {0}, {1}, {mostGen}, {mostGen + 1}, {5, 5}, gensFrom(1, mostGens), gensFrom(1, mostGens+1)}
	lasts := append([]int{-1, 0, 1, 200, 201}, farNumbers...)
	var bits [][][]int
	for count := range 5 {
		for _, marks := range [][]int{nil, {}, {0}, {7}, {-1}, {8}, {3, 3}, {2, 1}, {1, 2}} {
			bits = append(bits, slices.Repeat([][]int{marks}, count))
		}
	}
	for _, g := range gens {
		for _, b := range bits {
			for _, last := range lasts {
				for flags := range 8 {
					m := metaWith(flags)
					m.Gens, m.Bits, m.Last = g, b, last
					wantMetaOk(t, m, metaOkPlainly(m))
				}
			}
		}
	}
}

func TestMetaOkOfFlags(t *testing.T) {
	for flags, want := range []bool{true, true, true, true, true, true, false, false} {
		wantMetaOk(t, metaWith(flags), want)
	}
}

// A wrong one of the Bits is found wherever it stands, also beside one that is right.
func TestMetaOkOfBits(t *testing.T) {
	all := slices.Concat(goodMarks, badMarks)
	for _, one := range all {
		for _, two := range all {
			for _, three := range all {
				m := metaWith(1)
				m.Bits = [][]int{one, two, three}
				wantMetaOk(t, m, marksAreGood(one) && marksAreGood(two) && marksAreGood(three))
			}
		}
	}
}

func TestMetaOkLooksAtNoSpareRoom(t *testing.T) {
	m := metaWith(1)
	m.Gens = gensFrom(1, mostGens+1)[:mostGens]
	m.Bits = [][]int{[]int{1, 1}[:1], []int{8}[:0], {}, {8}}[:bitsCount]
	wantMetaOk(t, m, true)
	wantMetaOf(t, impl.MetaBytes(m), m)
	m.Gens = m.Gens[:0]
	wantMetaOk(t, m, false)
	m = metaWith(1)
	m.Bits = m.Bits[:2]
	wantMetaOk(t, m, false)
}

func TestMetaNew(t *testing.T) {
	for _, gen := range []int{1, 2, 3, 127, 128, mostGen - 1, mostGen} {
		m := impl.MetaNew(gen)
		if !alikeMetas(m, impl.Meta{Gens: []int{gen}, Bits: [][]int{{}, {}, {}}, Fine: true}) {
			t.Errorf("MetaNew of %d tells %v", gen, m)
		}
		wantMetaOk(t, m, true)
		wantBytes(t, "MetaBytes of MetaNew", impl.MetaBytes(m), joined([]byte{1}, numPlainly(gen), []byte{0, 0, 0, 1, 0}))
		wantMetaOf(t, impl.MetaBytes(m), m)
	}
	for _, gen := range append([]int{0, -1, mostGen + 1, -mostGen, 1<<32 + 1}, farNumbers...) {
		want := gen >= 1 && gen <= mostGen
		m := impl.MetaNew(gen)
		wantMetaOk(t, m, want)
		if !want && !alikeMetas(m, impl.Meta{}) {
			t.Errorf("MetaNew of %d tells %v", gen, m)
		}
	}
}

func TestMetaBytes(t *testing.T) {
	for _, c := range []struct {
		m    impl.Meta
		want []byte
	}{
		{impl.MetaNew(3), []byte{1, 3, 0, 0, 0, 1, 0}},
		{metaWith(0), []byte{3, 172, 2, 2, 1, 2, 0, 7, 0, 3, 2, 3, 5, 0, 9}},
		{metaWith(1), []byte{3, 172, 2, 2, 1, 2, 0, 7, 0, 3, 2, 3, 5, 1, 9}},
		{metaWith(2), []byte{3, 172, 2, 2, 1, 2, 0, 7, 0, 3, 2, 3, 5, 2, 9}},
		{metaWith(3), []byte{3, 172, 2, 2, 1, 2, 0, 7, 0, 3, 2, 3, 5, 3, 9}},
		{metaWith(4), []byte{3, 172, 2, 2, 1, 2, 0, 7, 0, 3, 2, 3, 5, 4, 9}},
		{metaWith(5), []byte{3, 172, 2, 2, 1, 2, 0, 7, 0, 3, 2, 3, 5, 5, 9}},
		{impl.Meta{Gens: []int{100000, 1}, Bits: [][]int{{0, 1, 2, 3, 4, 5, 6, 7}, nil, {6}}, Held: true, Last: 200}, []byte{2, 160, 141, 6, 1, 8, 0, 1, 2, 3, 4, 5, 6, 7, 0, 1, 6, 4, 200, 1}},
		{impl.Meta{Gens: gensFrom(1, 12), Bits: [][]int{{}, {0}, {}}, Old: true, Last: 127}, []byte{12, 1, 2, 3, 4, 5, 6, 7, 8, 9, 10, 11, 12, 0, 1, 0, 0, 2, 127}},
	} {
		wantBytes(t, "MetaBytes", impl.MetaBytes(c.m), c.want)
		wantBytes(t, "the plain bytes", metaPlainly(c.m), c.want)
		wantMetaOf(t, c.want, c.m)
	}
}

func TestMetaBytesOfMany(t *testing.T) {
	for _, m := range ordinaryMetas() {
		wantBytes(t, "MetaBytes", impl.MetaBytes(m), metaPlainly(m))
	}
	for _, m := range wrongMetas() {
		wantBytes(t, "MetaBytes of what is no meta", impl.MetaBytes(m), nil)
	}
}

func TestMetaOfWhatIsNone(t *testing.T) {
	wantNoMetaOf(t, "nil", nil)
	wantNoMetaOf(t, "nothing", []byte{})
	for _, m := range wrongMetas() {
		lists := append(slices.Clone(m.Bits), m.Gens, []int{m.Last})
		least, most := slices.Min(slices.Concat(lists...)), slices.Max(slices.Concat(lists...))
		if least >= 0 && most <= greatestNum {
			wantNoMetaOf(t, "what is no meta, as bytes", metaPlainly(m))
		}
	}
}

func TestMetaOfWhatIsCutShort(t *testing.T) {
	for _, m := range ordinaryMetas() {
		b := metaPlainly(m)
		for size := range b {
			wantNoMetaOf(t, "cut short", b[:size])
			wantNoMetaOf(t, "cut short in new memory", bytes.Clone(b[:size]))
			wantMetaOfPlainly(t, b[size:])
		}
	}
}

func TestMetaOfWithBytesBehind(t *testing.T) {
	for _, m := range ordinaryMetas() {
		b := metaPlainly(m)
		for c := range 256 {
			wantNoMetaOf(t, "a byte behind", joined(b, []byte{byte(c)}))
		}
		wantNoMetaOf(t, "twice", joined(b, b))
		wantNoMetaOf(t, "many behind", joined(b, many(0, 200)))
	}
}

func TestMetaOfWithEachFlags(t *testing.T) {
	for _, m := range []impl.Meta{impl.MetaNew(3), metaWith(0), {Gens: gensFrom(7, 12), Bits: [][]int{{1}, {2}, {3}}, Last: 5}} {
		whole := metaPlainly(m)
		ahead, last := whole[:len(whole)-2], whole[len(whole)-1:]
		for flags := range 6 {
			m.Fine, m.Old, m.Held = flags%2 == 1, flags/2 == 1, flags/2 == 2
			wantMetaOf(t, joined(ahead, []byte{byte(flags)}, last), m)
		}
		wantNoMetaOf(t, "both Old and Held", joined(ahead, []byte{6}, last))
		wantNoMetaOf(t, "Fine, and both Old and Held", joined(ahead, []byte{7}, last))
		for flags := 8; flags < 1000; flags++ {
			wantNoMetaOf(t, "flags that are none", joined(ahead, numPlainly(flags), last))
		}
		for bit := 3; bit < 31; bit++ {
			wantNoMetaOf(t, "a flag that is none beside Fine", joined(ahead, numsPlainly(1<<bit+1), last))
		}
		for flags := range 128 {
			wantNoMetaOf(t, "flags in two bytes", joined(ahead, []byte{byte(flags + 128), 0}, last))
		}
	}
}

// A byte 0 more behind each number, which is then not the shortest one.
func TestMetaOfWithALongerNumber(t *testing.T) {
	for _, m := range ordinaryMetas() {
		b := metaPlainly(m)
		for at, c := range b {
			if c < 128 {
				wantNoMetaOf(t, "a longer number", joined(b[:at], []byte{c + 128, 0}, b[at+1:]))
				wantNoMetaOf(t, "a far longer number", joined(b[:at], []byte{c + 128, 128, 0}, b[at+1:]))
			}
		}
	}
}

func TestMetaOfWithAnotherCount(t *testing.T) {
	for _, count := range []int{4, 13, 127, 128, 100000, 1 << 30, greatestNum} {
		n := numsPlainly(count)
		for why, b := range map[string][]byte{
			"more Gens than follow":               joined(n, []byte{3, 2, 1}),
			"more Gens than follow, all there is": joined(n, []byte{3, 2, 0, 0}),
			"more marks than follow":              joined([]byte{1, 3}, n, []byte{0, 0, 1, 0}),
			"more second marks than follow":       joined([]byte{1, 3, 0}, n, []byte{0, 1, 0}),
			"more third marks than follow":        joined([]byte{1, 3, 0, 0}, n, []byte{1, 0}),
			"a count alone":                       n,
		} {
			wantNoMetaOf(t, why, b)
		}
	}
	for why, b := range map[string][]byte{
		"no Gens":                    {0, 0, 0, 0, 1, 0},
		"fewer Gens than there are":  {1, 3, 2, 0, 0, 0, 1, 0},
		"no flags and no Last":       {1, 3, 0, 0, 0},
		"no Last":                    {1, 3, 0, 0, 0, 1},
		"two Bits":                   {1, 3, 0, 0, 1, 0},
		"four Bits":                  {1, 3, 0, 0, 0, 0, 1, 0},
		"marks up to the end":        {1, 3, 0, 0, 2, 1, 2},
		"marks up to one of the end": {1, 3, 0, 0, 1, 1, 2},
		"Last above all":             {1, 3, 0, 0, 0, 1, 201, 1},
		"Last that is no number":     {1, 3, 0, 0, 0, 1, 255, 255, 255, 255, 8},
		"Last without its end":       {1, 3, 0, 0, 0, 1, 200},
		"a mark that is no cell":     {1, 3, 1, 8, 0, 0, 1, 0},
		"marks not in order":         {1, 3, 2, 2, 1, 0, 0, 1, 0},
		"a mark twice":               {1, 3, 2, 1, 1, 0, 0, 1, 0},
		"a generation 0":             {1, 0, 0, 0, 0, 1, 0},
		"a generation twice":         {2, 3, 3, 0, 0, 0, 1, 0},
		"a generation above all":     {1, 161, 141, 6, 0, 0, 0, 1, 0},
		"a generation too many":      {13, 1, 2, 3, 4, 5, 6, 7, 8, 9, 10, 11, 12, 13, 0, 0, 0, 1, 0},
	} {
		wantNoMetaOf(t, why, b)
	}
}

func TestMetaOfManyBytes(t *testing.T) {
	for _, c := range []byte{0, 1, 8, 12, 127, 128, 255} {
		wantNoMetaOf(t, "one byte only", many(c, 100000))
		wantNoMetaOf(t, "one byte only, with a great count", joined(numsPlainly(99000), many(c, 100000)))
	}
}

// Another byte at a place may make another meta of it: then it is that one.
func TestMetaOfWithOneOtherByte(t *testing.T) {
	others := 0
	for _, m := range ordinaryMetas() {
		b := metaPlainly(m)
		for at := range b {
			other := bytes.Clone(b)
			for c := range 256 {
				other[at] = byte(c)
				wantMetaOfPlainly(t, other)
				if got, ok := impl.MetaOf(other); ok && byte(c) != b[at] {
					others++
					wantSame(t, "another byte", got, m, false)
				}
			}
		}
	}
	if others == 0 {
		t.Error("no other byte tells another meta")
	}
}

func TestMetaOfWithAByteLessOrMore(t *testing.T) {
	for _, m := range ordinaryMetas() {
		b := metaPlainly(m)
		for at := range b {
			wantMetaOfPlainly(t, slices.Delete(bytes.Clone(b), at, at+1))
			for _, c := range []byte{0, 1, 5, 127, 128, 255} {
				wantMetaOfPlainly(t, slices.Insert(bytes.Clone(b), at, c))
			}
		}
	}
}

// All short bytes that are made of a few bytes.
func TestMetaOfAllShortBytes(t *testing.T) {
	signs := []byte{0, 1, 2, 8, 128}
	whole := 0
	for size := range 9 {
		count := 1
		for range size {
			count *= len(signs)
		}
		for i := range count {
			b := make([]byte, size)
			for at, rest := 0, i; at < size; at, rest = at+1, rest/len(signs) {
				b[at] = signs[rest%len(signs)]
			}
			want, ok := metaOfPlainly(b)
			got, is := impl.MetaOf(b)
			if is != ok || !impl.SameMeta(got, want) {
				t.Fatalf("MetaOf of %v tells %v, %v, not %v, %v", b, got, is, want, ok)
			}
			if is {
				whole++
			}
		}
	}
	if whole < 50 {
		t.Errorf("only %d of them are metas", whole)
	}
}

func TestSameMetaOfWhatIsAlike(t *testing.T) {
	for _, m := range append(ordinaryMetas(), wrongMetas()...) {
		wantSame(t, "itself", m, m, true)
		wantSame(t, "a copy", m, cloneMeta(m), true)
	}
}

// Each turn changes one thing of the meta.
func TestSameMetaOfWhatDiffers(t *testing.T) {
	was := metaWith(1)
	for why, turn := range map[string]func(m *impl.Meta){
		"Fine":                     func(m *impl.Meta) { m.Fine = !m.Fine },
		"Old":                      func(m *impl.Meta) { m.Old = !m.Old },
		"Held":                     func(m *impl.Meta) { m.Held = !m.Held },
		"Last":                     func(m *impl.Meta) { m.Last++ },
		"Last far off":             func(m *impl.Meta) { m.Last += 1 << 32 },
		"the first generation":     func(m *impl.Meta) { m.Gens[0]++ },
		"the last generation":      func(m *impl.Meta) { m.Gens[2] = 7 },
		"a generation less":        func(m *impl.Meta) { m.Gens = m.Gens[:2] },
		"a generation less ahead":  func(m *impl.Meta) { m.Gens = m.Gens[1:] },
		"a generation more":        func(m *impl.Meta) { m.Gens = append(m.Gens, 9) },
		"a generation 0 more":      func(m *impl.Meta) { m.Gens = append(m.Gens, 0) },
		"no generations":           func(m *impl.Meta) { m.Gens = nil },
		"the generations' order":   func(m *impl.Meta) { slices.Reverse(m.Gens) },
		"one of the first marks":   func(m *impl.Meta) { m.Bits[0][1] = 6 },
		"a first mark less":        func(m *impl.Meta) { m.Bits[0] = m.Bits[0][:1] },
		"a second mark":            func(m *impl.Meta) { m.Bits[1] = []int{0} },
		"one of the third marks":   func(m *impl.Meta) { m.Bits[2][2] = 6 },
		"a third mark more":        func(m *impl.Meta) { m.Bits[2] = append(m.Bits[2], 6) },
		"no third marks":           func(m *impl.Meta) { m.Bits[2] = nil },
		"the marks' order":         func(m *impl.Meta) { slices.Reverse(m.Bits[2]) },
		"the Bits' order":          func(m *impl.Meta) { slices.Reverse(m.Bits) },
		"a mark in another list":   func(m *impl.Meta) { m.Bits[0], m.Bits[1] = m.Bits[0][:1], m.Bits[0][1:] },
		"Bits less":                func(m *impl.Meta) { m.Bits = m.Bits[:2] },
		"empty Bits more":          func(m *impl.Meta) { m.Bits = append(m.Bits, nil) },
		"no Bits":                  func(m *impl.Meta) { m.Bits = nil },
		"a generation for a mark":  func(m *impl.Meta) { m.Gens, m.Bits[0] = m.Bits[0], m.Gens },
		"Fine and Held turn about": func(m *impl.Meta) { m.Fine, m.Held = m.Held, m.Fine },
	} {
		other := cloneMeta(was)
		turn(&other)
		wantSame(t, why, was, other, false)
		wantSame(t, why+", against nothing", impl.Meta{}, other, false)
	}
	for flags := range 8 {
		for against := range 8 {
			wantSame(t, "flags", metaWith(flags), metaWith(against), flags == against)
		}
	}
}

// A list that is nil is as one that is empty; how many lists there are counts, though each is empty.
func TestSameMetaOfNilAndEmpty(t *testing.T) {
	wantSame(t, "no lists", impl.Meta{}, impl.Meta{Gens: []int{}, Bits: [][]int{}}, true)
	wantSame(t, "no marks", impl.Meta{Gens: []int{1}, Bits: [][]int{nil, {}, nil}}, impl.Meta{Gens: []int{1}, Bits: [][]int{{}, nil, {}}}, true)
	wantSame(t, "no marks in a new one", impl.MetaNew(1), impl.Meta{Gens: []int{1}, Bits: [][]int{{}, {}, {}}, Fine: true}, true)
	wantSame(t, "one of the Bits, empty", impl.Meta{Bits: [][]int{nil}}, impl.Meta{}, false)
	wantSame(t, "two of the Bits, empty", impl.Meta{Bits: [][]int{nil, nil}}, impl.Meta{Bits: [][]int{{}}}, false)
	wantSame(t, "three of the Bits, empty", impl.Meta{Bits: make([][]int, 3)}, impl.Meta{Bits: nil}, false)
	wantBytes(t, "MetaBytes of empty lists", impl.MetaBytes(impl.Meta{Gens: []int{1}, Bits: [][]int{{}, nil, {}}}), []byte{1, 1, 0, 0, 0, 0, 0})
}

func TestSameMetaLooksAtNoSpareRoom(t *testing.T) {
	one, other := metaWith(1), metaWith(1)
	one.Gens = append(one.Gens, 8)[:3]
	other.Gens = append(other.Gens, 9)[:3]
	one.Bits = append(one.Bits, []int{1})[:3]
	other.Bits[0] = append(other.Bits[0], 9)[:2]
	wantSame(t, "other spare room", one, other, true)
}

func TestSameMetaOfEachTwo(t *testing.T) {
	list := append(ordinaryMetas(), wrongMetas()...)
	for _, a := range list {
		text := metaText(a)
		for _, b := range list {
			if impl.SameMeta(a, b) != (text == metaText(b)) {
				t.Fatalf("SameMeta of %v and %v is %v", a, b, impl.SameMeta(a, b))
			}
		}
	}
}

// mixedMetas are metas by chance, all of them as they should be.
func mixedMetas(seed int64, count int) []impl.Meta {
	source := rand.New(rand.NewSource(seed))
	var list []impl.Meta
	for range count {
		m := metaWith(source.Intn(6))
		m.Gens, m.Bits = nil, make([][]int, bitsCount)
		most := []int{20, 200, 20000, mostGen}[source.Intn(4)]
		for _, n := range source.Perm(most)[:1+source.Intn(mostGens)] {
			m.Gens = append(m.Gens, n+1)
		}
		for id := range m.Bits {
			for at := range cellCount {
				if source.Intn(2) == 0 {
					m.Bits[id] = append(m.Bits[id], at)
				}
			}
		}
		m.Last = source.Intn(mostWrites + 1)
		list = append(list, m)
	}
	return list
}

func TestAMetaIsReadAsItWas(t *testing.T) {
	for _, m := range append(ordinaryMetas(), mixedMetas(51, 800)...) {
		wantMetaOk(t, m, true)
		wantBytes(t, "MetaBytes", impl.MetaBytes(m), metaPlainly(m))
		wantMetaOf(t, impl.MetaBytes(m), m)
		got, ok := impl.MetaOf(impl.MetaBytes(m))
		if !ok || !impl.SameMeta(got, m) || !impl.MetaOk(got) {
			t.Errorf("%v is read as %v", m, got)
		}
		wantBytes(t, "MetaBytes of what is read", impl.MetaBytes(got), impl.MetaBytes(m))
	}
}

func TestMetaOfBytesByChance(t *testing.T) {
	source := rand.New(rand.NewSource(52))
	for _, m := range mixedMetas(53, 300) {
		b := metaPlainly(m)
		for range 20 {
			other := bytes.Clone(b)
			for range 1 + source.Intn(3) {
				other[source.Intn(len(other))] = byte(source.Intn(13))
			}
			wantMetaOfPlainly(t, other)
		}
	}
}

// metaInRoom lays each list of a meta into a longer one, and tells all of these.
func metaInRoom(m impl.Meta) (impl.Meta, [][]int, [][]int) {
	var rooms [][]int
	room, gens := inRoom(m.Gens)
	rooms = append(rooms, room)
	outer := [][]int{{91}}
	for _, marks := range m.Bits {
		room, given := inRoom(marks)
		rooms = append(rooms, room)
		outer = append(outer, given)
	}
	outer = append(outer, []int{92}, []int{93}, []int{94})
	m.Gens, m.Bits = gens, outer[1:1+len(m.Bits)]
	return m, rooms, outer
}

func spoilMeta(m impl.Meta) {
	spoilNumbers(m.Gens)
	whole := m.Bits[:cap(m.Bits)]
	for id := range whole {
		spoilNumbers(whole[id])
		whole[id] = []int{99}
	}
}

func TestMetaWritesIntoNoMeta(t *testing.T) {
	for _, m := range append(ordinaryMetas(), wrongMetas()...) {
		given, rooms, outer := metaInRoom(m)
		was := fmt.Sprint(rooms, outer)
		impl.MetaOk(given)
		impl.SameMeta(given, given)
		impl.SameMeta(given, m)
		impl.SameMeta(m, given)
		spoilBytes(impl.MetaBytes(given))
		if now := fmt.Sprint(rooms, outer); now != was {
			t.Errorf("%s was changed to %s", was, now)
		}
	}
}

func TestMetaWritesIntoNoBytes(t *testing.T) {
	lists := [][]byte{nil, {}, {1}, {128}, many(0, 40), many(255, 40)}
	for _, m := range append(ordinaryMetas(), mixedMetas(54, 100)...) {
		b := metaPlainly(m)
		lists = append(lists, b, b[:len(b)-1], joined(b, []byte{0}), joined(b, b))
	}
	for _, b := range lists {
		room := joined([]byte{77, 78}, b, []byte{79, 80, 81, 82, 83, 84})
		was := bytes.Clone(room)
		got, _ := impl.MetaOf(room[2 : 2+len(b)])
		spoilMeta(got)
		if !bytes.Equal(room, was) {
			t.Errorf("%v was changed to %v", was, room)
		}
	}
}

func TestMetaOfLooksAtNoSpareRoom(t *testing.T) {
	b := metaPlainly(metaWith(1))
	for size := range b {
		wantNoMetaOf(t, "the rest is in the spare room", b[:size])
	}
	wantMetaOf(t, joined(b, b)[:len(b)], metaWith(1))
}

func listsOf(m impl.Meta) [][]int { return append([][]int{m.Gens}, m.Bits...) }

// Whatever is done to one list of an answer, the others stay, as does a second answer.
func TestMetaTellsNewMemory(t *testing.T) {
	for _, m := range append(ordinaryMetas(), mixedMetas(55, 100)...) {
		b := metaPlainly(m)
		want := listsOf(m)
		for i := range want {
			got, _ := impl.MetaOf(b)
			lists := listsOf(got)
			spoilNumbers(append(lists[i], 5555))
			spoilNumbers(lists[i])
			for k := range lists {
				if k != i && !slices.Equal(lists[k], want[k]) {
					t.Errorf("list %d of %v shares memory with list %d", i, m, k)
				}
			}
		}
		one, _ := impl.MetaOf(b)
		two, _ := impl.MetaOf(b)
		spoilMeta(one)
		if !alikeMetas(two, m) {
			t.Errorf("what is read twice shares memory: %v", two)
		}
		spoilBytes(b)
		if !alikeMetas(two, m) {
			t.Errorf("what is read shares memory with its bytes: %v", two)
		}
		again := impl.MetaBytes(m)
		spoilBytes(impl.MetaBytes(m))
		wantBytes(t, "MetaBytes twice", again, metaPlainly(m))
	}
	one, two := impl.MetaNew(3), impl.MetaNew(3)
	spoilMeta(one)
	if !alikeMetas(two, impl.Meta{Gens: []int{3}, Bits: make([][]int, 3), Fine: true}) {
		t.Errorf("what is made twice shares memory: %v", two)
	}
}
