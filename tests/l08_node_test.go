package tests

import (
	"fmt"
	"math/rand"
	"reflect"
	"slices"
	"strings"
	"testing"

	"loop.example/g00399/impl"
)

const nodeCount = 3

// nodeIds are all nodes, and such as are none.
var nodeIds = append([]int{0, 1, 2, -1, -2, 3, 4}, farNumbers...)

// cellPlaces are all cells, and such as are none.
var cellPlaces = append([]int{0, 1, 2, 3, 4, 5, 6, 7, 8, 9}, farPlaces...)

// writeNumbers are writes, 0, and such as are none.
var writeNumbers = append([]int{0, 1, 2, 9, 17, 127, 128, 199, 200, -1, -200, 201, 202}, farNumbers...)

// newPlainly is a node that is new, told by hand.
func newPlainly(id int) impl.Node {
	known := impl.Meta{Gens: []int{1}, Bits: [][]int{{}, {}, {}}, Fine: true}
	return impl.Node{
		Id:     id,
		Up:     true,
		Image:  eightOf(0),
		Meta:   known,
		Slots:  impl.Slots{A: slotPlainly(known, 1)},
		Conn:   []bool{false, false, false},
		Sync:   [][]int{{}, {}, {}},
		Copies: []bool{false, false, false},
	}
}

// knowing is a new node that knows m, with that number in A.
func knowing(id int, m impl.Meta, seq int) impl.Node {
	n := newPlainly(id)
	n.Meta = cloneMeta(m)
	n.Slots = impl.Slots{A: slotPlainly(m, seq), B: slotPlainly(impl.MetaNew(50), seq-1)}
	n.Image = []int{4, 9, 200, 0, 17, 1, 199, 3}
	return n
}

// busy is a node that hears both others, copies to both, and waits.
func busy(id int) impl.Node {
	n := knowing(id, metaWith(1), 6)
	for other := range nodeCount {
		if other != id {
			n.Conn[other], n.Copies[other], n.Sync[other] = true, true, []int{other, 4}
		}
	}
	n.Wait = []int{1, 9, 200}
	n.Prime = id < 2
	return n
}

// down is a node that knows what busy knows, but does not run.
func down(id int) impl.Node {
	n := knowing(id, metaWith(1), 6)
	n.Up = false
	return n
}

// slotsThatTell are slots of each kind that tell m.
func slotsThatTell(m impl.Meta) []impl.Slots {
	other := impl.MetaNew(50)
	list := []impl.Slots{
		{A: slotPlainly(m, 1)},
		{B: slotPlainly(m, 1)},
		{A: slotPlainly(m, 8), B: slotPlainly(other, 7)},
		{A: slotPlainly(other, 8), B: slotPlainly(m, 9)},
		{A: slotPlainly(m, 8), B: slotPlainly(other, 8)},
		{A: slotPlainly(m, mostSeq-1), B: slotPlainly(other, 3)},
		{A: slotPlainly(other, 3), B: slotPlainly(m, mostSeq)},
		{A: slotPlainly(m, mostSeq), B: slotPlainly(m, mostSeq)},
	}
	for _, none := range append(shortOrLong(), tornSlots()...) {
		list = append(list, impl.Slots{A: none, B: slotPlainly(m, 300)}, impl.Slots{A: slotPlainly(m, 300), B: none})
	}
	return list
}

// goodNodes are nodes of each kind that are as they should be.
func goodNodes() []impl.Node {
	var list []impl.Node
	for id := range nodeCount {
		list = append(list, newPlainly(id), knowing(id, metaWith(0), 6), busy(id), down(id))
		for turn := range 5 {
			n := busy(id)
			switch turn {
			case 0:
				n.Prime = false
			case 1:
				n.Sync = [][]int{nil, nil, nil}
			case 2:
				n.Copies, n.Sync = make([]bool, nodeCount), make([][]int, nodeCount)
			case 3:
				n.Wait = nil
			case 4:
				n.Image = eightOf(200)
			}
			list = append(list, n)
		}
		for i, m := range ordinaryMetas() {
			if i%7 == id {
				list = append(list, knowing(id, m, 6))
			}
		}
		for _, slots := range slotsThatTell(metaWith(3)) {
			n := knowing(id, metaWith(3), 6)
			n.Slots = slots
			list = append(list, n)
		}
	}
	return each(list, cloneNode)
}

type wrongNode struct {
	why  string
	node impl.Node
}

// wrongNodes are each wrong in one thing alone, but for the first one.
func wrongNodes() []wrongNode {
	list := []wrongNode{{"nothing", impl.Node{}}, {"an id alone", impl.Node{Id: 1, Up: true}}}
	for id := range nodeCount {
		list = slices.Concat(list, wrongInThemselves(id), wrongInWhatTheyKnow(id), wrongInLines(id), wrongWhileDown(id))
	}
	for i := range list {
		list[i].node = cloneNode(list[i].node)
	}
	return list
}

// turned are a new node and a busy one, each turned into a wrong one.
func turned(id int, why string, turn func(n *impl.Node)) []wrongNode {
	var list []wrongNode
	for _, n := range []impl.Node{newPlainly(id), busy(id)} {
		turn(&n)
		list = append(list, wrongNode{why, n})
	}
	return list
}

func wrongInThemselves(id int) []wrongNode {
	var list []wrongNode
	add := func(why string, turn func(n *impl.Node)) { list = append(list, turned(id, why, turn)...) }
	for _, image := range [][]int{nil, {}, {1, 2, 3, 4, 5, 6, 7}, {1, 2, 3, 4, 5, 6, 7, 8, 9}, eightOf(-1), eightOf(201)} {
		add("an image that is none", func(n *impl.Node) { n.Image = image })
	}
	for at := range cellCount {
		add("a cell above all", func(n *impl.Node) { n.Image[at] = 201 })
		add("a cell below all", func(n *impl.Node) { n.Image[at] = -1 })
	}
	for _, wait := range [][]int{{2, 1}, {1, 3, 2}, {3, 1, 2}, {5, 5}, {1, 2, 2}, {7, 7, 9}, {0}, {0, 1}, {-1}, {-1, 5}, {201}, {1, 201}, {200, 201}, {1 << 62}, {-1 << 62}} {
		add("a wait that is none", func(n *impl.Node) { n.Wait = wait })
	}
	for _, other := range append([]int{-1, 3}, farNumbers...) {
		n := newPlainly(other)
		list = append(list, wrongNode{"an id that is none", n})
	}
	if id == 2 {
		n := newPlainly(id)
		n.Prime = true
		list = append(list, wrongNode{"the one far away is prime", n})
		n = busy(id)
		n.Prime = true
		list = append(list, wrongNode{"the one far away is prime", n})
	}
	return list
}

func wrongInWhatTheyKnow(id int) []wrongNode {
	var list []wrongNode
	add := func(why string, m impl.Meta, s impl.Slots) {
		for _, n := range []impl.Node{newPlainly(id), busy(id), down(id)} {
			n.Meta, n.Slots = m, s
			list = append(list, wrongNode{why, n})
		}
	}
	for i, m := range wrongMetas() {
		if i%5 != id {
			continue
		}
		add("a meta that is none", m, impl.Slots{A: slotPlainly(metaWith(1), 3)})
		lists := append(slices.Clone(m.Bits), m.Gens, []int{m.Last})
		all := slices.Concat(lists...)
		if slices.Min(all) >= 0 && slices.Max(all) <= greatestNum && len(metaPlainly(m)) <= endPlace-metaPlace {
			add("a meta that is none, in its slots, too", m, impl.Slots{A: slotPlainly(m, 3)})
		}
	}
	for _, none := range append(shortOrLong(), tornSlots()...) {
		add("slots that tell none", metaWith(1), impl.Slots{A: none, B: none})
		add("slots that tell none", impl.MetaNew(1), impl.Slots{A: none})
	}
	for _, other := range othersThan(metaWith(1)) {
		add("slots that tell another meta", metaWith(1), impl.Slots{B: slotPlainly(other, 3)})
		add("slots that tell another meta last", metaWith(1), impl.Slots{A: slotPlainly(metaWith(1), 3), B: slotPlainly(other, 4)})
		add("alike numbers, another meta in A", metaWith(1), impl.Slots{A: slotPlainly(other, 4), B: slotPlainly(metaWith(1), 4)})
	}
	return list
}

// othersThan are metas that are not as m in one thing alone.
func othersThan(m impl.Meta) []impl.Meta {
	var list []impl.Meta
	for turn := range 9 {
		other := cloneMeta(m)
		switch turn {
		case 0:
			other.Gens[0]++
		case 1:
			other.Gens = other.Gens[:1]
		case 2, 3, 4:
			other.Bits[turn-2] = []int{6}
		case 5:
			other.Fine = !m.Fine
		case 6:
			other.Old = !m.Old
		case 7:
			other.Held = !m.Held
		case 8:
			other.Last++
		}
		list = append(list, other)
	}
	return list
}

func wrongInLines(id int) []wrongNode {
	var list []wrongNode
	add := func(why string, turn func(n *impl.Node)) { list = append(list, turned(id, why, turn)...) }
	for _, count := range []int{0, 1, 2, 4, 5, 40} {
		add("another count of Conn", func(n *impl.Node) { n.Conn = firstOf(n.Conn, count) })
		add("another count of Copies", func(n *impl.Node) { n.Copies = firstOf(n.Copies, count) })
		add("another count of Sync", func(n *impl.Node) { n.Sync = firstOf(n.Sync, count) })
	}
	add("no Conn", func(n *impl.Node) { n.Conn = nil })
	add("no Copies", func(n *impl.Node) { n.Copies = nil })
	add("no Sync", func(n *impl.Node) { n.Sync = nil })
	add("Conn for itself", func(n *impl.Node) { n.Conn[id] = true })
	add("Copies for itself", func(n *impl.Node) { n.Copies[id] = true })
	add("Sync for itself", func(n *impl.Node) { n.Sync[id] = []int{3} })
	add("Conn and Copies for itself", func(n *impl.Node) { n.Conn[id], n.Copies[id] = true, true })
	add("all for itself", func(n *impl.Node) { n.Conn[id], n.Copies[id], n.Sync[id] = true, true, []int{3} })
	for other := range nodeCount {
		if other == id {
			continue
		}
		for _, marks := range badMarks {
			add("a Sync that is none", func(n *impl.Node) { n.Conn[other], n.Copies[other], n.Sync[other] = true, true, marks })
		}
		add("Sync without Copies", func(n *impl.Node) { n.Conn[other], n.Copies[other], n.Sync[other] = true, false, []int{3} })
		add("Copies without Conn", func(n *impl.Node) { n.Conn[other], n.Copies[other], n.Sync[other] = false, true, nil })
		add("Copies and Sync without Conn", func(n *impl.Node) { n.Conn[other], n.Copies[other], n.Sync[other] = false, true, []int{3} })
		add("Sync alone", func(n *impl.Node) { n.Conn[other], n.Copies[other], n.Sync[other] = false, false, []int{3} })
	}
	return list
}

func wrongWhileDown(id int) []wrongNode {
	var list []wrongNode
	add := func(why string, turn func(n *impl.Node)) {
		n := down(id)
		turn(&n)
		list = append(list, wrongNode{why + " while down", n})
	}
	for other := range nodeCount {
		add("Conn", func(n *impl.Node) { n.Conn[other] = true })
		add("Copies", func(n *impl.Node) { n.Copies[other] = true })
		add("Sync", func(n *impl.Node) { n.Sync[other] = []int{3} })
		add("Conn and Copies", func(n *impl.Node) { n.Conn[other], n.Copies[other] = true, true })
		add("Conn, Copies and Sync", func(n *impl.Node) { n.Conn[other], n.Copies[other], n.Sync[other] = true, true, []int{3} })
	}
	for _, wait := range [][]int{{1}, {200}, {1, 2}, {0}} {
		add("Wait", func(n *impl.Node) { n.Wait = wait })
	}
	add("prime", func(n *impl.Node) { n.Prime = true })
	add("two of Conn", func(n *impl.Node) { n.Conn = n.Conn[:2] })
	add("no Conn at all", func(n *impl.Node) { n.Conn = nil })
	add("no Copies at all", func(n *impl.Node) { n.Copies = nil })
	add("no Sync at all", func(n *impl.Node) { n.Sync = nil })
	return list
}

// firstOf is that many of list, with zero values behind it.
func firstOf[T any](list []T, count int) []T {
	out := make([]T, count)
	copy(out, list)
	return out
}

func each[T any](list []T, turn func(one T) T) []T {
	var out []T
	for _, one := range list {
		out = append(out, turn(one))
	}
	return out
}

func cloneNode(n impl.Node) impl.Node {
	n.Image = slices.Clone(n.Image)
	n.Meta = cloneMeta(n.Meta)
	n.Slots = cloneSlots(n.Slots)
	n.Conn = slices.Clone(n.Conn)
	n.Sync = each(n.Sync, slices.Clone[[]int])
	n.Copies = slices.Clone(n.Copies)
	n.Wait = slices.Clone(n.Wait)
	return n
}

func alikeNodes(a impl.Node, b impl.Node) bool {
	flags := a.Id == b.Id && a.Up == b.Up && a.Prime == b.Prime
	cells := slices.Equal(a.Image, b.Image) && alikeMetas(a.Meta, b.Meta) && alikeSlots(a.Slots, b.Slots)
	lines := slices.Equal(a.Conn, b.Conn) && slices.EqualFunc(a.Sync, b.Sync, slices.Equal[[]int]) && slices.Equal(a.Copies, b.Copies)
	return flags && cells && lines && slices.Equal(a.Wait, b.Wait)
}

// nodeOkPlainly asks each thing by itself, in the order of the chapter.
func nodeOkPlainly(n impl.Node) bool {
	told, _, whole := getPlainly(n.Slots)
	if n.Id < 0 || n.Id > 2 || len(n.Image) != cellCount || !metaOkPlainly(n.Meta) || !whole || !alikeMetas(told, n.Meta) {
		return false
	}
	if slices.Min(n.Image) < 0 || slices.Max(n.Image) > mostWrites {
		return false
	}
	if len(n.Conn) != nodeCount || len(n.Sync) != nodeCount || len(n.Copies) != nodeCount {
		return false
	}
	for id := range nodeCount {
		some := n.Conn[id] || n.Copies[id] || len(n.Sync[id]) > 0
		if !marksAreGood(n.Sync[id]) || some && id == n.Id || some && !n.Up {
			return false
		}
		if len(n.Sync[id]) > 0 && !n.Copies[id] || n.Copies[id] && !n.Conn[id] {
			return false
		}
	}
	var wait []int
	for val := 1; val <= mostWrites; val++ {
		if slices.Contains(n.Wait, val) {
			wait = append(wait, val)
		}
	}
	if !slices.Equal(wait, n.Wait) || len(wait) > 0 && !n.Up {
		return false
	}
	return !n.Prime || n.Up && n.Id < 2
}

// keptPlainly is now with m in its slots, or was.
func keptPlainly(was impl.Node, now impl.Node, m impl.Meta) impl.Node {
	now.Meta, now.Slots = m, putPlainly(was.Slots, m)
	if !nodeOkPlainly(was) || !nodeOkPlainly(now) {
		return was
	}
	return now
}

func keepPlainly(n impl.Node, m impl.Meta) impl.Node { return keptPlainly(n, n, m) }

func fallPlainly(n impl.Node) impl.Node {
	if !nodeOkPlainly(n) {
		return n
	}
	return impl.Node{
		Id:     n.Id,
		Image:  n.Image,
		Meta:   n.Meta,
		Slots:  n.Slots,
		Conn:   []bool{false, false, false},
		Sync:   [][]int{{}, {}, {}},
		Copies: []bool{false, false, false},
	}
}

func risePlainly(n impl.Node) impl.Node {
	if !nodeOkPlainly(n) || n.Up {
		return n
	}
	n.Up = true
	n.Meta, _, _ = getPlainly(n.Slots)
	return n
}

func applyPlainly(n impl.Node, from int, at int, val int) impl.Node {
	if at < 0 || at >= cellCount || !nodeOkPlainly(n) {
		return n
	}
	now := cloneNode(n)
	now.Image[at], now.Meta.Last = val, val
	for id, marks := range now.Meta.Bits {
		if id == n.Id && id != from {
			continue
		}
		marks = withoutPlainly(marks, at)
		if id != n.Id && id != from {
			marks = append(marks, at)
			slices.Sort(marks)
		}
		now.Meta.Bits[id] = marks
	}
	return keptPlainly(n, now, now.Meta)
}

func knownPlainly(n impl.Node, who int, at int, val int) impl.Node {
	if who < 0 || who >= nodeCount || at < 0 || at >= cellCount || !nodeOkPlainly(n) || n.Image[at] != val {
		return n
	}
	m := cloneMeta(n.Meta)
	m.Bits[who] = withoutPlainly(m.Bits[who], at)
	return keptPlainly(n, n, m)
}

func wantNode(t *testing.T, what string, got impl.Node, want impl.Node) {
	t.Helper()
	if !alikeNodes(got, want) {
		t.Errorf("%s: %v, not %v", what, got, want)
	}
}

func wantNodeOk(t *testing.T, what string, n impl.Node, want bool) {
	t.Helper()
	if impl.NodeOk(n) != want {
		t.Errorf("%s: NodeOk of %v is %v", what, n, !want)
	}
}

func wantMarks(t *testing.T, what string, n impl.Node, want ...[]int) {
	t.Helper()
	if !slices.EqualFunc(n.Meta.Bits, want, slices.Equal[[]int]) {
		t.Errorf("%s: node %d marks %v, not %v", what, n.Id, n.Meta.Bits, want)
	}
}

// wantNumber asks for the number of the slot that is got.
func wantNumber(t *testing.T, what string, n impl.Node, want int) {
	t.Helper()
	if _, seq, ok := impl.SlotGet(n.Slots); !ok || seq != want {
		t.Errorf("%s: the slots have %d, %v, not %d", what, seq, ok, want)
	}
}

func TestMate(t *testing.T) {
	for _, id := range nodeIds {
		want := -1
		switch id {
		case 0:
			want = 1
		case 1:
			want = 0
		}
		if got := impl.Mate(id); got != want {
			t.Errorf("Mate of %d tells %d, not %d", id, got, want)
		}
	}
}

func TestNodeOk(t *testing.T) {
	for _, n := range goodNodes() {
		wantNodeOk(t, "a good one", n, true)
	}
	for _, wrong := range wrongNodes() {
		wantNodeOk(t, wrong.why, wrong.node, false)
	}
}

func TestNodeOkPlainly(t *testing.T) {
	for _, n := range goodNodes() {
		if !nodeOkPlainly(n) {
			t.Errorf("the plain form takes %v for none", n)
		}
	}
	for _, wrong := range wrongNodes() {
		if nodeOkPlainly(wrong.node) {
			t.Errorf("%s: the plain form takes %v for one", wrong.why, wrong.node)
		}
	}
}

func TestNodeOkOfIds(t *testing.T) {
	for _, id := range nodeIds {
		for _, up := range []bool{true, false} {
			n := newPlainly(id)
			n.Up = up
			wantNodeOk(t, "of each id", n, id >= 0 && id <= 2)
			n.Prime = true
			wantNodeOk(t, "of each id, prime", n, up && (id == 0 || id == 1))
		}
	}
}

func TestNodeOkOfWait(t *testing.T) {
	for id := range nodeCount {
		for _, wait := range [][]int{nil, {}, {1}, {200}, {1, 200}, {3, 4, 5}, gensFrom(1, mostWrites)} {
			n := newPlainly(id)
			n.Wait = wait
			wantNodeOk(t, "a wait that ascends", n, true)
		}
		for _, val := range writeNumbers {
			n := newPlainly(id)
			n.Wait = []int{val}
			wantNodeOk(t, "one that waits", n, val >= 1 && val <= mostWrites)
		}
		n := newPlainly(id)
		n.Wait = gensFrom(1, mostWrites+1)
		wantNodeOk(t, "too many that wait", n, false)
	}
}

// Whatever is so of running, leading and lines beside each other: no more and no less is right.
func TestNodeOkOfAllLines(t *testing.T) {
	for bits := range 1 << 12 {
		is := func(bit int) bool { return bits>>bit&1 == 1 }
		for id := range nodeCount {
			n := newPlainly(id)
			n.Up, n.Prime = is(0), is(1)
			if is(2) {
				n.Wait = []int{5}
			}
			for other := range nodeCount {
				n.Conn[other], n.Copies[other] = is(3+other), is(6+other)
				if is(9 + other) {
					n.Sync[other] = []int{other, 7}
				}
			}
			wantNodeOk(t, "all lines", n, nodeOkPlainly(n))
		}
	}
}

func TestNodeOkLooksAtNoSpareRoom(t *testing.T) {
	n := busy(0)
	n.Image = append(slices.Clone(n.Image), 999)[:cellCount]
	n.Conn, n.Copies = append(n.Conn, true)[:nodeCount], append(n.Copies, true)[:nodeCount]
	n.Sync = append(n.Sync, []int{99})[:nodeCount]
	n.Wait = append(n.Wait, 0)[:3]
	wantNodeOk(t, "wrong ones in the spare room", n, true)
	n.Conn = n.Conn[:2]
	wantNodeOk(t, "the third one is in the spare room", n, false)
	n = busy(0)
	n.Image = n.Image[:7]
	wantNodeOk(t, "the last cell is in the spare room", n, false)
}

func TestNodeNew(t *testing.T) {
	for _, id := range nodeIds {
		n := impl.NodeNew(id)
		if id < 0 || id > 2 {
			wantNode(t, "no node", n, impl.Node{})
			wantNodeOk(t, "no node", n, false)
			continue
		}
		wantNode(t, "a new one", n, newPlainly(id))
		wantNodeOk(t, "a new one", n, true)
		wantNumber(t, "a new one", n, 1)
	}
}

func TestKeep(t *testing.T) {
	for _, n := range goodNodes() {
		for i, m := range ordinaryMetas() {
			if i%11 == 0 {
				wantNode(t, "Keep", impl.Keep(n, m), keepPlainly(n, m))
			}
		}
	}
	n := impl.Keep(busy(1), metaWith(4))
	want := busy(1)
	want.Meta = metaWith(4)
	want.Slots.B = slotPlainly(metaWith(4), 7)
	wantNode(t, "Keep, into B", n, want)
	want.Meta = metaWith(5)
	want.Slots.A = slotPlainly(metaWith(5), 8)
	wantNode(t, "Keep, into A again", impl.Keep(n, metaWith(5)), want)
}

// The slots go on by one though the meta comes out as it was.
func TestKeepOfWhatIsAsItWas(t *testing.T) {
	for _, n := range goodNodes() {
		_, seq, _ := getPlainly(n.Slots)
		got := impl.Keep(n, n.Meta)
		wantNode(t, "Keep of its own meta", got, keepPlainly(n, n.Meta))
		wantNumber(t, "Keep of its own meta", got, min(seq+1, mostSeq))
		if seq < mostSeq && alikeSlots(got.Slots, n.Slots) {
			t.Errorf("Keep of its own meta puts nothing into the slots of %v", n)
		}
	}
	n := impl.NodeNew(1)
	for seq := 1; seq <= 300; seq++ {
		wantNumber(t, "kept again and again", n, seq)
		wantNodeOk(t, "kept again and again", n, true)
		n = impl.Keep(n, n.Meta)
	}
}

func TestKeepOfWhatIsNoMeta(t *testing.T) {
	for _, n := range []impl.Node{newPlainly(0), busy(1), down(2)} {
		for _, m := range wrongMetas() {
			wantNode(t, "Keep of what is no meta", impl.Keep(n, m), n)
		}
	}
}

func TestNothingTurnsWhatIsNoNode(t *testing.T) {
	for _, wrong := range wrongNodes() {
		n := wrong.node
		wantNode(t, "Keep where there is "+wrong.why, impl.Keep(n, metaWith(1)), n)
		wantNode(t, "Keep of a new meta where there is "+wrong.why, impl.Keep(n, impl.MetaNew(7)), n)
		wantNode(t, "Keep of its own where there is "+wrong.why, impl.Keep(n, n.Meta), n)
		wantNode(t, "Fall where there is "+wrong.why, impl.Fall(n), n)
		wantNode(t, "Rise where there is "+wrong.why, impl.Rise(n), n)
		for _, id := range []int{-1, 0, 1, 2, 3} {
			wantNode(t, "Apply where there is "+wrong.why, impl.Apply(n, id, 3, 7), n)
			for at, val := range n.Image {
				wantNode(t, "Known where there is "+wrong.why, impl.Known(n, id, at, val), n)
			}
		}
	}
}

// Behind the last number nothing new is kept; what comes out as it was is.
func TestNothingIsKeptBehindTheLastNumber(t *testing.T) {
	for id := range nodeCount {
		n := knowing(id, metaWith(1), mostSeq)
		wantNode(t, "Keep of another", impl.Keep(n, metaWith(0)), n)
		wantNode(t, "Keep of its own", impl.Keep(n, metaWith(1)), n)
		for _, other := range othersThan(metaWith(1)) {
			wantNode(t, "Keep of another", impl.Keep(n, other), n)
		}
		for from := -1; from <= nodeCount; from++ {
			for at := range cellCount {
				wantNode(t, "Apply of another", impl.Apply(n, from, at, 8), n)
				wantNode(t, "Apply of the last one", impl.Apply(n, from, at, 9), applyPlainly(n, from, at, 9))
				wantNode(t, "Known", impl.Known(n, from, at, n.Image[at]), n)
			}
		}
		near := knowing(id, metaWith(1), mostSeq-1)
		wantNumber(t, "the last number", impl.Apply(near, -1, 3, 8), mostSeq)
	}
	n := knowing(0, impl.Meta{Gens: []int{4}, Bits: [][]int{nil, {3}, {3}}, Last: 9}, mostSeq)
	want := cloneNode(n)
	want.Image[3] = 9
	wantNode(t, "a cell alone is turned", impl.Apply(n, 0, 3, 9), want)
}

func TestFall(t *testing.T) {
	for _, n := range goodNodes() {
		got := impl.Fall(n)
		wantNode(t, "Fall", got, fallPlainly(n))
		wantNodeOk(t, "Fall", got, true)
		wantNode(t, "Fall of what has fallen", impl.Fall(got), got)
	}
	for id := range nodeCount {
		wantNode(t, "Fall of a busy one", impl.Fall(busy(id)), down(id))
		wantNode(t, "Fall of one that is down", impl.Fall(down(id)), down(id))
	}
}

func TestRise(t *testing.T) {
	for _, n := range goodNodes() {
		got := impl.Rise(n)
		wantNode(t, "Rise", got, risePlainly(n))
		wantNodeOk(t, "Rise", got, true)
		wantNode(t, "Rise of what has risen", impl.Rise(got), got)
	}
	for id := range nodeCount {
		wantNode(t, "Rise of one that is down", impl.Rise(down(id)), knowing(id, metaWith(1), 6))
		wantNode(t, "Rise of one that is up", impl.Rise(busy(id)), busy(id))
	}
}

func TestWhatFallsAndRisesKnowsWhatItKnew(t *testing.T) {
	for _, n := range goodNodes() {
		got := impl.Rise(impl.Fall(n))
		wantNodeOk(t, "behind a fall", got, true)
		if !got.Up || got.Prime || !alikeMetas(got.Meta, n.Meta) || !slices.Equal(got.Image, n.Image) {
			t.Errorf("%v falls and rises as %v", n, got)
		}
		for at := range cellCount {
			fallen := impl.Rise(impl.Fall(impl.Apply(n, -1, at, 77)))
			wantMarks(t, "what is applied ahead of a fall", fallen, applyPlainly(n, -1, at, 77).Meta.Bits...)
		}
	}
}

// What a fall tears is the slot that was not got: so the node rises as it was.
func TestWhatIsTornWhileItFallsIsKnown(t *testing.T) {
	for id := range nodeCount {
		for _, n := range []impl.Node{impl.NodeNew(id), busy(id), impl.Apply(impl.NodeNew(id), -1, 3, 7)} {
			turned := cloneMeta(n.Meta)
			turned.Fine = !n.Meta.Fine
			for size := range slotSize - 4 {
				torn := cloneNode(n)
				torn.Slots = impl.Tear(n.Slots, turned, size)
				got := impl.Rise(impl.Fall(torn))
				wantNodeOk(t, "torn", got, true)
				if !got.Up || !alikeMetas(got.Meta, n.Meta) {
					t.Errorf("torn at %d, %v rises as %v", size, n, got)
				}
			}
		}
	}
}

func TestApply(t *testing.T) {
	n := impl.Apply(impl.NodeNew(0), 0, 3, 7)
	want := newPlainly(0)
	want.Image[3], want.Meta.Last = 7, 7
	want.Meta.Bits = [][]int{{}, {3}, {3}}
	want.Slots.B = slotPlainly(want.Meta, 2)
	wantNode(t, "a first write", n, want)

	n = impl.Apply(n, 1, 5, 8)
	want.Image[5], want.Meta.Last = 8, 8
	want.Meta.Bits = [][]int{{}, {3}, {3, 5}}
	want.Slots.A = slotPlainly(want.Meta, 3)
	wantNode(t, "a write of its mate", n, want)

	n = impl.Apply(n, 2, 3, 9)
	want.Image[3], want.Meta.Last = 9, 9
	want.Meta.Bits = [][]int{{}, {3}, {5}}
	want.Slots.B = slotPlainly(want.Meta, 4)
	wantNode(t, "a write of the one far away", n, want)
}

func TestApplyFromEachNode(t *testing.T) {
	for id := range nodeCount {
		for _, from := range nodeIds {
			for at := range cellCount {
				want := [][]int{{}, {}, {}}
				for other := range want {
					if other != id && other != from {
						want[other] = []int{at}
					}
				}
				wantMarks(t, "upon nothing", impl.Apply(newPlainly(id), from, at, 7), want...)

				n := newPlainly(id)
				for other := range n.Meta.Bits {
					n.Meta.Bits[other] = gensFrom(0, cellCount)
				}
				n.Slots.A = slotPlainly(n.Meta, 1)
				want = cloneMeta(n.Meta).Bits
				if from >= 0 && from < nodeCount {
					want[from] = withoutPlainly(want[from], at)
				}
				wantMarks(t, "upon all", impl.Apply(n, from, at, 7), want...)
			}
		}
	}
}

func TestApplyOfEachWrite(t *testing.T) {
	for _, n := range []impl.Node{newPlainly(0), busy(0), busy(1), busy(2), down(1)} {
		for _, val := range writeNumbers {
			for _, from := range []int{-1, 0, 1, 2, 3} {
				got := impl.Apply(n, from, 4, val)
				if val < 0 || val > mostWrites {
					wantNode(t, "a write that is none", got, n)
					continue
				}
				if got.Image[4] != val || got.Meta.Last != val {
					t.Errorf("Apply of %d tells %v", val, got)
				}
				wantNode(t, "of each write", got, applyPlainly(n, from, 4, val))
			}
		}
	}
}

func TestApplyOfNoCell(t *testing.T) {
	for _, n := range []impl.Node{newPlainly(0), busy(1), down(2)} {
		for _, at := range append([]int{-1, cellCount, cellCount + 1}, farPlaces...) {
			for _, from := range nodeIds {
				wantNode(t, "no cell", impl.Apply(n, from, at, 7), n)
			}
		}
	}
}

// Whatever comes twice is kept twice, though nothing else is turned by it.
func TestApplyOfWhatIsMarkedAlready(t *testing.T) {
	for id := range nodeCount {
		for from := -1; from <= nodeCount; from++ {
			for at := range cellCount {
				once := impl.Apply(newPlainly(id), from, at, 7)
				twice := impl.Apply(once, from, at, 7)
				wantMarks(t, "applied twice", twice, once.Meta.Bits...)
				wantNumber(t, "applied twice", twice, 3)
				again := impl.Apply(twice, from, at, 8)
				wantMarks(t, "written again", again, once.Meta.Bits...)
				wantNumber(t, "written again", again, 4)
			}
		}
	}
}

func TestApplyTurnsNothingElse(t *testing.T) {
	for id := range nodeCount {
		n := busy(id)
		got := impl.Apply(n, -1, 3, 7)
		got.Image, got.Meta, got.Slots = n.Image, n.Meta, n.Slots
		wantNode(t, "beside the cell and what is known", got, n)
	}
}

func TestApplyAgainstPlainOne(t *testing.T) {
	for _, n := range goodNodes() {
		for _, from := range []int{-1, 0, 1, 2, 3} {
			for _, at := range cellPlaces[:10] {
				for _, val := range []int{-1, 0, 1, 9, 200, 201} {
					wantNode(t, "Apply", impl.Apply(n, from, at, val), applyPlainly(n, from, at, val))
				}
			}
		}
	}
}

func TestKnown(t *testing.T) {
	n := impl.Apply(impl.Apply(impl.NodeNew(0), 0, 3, 7), 0, 5, 8)
	want := cloneNode(n)
	want.Meta.Bits[1] = []int{5}
	want.Slots.B = slotPlainly(want.Meta, 4)
	got := impl.Known(n, 1, 3, 7)
	wantNode(t, "its mate has it", got, want)
	want.Meta.Bits[2] = []int{3}
	want.Slots.A = slotPlainly(want.Meta, 5)
	wantNode(t, "the one far away has it", impl.Known(got, 2, 5, 8), want)
}

func TestKnownOfAnotherWrite(t *testing.T) {
	for id := range nodeCount {
		n := impl.Apply(impl.Apply(newPlainly(id), -1, 3, 7), -1, 3, 8)
		for who := range nodeCount {
			for _, val := range writeNumbers {
				if val != 8 {
					wantNode(t, "another write", impl.Known(n, who, 3, val), n)
				}
			}
			wantMarks(t, "that write", impl.Known(n, who, 3, 8), knownPlainly(n, who, 3, 8).Meta.Bits...)
			wantNode(t, "another cell", impl.Known(n, who, 4, 8), n)
		}
	}
}

func TestKnownOfNoNodeOrCell(t *testing.T) {
	for _, n := range []impl.Node{newPlainly(0), busy(1), down(2), impl.Apply(newPlainly(2), -1, 3, 7)} {
		for _, who := range nodeIds {
			for _, at := range cellPlaces {
				isNode, isCell := who >= 0 && who < nodeCount, at >= 0 && at < cellCount
				for _, val := range []int{-1, 0, 7, 201} {
					if !isNode || !isCell {
						wantNode(t, "no node, or no cell", impl.Known(n, who, at, val), n)
					}
				}
				if isCell && !isNode {
					wantNode(t, "no node", impl.Known(n, who, at, n.Image[at]), n)
				}
			}
		}
	}
}

// What is known already is kept all the same; nothing else is turned by it.
func TestKnownOfWhatIsNotMarked(t *testing.T) {
	for id := range nodeCount {
		for who := range nodeCount {
			for at := range cellCount {
				n := newPlainly(id)
				got := impl.Known(n, who, at, 0)
				wantNumber(t, "not marked", got, 2)
				got.Slots = n.Slots
				wantNode(t, "not marked", got, n)
			}
		}
	}
}

func TestKnownOfItself(t *testing.T) {
	for id := range nodeCount {
		n := impl.Apply(newPlainly(id), -1, 3, 7)
		got := impl.Known(n, id, 3, 7)
		wantMarks(t, "itself", got, n.Meta.Bits...)
		wantNumber(t, "itself", got, 3)

		n.Meta.Bits[id] = []int{2, 3}
		n.Slots = impl.Slots{A: slotPlainly(n.Meta, 1)}
		want := cloneNode(n)
		want.Meta.Bits[id] = []int{2}
		want.Slots.B = slotPlainly(want.Meta, 2)
		wantNode(t, "itself, that was marked", impl.Known(n, id, 3, 7), want)
	}
}

func TestKnownAgainstPlainOne(t *testing.T) {
	for _, n := range goodNodes() {
		for _, who := range []int{-1, 0, 1, 2, 3} {
			for at := range cellCount {
				for _, val := range []int{n.Image[at], n.Image[at] + 1, n.Image[at] - 1} {
					wantNode(t, "Known", impl.Known(n, who, at, val), knownPlainly(n, who, at, val))
				}
			}
		}
	}
}

// A run turns nodes by chance, and the plain ones beside them.
func runByChance(t *testing.T, seed int64, steps int, look func(n impl.Node)) {
	source := rand.New(rand.NewSource(seed))
	metas := mixedMetas(seed, 50)
	for id := range nodeCount {
		n, plain := impl.NodeNew(id), newPlainly(id)
		for range steps {
			one, at, val := source.Intn(5)-1, source.Intn(10)-1, source.Intn(204)-1
			switch source.Intn(12) {
			case 0:
				n, plain = impl.Fall(n), fallPlainly(plain)
			case 1:
				n, plain = impl.Rise(n), risePlainly(plain)
			case 2:
				m := cloneMeta(metas[source.Intn(len(metas))])
				m.Bits[id] = nil
				n, plain = impl.Keep(n, m), keepPlainly(plain, m)
			case 3, 4, 5, 6, 7:
				n, plain = impl.Apply(n, one, at, val), applyPlainly(plain, one, at, val)
			default:
				at = max(0, min(at, cellCount-1))
				n, plain = impl.Known(n, one, at, plain.Image[at]), knownPlainly(plain, one, at, plain.Image[at])
			}
			wantNode(t, "by chance", n, plain)
			look(n)
		}
	}
}

func TestNodesByChance(t *testing.T) {
	runByChance(t, 81, 3000, func(n impl.Node) { wantNodeOk(t, "by chance", n, true) })
}

func TestANodeMarksNothingForItself(t *testing.T) {
	runByChance(t, 82, 2000, func(n impl.Node) {
		if len(n.Meta.Bits[n.Id]) > 0 {
			t.Errorf("node %d marks %v for itself", n.Id, n.Meta.Bits[n.Id])
		}
	})
	for id := range nodeCount {
		n := impl.NodeNew(id)
		for _, from := range nodeIds {
			for at := range cellCount {
				n = impl.Known(impl.Apply(n, from, at, 9), from, at, 9)
				if len(n.Meta.Bits[id]) > 0 {
					t.Errorf("node %d marks %v for itself", id, n.Meta.Bits[id])
				}
			}
		}
	}
}

// What one has written and another one has not heard is marked for that one, whoever falls.
func TestWhatIsAppliedIsMarkedForAllThatMayNotHaveIt(t *testing.T) {
	source := rand.New(rand.NewSource(83))
	for id := range nodeCount {
		n := impl.NodeNew(id)
		heard := [nodeCount][]int{eightOf(0), eightOf(0), eightOf(0)}
		for val := 1; val <= mostWrites; val++ {
			from, at := source.Intn(nodeCount), source.Intn(cellCount)
			n = impl.Apply(n, from, at, val)
			heard[from][at], heard[id][at] = val, val
			who, other := source.Intn(nodeCount), source.Intn(cellCount)
			if source.Intn(2) == 0 {
				heard[who][other] = n.Image[other]
			}
			n = impl.Known(n, who, other, heard[who][other])
			if source.Intn(10) == 0 {
				n = impl.Rise(impl.Fall(n))
			}
			wantList(t, "its own cells", n.Image, heard[id]...)
			for one, cells := range heard {
				wantList(t, fmt.Sprintf("what node %d marks for %d", id, one), n.Meta.Bits[one], differPlainly(cells, n.Image)...)
			}
		}
	}
}

// roomy lays a list into a longer one, so that there is spare room behind it.
func roomy[T any](list []T, spare ...T) []T {
	return append(slices.Clip(slices.Clone(list)), spare...)[:len(list)]
}

func roomyMarks(marks []int) []int { return roomy(marks, 71, 72, 73) }

func roomyMeta(m impl.Meta) impl.Meta {
	m.Gens = roomy(m.Gens, 74, 75)
	m.Bits = roomy(each(m.Bits, roomyMarks), []int{76}, []int{77})
	return m
}

func roomyNode(n impl.Node) impl.Node {
	n.Image = roomyMarks(n.Image)
	n.Meta = roomyMeta(n.Meta)
	n.Slots = impl.Slots{A: roomy(n.Slots.A, many(78, 200)...), B: roomy(n.Slots.B, many(79, 200)...)}
	n.Conn = roomy(n.Conn, true, false, true)
	n.Sync = roomy(each(n.Sync, roomyMarks), []int{80}, []int{81})
	n.Copies = roomy(n.Copies, true, false, true)
	n.Wait = roomyMarks(n.Wait)
	return n
}

// roomText tells all that hangs on a value, with the spare room behind each list.
func roomText(v reflect.Value) string {
	var parts []string
	switch v.Kind() {
	case reflect.Struct:
		for i := range v.NumField() {
			parts = append(parts, roomText(v.Field(i)))
		}
	case reflect.Slice:
		whole := v.Slice(0, v.Cap())
		if b, ok := whole.Interface().([]byte); ok {
			return fmt.Sprint(v.Len(), b)
		}
		for i := range whole.Len() {
			parts = append(parts, roomText(whole.Index(i)))
		}
		parts = append(parts, fmt.Sprint(v.Len()))
	default:
		return fmt.Sprint(v.Interface())
	}
	return "{" + strings.Join(parts, " ") + "}"
}

type region struct {
	first, behind uintptr
}

// regionsOf are the pieces of memory on which a value hangs, spare room too.
func regionsOf(v reflect.Value) []region {
	var list []region
	switch v.Kind() {
	case reflect.Struct:
		for i := range v.NumField() {
			list = append(list, regionsOf(v.Field(i))...)
		}
	case reflect.Slice:
		if v.Cap() > 0 {
			first := v.Pointer()
			list = append(list, region{first, first + uintptr(v.Cap())*v.Type().Elem().Size()})
		}
		for i := range v.Len() {
			list = append(list, regionsOf(v.Index(i))...)
		}
	}
	return list
}

// wantApart asks that no two lists of all these share any memory.
func wantApart(t *testing.T, what string, values ...any) {
	t.Helper()
	var list []region
	for _, value := range values {
		list = append(list, regionsOf(reflect.ValueOf(value))...)
	}
	slices.SortFunc(list, func(a region, b region) int {
		if a.first < b.first {
			return -1
		}
		return 1
	})
	for i := 1; i < len(list); i++ {
		if list[i].first < list[i-1].behind {
			t.Errorf("%s: two lists share memory: %v", what, values)
		}
	}
}

// nodeAsks are each of the functions that turn a node, with arguments of each kind.
func nodeAsks(m impl.Meta) map[string]func(n impl.Node) impl.Node {
	asks := map[string]func(n impl.Node) impl.Node{
		"Keep":        func(n impl.Node) impl.Node { return impl.Keep(n, m) },
		"Keep of all": func(n impl.Node) impl.Node { return impl.Keep(n, n.Meta) },
		"Fall":        impl.Fall,
		"Rise":        impl.Rise,
	}
	for _, id := range []int{-1, 0, 1, 2, 3} {
		for _, at := range []int{-1, 0, 3, 7, 8} {
			for _, val := range []int{-1, 0, 3, 200, 201} {
				asks[fmt.Sprint("Apply ", id, at, val)] = func(n impl.Node) impl.Node { return impl.Apply(n, id, at, val) }
				asks[fmt.Sprint("Known ", id, at, val)] = func(n impl.Node) impl.Node { return impl.Known(n, id, at, val) }
			}
			if at >= 0 && at < cellCount {
				asks[fmt.Sprint("Known of what it has ", id, at)] = func(n impl.Node) impl.Node { return impl.Known(n, id, at, firstOf(n.Image, cellCount)[at]) }
			}
		}
	}
	return asks
}

func nodesToAsk() []impl.Node {
	var list []impl.Node
	for i, n := range goodNodes() {
		if i%6 == 0 || i < 9 {
			list = append(list, n)
		}
	}
	for i, wrong := range wrongNodes() {
		if i%9 == 0 || i < 9 {
			list = append(list, wrong.node)
		}
	}
	return list
}

func TestNodesAreNotWrittenInto(t *testing.T) {
	m := roomyMeta(metaWith(4))
	wasMeta := roomText(reflect.ValueOf(m))
	for _, n := range nodesToAsk() {
		given := roomyNode(n)
		was := roomText(reflect.ValueOf(given))
		impl.NodeOk(given)
		for _, ask := range nodeAsks(m) {
			ask(given)
		}
		if now := roomText(reflect.ValueOf(given)); now != was {
			t.Errorf("%s was changed to %s", was, now)
		}
	}
	if now := roomText(reflect.ValueOf(m)); now != wasMeta {
		t.Errorf("%s was changed to %s", wasMeta, now)
	}
}

func TestNodesTellNewMemory(t *testing.T) {
	m := roomyMeta(metaWith(4))
	for _, n := range nodesToAsk() {
		given := roomyNode(n)
		for what, ask := range nodeAsks(m) {
			wantApart(t, what, given, m, ask(given), ask(given))
		}
	}
	wantApart(t, "NodeNew", impl.NodeNew(0), impl.NodeNew(0), impl.NodeNew(1), impl.NodeNew(2))
}

// Lists of the argument that share memory are apart in the answer.
func TestNodesTellListsOfTheirOwn(t *testing.T) {
	shared := gensFrom(0, cellCount)
	lines := []bool{false, false, false}
	for _, up := range []bool{true, false} {
		n := newPlainly(0)
		n.Up, n.Image, n.Conn, n.Copies = up, shared, lines, lines
		n.Meta.Gens, n.Meta.Bits = shared[1:2], [][]int{shared[:0], shared[1:3], shared[1:3]}
		n.Sync = [][]int{shared[:0], shared[:0], shared[:0]}
		b := slotPlainly(n.Meta, 4)
		n.Slots = impl.Slots{A: b, B: b}
		if up {
			n.Wait = shared[2:4]
		}
		wantNodeOk(t, "lists that share", n, true)
		for what, ask := range nodeAsks(metaWith(4)) {
			wantApart(t, what, ask(n))
		}
	}
}

func TestNodesAreToldTheSameEachTime(t *testing.T) {
	for _, n := range nodesToAsk() {
		for what, ask := range nodeAsks(metaWith(4)) {
			wantNode(t, what, ask(cloneNode(n)), ask(n))
		}
	}
}

func TestVeryLongNodes(t *testing.T) {
	n := busy(0)
	n.Image, n.Wait = make([]int, 1<<16), make([]int, 1<<16)
	n.Conn, n.Copies, n.Sync = make([]bool, 1<<16), make([]bool, 1<<16), make([][]int, 1<<16)
	n.Slots = impl.Slots{A: make([]byte, 1<<16), B: make([]byte, 1<<16)}
	n.Meta.Gens, n.Meta.Bits = make([]int, 1<<16), make([][]int, 1<<16)
	wantNodeOk(t, "very long", n, false)
	wantNode(t, "very long", impl.Apply(n, 0, 1<<15, 1), n)
	wantNode(t, "very long", impl.Known(n, 0, 1<<15, 0), n)
	wantNode(t, "very long", impl.Rise(impl.Fall(impl.Keep(n, n.Meta))), n)
}
