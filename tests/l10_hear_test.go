package tests

import (
	"fmt"
	"math/rand"
	"reflect"
	"slices"
	"testing"

	"loop.example/g00399/impl"
)

func sayData(at int, val int) impl.Msg { return impl.Msg{Kind: kindData, Cell: at, Val: val} }

func sayAck(at int, val int) impl.Msg { return impl.Msg{Kind: kindAck, Cell: at, Val: val} }

func sayClear(at int, val int, who int) impl.Msg {
	return impl.Msg{Kind: kindClear, Cell: at, Val: val, Who: who}
}

func sayCopy(at int, val int) impl.Msg { return impl.Msg{Kind: kindCopy, Cell: at, Val: val} }

func sayDone(val int, gens ...int) impl.Msg {
	return impl.Msg{Kind: kindDone, Val: val, Gens: slices.Clone(gens)}
}

// pairAndFar are each two nodes, one that is told something, and who tells it.
var pairAndFar = []struct{ id, from, third int }{{0, 1, 2}, {0, 2, 1}, {1, 0, 2}, {1, 2, 0}, {2, 0, 1}, {2, 1, 0}}

// listening is a node that hears those, with cells, marks, and writes that wait.
func listening(id int, ids ...int) impl.Node {
	n := knowing(id, metaWith(1), 6)
	n.Wait = []int{1, 9, 200}
	for _, other := range ids {
		n.Conn[other] = true
	}
	return n
}

// hearingAll hears both others.
func hearingAll(id int) impl.Node { return listening(id, (id+1)%nodeCount, (id+2)%nodeCount) }

// keptWith is n turned, with what it knows then put into its slots.
func keptWith(n impl.Node, turn func(n *impl.Node)) impl.Node {
	now := cloneNode(n)
	turn(&now)
	now.Slots = putPlainly(n.Slots, now.Meta)
	return now
}

// copying is n that copies those cells to that one.
func copying(n impl.Node, to int, cells ...int) impl.Node {
	n = cloneNode(n)
	n.Conn[to], n.Copies[to], n.Sync[to] = true, true, slices.Clone(cells)
	return n
}

// leading is a node that is Prime and hears those.
func leading(id int, ids ...int) impl.Node {
	n := listening(id, ids...)
	n.Prime = true
	return n
}

func hearPlainly(n impl.Node, from int, m impl.Msg) (impl.Node, []impl.Post) {
	if !nodeOkPlainly(n) || !okPlainly(m) || from < 0 || from >= nodeCount || !n.Conn[from] {
		return n, nil
	}
	now, third, isKept := cloneNode(n), 3-n.Id-from, true
	var posts []impl.Post
	switch m.Kind {
	case kindData, kindCopy:
		now.Image[m.Cell] = m.Val
		now.Meta.Bits[from] = withoutPlainly(now.Meta.Bits[from], m.Cell)
		now.Meta.Bits[third] = marksPlainly(now.Meta.Bits[third], []int{m.Cell})
		if m.Kind == kindData {
			now.Meta.Last = m.Val
		}
		posts = []impl.Post{{From: n.Id, To: from, Msg: sayAck(m.Cell, m.Val)}}
	case kindAck:
		if n.Id+from == 1 {
			now.Wait = withoutPlainly(now.Wait, m.Val)
		}
		if n.Conn[third] && m.Val != 0 {
			posts = []impl.Post{{From: n.Id, To: third, Msg: sayClear(m.Cell, m.Val, from)}}
		}
		isKept = n.Image[m.Cell] == m.Val
		if isKept {
			now.Meta.Bits[from] = withoutPlainly(now.Meta.Bits[from], m.Cell)
		}
	case kindClear:
		isKept = m.Who != n.Id && n.Image[m.Cell] == m.Val
		if isKept {
			now.Meta.Bits[m.Who] = withoutPlainly(now.Meta.Bits[m.Who], m.Cell)
		}
	case kindDone:
		now.Meta.Gens, now.Meta.Last, now.Meta.Fine = slices.Clone(m.Gens), m.Val, true
		if n.Id != 2 {
			now.Meta.Old, now.Meta.Held = false, false
		}
	}
	if isKept {
		now.Slots = putPlainly(n.Slots, now.Meta)
	}
	if !nodeOkPlainly(now) {
		return n, nil
	}
	return now, posts
}

// Where val is not above all others that wait, what waits behind it does not ascend, and the node is none.
func writePlainly(n impl.Node, at int, val int) (impl.Node, []impl.Post) {
	if !nodeOkPlainly(n) || !n.Prime || at < 0 || at >= cellCount || val < 1 {
		return n, nil
	}
	now := cloneNode(n)
	now.Image[at], now.Meta.Last = val, val
	var posts []impl.Post
	for id, marks := range n.Meta.Bits {
		now.Meta.Bits[id] = withoutPlainly(marks, at)
		if id != n.Id {
			now.Meta.Bits[id] = marksPlainly(marks, []int{at})
		}
		if n.Conn[id] {
			posts = append(posts, impl.Post{From: n.Id, To: id, Msg: sayData(at, val)})
		}
		if n.Conn[id] && id < 2 {
			now.Wait = append(withoutPlainly(n.Wait, val), val)
		}
	}
	now.Slots = putPlainly(n.Slots, now.Meta)
	if !nodeOkPlainly(now) {
		return n, nil
	}
	return now, posts
}

func copyPlainly(n impl.Node, to int) (impl.Node, []impl.Post) {
	if !nodeOkPlainly(n) || to < 0 || to >= nodeCount || !n.Copies[to] {
		return n, nil
	}
	now := cloneNode(n)
	said := sayDone(n.Meta.Last, n.Meta.Gens...)
	if cells := n.Sync[to]; len(cells) > 0 {
		said = sayCopy(cells[0], n.Image[cells[0]])
		now.Sync[to] = cells[1:]
	} else {
		now.Copies[to] = false
		now.Meta.Held = n.Meta.Held && n.Id+to != 1
		now.Slots = putPlainly(n.Slots, now.Meta)
	}
	if !nodeOkPlainly(now) {
		return n, nil
	}
	return now, []impl.Post{{From: n.Id, To: to, Msg: said}}
}

func alikePosts(a impl.Post, b impl.Post) bool {
	return a.From == b.From && a.To == b.To && alikeMsgs(a.Msg, b.Msg)
}

func wantPosts(t *testing.T, why string, got []impl.Post, want ...impl.Post) {
	t.Helper()
	if !slices.EqualFunc(got, want, alikePosts) {
		t.Errorf("%s: it says %v, not %v", why, got, want)
	}
}

// wantSaidWell asks what is so of whatever is said of a node that is as it should be.
func wantSaidWell(t *testing.T, why string, n impl.Node, posts []impl.Post) {
	t.Helper()
	wantNodeOk(t, why, n, true)
	for _, post := range posts {
		if !impl.MsgOk(post.Msg) || post.From != n.Id || post.To < 0 || post.To >= nodeCount || !n.Conn[post.To] {
			t.Errorf("%s: node %d, that hears %v, says %v", why, n.Id, n.Conn, post)
		}
	}
}

func wantHear(t *testing.T, why string, n impl.Node, from int, m impl.Msg, want impl.Node, posts ...impl.Post) {
	t.Helper()
	why = fmt.Sprintf("%s: node %d hears %v of %d", why, n.Id, m, from)
	got, said := impl.Hear(n, from, m)
	wantNode(t, why, got, want)
	wantPosts(t, why, said, posts...)
	wantSaidWell(t, why, got, said)
}

// wantNotHeard asks that nothing comes of it; n may be no node.
func wantNotHeard(t *testing.T, why string, n impl.Node, from int, m impl.Msg) {
	t.Helper()
	why = fmt.Sprintf("%s: %v of %d", why, m, from)
	got, said := impl.Hear(n, from, m)
	wantNode(t, why, got, n)
	wantPosts(t, why, said)
}

func wantHearPlainly(t *testing.T, why string, n impl.Node, from int, m impl.Msg) {
	t.Helper()
	want, posts := hearPlainly(n, from, m)
	if nodeOkPlainly(n) {
		wantHear(t, why, n, from, m, want, posts...)
	} else {
		wantNotHeard(t, why, n, from, m)
	}
}

func wantWrite(t *testing.T, why string, n impl.Node, at int, val int, want impl.Node, posts ...impl.Post) {
	t.Helper()
	why = fmt.Sprintf("%s: node %d writes %d into cell %d", why, n.Id, val, at)
	got, said := impl.Write(n, at, val)
	wantNode(t, why, got, want)
	wantPosts(t, why, said, posts...)
	if impl.NodeOk(n) {
		wantSaidWell(t, why, got, said)
	}
}

func wantCopy(t *testing.T, why string, n impl.Node, to int, want impl.Node, posts ...impl.Post) {
	t.Helper()
	why = fmt.Sprintf("%s: node %d copies to %d", why, n.Id, to)
	got, said := impl.Copy(n, to)
	wantNode(t, why, got, want)
	wantPosts(t, why, said, posts...)
	if impl.NodeOk(n) {
		wantSaidWell(t, why, got, said)
	}
}

// listeners are nodes of each kind, that hear none, one and both of the others.
func listeners() []impl.Node {
	var list []impl.Node
	for id := range nodeCount {
		one, other := (id+1)%nodeCount, (id+2)%nodeCount
		for _, ids := range [][]int{nil, {one}, {other}, {one, other}} {
			for _, flags := range []int{0, 1, 3, 5} {
				n := turnedMeta(listening(id, ids...), func(m *impl.Meta) { *m = metaWith(flags) })
				n.Prime = id < 2 && flags < 3
				list = append(list, n)
			}
		}
		list = append(list, busy(id), down(id), newPlainly(id))
		list = append(list, numbered(hearingAll(id), mostSeq-1), numbered(hearingAll(id), mostSeq))
		first := busy(id)
		first.Meta.Bits = [][]int{gensFrom(0, cellCount), gensFrom(0, cellCount), gensFrom(0, cellCount)}
		first.Sync, first.Wait = make([][]int, nodeCount), nil
		list = append(list, numbered(first, 1))
	}
	return each(list, cloneNode)
}

// wordsToHear are messages about cells as hearingAll has them, and about others.
func wordsToHear() []impl.Msg {
	list := []impl.Msg{sayDone(9, 300, 2, 1), sayDone(0, 1), sayDone(200, 7, 300), sayDone(8, 300, 2, 1), sayDone(9, gensFrom(1, mostGens)...), sayDone(3)}
	for at, val := range []int{4, 9, 200, 0, 17, 1, 199, 3} {
		for _, n := range []int{val, 9, 8, 1} {
			list = append(list, sayData(at, n), sayAck(at, n), sayCopy(at, n))
			for who := range nodeCount {
				list = append(list, sayClear(at, n, who))
			}
		}
	}
	return list
}

func TestHearData(t *testing.T) {
	marks := [][][]int{
		{{0, 7}, {}, {2, 3, 5}},
		{{0, 7}, {3}, {2, 5}},
		{{0, 7}, {}, {2, 3, 5}},
		{{0, 3, 7}, {}, {2, 5}},
		{{0, 7}, {3}, {2, 3, 5}},
		{{0, 3, 7}, {}, {2, 3, 5}},
	}
	for i, two := range pairAndFar {
		for _, n := range []impl.Node{hearingAll(two.id), listening(two.id, two.from), busy(two.id)} {
			want := cloneNode(n)
			want.Image, want.Meta.Last, want.Meta.Bits = []int{4, 9, 200, 8, 17, 1, 199, 3}, 8, marks[i]
			want.Slots.B = slotPlainly(want.Meta, 7)
			wantHear(t, "a write", n, two.from, sayData(3, 8), want, impl.Post{From: two.id, To: two.from, Msg: sayAck(3, 8)})
			want.Meta.Last = 9
			want.Slots.B = slotPlainly(want.Meta, 7)
			wantHear(t, "a copy", n, two.from, sayCopy(3, 8), want, impl.Post{From: two.id, To: two.from, Msg: sayAck(3, 8)})
		}
	}
}

// Whatever was marked for whom: for the one that it comes from it is no more, for the third one it is, and for itself it is as it was.
func TestHearDataOfEachMark(t *testing.T) {
	for _, two := range pairAndFar {
		for bits := range 8 {
			n := hearingAll(two.id)
			n.Meta.Bits = [][]int{{1}, {1}, {1}}
			for id := range nodeCount {
				if bits>>id&1 == 1 {
					n.Meta.Bits[id] = []int{1, 4}
				}
			}
			n = numbered(n, 3)
			for _, val := range []int{17, 30} {
				for _, m := range []impl.Msg{sayData(4, val), sayCopy(4, val)} {
					want := cloneNode(n)
					want.Image[4] = val
					want.Meta.Bits[two.from], want.Meta.Bits[two.third] = []int{1}, []int{1, 4}
					if m.Kind == kindData {
						want.Meta.Last = val
					}
					want.Slots.B = slotPlainly(want.Meta, 4)
					wantHear(t, "each mark", n, two.from, m, want, impl.Post{From: two.id, To: two.from, Msg: sayAck(4, val)})
				}
			}
		}
	}
}

func TestHearOfEachWrite(t *testing.T) {
	for _, two := range pairAndFar {
		n := hearingAll(two.id)
		for at := range cellCount {
			for _, val := range writeNumbers {
				got, said := impl.Hear(n, two.from, sayData(at, val))
				if val < 1 || val > mostWrites {
					wantNotHeard(t, "a write that is none", n, two.from, sayData(at, val))
				} else if got.Image[at] != val || got.Meta.Last != val || len(said) != 1 {
					t.Errorf("write %d is heard as %v, %v", val, got, said)
				}
				got, said = impl.Hear(n, two.from, sayCopy(at, val))
				if val < 0 || val > mostWrites {
					wantNotHeard(t, "a copy that is none", n, two.from, sayCopy(at, val))
				} else if got.Image[at] != val || got.Meta.Last != 9 || len(said) != 1 {
					t.Errorf("a copy of %d is heard as %v, %v", val, got, said)
				}
			}
		}
	}
}

// What it has already is kept once more, and told of once more.
func TestHearOfWhatItHas(t *testing.T) {
	for _, two := range pairAndFar {
		for at, val := range hearingAll(two.id).Image {
			once, _ := impl.Hear(hearingAll(two.id), two.from, sayCopy(at, val))
			twice, said := impl.Hear(once, two.from, sayCopy(at, val))
			wantNumber(t, "copied twice", twice, 8)
			wantPosts(t, "copied twice", said, impl.Post{From: two.id, To: two.from, Msg: sayAck(at, val)})
			once.Slots = twice.Slots
			wantNode(t, "copied twice", twice, once)
		}
	}
}

func TestHearDone(t *testing.T) {
	for _, two := range pairAndFar {
		for flags := range 6 {
			n := turnedMeta(hearingAll(two.id), func(m *impl.Meta) { *m = metaWith(flags) })
			want := cloneNode(n)
			want.Meta = impl.Meta{Gens: []int{77, 300}, Bits: [][]int{{0, 7}, {}, {2, 3, 5}}, Fine: true, Last: 31}
			if two.id == 2 {
				want.Meta.Old, want.Meta.Held = flags == 2 || flags == 3, flags >= 4
			}
			want.Slots.B = slotPlainly(want.Meta, 7)
			wantHear(t, "all is copied", n, two.from, sayDone(31, 77, 300), want)
			want.Meta.Gens, want.Meta.Last = []int{300, 2, 1}, 9
			want.Slots.B = slotPlainly(want.Meta, 7)
			wantHear(t, "what it knows already", n, two.from, sayDone(9, 300, 2, 1), want)
			want.Meta.Gens, want.Meta.Last = gensFrom(mostGen-mostGens+1, mostGens), 0
			want.Slots.B = slotPlainly(want.Meta, 7)
			wantHear(t, "as many as there can be", n, two.from, sayDone(0, gensFrom(mostGen-mostGens+1, mostGens)...), want)
		}
	}
}

// That all is copied to it changes nothing of what it copies itself, of its cells, and of what waits.
func TestHearDoneWhileBusy(t *testing.T) {
	for _, two := range pairAndFar {
		n := busy(two.id)
		got, _ := impl.Hear(n, two.from, sayDone(31, 77, 300))
		wantNumber(t, "while busy", got, 7)
		got.Meta, got.Slots = n.Meta, n.Slots
		wantNode(t, "while busy", got, n)
	}
}

func TestHearDoneWithoutGens(t *testing.T) {
	for _, n := range listeners() {
		for from := range nodeCount {
			wantNotHeard(t, "no generations", n, from, sayDone(9))
			wantNotHeard(t, "no generations", n, from, impl.Msg{Kind: kindDone, Gens: []int{}})
		}
	}
}

func TestHearAck(t *testing.T) {
	answers := []struct {
		bits [][]int
		wait []int
	}{
		{[][]int{{0, 7}, {}, {2, 3, 5}}, []int{1, 9}},
		{[][]int{{0, 7}, {}, {3, 5}}, []int{1, 9, 200}},
		{[][]int{{0, 7}, {}, {2, 3, 5}}, []int{1, 9}},
		{[][]int{{0, 7}, {}, {3, 5}}, []int{1, 9, 200}},
		{[][]int{{0, 7}, {}, {2, 3, 5}}, []int{1, 9, 200}},
		{[][]int{{0, 7}, {}, {2, 3, 5}}, []int{1, 9, 200}},
	}
	for i, two := range pairAndFar {
		n := hearingAll(two.id)
		want := cloneNode(n)
		want.Meta.Bits, want.Wait = answers[i].bits, answers[i].wait
		want.Slots.B = slotPlainly(want.Meta, 7)
		wantHear(t, "both are heard", n, two.from, sayAck(2, 200), want, impl.Post{From: two.id, To: two.third, Msg: sayClear(2, 200, two.from)})

		n.Conn[two.third], want.Conn[two.third] = false, false
		wantHear(t, "one is heard", n, two.from, sayAck(2, 200), want)
		n.Conn[two.third], n.Conn[two.from] = true, false
		wantNotHeard(t, "it is not heard itself", n, two.from, sayAck(2, 200))
	}
}

// Who said it is marked for it no more, whoever that is; the others are.
func TestHearAckOfEachMark(t *testing.T) {
	for _, two := range pairAndFar {
		for at := range cellCount {
			n := hearingAll(two.id)
			n.Meta.Bits = [][]int{gensFrom(0, cellCount), gensFrom(0, cellCount), gensFrom(0, cellCount)}
			n = numbered(n, 3)
			got, _ := impl.Hear(n, two.from, sayAck(at, n.Image[at]))
			want := cloneMeta(n.Meta).Bits
			want[two.from] = withoutPlainly(want[two.from], at)
			wantMarks(t, "of all marks", got, want...)
			wantNumber(t, "of all marks", got, 4)
		}
	}
}

// Of another write nothing is known here: no mark is turned and no meta kept; but it waits no more, and is handed on.
func TestHearAckOfAnotherWrite(t *testing.T) {
	for _, two := range pairAndFar {
		n := hearingAll(two.id)
		for at, has := range n.Image {
			for _, val := range []int{1, 2, 9, 10, 200} {
				if val == has {
					continue
				}
				want := cloneNode(n)
				if two.id < 2 && two.from < 2 {
					want.Wait = withoutPlainly(want.Wait, val)
				}
				wantHear(t, "another write", n, two.from, sayAck(at, val), want, impl.Post{From: two.id, To: two.third, Msg: sayClear(at, val, two.from)})
			}
		}
	}
}

func TestHearAckOfEachThatWaits(t *testing.T) {
	waits := [][]int{nil, {5}, {4}, {1, 5}, {5, 200}, {4, 5, 6}, {1, 2, 3}, gensFrom(1, mostWrites)}
	for _, two := range pairAndFar {
		for _, wait := range waits {
			n := hearingAll(two.id)
			n.Wait, n.Image[6] = slices.Clone(wait), 5
			want := wait
			if two.id+two.from == 1 {
				want = withoutPlainly(wait, 5)
			}
			got, _ := impl.Hear(n, two.from, sayAck(6, 5))
			wantList(t, "what waits", got.Wait, want...)
			got, _ = impl.Hear(n, two.from, sayAck(3, 5))
			wantList(t, "what waits, where the cell has another write", got.Wait, want...)
			for _, m := range []impl.Msg{sayData(6, 5), sayCopy(6, 5), sayClear(6, 5, two.from), sayClear(6, 5, two.third), sayDone(5, 7)} {
				got, _ = impl.Hear(n, two.from, m)
				wantList(t, "what waits, behind another word", got.Wait, wait...)
			}
		}
	}
}

// A cell that was never written is the same for all: nobody is told of it.
func TestHearAckOfNoWrite(t *testing.T) {
	for _, two := range pairAndFar {
		for at := range cellCount {
			n := hearingAll(two.id)
			n.Meta.Bits = [][]int{{at}, {at}, {at}}
			n = numbered(n, 3)
			want := cloneNode(n)
			if n.Image[at] == 0 {
				want.Meta.Bits[two.from] = nil
				want.Slots.B = slotPlainly(want.Meta, 4)
			}
			wantHear(t, "no write", n, two.from, sayAck(at, 0), want)
		}
	}
}

func TestHearClear(t *testing.T) {
	for _, two := range pairAndFar {
		for at, val := range hearingAll(two.id).Image {
			if val == 0 {
				continue
			}
			n := hearingAll(two.id)
			n.Meta.Bits = [][]int{{2, at}, {2, at}, {2, at}}
			if at <= 2 {
				n.Meta.Bits = [][]int{{at, 7}, {at, 7}, {at, 7}}
			}
			n = numbered(n, 3)
			for _, who := range []int{two.from, two.third} {
				want := cloneNode(n)
				want.Meta.Bits[who] = withoutPlainly(want.Meta.Bits[who], at)
				want.Slots.B = slotPlainly(want.Meta, 4)
				wantHear(t, "that write", n, two.from, sayClear(at, val, who), want)
				wantHear(t, "another write", n, two.from, sayClear(at, val%mostWrites+1, who), n)
			}
			wantHear(t, "itself", n, two.from, sayClear(at, val, two.id), n)
			wantHear(t, "itself, another write", n, two.from, sayClear(at, val%mostWrites+1, two.id), n)
		}
	}
}

// What is not marked is kept all the same, but of itself nothing is.
func TestHearClearOfWhatIsNotMarked(t *testing.T) {
	for _, two := range pairAndFar {
		n := turnedMeta(hearingAll(two.id), func(m *impl.Meta) { m.Bits = make([][]int, nodeCount) })
		for who := range nodeCount {
			want := cloneNode(n)
			if who != two.id {
				want.Slots.B = slotPlainly(want.Meta, 7)
			}
			wantHear(t, "not marked", n, two.from, sayClear(4, 17, who), want)
		}
	}
}

func TestHearOfWhoIsNotHeard(t *testing.T) {
	for id := range nodeCount {
		for bits := range 8 {
			if bits>>id&1 == 1 {
				continue
			}
			n := listening(id)
			for other := range nodeCount {
				n.Conn[other] = bits>>other&1 == 1
			}
			for _, from := range nodeIds {
				heard := from >= 0 && from < nodeCount && n.Conn[from]
				for _, m := range []impl.Msg{sayData(4, 17), sayAck(4, 17), sayAck(2, 200), sayClear(4, 17, 1), sayCopy(3, 8), sayDone(9, 300, 2, 1)} {
					if heard {
						wantHearPlainly(t, "heard", n, from, m)
					} else {
						wantNotHeard(t, "not heard", n, from, m)
					}
				}
			}
		}
	}
}

func TestHearOfOneThatIsDown(t *testing.T) {
	for id := range nodeCount {
		for from := -1; from <= nodeCount; from++ {
			for _, m := range wordsToHear() {
				wantNotHeard(t, "it is down", down(id), from, m)
			}
		}
	}
}

func TestHearOfWhatIsNoMessage(t *testing.T) {
	for id := range nodeCount {
		for _, n := range []impl.Node{hearingAll(id), busy(id), newPlainly(id)} {
			for _, m := range wrongMsgs() {
				for from := -1; from <= nodeCount; from++ {
					wantNotHeard(t, "no message", n, from, m)
				}
			}
		}
	}
}

func TestHearOfFarNumbers(t *testing.T) {
	for _, two := range pairAndFar {
		n := hearingAll(two.id)
		for _, far := range farNumbers {
			for kind := kindData; kind <= kindDone; kind++ {
				for _, m := range []impl.Msg{{Kind: kind, Cell: far, Val: 1}, {Kind: kind, Val: far}, {Kind: kind, Val: 1, Who: far}} {
					wantNotHeard(t, "far numbers", n, two.from, m)
				}
			}
			wantNotHeard(t, "far numbers", n, two.from, impl.Msg{Kind: far, Val: 1})
			wantHearPlainly(t, "far numbers", n, two.from, sayDone(9, far))
		}
	}
}

func TestNothingIsHeardOrSaidWhereThereIsNoNode(t *testing.T) {
	words := []impl.Msg{sayData(3, 8), sayAck(3, 8), sayAck(4, 17), sayAck(0, 0), sayClear(4, 17, 1), sayCopy(0, 0), sayDone(9, 300, 2, 1)}
	for _, wrong := range wrongNodes() {
		n := wrong.node
		for id := -1; id <= nodeCount; id++ {
			for _, m := range words {
				wantNotHeard(t, wrong.why, n, id, m)
			}
			wantWrite(t, wrong.why, n, 3, 8+id, n)
			wantCopy(t, wrong.why, n, id, n)
		}
		n.Prime = true
		wantWrite(t, wrong.why, n, 3, 200, n)
		wantWrite(t, wrong.why, n, 0, 1, n)
	}
}

// Behind the last number only what leaves the meta as it was is heard; of all else nothing is turned, and nothing said.
func TestHearBehindTheLastNumber(t *testing.T) {
	for _, two := range pairAndFar {
		n := numbered(hearingAll(two.id), mostSeq)
		wantNotHeard(t, "another last write", n, two.from, sayData(4, 8))
		wantNotHeard(t, "another last write in a cell that has it", n, two.from, sayData(4, 17))
		wantNotHeard(t, "a new mark", n, two.from, sayCopy(4, 17))
		wantNotHeard(t, "other generations", n, two.from, sayDone(9, 300, 2))
		wantNotHeard(t, "another last write", n, two.from, sayDone(8, 300, 2, 1))
		for _, flags := range []int{0, 2, 3, 4, 5} {
			held := numbered(turnedMeta(n, func(m *impl.Meta) { *m = metaWith(flags) }), mostSeq)
			if two.id < 2 || flags%2 == 0 {
				wantNotHeard(t, "other flags", held, two.from, sayDone(9, 300, 2, 1))
			} else {
				wantHear(t, "no other flags", held, two.from, sayDone(9, 300, 2, 1), held)
			}
		}
		wantHear(t, "what it knows already", n, two.from, sayDone(9, 300, 2, 1), n)

		marked := turnedMeta(n, func(m *impl.Meta) { m.Bits = [][]int{{2, 4}, {2, 4}, {2, 4}} })
		wantNotHeard(t, "a mark less", marked, two.from, sayAck(4, 17))
		wantNotHeard(t, "a mark less, of a write that waits", marked, two.from, sayAck(2, 200))
		wantNotHeard(t, "a mark less", marked, two.from, sayClear(4, 17, two.from))
		wantNotHeard(t, "a mark less", marked, two.from, sayClear(4, 17, two.third))
		wantHear(t, "of itself", marked, two.from, sayClear(4, 17, two.id), marked)

		bare := turnedMeta(n, func(m *impl.Meta) { m.Bits = make([][]int, nodeCount) })
		clears := impl.Post{From: two.id, To: two.third, Msg: sayClear(1, 9, two.from)}
		waitsNoMore := cloneNode(bare)
		if two.id+two.from == 1 {
			waitsNoMore.Wait = []int{1, 200}
		}
		wantHear(t, "not marked", bare, two.from, sayAck(1, 9), waitsNoMore, clears)

		fits := turnedMeta(n, func(m *impl.Meta) { m.Bits[two.third], m.Bits[two.from] = []int{5}, nil })
		turned := cloneNode(fits)
		turned.Image[5] = 9
		ack := impl.Post{From: two.id, To: two.from, Msg: sayAck(5, 9)}
		wantHear(t, "a cell alone is turned", fits, two.from, sayData(5, 9), turned, ack)
		wantHear(t, "a cell alone is turned", fits, two.from, sayCopy(5, 9), turned, ack)
		near, _ := impl.Hear(numbered(n, mostSeq-1), two.from, sayData(4, 8))
		wantNumber(t, "the last number", near, mostSeq)
	}
}

func TestHearKeepsOnce(t *testing.T) {
	for _, two := range pairAndFar {
		for _, seq := range []int{1, 127, 128, 999, mostSeq - 1} {
			n := numbered(hearingAll(two.id), seq)
			for _, m := range wordsToHear() {
				want, _ := hearPlainly(n, two.from, m)
				_, number, _ := getPlainly(want.Slots)
				got, _ := impl.Hear(n, two.from, m)
				wantNumber(t, fmt.Sprint("behind ", m), got, number)
			}
		}
	}
}

func TestHearAgainstPlainOne(t *testing.T) {
	for _, n := range listeners() {
		for from := -1; from <= nodeCount; from++ {
			for _, m := range wordsToHear() {
				wantHearPlainly(t, "each word", n, from, m)
			}
		}
	}
	for i, n := range goodNodes() {
		for j, m := range ordinaryMsgs() {
			if (i+j)%5 == 0 {
				wantHearPlainly(t, "each message", n, (i+j/5)%nodeCount, m)
			}
		}
	}
}

func TestWrite(t *testing.T) {
	for id := range 2 {
		mate := 1 - id
		marks := [][]int{{0, 3, 7}, {3}, {2, 3, 5}}
		marks[id] = [][]int{{0, 7}, {}}[id]
		toMate, toFar := impl.Post{From: id, To: mate, Msg: sayData(3, 200)}, impl.Post{From: id, To: 2, Msg: sayData(3, 200)}
		for _, hears := range []struct {
			ids   []int
			wait  []int
			posts []impl.Post
		}{
			{nil, []int{4, 8}, nil},
			{[]int{mate}, []int{4, 8, 200}, []impl.Post{toMate}},
			{[]int{2}, []int{4, 8}, []impl.Post{toFar}},
			{[]int{mate, 2}, []int{4, 8, 200}, []impl.Post{toMate, toFar}},
		} {
			n := leading(id, hears.ids...)
			n.Wait = []int{4, 8}
			want := cloneNode(n)
			want.Image, want.Wait = []int{4, 9, 200, 200, 17, 1, 199, 3}, hears.wait
			want.Meta.Bits, want.Meta.Last = marks, 200
			want.Slots.B = slotPlainly(want.Meta, 7)
			wantWrite(t, fmt.Sprint("who hears ", hears.ids), n, 3, 200, want, hears.posts...)
		}
	}
}

func TestWriteOfEachCell(t *testing.T) {
	for id := range 2 {
		n := newPlainly(id)
		n.Prime, n.Conn[1-id], n.Conn[2] = true, true, true
		for _, at := range cellPlaces {
			if at < 0 || at >= cellCount {
				wantWrite(t, "no cell", n, at, 5, n)
				continue
			}
			got, said := impl.Write(n, at, 5)
			if got.Image[at] != 5 || len(said) != 2 {
				t.Errorf("cell %d is written as %v, %v", at, got, said)
			}
			want := [][]int{{at}, {at}, {at}}
			want[id] = nil
			wantMarks(t, "each cell", got, want...)
		}
	}
}

func TestWriteOfEachNumber(t *testing.T) {
	for id := range 2 {
		for _, ids := range [][]int{nil, {1 - id}, {2}, {0, 1, 2}} {
			n := newPlainly(id)
			n.Prime = true
			for _, other := range withoutPlainly(ids, id) {
				n.Conn[other] = true
			}
			for _, val := range writeNumbers {
				got, said := impl.Write(n, 4, val)
				if val < 1 || val > mostWrites {
					wantWrite(t, "no write", n, 4, val, n)
					continue
				}
				if got.Image[4] != val || got.Meta.Last != val || len(said) != len(withoutPlainly(ids, id)) {
					t.Errorf("write %d comes out as %v, %v", val, got, said)
				}
				if n.Conn[1-id] {
					wantList(t, "what waits", got.Wait, val)
				} else {
					wantList(t, "nobody to wait for", got.Wait)
				}
			}
		}
	}
}

func TestWriteOfOneThatIsNotPrime(t *testing.T) {
	for id := range nodeCount {
		for _, n := range []impl.Node{hearingAll(id), newPlainly(id), down(id)} {
			for at := range cellCount {
				for _, val := range []int{0, 1, 9, 200, 201} {
					wantWrite(t, "it is not prime", n, at, val, n)
				}
			}
		}
	}
	far := hearingAll(2)
	far.Prime = true
	wantWrite(t, "the one far away", far, 3, 200, far)
}

// Where it hears its mate, each write is above all others that wait; else what waits is not asked for.
func TestWriteAboveAllThatWait(t *testing.T) {
	for id := range 2 {
		mate := 1 - id
		for _, wait := range [][]int{nil, {1}, {5}, {200}, {5, 9}, {5, 9, 11}, {1, 200}, {199, 200}, gensFrom(1, 30)} {
			for _, val := range []int{1, 4, 5, 6, 8, 9, 10, 11, 12, 30, 31, 198, 199, 200} {
				for _, ids := range [][]int{{mate}, {mate, 2}} {
					n := leading(id, ids...)
					n.Wait = slices.Clone(wait)
					if len(wait) > 0 && wait[len(wait)-1] > val {
						wantWrite(t, "one that waits is above", n, 3, val, n)
						continue
					}
					got, _ := impl.Write(n, 3, val)
					wantNode(t, "above all", got, keptWith(n, func(n *impl.Node) {
						n.Image[3], n.Meta.Last = val, val
						n.Meta.Bits = [][]int{{0, 3, 7}, {3}, {2, 3, 5}}
						n.Meta.Bits[id] = [][]int{{0, 7}, {}}[id]
						n.Wait = append(withoutPlainly(wait, val), val)
					}))
				}
				for _, ids := range [][]int{nil, {2}} {
					n := leading(id, ids...)
					n.Wait = slices.Clone(wait)
					got, said := impl.Write(n, 3, val)
					wantList(t, "it does not hear its mate", got.Wait, wait...)
					if got.Image[3] != val || len(said) != len(ids) {
						t.Errorf("write %d, where %v wait, comes out as %v, %v", val, wait, got, said)
					}
				}
			}
		}
	}
}

func TestWriteBehindTheLastNumber(t *testing.T) {
	for id := range 2 {
		for _, ids := range [][]int{nil, {1 - id}, {2}, {1 - id, 2}} {
			n := numbered(leading(id, ids...), mostSeq)
			for at := range cellCount {
				wantWrite(t, "another last write", n, at, 200, n)
			}
			n.Wait = nil
			wantWrite(t, "a new mark", n, 1, 9, n)
			marked := turnedMeta(n, func(m *impl.Meta) { m.Bits = [][]int{{1}, {1}, {1}}; m.Bits[id] = nil })
			want := cloneNode(marked)
			want.Image[1] = 9
			if slices.Contains(ids, 1-id) {
				want.Wait = []int{9}
			}
			var posts []impl.Post
			for _, other := range ids {
				posts = append(posts, impl.Post{From: id, To: other, Msg: sayData(1, 9)})
			}
			wantWrite(t, "marked already", marked, 1, 9, want, posts...)
			near, _ := impl.Write(numbered(n, mostSeq-1), 3, 200)
			wantNumber(t, "the last number", near, mostSeq)
		}
	}
}

func TestWriteAgainstPlainOne(t *testing.T) {
	for _, n := range append(listeners(), goodNodes()...) {
		for _, at := range []int{-1, 0, 3, 7, 8} {
			for _, val := range []int{-1, 0, 1, 8, 9, 10, 199, 200, 201} {
				want, posts := writePlainly(n, at, val)
				wantWrite(t, "each write", n, at, val, want, posts...)
			}
		}
	}
}

func TestCopyOfCells(t *testing.T) {
	for _, two := range pairAndFar {
		for _, held := range []int{1, 4} {
			n := copying(turnedMeta(hearingAll(two.id), func(m *impl.Meta) { *m = metaWith(held) }), two.from, 2, 3, 7)
			want := cloneNode(n)
			want.Sync[two.from] = []int{3, 7}
			wantCopy(t, "the first of several", n, two.from, want, impl.Post{From: two.id, To: two.from, Msg: sayCopy(2, 200)})
			next := cloneNode(want)
			next.Sync[two.from] = []int{7}
			wantCopy(t, "one that was never written", want, two.from, next, impl.Post{From: two.id, To: two.from, Msg: sayCopy(3, 0)})
			last := cloneNode(next)
			last.Sync[two.from] = nil
			wantCopy(t, "the last one", next, two.from, last, impl.Post{From: two.id, To: two.from, Msg: sayCopy(7, 3)})
		}
	}
}

func TestCopyOfEachCell(t *testing.T) {
	for _, two := range pairAndFar {
		for _, cells := range goodMarks {
			n := copying(hearingAll(two.id), two.from, cells...)
			for i, at := range cells {
				want := cloneNode(n)
				want.Sync[two.from] = slices.Clone(cells[i+1:])
				wantCopy(t, "each in turn", n, two.from, want, impl.Post{From: two.id, To: two.from, Msg: sayCopy(at, n.Image[at])})
				n = want
			}
		}
	}
}

func TestCopyOfNoCell(t *testing.T) {
	for _, two := range pairAndFar {
		for flags := range 6 {
			n := copying(turnedMeta(hearingAll(two.id), func(m *impl.Meta) { *m = metaWith(flags) }), two.from)
			want := cloneNode(n)
			want.Copies[two.from] = false
			if two.id < 2 && two.from < 2 {
				want.Meta.Held = false
			}
			want.Slots.B = slotPlainly(want.Meta, 7)
			wantCopy(t, "all is copied", n, two.from, want, impl.Post{From: two.id, To: two.from, Msg: sayDone(9, 300, 2, 1)})
			wantCopy(t, "once more", want, two.from, want)
		}
	}
}

// What it copies to the one turns nothing of what it copies to the other one.
func TestCopyToBoth(t *testing.T) {
	for _, two := range pairAndFar {
		n := copying(copying(hearingAll(two.id), two.third, 1, 6), two.from, 4)
		want := cloneNode(n)
		want.Sync[two.from] = nil
		wantCopy(t, "a cell to one", n, two.from, want, impl.Post{From: two.id, To: two.from, Msg: sayCopy(4, 17)})
		done := cloneNode(want)
		done.Copies[two.from] = false
		done.Slots.B = slotPlainly(done.Meta, 7)
		wantCopy(t, "all to one", want, two.from, done, impl.Post{From: two.id, To: two.from, Msg: sayDone(9, 300, 2, 1)})
		want.Sync[two.third] = []int{6}
		wantCopy(t, "a cell to the other one", n, two.third, copying(want, two.from, 4), impl.Post{From: two.id, To: two.third, Msg: sayCopy(1, 9)})
	}
}

func TestCopyWhereItDoesNotCopy(t *testing.T) {
	for id := range nodeCount {
		for _, n := range []impl.Node{hearingAll(id), listening(id), newPlainly(id), down(id)} {
			for _, to := range nodeIds {
				wantCopy(t, "it does not copy", n, to, n)
			}
		}
		for _, to := range nodeIds {
			if to < 0 || to >= nodeCount || to == id {
				wantCopy(t, "to itself, or to none", busy(id), to, busy(id))
			}
		}
		for other := range nodeCount {
			if other != id {
				n := copying(hearingAll(id), other, 5)
				third := 3 - id - other
				wantCopy(t, "to another one", n, third, n)
			}
		}
	}
}

// Behind the last number it stays held, and so it goes on to copy; what is not held tells that all is copied.
func TestCopyBehindTheLastNumber(t *testing.T) {
	for _, two := range pairAndFar {
		for flags := range 6 {
			n := numbered(turnedMeta(hearingAll(two.id), func(m *impl.Meta) { *m = metaWith(flags) }), mostSeq)
			cells := copying(n, two.from, 2, 4)
			wantCopy(t, "a cell", cells, two.from, copying(n, two.from, 4), impl.Post{From: two.id, To: two.from, Msg: sayCopy(2, 200)})
			done := copying(n, two.from)
			if flags >= 4 && two.id+two.from == 1 {
				wantCopy(t, "it is held", done, two.from, done)
			} else {
				wantCopy(t, "it is not held", done, two.from, n, impl.Post{From: two.id, To: two.from, Msg: sayDone(9, 300, 2, 1)})
			}
		}
	}
}

func TestCopyAgainstPlainOne(t *testing.T) {
	for _, n := range append(listeners(), goodNodes()...) {
		for to := -1; to <= nodeCount; to++ {
			for range 4 {
				want, posts := copyPlainly(n, to)
				wantCopy(t, "each node", n, to, want, posts...)
				n = want
			}
		}
	}
}

// asked are the functions that hear, write and copy, each at arguments of each kind.
func asked(m impl.Msg) map[string]func(n impl.Node) (impl.Node, []impl.Post) {
	asks := map[string]func(n impl.Node) (impl.Node, []impl.Post){}
	for id := -1; id <= nodeCount; id++ {
		asks[fmt.Sprint("Hear of ", id, m)] = func(n impl.Node) (impl.Node, []impl.Post) { return impl.Hear(n, id, m) }
		asks[fmt.Sprint("Copy to ", id)] = func(n impl.Node) (impl.Node, []impl.Post) { return impl.Copy(n, id) }
	}
	for _, at := range []int{-1, 3} {
		for _, val := range []int{0, 9, 200, 201} {
			asks[fmt.Sprint("Write ", at, val)] = func(n impl.Node) (impl.Node, []impl.Post) { return impl.Write(n, at, val) }
		}
	}
	return asks
}

// roomyMsg is m with spare room behind its generations, also where there are none.
func roomyMsg(m impl.Msg) impl.Msg {
	m.Gens = roomy(m.Gens, 82, 83)
	return m
}

func someListeners() []impl.Node {
	list := append(listeners(), impl.Node{}, impl.Node{Id: -1}, impl.Node{Id: 3, Up: true, Prime: true})
	for _, two := range pairAndFar {
		list = append(list, copying(hearingAll(two.id), two.from), copying(hearingAll(two.id), two.from, 2, 5))
	}
	for i, wrong := range wrongNodes() {
		if i%97 == 0 {
			list = append(list, wrong.node)
		}
	}
	return list
}

func someWords() []impl.Msg {
	return []impl.Msg{sayData(3, 8), sayAck(2, 200), sayAck(3, 8), sayClear(4, 17, 0), sayClear(2, 200, 2), sayCopy(7, 0), sayDone(9, 77, 300), sayDone(9), {}, {Kind: kindAck, Cell: 2, Val: 200, Gens: []int{4}}}
}

func TestThoseThatHearAreNotWrittenInto(t *testing.T) {
	for _, n := range someListeners() {
		for _, m := range someWords() {
			given, word := roomyNode(n), roomyMsg(m)
			was, said := roomText(reflect.ValueOf(given)), roomText(reflect.ValueOf(word))
			for what, ask := range asked(word) {
				ask(given)
				if now := roomText(reflect.ValueOf(given)); now != was {
					t.Fatalf("%s: %s was changed to %s", what, was, now)
				}
			}
			if now := roomText(reflect.ValueOf(word)); now != said {
				t.Errorf("%s was changed to %s", said, now)
			}
		}
	}
}

func TestThoseThatHearTellNewMemory(t *testing.T) {
	for _, n := range someListeners() {
		for _, m := range someWords() {
			given, word := roomyNode(n), roomyMsg(m)
			for what, ask := range asked(word) {
				one, posts := ask(given)
				other, again := ask(given)
				wantApart(t, what, given, word, one, posts, other, again)
			}
		}
	}
}

// Lists of the node and of the message that share memory are apart in the node and in what it says.
func TestThoseThatHearTellListsOfTheirOwn(t *testing.T) {
	shared, lines := gensFrom(0, cellCount), []bool{false, true, true}
	for _, cells := range [][]int{shared[:0], shared[1:3]} {
		n := newPlainly(0)
		n.Prime, n.Image, n.Conn, n.Copies, n.Wait = true, shared, lines, lines, shared[2:4]
		n.Meta.Gens, n.Meta.Bits = shared[1:3], [][]int{shared[1:3], shared[1:3], shared[1:3]}
		n.Sync = [][]int{nil, cells, cells}
		b := slotPlainly(n.Meta, 4)
		n.Slots = impl.Slots{A: b, B: b}
		wantNodeOk(t, "lists that share", n, true)
		for _, m := range []impl.Msg{sayData(1, 8), sayAck(1, 1), sayClear(2, 2, 1), sayCopy(3, 7), {Kind: kindDone, Val: 1, Gens: shared[1:3]}} {
			for what, ask := range asked(m) {
				got, posts := ask(n)
				wantApart(t, what, got, posts)
				wantApart(t, what, shared, b, lines, got, posts)
			}
		}
	}
}

func TestThoseThatHearLookAtNoSpareRoom(t *testing.T) {
	for _, n := range listeners() {
		given := roomyNode(n)
		for _, m := range someWords() {
			for from := range nodeCount {
				wantHearPlainly(t, "wrong ones in the spare room", given, from, roomyMsg(m))
			}
		}
		for _, val := range []int{9, 200} {
			want, posts := writePlainly(n, 3, val)
			wantWrite(t, "wrong ones in the spare room", given, 3, val, want, posts...)
		}
		for to := range nodeCount {
			want, posts := copyPlainly(n, to)
			wantCopy(t, "wrong ones in the spare room", given, to, want, posts...)
		}
	}
}

func TestVeryLongNodesHearNothing(t *testing.T) {
	n := busy(0)
	n.Image, n.Wait = make([]int, 1<<16), make([]int, 1<<16)
	n.Conn, n.Copies, n.Sync = slices.Repeat([]bool{true}, 1<<16), slices.Repeat([]bool{true}, 1<<16), make([][]int, 1<<16)
	for _, id := range []int{0, 1, 1 << 15} {
		wantNotHeard(t, "very long", n, id, sayData(3, 8))
		wantCopy(t, "very long", n, id, n)
		wantWrite(t, "very long", n, id, 200, n)
	}
	wantNotHeard(t, "a very long message", hearingAll(0), 1, sayDone(9, gensFrom(1, 1<<16)...))
}

type wordOnItsWay struct {
	post  impl.Post
	image []int
}

type writeThere struct{ id, at, val int }

// A talk is three nodes, of which one of the pair leads, and what is on its way between them.
type talk struct {
	t      *testing.T
	source *rand.Rand
	nodes  []impl.Node
	leader int
	net    []wordOnItsWay
	last   int
	had    map[writeThere]int
	heard  [kindDone + 1]int
}

func newTalk(t *testing.T, seed int64) *talk {
	k := &talk{t: t, source: rand.New(rand.NewSource(seed)), had: map[writeThere]int{}}
	for id := range nodeCount {
		k.nodes = append(k.nodes, impl.NodeNew(id))
	}
	k.nodes[0].Prime = true
	return k
}

// wantSo asks that what is said is so where it is said; a clear tells what another one has had.
func (k *talk) wantSo(post impl.Post) {
	n, m := k.nodes[post.From], post.Msg
	isSo := false
	switch m.Kind {
	case kindData:
		isSo = n.Image[m.Cell] == m.Val && n.Meta.Last == m.Val && n.Prime
	case kindAck, kindCopy:
		isSo = n.Image[m.Cell] == m.Val
	case kindClear:
		isSo = m.Who != post.From && m.Who != post.To && k.had[writeThere{m.Who, m.Cell, m.Val}] > 0
	case kindDone:
		isSo = slices.Equal(m.Gens, n.Meta.Gens) && m.Val == n.Meta.Last && !n.Copies[post.To]
	}
	if !isSo {
		k.t.Errorf("node %d says %v, and it is not so", post.From, post)
	}
}

// wantMarked asks that each cell in which two differ is marked by one of them for the other one.
func (k *talk) wantMarked() {
	for _, two := range pairAndFar {
		x, y := k.nodes[two.id], k.nodes[two.from]
		for _, at := range differPlainly(x.Image, y.Image) {
			if !slices.Contains(x.Meta.Bits[y.Id], at) && !slices.Contains(y.Meta.Bits[x.Id], at) {
				k.t.Errorf("cell %d differs at %d and %d, and neither marks it", at, x.Id, y.Id)
			}
		}
	}
}

func (k *talk) turns(n impl.Node, posts []impl.Post) {
	k.nodes[n.Id] = n
	for at, val := range n.Image {
		k.had[writeThere{n.Id, at, val}]++
	}
	wantSaidWell(k.t, "in a talk", n, posts)
	for _, post := range posts {
		k.wantSo(post)
		k.net = append(k.net, wordOnItsWay{post, slices.Clone(n.Image)})
	}
	k.wantMarked()
}

func (k *talk) write() {
	if k.nodes[k.leader].Up && k.last < mostWrites {
		k.last++
		k.turns(impl.Write(k.nodes[k.leader], k.source.Intn(cellCount), k.last))
	}
}

// What one has said to another one is heard in its order.
func (k *talk) hear(i int) {
	one := k.net[i].post
	i = slices.IndexFunc(k.net, func(w wordOnItsWay) bool { return w.post.From == one.From && w.post.To == one.To })
	word := k.net[i]
	k.net = slices.Delete(slices.Clone(k.net), i, i+1)
	k.turns(impl.Hear(k.nodes[one.To], one.From, word.post.Msg))
	n := k.nodes[one.To]
	k.heard[word.post.Msg.Kind]++
	if word.post.Msg.Kind == kindDone && (!n.Meta.Fine || !slices.Equal(n.Image, word.image)) {
		k.t.Errorf("all was copied, %v, and node %d has %v", word.image, n.Id, n)
	}
	if word.post.Msg.Kind == kindAck && one.From+one.To == 1 && slices.Contains(n.Wait, word.post.Msg.Val) {
		k.t.Errorf("its mate has %v, and %v wait", word.post.Msg, n.Wait)
	}
}

func (k *talk) cut(x int, y int) {
	for _, two := range [][]int{{x, y}, {y, x}} {
		n := &k.nodes[two[0]]
		n.Conn[two[1]], n.Copies[two[1]], n.Sync[two[1]] = false, false, nil
	}
	k.net = slices.DeleteFunc(slices.Clone(k.net), func(w wordOnItsWay) bool {
		return w.post.From == x && w.post.To == y || w.post.From == y && w.post.To == x
	})
}

func (k *talk) join(x int, y int) {
	if impl.Source(k.nodes[x], k.nodes[y]) == meetSecond {
		x, y = y, x
	}
	if s, o, ok := impl.Join(k.nodes[x], k.nodes[y]); ok {
		k.nodes[x], k.nodes[y] = s, o
	}
}

func (k *talk) fall(id int) {
	k.cut(id, (id+1)%nodeCount)
	k.cut(id, (id+2)%nodeCount)
	k.nodes[id] = impl.Fall(k.nodes[id])
}

func (k *talk) rise(id int) {
	k.nodes[id] = impl.Rise(k.nodes[id])
	k.nodes[id].Prime = id == k.leader
}

func (k *talk) isBetween(w wordOnItsWay) bool { return w.post.From < 2 && w.post.To < 2 }

// The other one of the pair leads only where it has all that was written.
func (k *talk) handOver() {
	x, y := &k.nodes[k.leader], &k.nodes[1-k.leader]
	if !x.Up || !x.Conn[y.Id] || x.Copies[y.Id] || y.Copies[x.Id] || slices.ContainsFunc(k.net, k.isBetween) || x.Meta.Last != y.Meta.Last {
		return
	}
	x.Prime, x.Wait, y.Prime = false, nil, true
	k.leader = y.Id
}

func (k *talk) step() {
	one := k.source.Intn(nodeCount)
	other := (one + 1 + k.source.Intn(2)) % nodeCount
	switch k.source.Intn(40) {
	case 0:
		k.cut(one, other)
	case 1:
		k.fall(one)
	case 2:
		k.handOver()
	case 3, 4, 5, 6:
		k.rise(one)
		k.join(one, other)
	case 7, 8, 9, 10:
		k.write()
	case 11, 12, 13, 14, 15, 16, 17, 18:
		k.turns(impl.Copy(k.nodes[one], other))
	default:
		if len(k.net) > 0 {
			k.hear(k.source.Intn(len(k.net)))
		}
	}
}

// calm lets all that run hear and copy all there is.
func (k *talk) calm() {
	for id := range nodeCount {
		k.cut(id, (id+1)%nodeCount)
		k.rise(id)
	}
	for _, two := range [][]int{{0, 1}, {k.leader, 2}} {
		k.join(two[0], two[1])
		for range 100 {
			for _, line := range pairAndFar {
				k.turns(impl.Copy(k.nodes[line.id], line.from))
			}
			for len(k.net) > 0 {
				k.hear(0)
			}
		}
	}
}

func TestWhatIsSaidIsWhatIsSo(t *testing.T) {
	var heard [kindDone + 1]int
	for seed := range int64(25) {
		k := newTalk(t, 1000+seed)
		for range 1500 {
			k.step()
		}
		k.calm()
		for _, n := range k.nodes {
			wantList(t, "behind a talk", n.Image, k.nodes[k.leader].Image...)
			if !n.Meta.Fine {
				t.Errorf("behind a talk there is %v", n)
			}
		}
		for kind, count := range k.heard {
			heard[kind] += count
		}
	}
	for kind := kindData; kind <= kindDone; kind++ {
		if heard[kind] < 100 {
			t.Errorf("kind %d was heard only %d times", kind, heard[kind])
		}
	}
}
