package tests

import (
	"math"
	"math/rand"
	"slices"
	"testing"

	"loop.example/g00399/impl"
)

const (
	cellCount  = 8
	mostWrites = 200
)

// farPlaces are places that no list here has, as far off as a number can be.
var farPlaces = []int{-1, -2, -cellCount, -cellCount - 1, math.MinInt, math.MinInt + 1, math.MaxInt, math.MaxInt - 1, 1 << 32, -1 << 32, 1<<32 + 3}

// cellLists are lists of every kind: images, marks, and what is neither.
var cellLists = [][]int{
	nil,
	{},
	{0},
	{7},
	{8},
	{-1},
	{1, 2},
	{2, 1},
	{2, 2},
	{5, 5, 5},
	{7, 6, 5, 4, 3, 2, 1, 0},
	{0, 1, 2, 3, 4, 5, 6, 7},
	{0, 2, 4, 6},
	{1, 3, 5, 7},
	{9, 3, -4, 3, 9},
	{3, 8},
	{-1, 3},
	{math.MinInt, 0, math.MaxInt},
	{0, 0, 0, 0, 0, 0, 0},
	{0, 0, 0, 0, 0, 0, 0, 0},
	{0, 0, 0, 0, 0, 0, 0, 0, 0},
	{200, 200, 200, 200, 200, 200, 200, 200},
	{1, 2, 3, 4, 5, 6, 7, 201},
	{-1, 2, 3, 4, 5, 6, 7, 8},
	{4, 9, 200, 0, 17, 1, 199, 3},
	{4, 9, 200, 0, 17, 1, 199, 3, 5, 6, 7},
}

func wantList(t *testing.T, what string, got []int, want ...int) {
	t.Helper()
	if !slices.Equal(got, want) {
		t.Errorf("%s tells %v, not %v", what, got, want)
	}
}

func eightOf(n int) []int { return slices.Repeat([]int{n}, cellCount) }

func TestCellLimits(t *testing.T) {
	if impl.Cells != cellCount || impl.MaxWrites != mostWrites {
		t.Errorf("Cells is %d, MaxWrites %d", impl.Cells, impl.MaxWrites)
	}
}

func TestImageOk(t *testing.T) {
	for _, m := range [][]int{eightOf(0), eightOf(1), eightOf(199), eightOf(200), {0, 200, 1, 199, 5, 5, 0, 200}} {
		if !impl.ImageOk(m) {
			t.Errorf("%v is an image", m)
		}
	}
	for _, m := range [][]int{nil, {}, {0}, {1, 2, 3, 4, 5, 6, 7}, {1, 2, 3, 4, 5, 6, 7, 8, 9}, eightOf(-1), eightOf(201), slices.Repeat([]int{0}, 7), slices.Repeat([]int{0}, 9), slices.Repeat([]int{0}, 16)} {
		if impl.ImageOk(m) {
			t.Errorf("%v is no image", m)
		}
	}
}

func TestImageOkAtEachPlace(t *testing.T) {
	for at := range cellCount {
		for _, n := range []int{-1, 201, -200, 1000, math.MinInt, math.MaxInt} {
			m := eightOf(7)
			m[at] = n
			if impl.ImageOk(m) {
				t.Errorf("%v is no image", m)
			}
		}
		for _, n := range []int{0, 1, 199, 200} {
			m := eightOf(7)
			m[at] = n
			if !impl.ImageOk(m) {
				t.Errorf("%v is an image", m)
			}
		}
	}
}

// A list of seven is none, though its spare room would make up the eighth.
func TestImageOkLooksAtNoSpareRoom(t *testing.T) {
	room := eightOf(5)
	if impl.ImageOk(room[:7]) {
		t.Error("seven cells are an image")
	}
	nine := append(eightOf(5), 999)
	if !impl.ImageOk(nine[:8]) {
		t.Error("the spare room is asked")
	}
}

func TestImageNew(t *testing.T) {
	one := impl.ImageNew()
	wantList(t, "ImageNew", one, 0, 0, 0, 0, 0, 0, 0, 0)
	if !impl.ImageOk(one) {
		t.Error("ImageNew is no image")
	}
	for at := range one {
		one[at] = 9
	}
	wantList(t, "ImageNew, once more", impl.ImageNew(), 0, 0, 0, 0, 0, 0, 0, 0)
}

func TestPut(t *testing.T) {
	m := []int{10, 11, 12, 13, 14, 15, 16, 17}
	wantList(t, "Put at 0", impl.Put(m, 0, 5), 5, 11, 12, 13, 14, 15, 16, 17)
	wantList(t, "Put at 3", impl.Put(m, 3, 0), 10, 11, 12, 0, 14, 15, 16, 17)
	wantList(t, "Put at the last place", impl.Put(m, 7, 200), 10, 11, 12, 13, 14, 15, 16, 200)
	wantList(t, "Put of the same", impl.Put(m, 4, 14), m...)
	wantList(t, "Put behind the last place", impl.Put(m, 8, 5), m...)
	wantList(t, "Put below 0", impl.Put(m, -1, 5), m...)
	for _, at := range farPlaces {
		wantList(t, "Put far off", impl.Put(m, at, 5), m...)
	}
}

func TestPutOfWhatIsNoWrite(t *testing.T) {
	for _, n := range []int{-1, 201, math.MinInt, math.MaxInt} {
		got := impl.Put(eightOf(3), 2, n)
		wantList(t, "Put of what is no write", got, 3, 3, n, 3, 3, 3, 3, 3)
		if impl.ImageOk(got) {
			t.Errorf("%v is no image", got)
		}
	}
}

func TestPutIntoWhatIsNoImage(t *testing.T) {
	wantList(t, "Put into none", impl.Put(nil, 0, 5))
	wantList(t, "Put into an empty list", impl.Put([]int{}, 0, 5))
	wantList(t, "Put into one", impl.Put([]int{-7}, 0, 5), 5)
	wantList(t, "Put behind one", impl.Put([]int{-7}, 1, 5), -7)
	wantList(t, "Put behind three", impl.Put([]int{1, 2, 3}, 7, 5), 1, 2, 3)
	long := []int{1, 2, 3, 4, 5, 6, 7, 8, 900, 10}
	wantList(t, "Put at the ninth place", impl.Put(long, 8, 5), 1, 2, 3, 4, 5, 6, 7, 8, 5, 10)
	wantList(t, "Put at the last place of ten", impl.Put(long, 9, 5), 1, 2, 3, 4, 5, 6, 7, 8, 900, 5)
	wantList(t, "Put behind ten", impl.Put(long, 10, 5), long...)
}

func TestWhatIsPutIsThere(t *testing.T) {
	for _, m := range cellLists {
		for at := -2; at < len(m)+2; at++ {
			got := impl.Put(m, at, 77)
			if len(got) != len(m) {
				t.Fatalf("Put into %v at %d tells %v", m, at, got)
			}
			for i, n := range got {
				if i == at && n != 77 || i != at && n != m[i] {
					t.Fatalf("Put into %v at %d tells %v", m, at, got)
				}
			}
		}
	}
}

func TestMarksOk(t *testing.T) {
	for _, m := range [][]int{nil, {}, {0}, {7}, {0, 7}, {2, 5}, {6, 7}, {0, 1, 2, 3, 4, 5, 6, 7}} {
		if !impl.MarksOk(m) {
			t.Errorf("%v are marks", m)
		}
	}
	for _, m := range [][]int{{-1}, {8}, {9}, {math.MinInt}, {math.MaxInt}, {-1, 0}, {0, 8}, {7, 8}, {5, 2}, {2, 2}, {0, 0}, {7, 7}, {1, 2, 2, 3}, {1, 3, 2}, {0, 1, 2, 3, 4, 5, 7, 6}, {0, 1, 2, 3, 4, 5, 6, 7, 7}, {0, 1, 2, 3, 4, 5, 6, 7, 8}} {
		if impl.MarksOk(m) {
			t.Errorf("%v are no marks", m)
		}
	}
}

func TestMark(t *testing.T) {
	for _, c := range []struct {
		m    []int
		at   int
		want []int
	}{
		{nil, 0, []int{0}},
		{nil, 7, []int{7}},
		{[]int{}, 3, []int{3}},
		{[]int{5}, 2, []int{2, 5}},
		{[]int{2}, 5, []int{2, 5}},
		{[]int{2, 5}, 3, []int{2, 3, 5}},
		{[]int{2, 5}, 0, []int{0, 2, 5}},
		{[]int{2, 5}, 7, []int{2, 5, 7}},
		{[]int{2, 5}, 2, []int{2, 5}},
		{[]int{2, 5}, 5, []int{2, 5}},
		{[]int{0, 1, 2, 3, 4, 5, 6, 7}, 0, []int{0, 1, 2, 3, 4, 5, 6, 7}},
		{[]int{0, 1, 2, 3, 4, 5, 6, 7}, 7, []int{0, 1, 2, 3, 4, 5, 6, 7}},
		{[]int{0, 1, 2, 4, 5, 6, 7}, 3, []int{0, 1, 2, 3, 4, 5, 6, 7}},
		{[]int{2, 5}, 8, []int{2, 5}},
		{[]int{2, 5}, -1, []int{2, 5}},
		{nil, 8, nil},
		{nil, -1, nil},
	} {
		wantList(t, "Mark", impl.Mark(c.m, c.at), c.want...)
	}
	for _, at := range append([]int{8, 9}, farPlaces...) {
		for _, m := range cellLists {
			wantList(t, "Mark of no cell", impl.Mark(m, at), m...)
		}
	}
}

// Of marks that do not ascend the one that is marked is there once all the same, ahead of the first greater one.
func TestMarkInWhatAreNoMarks(t *testing.T) {
	wantList(t, "Mark where it stands twice", impl.Mark([]int{2, 2}, 2), 2)
	wantList(t, "Mark where it stands out of its place", impl.Mark([]int{5, 2}, 2), 2, 5)
	wantList(t, "Mark among others twice", impl.Mark([]int{5, 2, 5, 7}, 2), 2, 5, 5, 7)
	wantList(t, "Mark ahead of what is no cell", impl.Mark([]int{-3, 9}, 4), -3, 4, 9)
	for _, m := range cellLists {
		for at := range cellCount {
			got := impl.Mark(m, at)
			if countOf(got, at) != 1 {
				t.Errorf("Mark of %d in %v tells %v", at, m, got)
			}
			wantList(t, "Mark, and then Clear", impl.Clear(got, at), withoutPlainly(m, at)...)
		}
	}
}

func countOf(m []int, n int) int {
	count := 0
	for _, x := range m {
		if x == n {
			count++
		}
	}
	return count
}

func withoutPlainly(m []int, n int) []int {
	return slices.DeleteFunc(slices.Clone(m), func(x int) bool { return x == n })
}

func TestClear(t *testing.T) {
	for _, c := range []struct {
		m    []int
		at   int
		want []int
	}{
		{nil, 0, nil},
		{[]int{5}, 5, nil},
		{[]int{5}, 4, []int{5}},
		{[]int{2, 5}, 2, []int{5}},
		{[]int{2, 5}, 5, []int{2}},
		{[]int{2, 3, 5}, 3, []int{2, 5}},
		{[]int{2, 3, 5}, 4, []int{2, 3, 5}},
		{[]int{0, 1, 2, 3, 4, 5, 6, 7}, 0, []int{1, 2, 3, 4, 5, 6, 7}},
		{[]int{0, 1, 2, 3, 4, 5, 6, 7}, 7, []int{0, 1, 2, 3, 4, 5, 6}},
		{[]int{2, 5}, 8, []int{2, 5}},
		{[]int{2, 5}, -1, []int{2, 5}},
		{[]int{2, 8}, 8, []int{2}},
		{[]int{-1, 2}, -1, []int{2}},
		{[]int{5, 2, 5}, 5, []int{2}},
		{[]int{2, 2}, 2, nil},
		{[]int{5, 2, 4}, 2, []int{5, 4}},
		{[]int{math.MinInt, 4, math.MaxInt}, math.MaxInt, []int{math.MinInt, 4}},
	} {
		wantList(t, "Clear", impl.Clear(c.m, c.at), c.want...)
	}
}

func TestUnion(t *testing.T) {
	for _, c := range []struct{ a, b, want []int }{
		{nil, nil, nil},
		{[]int{}, nil, nil},
		{[]int{3}, nil, []int{3}},
		{nil, []int{3}, []int{3}},
		{[]int{2, 5}, []int{2, 7}, []int{2, 5, 7}},
		{[]int{2, 5}, []int{2, 5}, []int{2, 5}},
		{[]int{7}, []int{0}, []int{0, 7}},
		{[]int{0, 2, 4, 6}, []int{1, 3, 5, 7}, []int{0, 1, 2, 3, 4, 5, 6, 7}},
		{[]int{5, 2}, []int{4, 4}, []int{2, 4, 5}},
		{[]int{2, 2}, nil, []int{2}},
		{nil, []int{7, 7, 0, 0}, []int{0, 7}},
		{[]int{8, 3}, []int{-1}, []int{3}},
		{[]int{3, -1, 9}, []int{1, 8}, []int{1, 3}},
		{[]int{8}, []int{8}, nil},
		{[]int{math.MaxInt}, []int{math.MinInt, 6}, []int{6}},
	} {
		wantList(t, "Union", impl.Union(c.a, c.b), c.want...)
	}
}

func TestDiffer(t *testing.T) {
	image := []int{4, 9, 200, 0, 17, 1, 199, 3}
	for _, c := range []struct{ a, b, want []int }{
		{nil, nil, nil},
		{nil, []int{}, nil},
		{image, image, nil},
		{image, nil, []int{0, 1, 2, 3, 4, 5, 6, 7}},
		{nil, image, []int{0, 1, 2, 3, 4, 5, 6, 7}},
		{image, []int{4, 9, 200, 5, 17, 1, 199, 3}, []int{3}},
		{image, []int{5, 9, 200, 0, 17, 1, 199, 4}, []int{0, 7}},
		{image, eightOf(0), []int{0, 1, 2, 4, 5, 6, 7}},
		{image, []int{4, 9, 200}, []int{3, 4, 5, 6, 7}},
		{[]int{4, 8, 200}, image, []int{1, 3, 4, 5, 6, 7}},
		{image, image[:7], []int{7}},
		{[]int{0}, nil, []int{0}},
		{eightOf(0), nil, []int{0, 1, 2, 3, 4, 5, 6, 7}},
		{[]int{0, 0}, []int{0}, []int{1}},
		{[]int{1}, []int{2, 3}, []int{0, 1}},
		{append(slices.Clone(image), 5), image, nil},
		{append(slices.Clone(image), 5), append(slices.Clone(image), 6, 7), nil},
		{append(eightOf(0), 5), append(eightOf(1), 5), []int{0, 1, 2, 3, 4, 5, 6, 7}},
		{[]int{-1, 3}, []int{math.MinInt, 3}, []int{0}},
		{[]int{-1}, nil, []int{0}},
		{slices.Repeat([]int{1}, 100), slices.Repeat([]int{1}, 3), []int{3, 4, 5, 6, 7}},
	} {
		wantList(t, "Differ", impl.Differ(c.a, c.b), c.want...)
	}
}

func TestDifferLooksAtNoSpareRoom(t *testing.T) {
	room := []int{1, 2, 3, 4}
	wantList(t, "Differ of what is cut", impl.Differ(room[:2], room[:3]), 2)
	wantList(t, "Differ of what is cut alike", impl.Differ(room[:2], []int{1, 2}))
}

// differPlainly asks at each place how many lists have it, ahead of what they have there.
func differPlainly(a []int, b []int) []int {
	var out []int
	for at := range cellCount {
		var have []int
		for _, m := range [][]int{a, b} {
			if at < len(m) {
				have = append(have, m[at])
			}
		}
		if len(have) == 1 || len(have) == 2 && have[0] != have[1] {
			out = append(out, at)
		}
	}
	return out
}

// marksPlainly tells each cell that is in one of both, by its size.
func marksPlainly(a []int, b []int) []int {
	var out []int
	for at := range cellCount {
		if slices.Contains(a, at) || slices.Contains(b, at) {
			out = append(out, at)
		}
	}
	return out
}

func TestUnionAndDifferOfAllPairs(t *testing.T) {
	for _, a := range cellLists {
		for _, b := range cellLists {
			wantList(t, "Union", impl.Union(a, b), marksPlainly(a, b)...)
			wantList(t, "Differ", impl.Differ(a, b), differPlainly(a, b)...)
			if !impl.MarksOk(impl.Union(a, b)) || !impl.MarksOk(impl.Differ(a, b)) {
				t.Errorf("of %v and %v come no marks", a, b)
			}
		}
	}
}

func TestMarksStandOnce(t *testing.T) {
	source := rand.New(rand.NewSource(5))
	var m []int
	marked := [cellCount]bool{}
	for range 20000 {
		at := source.Intn(cellCount+4) - 2
		isCell := at >= 0 && at < cellCount
		if source.Intn(2) == 0 {
			m = impl.Clear(m, at)
			if isCell {
				marked[at] = false
			}
		} else {
			m = impl.Mark(m, at)
			if isCell {
				marked[at] = true
			}
		}
		var want []int
		for cell, is := range marked {
			if is {
				want = append(want, cell)
			}
		}
		if !slices.Equal(m, want) || !impl.MarksOk(m) {
			t.Fatalf("marks are %v, not %v", m, want)
		}
	}
}

// askCells calls each function of the chapter on lists a and b and tells every list that is answered.
func askCells(a []int, b []int, at int) [][]int {
	impl.ImageOk(a)
	impl.MarksOk(a)
	return [][]int{impl.Put(a, at, 55), impl.Mark(a, at), impl.Clear(a, at), impl.Union(a, b), impl.Union(b, a), impl.Differ(a, b), impl.Differ(b, a)}
}

// withRoom tells the list as a piece of more, with numbers ahead of it and in its spare room.
func withRoom(m []int) ([]int, []int) {
	room := append(append([]int{71, 72}, m...), 3, 1, 75, 76)
	return room, room[2 : 2+len(m)]
}

func TestCellsWriteIntoNoArgument(t *testing.T) {
	places := append([]int{0, 1, 2, 3, 4, 5, 6, 7, 8, 9}, farPlaces...)
	for _, a := range cellLists {
		for _, b := range cellLists {
			for _, at := range places {
				roomA, givenA := withRoom(a)
				roomB, givenB := withRoom(b)
				wasA, wasB := slices.Clone(roomA), slices.Clone(roomB)
				for _, answer := range askCells(givenA, givenB, at) {
					spoil(answer)
				}
				if !slices.Equal(roomA, wasA) || !slices.Equal(roomB, wasB) {
					t.Fatalf("%v and %v were changed to %v and %v", wasA, wasB, roomA, roomB)
				}
			}
		}
	}
}

// spoil writes into a list and all of its spare room.
func spoil(m []int) {
	whole := m[:cap(m)]
	for i := range whole {
		whole[i] = -12345
	}
}

func TestCellsTellNewMemory(t *testing.T) {
	for _, a := range cellLists {
		for _, b := range cellLists {
			for at := -1; at <= cellCount; at++ {
				one, two := askCells(a, b, at), askCells(a, b, at)
				for i := range one {
					was := slices.Clone(two[i])
					spoil(one[i])
					wantList(t, "what is told twice", two[i], was...)
				}
			}
		}
	}
}
