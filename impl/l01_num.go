package impl

import "strconv"

const (
	maxNum      = 2147483647
	maxNumBytes = 5
	numBits     = 7
	numMore     = 1 << numBits
	sumModulus  = 65521
	sumShift    = 65536
)

// noNumber is what the inner functions panic with, so that they need not hand
// a flag up from every place where a number may turn out to be none.
type noNumber struct{}

func Digits(n int) string { return strconv.Itoa(n) }

// A recovered panic leaves the result at its zero value, which is the answer
// that is wanted of what is no number; GetNum leans on the same.
func PutNum(n int) []byte {
	defer func() { _ = recover() }()
	return numBytes(mustBeNum(n))
}

func GetNum(b []byte, at int) (int, int, bool) {
	defer func() { _ = recover() }()
	n, next := readNum(b, at)
	return n, next, true
}

func SumOf(b []byte) int {
	first, second := 1, 0
	for _, c := range b {
		first = (first + int(c)) % sumModulus
		second = (second + first) % sumModulus
	}
	return second*sumShift + first
}

func mustBeNum(n int) int {
	if n < 0 || n > maxNum {
		panic(noNumber{})
	}
	return n
}

func numBytes(n int) []byte {
	var out []byte
	for n >= numMore {
		out = append(out, byte(n%numMore+numMore))
		n /= numMore
	}
	return append(out, byte(n))
}

// The bound on the bytes keeps the shift small: a longer form is either not
// the shortest one or tells of more than maxNum.
func readNum(b []byte, at int) (int, int) {
	n := 0
	for i := range maxNumBytes {
		c := numByteAt(b, at+i)
		n += c % numMore << (numBits * i)
		if c < numMore {
			mustBeShortest(c, i)
			return mustBeNum(n), at + i + 1
		}
	}
	panic(noNumber{})
}

// The first place is looked at ahead of all others, so at+i cannot wrap round.
func numByteAt(b []byte, at int) int {
	if at < 0 || at >= len(b) {
		panic(noNumber{})
	}
	return int(b[at])
}

// A last byte 0 adds nothing: only the number 0 needs it.
func mustBeShortest(last int, i int) {
	if last == 0 && i > 0 {
		panic(noNumber{})
	}
}
