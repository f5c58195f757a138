package varint_test

import (
	"bytes"
	"math"
	"testing"

	"lagleash/api"
	"lagleash/sharing"
	"lagleash/varint"
)

// sized is a number with the count of its bytes, as the document's words give it: seven bits a byte.
type sized struct {
	x    uint64
	size int
}

// steps lists, rising, the numbers at, ahead of and behind each step in size, and the greatest one.
func steps() []sized {
	list := []sized{{0, 1}, {1, 1}, {2, 1}}
	for k := 1; k <= 9; k++ {
		step := uint64(1) << (7 * k)
		list = append(list, sized{step - 2, k}, sized{step - 1, k}, sized{step, k + 1}, sized{step + 1, k + 1})
	}
	return append(list, sized{math.MaxUint64 - 1, 10}, sized{math.MaxUint64, 10})
}

// examples lists numbers with their bytes written out.
func examples() map[uint64][]byte {
	return map[uint64][]byte{
		0:              {0},
		1:              {1},
		127:            {127},
		128:            {128, 1},
		255:            {255, 1},
		256:            {128, 2},
		300:            {172, 2},
		16383:          {255, 127},
		16384:          {128, 128, 1},
		1 << 20:        {128, 128, 64},
		1<<63 - 1:      {255, 255, 255, 255, 255, 255, 255, 255, 127},
		1 << 63:        {128, 128, 128, 128, 128, 128, 128, 128, 128, 1},
		math.MaxUint64: {255, 255, 255, 255, 255, 255, 255, 255, 255, 1},
	}
}

func repeat(c byte, count int, last ...byte) []byte {
	return append(bytes.Repeat([]byte{c}, count), last...)
}

func wantRead(t *testing.T, b []byte, x uint64, n int, e api.Errno) {
	t.Helper()
	if gx, gn, ge := varint.Read(b); gx != x || gn != n || ge != e {
		t.Errorf("Read(%v) = %d, %d, %d; want %d, %d, %d", b, gx, gn, ge, x, n, e)
	}
}

func wantSmall(t *testing.T, b []byte, most, x, n int, e api.Errno) {
	t.Helper()
	if gx, gn, ge := varint.Small(b, most); gx != x || gn != n || ge != e {
		t.Errorf("Small(%v, %d) = %d, %d, %d; want %d, %d, %d", b, most, gx, gn, ge, x, n, e)
	}
}

// P1.1

func TestAppendExamples(t *testing.T) {
	for x, want := range examples() {
		for _, none := range [][]byte{nil, {}} {
			if got := varint.Append(none, x); !bytes.Equal(got, want) {
				t.Errorf("Append(none, %d) = %v; want %v", x, got, want)
			}
		}
		ahead := []byte{128, 0, 7}
		if got := varint.Append(ahead, x); !bytes.Equal(got, append([]byte{128, 0, 7}, want...)) {
			t.Errorf("Append(%v, %d) = %v; want %v behind these", ahead, x, got, want)
		}
		if got := varint.Size(x); got != len(want) {
			t.Errorf("Size(%d) = %d; want %d", x, got, len(want))
		}
	}
}

func TestAppendAtSteps(t *testing.T) {
	for _, s := range steps() {
		b := varint.Append(nil, s.x)
		if len(b) != s.size || varint.Size(s.x) != s.size {
			t.Fatalf("%d has the bytes %v and the Size %d; want %d bytes", s.x, b, varint.Size(s.x), s.size)
		}
		for i, c := range b {
			group := byte(s.x >> (7 * i) & 127)
			if i < len(b)-1 {
				group += 128
			}
			if c != group {
				t.Errorf("%d: byte %d is %d; want %d", s.x, i, c, group)
			}
		}
	}
}

func TestAppendLeavesWhatIsHandedInAndAnswersNewMemory(t *testing.T) {
	for _, s := range steps() {
		if wrong := sharing.Append(func(b []byte) []byte { return varint.Append(b, s.x) }); wrong != "" {
			t.Errorf("Append of %d %s", s.x, wrong)
		}
	}
}

// P1.2

func TestReadExamples(t *testing.T) {
	wantRead(t, []byte{172, 2, 9}, 300, 2, api.OK)
	for x, b := range examples() {
		wantRead(t, b, x, len(b), api.OK)
		for _, behind := range [][]byte{{0}, {9, 9}, {128}, {255, 255}, repeat(128, 12)} {
			wantRead(t, append(bytes.Clone(b), behind...), x, len(b), api.OK)
		}
	}
}

func TestReadRefuses(t *testing.T) {
	cases := map[string][][]byte{
		"no bytes":              {nil, {}},
		"it does not end":       {{128}, {255}, {128, 128}, {172, 130}, repeat(255, 8), repeat(128, 9), repeat(255, 9)},
		"a needless 0":          {{128, 0}, {255, 0}, {129, 128, 0}, repeat(128, 8, 0), repeat(255, 8, 0), repeat(128, 9, 0), repeat(255, 9, 0)},
		"more than 64 bits":     {repeat(255, 9, 2), repeat(128, 9, 2), repeat(255, 9, 3), repeat(128, 9, 64), repeat(255, 9, 127)},
		"more than ten bytes":   {repeat(255, 10), repeat(128, 10), repeat(255, 9, 128), repeat(255, 9, 129), repeat(128, 10, 1), repeat(255, 9, 129, 0), repeat(128, 40, 1)},
		"refused, with more on": {{128, 0, 1}, {129, 128, 0, 5}, repeat(255, 9, 2, 1), repeat(128, 9, 0, 1)},
	}
	for name, list := range cases {
		t.Run(name, func(t *testing.T) {
			for _, b := range list {
				wantRead(t, b, 0, 0, api.ErrBad)
			}
		})
	}
}

func TestReadEachTenthByte(t *testing.T) {
	for c := range 256 {
		if c == 1 {
			wantRead(t, repeat(128, 9, 1), 1<<63, 10, api.OK)
			wantRead(t, repeat(255, 9, 1, 7), math.MaxUint64, 10, api.OK)
			continue
		}
		wantRead(t, repeat(128, 9, byte(c)), 0, 0, api.ErrBad)
		wantRead(t, repeat(255, 9, byte(c), 0), 0, 0, api.ErrBad)
	}
}

func TestReadOfCutNumbers(t *testing.T) {
	for _, s := range steps() {
		b := varint.Append(nil, s.x)
		// The end stands in the spare room of each shorter slice, which must not be read.
		for n := range b {
			wantRead(t, b[:n], 0, 0, api.ErrBad)
		}
	}
}

func TestReadLeavesWhatIsHandedIn(t *testing.T) {
	for x, b := range examples() {
		keep := bytes.Clone(b)
		varint.Read(b)
		varint.Small(b, math.MaxInt)
		if !bytes.Equal(b, keep) {
			t.Errorf("the bytes of %d were changed", x)
		}
	}
}

// P1.3

func TestSmallExamples(t *testing.T) {
	b := []byte{172, 2}
	wantSmall(t, b, 299, 0, 0, api.ErrBad)
	wantSmall(t, b, 300, 300, 2, api.OK)
	wantSmall(t, b, 301, 300, 2, api.OK)
	wantSmall(t, []byte{172, 2, 9}, 300, 300, 2, api.OK)
	wantSmall(t, b, 0, 0, 0, api.ErrBad)
	wantSmall(t, []byte{0}, 0, 0, 1, api.OK)
	wantSmall(t, []byte{1}, 0, 0, 0, api.ErrBad)
}

func TestSmallAroundMost(t *testing.T) {
	for _, s := range steps() {
		b := varint.Append(nil, s.x)
		if s.x > math.MaxInt {
			wantSmall(t, b, math.MaxInt, 0, 0, api.ErrBad)
			continue
		}
		x := int(s.x)
		wantSmall(t, b, x, x, s.size, api.OK)
		wantSmall(t, b, math.MaxInt, x, s.size, api.OK)
		wantSmall(t, append(b, 128), x, x, s.size, api.OK)
		wantSmall(t, b, x-1, 0, 0, api.ErrBad)
		if x < math.MaxInt {
			wantSmall(t, b, x+1, x, s.size, api.OK)
		}
	}
}

func TestSmallWithMostBelowZero(t *testing.T) {
	for _, most := range []int{-1, -2, -300, math.MinInt + 1, math.MinInt} {
		for _, s := range steps() {
			wantSmall(t, varint.Append(nil, s.x), most, 0, 0, api.ErrBad)
		}
		wantSmall(t, nil, most, 0, 0, api.ErrBad)
	}
}

func TestSmallRefusesWhatReadRefuses(t *testing.T) {
	for _, b := range [][]byte{nil, {}, {128}, {128, 0}, {129, 128, 0}, repeat(255, 9), repeat(255, 10), repeat(255, 9, 2)} {
		for _, most := range []int{-1, 0, 1, 300, math.MaxInt} {
			wantSmall(t, b, most, 0, 0, api.ErrBad)
		}
	}
}

// P1.4, and P11 of these calls

func TestThereAndBack(t *testing.T) {
	numbers := steps()
	for x := range uint64(1 << 15) {
		numbers = append(numbers, sized{x, varint.Size(x)})
	}
	for _, s := range numbers {
		b := varint.Append(nil, s.x)
		wantRead(t, b, s.x, s.size, api.OK)
		wantRead(t, append(b, 0, 128, 255), s.x, s.size, api.OK)
		wantRead(t, varint.Append(b, 300), s.x, s.size, api.OK)
	}
}

func TestSeveralOneBehindTheOther(t *testing.T) {
	var b []byte
	for _, s := range steps() {
		b = varint.Append(b, s.x)
	}
	for _, s := range steps() {
		wantRead(t, b, s.x, s.size, api.OK)
		b = b[s.size:]
	}
	if len(b) != 0 {
		t.Errorf("%v is left", b)
	}
}

func TestNoneBeginsAnother(t *testing.T) {
	numbers := steps()
	for x := range uint64(600) {
		numbers = append(numbers, sized{x, 0})
	}
	for _, one := range numbers {
		for _, other := range numbers {
			if one.x != other.x && bytes.HasPrefix(varint.Append(nil, other.x), varint.Append(nil, one.x)) {
				t.Fatalf("the bytes of %d begin those of %d", one.x, other.x)
			}
		}
	}
}

func TestSizeNeverFalls(t *testing.T) {
	ahead := 0
	for _, s := range steps() {
		if size := varint.Size(s.x); size < ahead {
			t.Errorf("Size(%d) = %d, below %d of a smaller number", s.x, size, ahead)
		} else {
			ahead = size
		}
	}
	for x := range uint64(1 << 15) {
		if varint.Size(x+1) < varint.Size(x) {
			t.Errorf("Size(%d) is below Size(%d)", x+1, x)
		}
	}
}

// Bytes are read as a number just if that number's bytes are these.
func TestNothingElseIsRead(t *testing.T) {
	for c := range 256 {
		checkRead(t, []byte{byte(c)})
		for d := range 256 {
			checkRead(t, []byte{byte(c), byte(d)})
		}
	}
	edges := []byte{0, 1, 2, 127, 128, 129, 255}
	for _, lead := range []int{1, 6, 7, 8, 9} {
		for _, fill := range []byte{128, 129, 255} {
			for _, c := range edges {
				for _, d := range edges {
					for _, f := range edges {
						checkRead(t, repeat(fill, lead, c, d, f))
					}
				}
			}
		}
	}
}

// checkRead holds Read against the number that the groups of b's first end come to, each as far as 64 bits go.
func checkRead(t *testing.T, b []byte) {
	t.Helper()
	var x uint64
	end := 0
	for i, c := range b {
		if i < 10 {
			x += uint64(c%128) << (7 * i)
		}
		if c < 128 {
			end = i + 1
			break
		}
	}
	if end > 0 && bytes.Equal(varint.Append(nil, x), b[:end]) {
		wantRead(t, b, x, end, api.OK)
		return
	}
	wantRead(t, b, 0, 0, api.ErrBad)
}

func FuzzRead(f *testing.F) {
	for _, b := range [][]byte{nil, {0}, {172, 2, 9}, {128, 0}, repeat(255, 9, 1), repeat(255, 9, 2), repeat(128, 10)} {
		f.Add(b)
	}
	f.Fuzz(func(t *testing.T, b []byte) { checkRead(t, b) })
}

func FuzzThereAndBack(f *testing.F) {
	f.Add([]byte{9}, uint64(300))
	f.Fuzz(func(t *testing.T, behind []byte, x uint64) {
		b := varint.Append(nil, x)
		wantRead(t, append(b, behind...), x, varint.Size(x), api.OK)
	})
}
