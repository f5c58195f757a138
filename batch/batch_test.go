package batch_test

import (
	"bytes"
	"slices"
	"strings"
	"testing"

	"lagleash/api"
	"lagleash/batch"
	"lagleash/op"
	"lagleash/sharing"
	"lagleash/varint"
)

func put(key, value string) api.Op { return api.Op{Put: true, Key: key, Value: value} }
func del(key string) api.Op        { return api.Op{Key: key} }

func of(count int) string { return strings.Repeat("k", count) }

func times(count int, o api.Op) []api.Op { return slices.Repeat([]api.Op{o}, count) }

// joined puts lists of bytes one behind the other, in new memory.
func joined(parts ...[]byte) []byte { return bytes.Join(parts, nil) }

type pair struct {
	l     []api.Op
	bytes []byte
}

// may lists batches that may be, with their bytes written out.
func may() []pair {
	return []pair{
		{[]api.Op{put("ab", "1"), put("abc", "2"), del("ab")}, []byte{3, 1, 0, 2, 97, 98, 1, 49, 1, 2, 1, 99, 1, 50, 0, 2, 0}},
		{[]api.Op{del("a")}, []byte{1, 0, 0, 1, 97}},
		{[]api.Op{put("a", "")}, []byte{1, 1, 0, 1, 97, 0}},
		{[]api.Op{put("a", "1"), put("a", "2")}, []byte{2, 1, 0, 1, 97, 1, 49, 1, 1, 0, 1, 50}},
		{[]api.Op{del("a"), del("b")}, []byte{2, 0, 0, 1, 97, 0, 0, 1, 98}},
		{[]api.Op{del("abc"), del("abd"), del("a")}, []byte{3, 0, 0, 3, 97, 98, 99, 0, 2, 1, 100, 0, 1, 0}},
		// What is shared is told of the op just ahead, not of one ahead of that.
		{[]api.Op{del("ab"), del("x"), del("ab")}, []byte{3, 0, 0, 2, 97, 98, 0, 0, 1, 120, 0, 0, 2, 97, 98}},
		// Bytes in common behind others that are not are not shared.
		{[]api.Op{del("xbc"), del("ybc")}, []byte{2, 0, 0, 3, 120, 98, 99, 0, 0, 3, 121, 98, 99}},
		// A value shares nothing.
		{[]api.Op{put("a", "ab"), put("b", "ab")}, []byte{2, 1, 0, 1, 97, 2, 97, 98, 1, 0, 1, 98, 2, 97, 98}},
		// Two letters that have a first byte in common.
		{[]api.Op{del("\xc3\xa9"), del("\xc3\xa8")}, []byte{2, 0, 0, 2, 195, 169, 0, 1, 1, 168}},
		{[]api.Op{del("\x00"), del("\x00\x00"), del("\xff")}, []byte{3, 0, 0, 1, 0, 0, 1, 1, 0, 0, 0, 1, 255}},
		{[]api.Op{put(of(16), of(32)), del(of(16)), put(of(15), "")}, joined(
			[]byte{3, 1, 0, 16}, []byte(of(16)), []byte{32}, []byte(of(32)), []byte{0, 16, 0, 1, 15, 0, 0})},
		{[]api.Op{del(of(15)), del(of(16))}, joined([]byte{2, 0, 0, 15}, []byte(of(15)), []byte{0, 15, 1, 107})},
		{times(8, del("a")), joined([]byte{8, 0, 0, 1, 97}, bytes.Repeat([]byte{0, 1, 0}, 7))},
	}
}

// badOps lists ops that may not be.
func badOps() []api.Op {
	return []api.Op{{}, put("", "1"), put(of(17), ""), del(of(17)), put("k", of(33)), {Key: "k", Value: "v"}}
}

type refusal struct {
	l []api.Op
	e api.Errno
}

// mayNot lists batches that may not be, with Check's errors.
func mayNot() []refusal {
	list := []refusal{
		{nil, api.ErrArg},
		{[]api.Op{}, api.ErrArg},
		{times(3, del("a"))[:0], api.ErrArg},
		{times(9, del("a")), api.ErrLong},
		{times(10, put("a", "1")), api.ErrLong},
		{times(1000, del("a")), api.ErrLong},
		// How many there are is refused ahead of what they are.
		{times(9, del("")), api.ErrLong},
	}
	for _, bad := range badOps() {
		list = append(list, refusal{[]api.Op{bad}, api.ErrArg}, refusal{times(8, bad), api.ErrArg})
		for at := range 8 {
			l := times(8, put("a", "1"))
			l[at] = bad
			list = append(list, refusal{l, api.ErrArg})
		}
		l := times(5, del("a"))
		l[1], l[3] = bad, bad
		list = append(list, refusal{l, api.ErrArg})
	}
	return list
}

func wantRead(t *testing.T, b []byte, l []api.Op, n int, e api.Errno) {
	t.Helper()
	if gotL, gotN, gotE := batch.Read(b); !slices.Equal(gotL, l) || gotN != n || gotE != e {
		t.Errorf("Read(%v) = %+v, %d, %d; want %+v, %d, %d", b, gotL, gotN, gotE, l, n, e)
	}
}

func wantBad(t *testing.T, b []byte) {
	t.Helper()
	wantRead(t, b, nil, 0, api.ErrBad)
	if l, _, _ := batch.Read(b); cap(l) != 0 {
		t.Errorf("Read(%v): beside its error it tells a list with room for %d", b, cap(l))
	}
}

func appended(t *testing.T, l []api.Op) []byte {
	t.Helper()
	b, e := batch.Append(nil, l)
	if e != api.OK {
		t.Fatalf("Append(none, %+v) was refused: %d", l, e)
	}
	return b
}

// P3.1

func TestCheckOfWhatMayBe(t *testing.T) {
	for _, c := range may() {
		if e := batch.Check(c.l); e != api.OK {
			t.Errorf("Check(%+v) = %d; want OK", c.l, e)
		}
	}
}

func TestCheckOfWhatMayNotBe(t *testing.T) {
	for _, c := range mayNot() {
		if e := batch.Check(c.l); e != c.e {
			t.Errorf("Check(%+v) = %d; want %d", c.l, e, c.e)
		}
	}
}

func TestCheckOfEachLength(t *testing.T) {
	for count := range 30 {
		want := api.OK
		switch {
		case count == 0:
			want = api.ErrArg
		case count > 8:
			want = api.ErrLong
		}
		if e := batch.Check(times(count, put("a", "1"))); e != want {
			t.Errorf("Check of %d ops = %d; want %d", count, e, want)
		}
	}
}

func TestCheckAsksOpsCheck(t *testing.T) {
	for key := range 20 {
		for value := range 36 {
			for _, isPut := range []bool{true, false} {
				o := api.Op{Put: isPut, Key: of(key), Value: of(value)}
				if e := batch.Check([]api.Op{del("a"), o}); e != op.Check(o) {
					t.Errorf("Check of del a, %+v = %d; want %d", o, e, op.Check(o))
				}
			}
		}
	}
}

func TestShared(t *testing.T) {
	for _, c := range []struct {
		a, b string
		want int
	}{
		{"abc", "abd", 2},
		{"", "", 0},
		{"", "a", 0},
		{"", of(300), 0},
		{"a", "b", 0},
		{"a", "A", 0},
		{"ba", "ca", 0},
		{"abc", "xbc", 0},
		{"abc", "abc", 3},
		{"ab", "abc", 2},
		{"ab", "abab", 2},
		{"axc", "ayc", 1},
		{"axcx", "aycx", 1},
		{"\x00", "\x00\x00", 1},
		{"\x00", "", 0},
		{"\xff\xfe", "\xff\xff", 1},
		{"\u00e9", "\u00e8", 1},
		{of(300), of(300), 300},
		{of(300), of(299), 299},
		{of(300) + "a", of(300) + "b", 300},
	} {
		if n := batch.Shared(c.a, c.b); n != c.want {
			t.Errorf("Shared(%q, %q) = %d; want %d", c.a, c.b, n, c.want)
		}
		if n := batch.Shared(c.b, c.a); n != c.want {
			t.Errorf("Shared(%q, %q) = %d; want %d", c.b, c.a, n, c.want)
		}
	}
}

func TestSharedParts(t *testing.T) {
	for at := range 20 {
		for rest := range 20 {
			a := of(at) + "a" + of(rest)
			b := of(at) + "b" + of(rest)
			if n := batch.Shared(a, b); n != at {
				t.Errorf("Shared(%q, %q) = %d; want %d", a, b, n, at)
			}
		}
	}
}

func TestSame(t *testing.T) {
	l := func() []api.Op { return []api.Op{put("a", "1"), del("b"), put("c", "3")} }
	with := func(at int, o api.Op) []api.Op {
		out := l()
		out[at] = o
		return out
	}
	for name, c := range map[string]struct {
		a, b []api.Op
		want bool
	}{
		"none":                     {nil, nil, true},
		"nil and empty":            {nil, []api.Op{}, true},
		"empty":                    {[]api.Op{}, []api.Op{}, true},
		"empty with room":          {l()[:0], nil, true},
		"alike":                    {l(), l(), true},
		"alike with room":          {l()[:2], append(l()[:1:1], del("b")), true},
		"none and some":            {nil, l(), false},
		"none and an empty op":     {nil, []api.Op{{}}, false},
		"the kind":                 {[]api.Op{put("a", "")}, []api.Op{del("a")}, false},
		"the key of the first":     {l(), with(0, put("b", "1")), false},
		"the value of the first":   {l(), with(0, put("a", "2")), false},
		"the value is not there":   {l(), with(0, put("a", "")), false},
		"the kind in the middle":   {l(), with(1, put("b", "")), false},
		"the key in the middle":    {l(), with(1, del("c")), false},
		"the key of the last":      {l(), with(2, put("cc", "3")), false},
		"the value of the last":    {l(), with(2, put("c", "33")), false},
		"key and value, else cut":  {[]api.Op{put("ab", "c")}, []api.Op{put("a", "bc")}, false},
		"the order":                {l(), []api.Op{del("b"), put("a", "1"), put("c", "3")}, false},
		"turned about":             {l(), []api.Op{put("c", "3"), del("b"), put("a", "1")}, false},
		"a first part":             {l(), l()[:2], false},
		"a last part":              {l(), l()[1:], false},
		"one more":                 {l(), append(l(), del("a")), false},
		"twice":                    {[]api.Op{del("a")}, times(2, del("a")), false},
		"alike, more than a batch": {times(20, del("a")), times(20, del("a")), true},
		"alike, of none that may":  {badOps(), badOps(), true},
	} {
		if got := batch.Same(c.a, c.b); got != c.want {
			t.Errorf("%s: Same(%+v, %+v) = %t", name, c.a, c.b, got)
		}
		if got := batch.Same(c.b, c.a); got != c.want {
			t.Errorf("%s: Same(%+v, %+v) = %t", name, c.b, c.a, got)
		}
	}
}

// P3.2

func TestAppendExamples(t *testing.T) {
	for _, c := range may() {
		for _, ahead := range [][]byte{nil, {}, {7}, {3, 1, 0, 2, 97, 98}, bytes.Repeat([]byte{0}, 300)} {
			b, e := batch.Append(ahead, c.l)
			if e != api.OK || !bytes.Equal(b, joined(ahead, c.bytes)) {
				t.Errorf("Append(%v, %+v) = %v, %d; want %v behind these", ahead, c.l, b, e, c.bytes)
			}
		}
	}
}

func TestAppendHandsOnChecksError(t *testing.T) {
	for _, c := range mayNot() {
		for _, ahead := range [][]byte{nil, {}, {1, 2}, make([]byte, 2, 300)} {
			if b, e := batch.Append(ahead, c.l); e != c.e || len(b) != 0 || cap(b) != 0 {
				t.Errorf("Append(%v, %+v) = %v, %d; want none, %d", ahead, c.l, b, e, c.e)
			}
		}
	}
}

// everyList lists batches that may be and such that may not.
func everyList() [][]api.Op {
	var lists [][]api.Op
	for _, c := range may() {
		lists = append(lists, c.l)
	}
	for _, c := range mayNot() {
		lists = append(lists, c.l)
	}
	return lists
}

func TestAppendLeavesWhatIsHandedInAndAnswersNewMemory(t *testing.T) {
	for _, l := range everyList() {
		wrong := sharing.Append(func(b []byte) []byte {
			out, _ := batch.Append(b, l)
			return out
		})
		if wrong != "" {
			t.Errorf("Append of %+v %s", l, wrong)
		}
	}
}

func TestNoCallChangesTheOps(t *testing.T) {
	for _, l := range everyList() {
		whole := append(slices.Clone(l), times(9, put("spare", "room"))...)
		shown := whole[:len(l)]
		keep := slices.Clone(whole)
		batch.Check(shown)
		batch.Append(nil, shown)
		batch.Same(shown, shown)
		batch.Same(shown, keep)
		if !slices.Equal(whole, keep) {
			t.Errorf("%+v, or the spare room behind it, was changed", l)
		}
	}
}

func TestReadExamples(t *testing.T) {
	for _, c := range may() {
		for _, behind := range [][]byte{nil, {0}, {7}, {128}, {0, 1, 0}, c.bytes, bytes.Repeat([]byte{255}, 40)} {
			wantRead(t, joined(c.bytes, behind), c.l, len(c.bytes), api.OK)
		}
	}
}

func TestReadRefuses(t *testing.T) {
	k := []byte(of(60))
	great := []byte{255, 255, 255, 255, 255, 255, 255, 255, 255, 1}
	cases := map[string][][]byte{
		"no bytes":                       {nil, {}},
		"a count of 0":                   {{0}, {0, 0, 0, 1, 97}},
		"a count above 8":                {{9}, joined([]byte{9, 0, 0, 1, 97}, bytes.Repeat([]byte{0, 1, 0}, 8)), {128, 1, 0, 0, 1, 97}, joined(great, []byte{0, 0, 1, 97})},
		"a count that is none":           {{128}, {129, 0, 0, 0, 1, 97}, {128, 0}, {255}},
		"no op behind":                   {{1}, {8}},
		"another kind of op":             {{1, 2, 0, 1, 97}, {1, 2, 0, 1, 97, 1, 49}, {1, 255, 0, 1, 97, 0}, {1, 128, 0, 1, 97, 0}, {1, 129, 0, 0, 1, 97, 0}, {1, 128, 0, 0, 1, 97}, {2, 0, 0, 1, 97, 2, 0, 1, 98}},
		"a first key that shares":        {{1, 0, 1, 1, 97}, {1, 0, 1, 0}, {1, 1, 1, 0, 0}, {1, 1, 16, 0, 0}, joined([]byte{1, 0}, great, []byte{1, 97})},
		"it shares more than is told":    {{2, 1, 0, 1, 97, 0, 1, 0, 1, 97, 0}, {2, 0, 0, 2, 97, 98, 0, 1, 1, 98}, {2, 0, 0, 2, 97, 98, 0, 0, 2, 97, 98}, {2, 0, 0, 2, 97, 98, 0, 0, 2, 97, 99}, {2, 0, 0, 2, 97, 98, 0, 1, 2, 98, 99}},
		"it is told to share too much":   {{2, 0, 0, 1, 97, 0, 2, 0}, {2, 0, 0, 1, 97, 0, 2, 1, 97}, {2, 0, 0, 1, 97, 0, 16, 0}, {2, 0, 0, 1, 97, 0, 17, 0}, joined([]byte{2, 0, 0, 1, 97, 0}, great, []byte{0})},
		"it shares what is no longer":    {{3, 0, 0, 2, 97, 98, 0, 1, 0, 0, 2, 0}},
		"a count of shared that is none": {{1, 0, 128, 0, 1, 97}, {1, 0, 128}, {2, 0, 0, 1, 97, 0, 129, 0, 0}},
		"an empty key":                   {{1, 0, 0, 0}, {1, 1, 0, 0, 0}, {1, 1, 0, 0, 1, 49}, {2, 0, 0, 1, 97, 0, 0, 0}, {2, 0, 0, 1, 97, 1, 0, 0, 1, 49}},
		"a key above its limit": {
			joined([]byte{1, 0, 0, 17}, k), joined([]byte{1, 1, 0, 17}, k), joined([]byte{1, 0, 0, 128, 1}, k, k, k), joined([]byte{1, 0, 0}, great, k),
			joined([]byte{2, 0, 0, 16}, k[:16], []byte{0, 16, 1, 97}), joined([]byte{2, 0, 0, 1, 107, 0, 1, 16, 97}, k[:15]), joined([]byte{2, 0, 0, 8}, k[:8], []byte{0, 8, 9, 97}, k[:8])},
		"bytes left that are none": {{1, 0, 0, 129, 0, 97}, {1, 0, 0, 128}},
		"a value above its limit": {
			{1, 1, 0, 1, 97, 33}, joined([]byte{1, 1, 0, 1, 97, 33}, k), joined([]byte{1, 1, 0, 1, 97, 128, 1}, k, k, k), joined([]byte{1, 1, 0, 1, 97}, great, k),
			joined([]byte{2, 0, 0, 1, 97, 1, 1, 0, 33}, k)},
		"a value's count that is none": {{1, 1, 0, 1, 97, 129, 0, 49}, {1, 1, 0, 1, 97, 128, 0}, {1, 1, 0, 1, 97, 128}},
		"too few bytes of a key":       {{1, 0, 0, 1}, {1, 0, 0, 2, 97}, {1, 1, 0, 16, 97, 97}, {2, 0, 0, 1, 97, 0, 1, 1}},
		"too few bytes of a value":     {{1, 1, 0, 1, 97}, {1, 1, 0, 1, 97, 1}, {1, 1, 0, 1, 97, 2, 49}, {1, 1, 0, 1, 97, 32, 49}},
		"fewer ops than told":          {{2, 0, 0, 1, 97}, {8, 0, 0, 1, 97, 0, 1, 0}, {3, 0, 0, 1, 97, 0, 1, 0}},
	}
	for name, list := range cases {
		t.Run(name, func(t *testing.T) {
			for _, b := range list {
				wantBad(t, b)
			}
		})
	}
}

func TestReadOfEachCount(t *testing.T) {
	rest := joined([]byte{0, 0, 1, 97}, bytes.Repeat([]byte{0, 1, 0}, 300))
	for count := range 256 {
		b := joined([]byte{byte(count)}, rest)
		if count >= 1 && count <= 8 {
			wantRead(t, b, times(count, del("a")), 2+3*count, api.OK)
		} else {
			wantBad(t, b)
		}
	}
}

func TestReadOfEachKind(t *testing.T) {
	for c := range 256 {
		first := []byte{1, byte(c), 0, 1, 97, 1, 49}
		second := []byte{2, 0, 0, 1, 97, byte(c), 1, 0, 1, 49}
		switch c {
		case 0:
			wantRead(t, first, []api.Op{del("a")}, 5, api.OK)
			wantRead(t, second, []api.Op{del("a"), del("a")}, 8, api.OK)
		case 1:
			wantRead(t, first, []api.Op{put("a", "1")}, 7, api.OK)
			wantRead(t, second, []api.Op{del("a"), put("a", "1")}, 10, api.OK)
		default:
			wantBad(t, first)
			wantBad(t, second)
		}
	}
}

// Of a second key with the bytes shared and left of each number, those are read that the document asks for alone.
func TestReadOfEachSharing(t *testing.T) {
	for long := 1; long <= 16; long++ {
		for shared := range 40 {
			for left := range 40 {
				b := joined([]byte{2, 0, 0, byte(long)}, []byte(of(long)), []byte{0, byte(shared), byte(left)}, bytes.Repeat([]byte{120}, 50))
				whole := shared + left
				if shared <= long && whole >= 1 && whole <= 16 {
					want := []api.Op{del(of(long)), del(of(shared) + strings.Repeat("x", left))}
					wantRead(t, b, want, 6+long+1+left, api.OK)
				} else {
					wantBad(t, b)
				}
			}
		}
	}
}

func TestReadOfEachLength(t *testing.T) {
	rest := []byte(of(200))
	for count := range 128 {
		key := joined([]byte{1, 0, 0, byte(count)}, rest)
		if count >= 1 && count <= 16 {
			wantRead(t, key, []api.Op{del(of(count))}, 4+count, api.OK)
		} else {
			wantBad(t, key)
		}
		value := joined([]byte{1, 1, 0, 1, 97, byte(count)}, rest)
		if count <= 32 {
			wantRead(t, value, []api.Op{put("a", of(count))}, 6+count, api.OK)
		} else {
			wantBad(t, value)
		}
	}
}

func TestReadOfCutBatches(t *testing.T) {
	for _, c := range may() {
		// The end stands in the spare room of each shorter slice, which must not be read.
		for n := range c.bytes {
			wantBad(t, c.bytes[:n])
		}
	}
}

func TestReadLeavesAndKeepsNothing(t *testing.T) {
	for _, c := range may() {
		b := bytes.Clone(c.bytes)
		first, _, _ := batch.Read(b)
		second, _, _ := batch.Read(b)
		if !bytes.Equal(b, c.bytes) {
			t.Errorf("the bytes of %+v were changed", c.l)
		}
		for i := range b {
			b[i] = 0xEE
		}
		if !slices.Equal(first, c.l) {
			t.Errorf("%+v became %+v when its bytes were overwritten", c.l, first)
		}
		for i := range first[:cap(first)] {
			first[:cap(first)][i] = put("other", "1")
		}
		if !slices.Equal(second, c.l) {
			t.Errorf("%+v became %+v when another answer was overwritten", c.l, second)
		}
	}
}

// P3.3, and P11 of these calls

// checkThereAndBack also holds the batch's bytes against those of its ops, one behind the other.
func checkThereAndBack(t *testing.T, l []api.Op, behind []byte) {
	t.Helper()
	b := appended(t, l)
	wantRead(t, b, l, len(b), api.OK)
	wantRead(t, joined(b, behind), l, len(b), api.OK)
	var alone []byte
	for _, o := range l {
		alone, _ = op.Append(alone, o)
	}
	if len(b) > len(alone)+9 {
		t.Errorf("%+v has %d bytes, its ops have %d", l, len(b), len(alone))
	}
}

// someKeys lists keys that share nothing, a part, or all with one another.
func someKeys() []string {
	return []string{"a", "b", "ab", "abc", "abd", "\x00", "\x00\x00", "\xff", of(16), of(15) + "x", of(15), "x" + of(15)}
}

func TestThereAndBack(t *testing.T) {
	keys := someKeys()
	for _, first := range keys {
		for _, second := range keys {
			for _, third := range keys {
				checkThereAndBack(t, []api.Op{del(first), put(second, third), del(third)}, []byte(first))
				checkThereAndBack(t, []api.Op{put(first, of(32)), put(second, ""), put(third, "\x00")}, []byte{0})
			}
		}
	}
	for _, c := range may() {
		checkThereAndBack(t, c.l, c.bytes)
	}
}

func TestThereAndBackOfEachLength(t *testing.T) {
	for count := 1; count <= 8; count++ {
		for key := 1; key <= 16; key++ {
			for _, value := range []int{0, 1, 31, 32} {
				var apart []api.Op
				for i := range count {
					apart = append(apart, put(string(rune('a'+i))+of(key-1), of(value)))
				}
				checkThereAndBack(t, apart, []byte{1})
				checkThereAndBack(t, times(count, put(of(key), of(value))), []byte{1})
				checkThereAndBack(t, times(count, del(of(key))), []byte{1})
			}
		}
	}
}

// With eight ops that share nothing the bound is met: no smaller one would hold.
func TestTheBoundIsMet(t *testing.T) {
	var l []api.Op
	var alone []byte
	for i := range 8 {
		o := del(string(rune('a' + i)))
		l = append(l, o)
		alone, _ = op.Append(alone, o)
	}
	if b := appended(t, l); len(b) != len(alone)+9 {
		t.Errorf("%d bytes; want %d", len(b), len(alone)+9)
	}
}

func TestSeveralOneBehindTheOther(t *testing.T) {
	var b []byte
	for _, c := range may() {
		b, _ = batch.Append(b, c.l)
	}
	for _, c := range may() {
		wantRead(t, b, c.l, len(c.bytes), api.OK)
		b = b[len(c.bytes):]
	}
	if len(b) != 0 {
		t.Errorf("%v is left", b)
	}
}

// Bytes are read as a batch just if that batch's bytes are these.
func checkRead(t *testing.T, b []byte) {
	t.Helper()
	l, n, e := batch.Read(b)
	if e != api.OK {
		wantBad(t, b)
		return
	}
	if n > len(b) || batch.Check(l) != api.OK || !bytes.Equal(appended(t, l), b[:n]) {
		t.Errorf("Read(%v) = %+v, %d: its bytes are others", b, l, n)
	}
}

func TestNothingElseIsRead(t *testing.T) {
	edges := []byte{0, 1, 2, 16, 17, 32, 33, 97, 128, 129, 255}
	for _, c := range may() {
		for at := range c.bytes {
			for _, x := range edges {
				other := bytes.Clone(c.bytes)
				other[at] = x
				checkRead(t, other)
				checkRead(t, slices.Insert(bytes.Clone(c.bytes), at, x))
			}
			checkRead(t, slices.Delete(bytes.Clone(c.bytes), at, at+1))
		}
	}
}

// Every list of few bytes of a small kind: what is read is what some batch has.
func TestEveryShortListOfBytes(t *testing.T) {
	few := []byte{0, 1, 2, 97, 128}
	var grow func(b []byte)
	grow = func(b []byte) {
		checkRead(t, b)
		if len(b) == 8 {
			return
		}
		for _, x := range few {
			grow(append(b[:len(b):len(b)], x))
		}
	}
	grow(nil)
}

// Numbers of more bytes than they need are read nowhere.
func TestEachNumberHasOneForm(t *testing.T) {
	whole := []byte{2, 1, 0, 1, 97, 1, 49, 1, 1, 0, 0}
	wantRead(t, whole, []api.Op{put("a", "1"), put("a", "")}, len(whole), api.OK)
	for at, x := range whole {
		if x == 97 || x == 49 {
			continue
		}
		longer := joined(whole[:at], []byte{x | 128, 0}, whole[at+1:])
		if _, _, e := varint.Read(longer[at:]); e != api.ErrBad {
			t.Fatalf("%v is a number", longer[at:])
		}
		wantBad(t, longer)
	}
}

func FuzzRead(f *testing.F) {
	for _, c := range may() {
		f.Add(c.bytes)
	}
	f.Fuzz(func(t *testing.T, b []byte) { checkRead(t, b) })
}

func FuzzThereAndBack(f *testing.F) {
	f.Add(true, "ab", "1", false, "abc", "", []byte{7})
	f.Fuzz(func(t *testing.T, isPut bool, key, value string, isOtherPut bool, other, otherValue string, behind []byte) {
		l := []api.Op{{Put: isPut, Key: key, Value: value}, {Put: isOtherPut, Key: other, Value: otherValue}}
		l = slices.Repeat(l, 1+len(behind)%5)
		if e := batch.Check(l); e == api.OK {
			checkThereAndBack(t, l, behind)
		} else if b, got := batch.Append(behind, l); got != e || b != nil {
			t.Errorf("Append(%+v) = %v, %d; want none, %d", l, b, got, e)
		}
	})
}
