package commit_test

import (
	"bytes"
	"math"
	"slices"
	"strings"
	"testing"

	"lagleash/api"
	"lagleash/batch"
	"lagleash/commit"
	"lagleash/varint"
)

const most = 1048576 // the greatest epoch and number, as the document writes it

func put(key, value string) api.Op { return api.Op{Put: true, Key: key, Value: value} }
func del(key string) api.Op        { return api.Op{Key: key} }

func of(count int) string { return strings.Repeat("k", count) }

func times(count int, o api.Op) []api.Op { return slices.Repeat([]api.Op{o}, count) }

func with(epoch, number int, ops ...api.Op) api.Commit {
	return api.Commit{Epoch: epoch, Number: number, Ops: ops}
}

// one is a commit of a small batch.
func one(epoch, number int) api.Commit { return with(epoch, number, put("a", "1")) }

// alike compares commits field by field, without the calls that are tested; no ops are the same as nil.
func alike(a, b api.Commit) bool {
	return a.Epoch == b.Epoch && a.Number == b.Number && slices.Equal(a.Ops, b.Ops)
}

// joined puts lists of bytes one behind the other, in new memory.
func joined(parts ...[]byte) []byte { return bytes.Join(parts, nil) }

type pair struct {
	c     api.Commit
	bytes []byte
}

// may lists commits that may be, with their bytes written out.
func may() []pair {
	return []pair{
		{with(1, 2, put("a", "1")), []byte{1, 2, 1, 1, 0, 1, 97, 1, 49}},
		{with(1, 1, del("a")), []byte{1, 1, 1, 0, 0, 1, 97}},
		{with(2, 1, put("a", "")), []byte{2, 1, 1, 1, 0, 1, 97, 0}},
		{with(127, 128, del("a")), []byte{127, 128, 1, 1, 0, 0, 1, 97}},
		{with(128, 127, del("a")), []byte{128, 1, 127, 1, 0, 0, 1, 97}},
		{with(300, 16384, del("a")), []byte{172, 2, 128, 128, 1, 1, 0, 0, 1, 97}},
		{with(most, 1, del("a")), []byte{128, 128, 64, 1, 1, 0, 0, 1, 97}},
		{with(1, most, del("a")), []byte{1, 128, 128, 64, 1, 0, 0, 1, 97}},
		{with(most, most, put("\x00", "\xff")), []byte{128, 128, 64, 128, 128, 64, 1, 1, 0, 1, 0, 1, 255}},
		{with(most-1, most-1, del("a")), []byte{255, 255, 63, 255, 255, 63, 1, 0, 0, 1, 97}},
		{with(3, 4, put("ab", "1"), put("abc", "2"), del("ab")), []byte{3, 4, 3, 1, 0, 2, 97, 98, 1, 49, 1, 2, 1, 99, 1, 50, 0, 2, 0}},
		{with(5, 6, put(of(16), of(32))), joined([]byte{5, 6, 1, 1, 0, 16}, []byte(of(16)), []byte{32}, []byte(of(32)))},
		{with(7, 8, times(8, del("a"))...), joined([]byte{7, 8, 8, 0, 0, 1, 97}, bytes.Repeat([]byte{0, 1, 0}, 7))},
	}
}

// badNumbers lists what is no epoch and no number of a commit.
func badNumbers() []int {
	return []int{0, -1, -2, -most, most + 1, 2 * most, 1 << 31, 1<<32 + 1, math.MaxInt, math.MinInt}
}

type badBatch struct {
	ops []api.Op
	e   api.Errno
}

// badBatches lists batches that may not be, with their errors.
func badBatches() []badBatch {
	list := []badBatch{
		{nil, api.ErrArg},
		{[]api.Op{}, api.ErrArg},
		{times(3, del("a"))[:0], api.ErrArg},
		{times(9, del("a")), api.ErrLong},
		{times(100, put("a", "1")), api.ErrLong},
		{times(9, del("")), api.ErrLong},
	}
	for _, bad := range []api.Op{{}, put("", "1"), put(of(17), ""), del(of(17)), put("k", of(33)), {Key: "k", Value: "v"}} {
		list = append(list, badBatch{[]api.Op{bad}, api.ErrArg})
		for at := range 8 {
			ops := times(8, put("a", "1"))
			ops[at] = bad
			list = append(list, badBatch{ops, api.ErrArg})
		}
	}
	return list
}

type refusal struct {
	c api.Commit
	e api.Errno
}

// mayNot lists commits that may not be, with Check's errors.
func mayNot() []refusal {
	list := []refusal{{api.Commit{}, api.ErrArg}}
	for _, x := range badNumbers() {
		list = append(list, refusal{one(x, 1), api.ErrArg}, refusal{one(1, x), api.ErrArg},
			refusal{one(x, most), api.ErrArg}, refusal{one(most, x), api.ErrArg})
		for _, y := range badNumbers() {
			list = append(list, refusal{one(x, y), api.ErrArg})
		}
	}
	for _, bad := range badBatches() {
		list = append(list, refusal{with(1, 1, bad.ops...), bad.e}, refusal{with(most, most, bad.ops...), bad.e})
		// The epoch and the number are refused ahead of the ops.
		for _, x := range badNumbers() {
			list = append(list, refusal{with(x, 1, bad.ops...), api.ErrArg}, refusal{with(1, x, bad.ops...), api.ErrArg},
				refusal{with(x, x, bad.ops...), api.ErrArg})
		}
	}
	return list
}

func wantDecoded(t *testing.T, b []byte, c api.Commit, e api.Errno) {
	t.Helper()
	if gotC, gotE := commit.Decode(b); !alike(gotC, c) || gotE != e {
		t.Errorf("Decode(%v) = %+v, %d; want %+v, %d", b, gotC, gotE, c, e)
	}
}

func wantBad(t *testing.T, b []byte) {
	t.Helper()
	wantDecoded(t, b, api.Commit{}, api.ErrBad)
	if c, _ := commit.Decode(b); cap(c.Ops) != 0 {
		t.Errorf("Decode(%v): beside its error it tells ops with room for %d", b, cap(c.Ops))
	}
}

func encoded(t *testing.T, c api.Commit) []byte {
	t.Helper()
	b, e := commit.Encode(c)
	if e != api.OK {
		t.Fatalf("Encode(%+v) was refused: %d", c, e)
	}
	return b
}

func wantFault(t *testing.T, epoch, number int, l []api.Commit, want api.Fault) {
	t.Helper()
	if f := commit.Follows(epoch, number, l); f != want {
		t.Errorf("Follows(%d, %d, %+v) = %+v; want %+v", epoch, number, l, f, want)
	}
}

// P4.1

func TestCheckOfWhatMayBe(t *testing.T) {
	for _, c := range may() {
		if e := commit.Check(c.c); e != api.OK {
			t.Errorf("Check(%+v) = %d; want OK", c.c, e)
		}
	}
}

func TestCheckOfWhatMayNotBe(t *testing.T) {
	for _, c := range mayNot() {
		if e := commit.Check(c.c); e != c.e {
			t.Errorf("Check(%+v) = %d; want %d", c.c, e, c.e)
		}
	}
}

func TestCheckAtTheBounds(t *testing.T) {
	for x, want := range map[int]api.Errno{
		-1: api.ErrArg, 0: api.ErrArg, 1: api.OK, 2: api.OK,
		most - 1: api.OK, most: api.OK, most + 1: api.ErrArg, most + 2: api.ErrArg,
	} {
		for _, c := range []api.Commit{one(x, 1), one(1, x), one(x, most), one(most, x), one(x, x)} {
			if e := commit.Check(c); e != want {
				t.Errorf("Check(%+v) = %d; want %d", c, e, want)
			}
		}
	}
}

func TestCheckAsksBatchsCheck(t *testing.T) {
	for count := range 12 {
		for key := range 20 {
			ops := times(count, del(of(key)))
			if e := commit.Check(with(1, 1, ops...)); e != batch.Check(ops) {
				t.Errorf("Check of %d ops with a key of %d = %d; want %d", count, key, e, batch.Check(ops))
			}
		}
	}
}

func TestSame(t *testing.T) {
	l := func() []api.Op { return []api.Op{put("a", "1"), del("b"), put("c", "3")} }
	c := func() api.Commit { return with(2, 3, l()...) }
	for name, p := range map[string]struct {
		a, b api.Commit
		want bool
	}{
		"alike":                {c(), c(), true},
		"alike with room":      {with(2, 3, l()[:1]...), with(2, 3, put("a", "1")), true},
		"none":                 {api.Commit{}, api.Commit{}, true},
		"nil and empty ops":    {with(2, 3), api.Commit{Epoch: 2, Number: 3, Ops: []api.Op{}}, true},
		"alike, that may not":  {with(0, -1, times(20, del(""))...), with(0, -1, times(20, del(""))...), true},
		"the epoch is less":    {c(), with(1, 3, l()...), false},
		"the epoch is more":    {c(), with(3, 3, l()...), false},
		"the number is less":   {c(), with(2, 2, l()...), false},
		"the number is more":   {c(), with(2, 4, l()...), false},
		"turned about":         {c(), with(3, 2, l()...), false},
		"one more, one less":   {c(), with(1, 4, l()...), false},
		"the epoch, no ops":    {with(2, 3), with(1, 3), false},
		"the number, no ops":   {with(2, 3), with(2, 4), false},
		"one op's kind":        {c(), with(2, 3, put("a", "1"), put("b", ""), put("c", "3")), false},
		"one op's key":         {c(), with(2, 3, put("a", "1"), del("bb"), put("c", "3")), false},
		"the first one's":      {c(), with(2, 3, put("a", "2"), del("b"), put("c", "3")), false},
		"the last one's value": {c(), with(2, 3, put("a", "1"), del("b"), put("c", "")), false},
		"the ops' order":       {c(), with(2, 3, del("b"), put("a", "1"), put("c", "3")), false},
		"an op less":           {c(), with(2, 3, l()[:2]...), false},
		"without the first":    {c(), with(2, 3, l()[1:]...), false},
		"an op more":           {c(), with(2, 3, append(l(), del("a"))...), false},
		"no ops":               {c(), with(2, 3), false},
		"no ops and one":       {with(2, 3), with(2, 3, api.Op{}), false},
	} {
		if got := commit.Same(p.a, p.b); got != p.want {
			t.Errorf("%s: Same(%+v, %+v) = %t", name, p.a, p.b, got)
		}
		if got := commit.Same(p.b, p.a); got != p.want {
			t.Errorf("%s: Same(%+v, %+v) = %t", name, p.b, p.a, got)
		}
	}
}

// everyCommit lists commits that may be and such that may not.
func everyCommit() []api.Commit {
	var l []api.Commit
	for _, c := range may() {
		l = append(l, c.c)
	}
	for _, c := range mayNot() {
		l = append(l, c.c)
	}
	return l
}

// roomy answers c with spare room behind its ops, and all that memory.
func roomy(c api.Commit) (shown api.Commit, whole []api.Op) {
	whole = append(slices.Clone(c.Ops), times(9, put("spare", "room"))...)
	c.Ops = whole[:len(c.Ops)]
	return c, whole
}

// overwrite writes over all of ops, spare room included.
func overwrite(ops []api.Op) {
	all := ops[:cap(ops)]
	for i := range all {
		all[i] = put("other", "thing")
	}
}

func TestCopyIsTheCommit(t *testing.T) {
	for _, c := range everyCommit() {
		if got := commit.Copy(c); !alike(got, c) {
			t.Errorf("Copy(%+v) = %+v", c, got)
		}
		shown, _ := roomy(c)
		if got := commit.Copy(shown); !alike(got, c) {
			t.Errorf("Copy(%+v) with spare room = %+v", c, got)
		}
	}
}

func TestCopyHasMemoryOfItsOwn(t *testing.T) {
	for _, c := range everyCommit() {
		shown, whole := roomy(c)
		keep := slices.Clone(whole)
		first, second := commit.Copy(shown), commit.Copy(shown)
		overwrite(first.Ops)
		if !slices.Equal(whole, keep) || !alike(shown, c) {
			t.Errorf("what was written into the copy of %+v shows in it", c)
		}
		if !alike(second, c) {
			t.Errorf("what was written into one copy of %+v shows in another one", c)
		}
		overwrite(whole)
		if !alike(second, c) {
			t.Errorf("what was written into %+v shows in its copy", c)
		}
	}
}

func TestCopyHandsOutNoSpareRoom(t *testing.T) {
	for _, c := range everyCommit() {
		shown, _ := roomy(c)
		got := commit.Copy(shown)
		behind := got.Ops[len(got.Ops):cap(got.Ops)]
		if slices.Contains(behind, put("spare", "room")) {
			t.Errorf("Copy(%+v) has the spare room of what was handed in", c)
		}
	}
}

// P4.2

func TestEncodeExamples(t *testing.T) {
	for _, c := range may() {
		if b, e := commit.Encode(c.c); e != api.OK || !bytes.Equal(b, c.bytes) {
			t.Errorf("Encode(%+v) = %v, %d; want %v", c.c, b, e, c.bytes)
		}
	}
}

func TestEncodeHandsOnChecksError(t *testing.T) {
	for _, c := range mayNot() {
		if b, e := commit.Encode(c.c); e != c.e || len(b) != 0 || cap(b) != 0 {
			t.Errorf("Encode(%+v) = %v, %d; want none, %d", c.c, b, e, c.e)
		}
	}
}

func TestEncodeAnswersNewMemory(t *testing.T) {
	for _, c := range may() {
		first, second := encoded(t, c.c), encoded(t, c.c)
		all := first[:cap(first)]
		for i := range all {
			all[i] = 0xEE
		}
		if !bytes.Equal(second, c.bytes) {
			t.Errorf("the bytes of %+v became %v when another answer was overwritten", c.c, second)
		}
		overwrite(c.c.Ops)
		if !bytes.Equal(second, c.bytes) {
			t.Errorf("%v changed when the commit was overwritten", c.bytes)
		}
	}
}

func TestNoCallChangesTheCommit(t *testing.T) {
	for _, c := range everyCommit() {
		shown, whole := roomy(c)
		keep := slices.Clone(whole)
		l := []api.Commit{one(1, 1), shown, shown}
		commit.Check(shown)
		commit.Encode(shown)
		commit.Same(shown, shown)
		commit.Same(shown, c)
		commit.Copy(shown)
		commit.Follows(0, 0, l)
		commit.Follows(c.Epoch, c.Number-1, l[1:2])
		if !slices.Equal(whole, keep) {
			t.Errorf("the ops of %+v, or the spare room behind them, were changed", c)
		}
		if !alike(l[0], one(1, 1)) || !alike(l[1], c) || !alike(l[2], c) {
			t.Errorf("a list with %+v was changed", c)
		}
	}
}

func TestDecodeExamples(t *testing.T) {
	for _, c := range may() {
		wantDecoded(t, c.bytes, c.c, api.OK)
	}
}

func TestDecodeOfBytesThatGoOn(t *testing.T) {
	for _, c := range may() {
		for _, behind := range [][]byte{{0}, {1}, {128}, {255}, {0, 1, 0}, c.bytes, make([]byte, 300)} {
			wantBad(t, joined(c.bytes, behind))
		}
		// What stands in the spare room is not read.
		wantDecoded(t, joined(c.bytes, []byte{0, 1, 2})[:len(c.bytes)], c.c, api.OK)
	}
}

func TestDecodeOfBytesThatBreakOff(t *testing.T) {
	for _, c := range may() {
		// The end stands in the spare room of each shorter slice, which must not be read.
		for n := range c.bytes {
			wantBad(t, c.bytes[:n])
			wantBad(t, bytes.Clone(c.bytes[:n]))
		}
	}
}

func TestDecodeOfNone(t *testing.T) {
	wantBad(t, nil)
	wantBad(t, []byte{})
	wantBad(t, []byte{1, 2, 1, 1, 0, 1, 97, 1, 49}[:0])
}

func TestDecodeRefuses(t *testing.T) {
	ops := []byte{1, 1, 0, 1, 97, 1, 49}
	great := []byte{255, 255, 255, 255, 255, 255, 255, 255, 255, 1}
	above := []byte{129, 128, 64} // 1048577
	cases := map[string][][]byte{
		"an epoch of 0":             {joined([]byte{0, 2}, ops), joined([]byte{0, 0}, ops)},
		"an epoch above its limit":  {joined(above, []byte{1}, ops), joined(great, []byte{1}, ops), joined([]byte{128, 128, 128, 1, 1}, ops)},
		"an epoch that is none":     {joined([]byte{129, 0, 1}, ops), joined([]byte{128, 0, 1}, ops), joined([]byte{129, 128, 0, 1}, ops), {128}, {255, 255}},
		"a number of 0":             {joined([]byte{1, 0}, ops)},
		"a number above its limit":  {joined([]byte{1}, above, ops), joined([]byte{1}, great, ops), joined([]byte{1, 128, 128, 128, 1}, ops)},
		"a number that is none":     {joined([]byte{1, 129, 0}, ops), joined([]byte{1, 128, 0}, ops), {1, 128}, {1}},
		"both above their limits":   {joined(above, above, ops), joined(great, great, ops)},
		"no batch":                  {{1, 2}, {1, 2, 0}},
		"too many ops":              {joined([]byte{1, 2, 9, 0, 0, 1, 97}, bytes.Repeat([]byte{0, 1, 0}, 8))},
		"fewer ops than told":       {{1, 2, 2, 1, 0, 1, 97, 1, 49}},
		"more ops than told":        {{1, 2, 1, 0, 0, 1, 97, 0, 1, 0}},
		"another kind of op":        {{1, 2, 1, 2, 0, 1, 97, 1, 49}},
		"an empty key":              {{1, 2, 1, 0, 0, 0}, {1, 2, 1, 1, 0, 0, 1, 49}},
		"a key above its limit":     {joined([]byte{1, 2, 1, 0, 0, 17}, []byte(of(17)))},
		"a value above its limit":   {joined([]byte{1, 2, 1, 1, 0, 1, 97, 33}, []byte(of(33)))},
		"a key that shares more":    {{1, 2, 2, 1, 0, 1, 97, 0, 1, 0, 1, 97, 0}, {1, 2, 2, 0, 0, 1, 97, 0, 0, 1, 97}},
		"a count of more bytes":     {{1, 2, 129, 0, 1, 0, 1, 97, 1, 49}},
		"the batch's bytes alone":   {ops},
		"the number ahead is none":  {joined([]byte{1}, ops)},
		"three numbers ahead of it": {joined([]byte{1, 2, 3}, ops)},
	}
	for name, list := range cases {
		t.Run(name, func(t *testing.T) {
			for _, b := range list {
				wantBad(t, b)
			}
		})
	}
}

func TestDecodeOfEachNumber(t *testing.T) {
	ops := []byte{1, 0, 0, 1, 97}
	for _, x := range []uint64{0, 1, 2, 127, 128, 16383, 16384, most - 1, most, most + 1, 2 * most, 1 << 32, 1<<32 + 1, 1 << 63, math.MaxUint64} {
		number := varint.Append(nil, x)
		asEpoch := joined(number, []byte{5}, ops)
		asNumber := joined([]byte{5}, number, ops)
		if x >= 1 && x <= most {
			wantDecoded(t, asEpoch, with(int(x), 5, del("a")), api.OK)
			wantDecoded(t, asNumber, with(5, int(x), del("a")), api.OK)
		} else {
			wantBad(t, asEpoch)
			wantBad(t, asNumber)
		}
	}
}

func TestDecodeLeavesAndKeepsNothing(t *testing.T) {
	for _, c := range may() {
		b := bytes.Clone(c.bytes)
		first, _ := commit.Decode(b)
		second, _ := commit.Decode(b)
		if !bytes.Equal(b, c.bytes) {
			t.Errorf("the bytes of %+v were changed", c.c)
		}
		for i := range b {
			b[i] = 0xEE
		}
		if !alike(first, c.c) {
			t.Errorf("%+v became %+v when its bytes were overwritten", c.c, first)
		}
		overwrite(first.Ops)
		if !alike(second, c.c) {
			t.Errorf("%+v became %+v when another answer was overwritten", c.c, second)
		}
	}
}

// P4.3

func TestFollowsExamples(t *testing.T) {
	wantFault(t, 0, 0, []api.Commit{one(1, 1), one(1, 2), one(3, 3)}, api.Fault{Err: api.OK, At: 0})
	wantFault(t, 2, 4, []api.Commit{one(1, 5)}, api.Fault{Err: api.ErrOrder, At: 0})
	wantFault(t, 2, 4, []api.Commit{one(2, 6)}, api.Fault{Err: api.ErrOrder, At: 0})
}

func TestNoCommitsFollowAnyEnd(t *testing.T) {
	numbers := append(badNumbers(), 1, 2, 5, most-1, most)
	for _, epoch := range numbers {
		for _, number := range numbers {
			wantFault(t, epoch, number, nil, api.Fault{})
			wantFault(t, epoch, number, []api.Commit{}, api.Fault{})
			wantFault(t, epoch, number, []api.Commit{{}, one(1, 1)}[:0], api.Fault{})
		}
	}
}

func TestOneCommitBehindAnEnd(t *testing.T) {
	for _, c := range []struct {
		epoch, number int
		c             api.Commit
		e             api.Errno
	}{
		{0, 0, one(1, 1), api.OK},
		{0, 0, one(most, 1), api.OK},
		{2, 4, one(2, 5), api.OK},
		{2, 4, one(3, 5), api.OK},
		{2, 4, one(most, 5), api.OK},
		{1, most - 1, one(1, most), api.OK},
		{most, most - 1, one(most, most), api.OK},
		{-7, 4, one(1, 5), api.OK},
		{math.MinInt, 0, one(1, 1), api.OK},
		// The number is the same, less, more than one more.
		{2, 4, one(2, 4), api.ErrOrder},
		{2, 4, one(2, 3), api.ErrOrder},
		{2, 4, one(2, 1), api.ErrOrder},
		{2, 4, one(2, 7), api.ErrOrder},
		{2, 4, one(3, 4), api.ErrOrder},
		{2, 4, one(3, 6), api.ErrOrder},
		{0, 0, one(1, 2), api.ErrOrder},
		{1, most, one(1, most), api.ErrOrder},
		{1, most, one(1, 1), api.ErrOrder},
		// The epoch is less.
		{2, 4, one(1, 5), api.ErrOrder},
		{3, 4, one(1, 5), api.ErrOrder},
		{3, 4, one(2, 5), api.ErrOrder},
		{2, 0, one(1, 1), api.ErrOrder},
		{most + 1, 4, one(most, 5), api.ErrOrder},
		{math.MaxInt, 0, one(1, 1), api.ErrOrder},
		// Both.
		{2, 4, one(1, 4), api.ErrOrder},
		{2, 4, one(1, 6), api.ErrOrder},
		// Ends that no log has.
		{0, -1, one(1, 1), api.ErrOrder},
		{0, -2, one(1, 1), api.ErrOrder},
		{0, math.MinInt, one(1, 1), api.ErrOrder},
		{0, math.MaxInt, one(1, 1), api.ErrOrder},
		{0, math.MaxInt - 1, one(1, most), api.ErrOrder},
		{math.MinInt, math.MinInt, one(1, 1), api.ErrOrder},
	} {
		wantFault(t, c.epoch, c.number, []api.Commit{c.c}, api.Fault{Err: c.e})
	}
}

// A commit that may not be is told with Check's error, whether it would follow or not.
func TestACommitThatMayNotBe(t *testing.T) {
	for _, bad := range mayNot() {
		wantFault(t, bad.c.Epoch, bad.c.Number-1, []api.Commit{bad.c}, api.Fault{Err: bad.e})
		wantFault(t, 0, 0, []api.Commit{bad.c}, api.Fault{Err: bad.e})
		wantFault(t, 5, 5, []api.Commit{bad.c}, api.Fault{Err: bad.e})
		wantFault(t, math.MaxInt, math.MaxInt, []api.Commit{bad.c}, api.Fault{Err: bad.e})
	}
}

// rising lists count commits behind the end (3, from-1).
func rising(count, from int) []api.Commit {
	var l []api.Commit
	for i := range count {
		l = append(l, one(3+i/2, from+i))
	}
	return l
}

// wrongAt lists what may stand at a place of a rising list and be a fault there, with the error.
func wrongAt(c api.Commit) []refusal {
	list := []refusal{
		{one(c.Epoch, c.Number-1), api.ErrOrder},
		{one(c.Epoch, c.Number-3), api.ErrOrder},
		{one(c.Epoch, c.Number+1), api.ErrOrder},
		{one(c.Epoch, c.Number+5), api.ErrOrder},
		{one(c.Epoch+1, c.Number-1), api.ErrOrder},
		{one(c.Epoch-2, c.Number), api.ErrOrder},
		{one(1, c.Number), api.ErrOrder},
		{with(c.Epoch, c.Number), api.ErrArg},
		{with(c.Epoch, c.Number, times(9, del("a"))...), api.ErrLong},
		{with(c.Epoch, c.Number, del("")), api.ErrArg},
		{with(1, c.Number, times(9, del("a"))...), api.ErrLong},
		{with(c.Epoch, c.Number+1, times(9, del("a"))...), api.ErrLong},
		{one(0, c.Number), api.ErrArg},
		{one(most+1, c.Number), api.ErrArg},
		{one(c.Epoch, 0), api.ErrArg},
		{one(c.Epoch, most+1), api.ErrArg},
		{api.Commit{}, api.ErrArg},
	}
	return list
}

func TestOneFaultAtEachPlace(t *testing.T) {
	for count := range 9 {
		good := rising(count, 11)
		wantFault(t, 3, 10, good, api.Fault{})
		wantFault(t, 0, 10, good, api.Fault{})
		for at := range good {
			for _, wrong := range wrongAt(good[at]) {
				l := slices.Clone(good)
				l[at] = wrong.c
				wantFault(t, 3, 10, l, api.Fault{Err: wrong.e, At: at})
			}
		}
	}
}

func TestTheFirstOfTwoFaults(t *testing.T) {
	good := rising(7, 11)
	for first := range good {
		for second := first + 1; second < len(good); second++ {
			for _, a := range wrongAt(good[first]) {
				for _, b := range wrongAt(good[second]) {
					l := slices.Clone(good)
					l[first], l[second] = a.c, b.c
					wantFault(t, 3, 10, l, api.Fault{Err: a.e, At: first})
				}
			}
		}
	}
}

// Each commit is held against the one just ahead of it, not against the end, nor the first.
func TestFollowsTheOneAhead(t *testing.T) {
	wantFault(t, 1, 0, []api.Commit{one(1, 1), one(5, 2), one(4, 3)}, api.Fault{Err: api.ErrOrder, At: 2})
	wantFault(t, 1, 0, []api.Commit{one(1, 1), one(5, 2), one(5, 3), one(4, 4)}, api.Fault{Err: api.ErrOrder, At: 3})
	wantFault(t, 1, 0, []api.Commit{one(1, 1), one(1, 1)}, api.Fault{Err: api.ErrOrder, At: 1})
	wantFault(t, 1, 0, []api.Commit{one(1, 1), one(1, 2), one(1, 2), one(1, 3)}, api.Fault{Err: api.ErrOrder, At: 2})
	wantFault(t, 1, 0, []api.Commit{one(1, 1), one(1, 3), one(1, 4)}, api.Fault{Err: api.ErrOrder, At: 1})
	wantFault(t, 0, 0, []api.Commit{one(2, 1), one(1, 2)}, api.Fault{Err: api.ErrOrder, At: 1})
	wantFault(t, 1, most-2, []api.Commit{one(1, most-1), one(1, most), one(1, most+1)}, api.Fault{Err: api.ErrArg, At: 2})
	wantFault(t, 1, most-1, []api.Commit{one(1, most), one(1, 1)}, api.Fault{Err: api.ErrOrder, At: 1})
}

func TestFollowsOfALongList(t *testing.T) {
	var l []api.Commit
	for i := range 2000 {
		l = append(l, one(1+i/100, 1+i))
	}
	wantFault(t, 0, 0, l, api.Fault{})
	l[1999].Epoch = 19
	wantFault(t, 0, 0, l, api.Fault{Err: api.ErrOrder, At: 1999})
}

// P4.4, and P11 of these calls

func checkThereAndBack(t *testing.T, c api.Commit) {
	t.Helper()
	b := encoded(t, c)
	wantDecoded(t, b, c, api.OK)
	if got, _ := commit.Decode(b); !commit.Same(got, c) {
		t.Errorf("%+v came back as %+v", c, got)
	}
}

func TestThereAndBack(t *testing.T) {
	batches := [][]api.Op{{del("a")}, {put("a", "")}, {put(of(16), of(32)), del(of(15))}, times(8, put("\x00\xff", "\x80")), {put("ab", "1"), put("abc", "2"), del("x")}}
	for _, epoch := range []int{1, 2, 127, 128, 16383, 16384, most - 1, most} {
		for _, number := range []int{1, 2, 127, 128, 16383, 16384, most - 1, most} {
			for _, ops := range batches {
				checkThereAndBack(t, with(epoch, number, ops...))
			}
		}
	}
	for _, c := range may() {
		checkThereAndBack(t, c.c)
	}
}

// checkDecode: bytes are decoded just if they are those of what is told.
func checkDecode(t *testing.T, b []byte) {
	t.Helper()
	c, e := commit.Decode(b)
	if e != api.OK {
		wantBad(t, b)
		return
	}
	if commit.Check(c) != api.OK || !bytes.Equal(encoded(t, c), b) {
		t.Errorf("Decode(%v) = %+v: its bytes are others", b, c)
	}
}

func TestNothingElseIsDecoded(t *testing.T) {
	edges := []byte{0, 1, 2, 16, 17, 32, 33, 64, 65, 97, 127, 128, 129, 255}
	for _, c := range may() {
		for at := range c.bytes {
			for _, x := range edges {
				other := bytes.Clone(c.bytes)
				other[at] = x
				checkDecode(t, other)
				checkDecode(t, slices.Insert(bytes.Clone(c.bytes), at, x))
			}
			checkDecode(t, slices.Delete(bytes.Clone(c.bytes), at, at+1))
		}
	}
}

// Every list of few bytes of a small kind: what is decoded is what some commit has.
func TestEveryShortListOfBytes(t *testing.T) {
	few := []byte{0, 1, 97, 128}
	found := 0
	var grow func(b []byte)
	grow = func(b []byte) {
		checkDecode(t, b)
		if _, e := commit.Decode(b); e == api.OK {
			found++
		}
		if len(b) == 9 {
			return
		}
		for _, x := range few {
			grow(append(b[:len(b):len(b)], x))
		}
	}
	grow(nil)
	if found == 0 {
		t.Error("none of them was decoded")
	}
}

// Numbers of more bytes than they need are read nowhere.
func TestEachNumberHasOneForm(t *testing.T) {
	whole := []byte{3, 4, 1, 1, 0, 1, 97, 1, 49}
	wantDecoded(t, whole, with(3, 4, put("a", "1")), api.OK)
	for at, x := range whole {
		if x != 97 && x != 49 {
			wantBad(t, joined(whole[:at], []byte{x | 128, 0}, whole[at+1:]))
		}
	}
}

// endOf answers the end behind l, which follows the end (epoch, number).
func endOf(epoch, number int, l []api.Commit) (int, int) {
	if len(l) == 0 {
		return epoch, number
	}
	last := l[len(l)-1]
	return last.Epoch, last.Number
}

// checkTogether: where the first list follows, the second follows its end just if both together follow.
func checkTogether(t *testing.T, epoch, number int, first, second []api.Commit) {
	t.Helper()
	both := commit.Follows(epoch, number, slices.Concat(first, second))
	if f := commit.Follows(epoch, number, first); f != (api.Fault{}) {
		if both != f {
			t.Errorf("behind %d, %d: of %+v %+v, of that with more behind it %+v", epoch, number, first, f, both)
		}
		return
	}
	lastEpoch, lastNumber := endOf(epoch, number, first)
	alone := commit.Follows(lastEpoch, lastNumber, second)
	if (alone == api.Fault{}) != (both == api.Fault{}) {
		t.Errorf("behind %d, %d: %+v and %+v together %+v, the second alone %+v", epoch, number, first, second, both, alone)
	}
	if (alone != api.Fault{}) && (both != api.Fault{Err: alone.Err, At: alone.At + len(first)}) {
		t.Errorf("behind %d, %d: %+v and %+v together %+v, the second alone %+v", epoch, number, first, second, both, alone)
	}
}

// Every list of up to three out of a few commits, cut in two at each place.
func TestTwoListsTogether(t *testing.T) {
	few := []api.Commit{{}, with(1, 2), one(1, 1), one(2, 1), one(1, 2), one(2, 2), one(2, 3), one(1, 3), one(3, 4)}
	lists := [][]api.Commit{nil}
	for from := 0; from < len(lists); from++ {
		if len(lists[from]) == 3 {
			break
		}
		for _, c := range few {
			lists = append(lists, append(slices.Clone(lists[from]), c))
		}
	}
	followed := 0
	for _, l := range lists {
		for _, end := range [][2]int{{0, 0}, {1, 0}, {1, 1}, {2, 1}, {2, 2}, {0, -1}} {
			if (commit.Follows(end[0], end[1], l) == api.Fault{}) {
				followed++
			}
			for at := range len(l) + 1 {
				checkTogether(t, end[0], end[1], l[:at], l[at:])
			}
		}
	}
	if followed < 20 {
		t.Errorf("only %d lists follow", followed)
	}
}

func FuzzDecode(f *testing.F) {
	for _, c := range may() {
		f.Add(c.bytes)
	}
	f.Fuzz(func(t *testing.T, b []byte) { checkDecode(t, b) })
}

func FuzzThereAndBack(f *testing.F) {
	f.Add(1, 2, true, "a", "1", 1)
	f.Fuzz(func(t *testing.T, epoch, number int, isPut bool, key, value string, count int) {
		ops := times(count&15, api.Op{Put: isPut, Key: key, Value: value})
		c := with(epoch, number, ops...)
		if e := commit.Check(c); e == api.OK {
			checkThereAndBack(t, c)
		} else if b, got := commit.Encode(c); got != e || b != nil {
			t.Errorf("Encode(%+v) = %v, %d; want none, %d", c, b, got, e)
		}
	})
}

func FuzzFollows(f *testing.F) {
	f.Add(0, 0, []byte{1, 1, 1, 2, 3, 3}, 1)
	f.Fuzz(func(t *testing.T, epoch, number int, steps []byte, at int) {
		var l []api.Commit
		for ; len(steps) > 1; steps = steps[2:] {
			l = append(l, one(int(steps[0]), int(steps[1])))
		}
		cut := max(0, min(at, len(l)))
		checkTogether(t, epoch, number, l[:cut], l[cut:])
	})
}
