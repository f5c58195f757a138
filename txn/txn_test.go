package txn_test

import (
	"math"
	"slices"
	"strconv"
	"strings"
	"testing"

	"lagleash/api"
	"lagleash/batch"
	"lagleash/txn"
)

// The limits, as the document writes them.
const (
	mostOps   = 8
	mostKey   = 16
	mostValue = 32
)

func put(key, value string) api.Op { return api.Op{Put: true, Key: key, Value: value} }

func del(key string) api.Op { return api.Op{Key: key} }

// add hands an op to the call that is there for it.
func add(x *txn.Txn, o api.Op) api.Errno {
	if o.Put {
		return x.Put(o.Key, o.Value)
	}
	return x.Delete(o.Key)
}

// begun answers an open txn with ops, on the ground of a test.
func begun(t *testing.T, ops ...api.Op) *txn.Txn {
	t.Helper()
	x := txn.Begin()
	for _, o := range ops {
		if e := add(x, o); e != api.OK {
			t.Fatalf("%v: %d", o, e)
		}
	}
	return x
}

// done answers a txn with ops that is done.
func done(t *testing.T, ops ...api.Op) *txn.Txn {
	t.Helper()
	x := begun(t, ops...)
	if _, e := x.Done(); e != api.OK {
		t.Fatalf("Done: %d", e)
	}
	return x
}

// dropped answers a txn with ops that is dropped.
func dropped(t *testing.T, ops ...api.Op) *txn.Txn {
	t.Helper()
	x := begun(t, ops...)
	if e := x.Drop(); e != api.OK {
		t.Fatalf("Drop: %d", e)
	}
	return x
}

// some answers ops that can be told apart, most on keys of their own.
func some(count int) []api.Op {
	var l []api.Op
	for i := range count {
		switch i % 4 {
		case 1:
			l = append(l, del("k"+strconv.Itoa(i)))
		case 3:
			l = append(l, put("k"+strconv.Itoa(i-1), "again"+strconv.Itoa(i)))
		default:
			l = append(l, put("k"+strconv.Itoa(i), "v"+strconv.Itoa(i)))
		}
	}
	return l
}

// got is what Get answers.
type got struct {
	value      string
	met, there bool
}

func value(s string) got { return got{s, true, true} }

func deleted() got { return got{"", true, false} }

func nothing() got { return got{} }

func wantGet(t *testing.T, what string, x *txn.Txn, key string, g got) {
	t.Helper()
	if v, met, there := x.Get(key); (got{v, met, there}) != g {
		t.Errorf("%s: Get(%q): %q %v %v, not %+v", what, key, v, met, there, g)
	}
}

func want(t *testing.T, what string, now, e api.Errno) {
	t.Helper()
	if now != e {
		t.Errorf("%s: %d, not %d", what, now, e)
	}
}

func wantLen(t *testing.T, what string, x *txn.Txn, n int) {
	t.Helper()
	if now := x.Len(); now != n {
		t.Errorf("%s: Len: %d, not %d", what, now, n)
	}
}

// left is what the last of ops on a key leaves: later ones overwrite what was found ahead of them.
func left(ops []api.Op, key string) got {
	g := nothing()
	for _, o := range ops {
		switch {
		case o.Key != key:
		case o.Put:
			g = value(o.Value)
		default:
			g = deleted()
		}
	}
	return g
}

// keys lists those that the tests use, and some that may not be.
func keys() []string {
	l := []string{"", "a", "b", "c", "x", "\x00", strings.Repeat("k", mostKey), strings.Repeat("k", mostKey+1)}
	for i := range mostOps + 2 {
		l = append(l, "k"+strconv.Itoa(i))
	}
	return l
}

// wantOpen: the txn is open with these ops, by the calls that tell and change nothing.
func wantOpen(t *testing.T, what string, x *txn.Txn, ops ...api.Op) {
	t.Helper()
	wantLen(t, what, x, len(ops))
	for _, key := range keys() {
		wantGet(t, what, x, key, left(ops, key))
	}
	for _, o := range ops {
		wantGet(t, what, x, o.Key, left(ops, o.Key))
	}
}

// wantDone: the txn is open, and done with just these ops; it is closed then.
func wantDone(t *testing.T, what string, x *txn.Txn, ops ...api.Op) {
	t.Helper()
	wantOpen(t, what, x, ops...)
	l, e := x.Done()
	want(t, what+": Done", e, api.OK)
	if !slices.Equal(l, ops) {
		t.Errorf("%s: Done: %v, not %v", what, l, ops)
	}
	wantClosed(t, what+": behind Done", x)
}

// wantRefused: every call of the txn is refused so, and tells nothing.
func wantRefused(t *testing.T, what string, x *txn.Txn, e api.Errno) {
	t.Helper()
	for range 2 {
		want(t, what+": Put", x.Put("x", "9"), e)
		want(t, what+": Put of what may not be", x.Put("", "9"), e)
		want(t, what+": Delete", x.Delete("x"), e)
		want(t, what+": Delete of what may not be", x.Delete(""), e)
		for _, to := range []int{0, 1, -1, mostOps, mostOps + 1, math.MinInt, math.MaxInt} {
			want(t, what+": Undo("+strconv.Itoa(to)+")", x.Undo(to), e)
		}
		wantOpen(t, what, x)
		l, now := x.Done()
		want(t, what+": Done", now, e)
		if len(l) != 0 {
			t.Errorf("%s: Done: %v", what, l)
		}
		want(t, what+": Drop", x.Drop(), e)
	}
}

func wantClosed(t *testing.T, what string, x *txn.Txn) {
	t.Helper()
	wantRefused(t, what, x, api.ErrOff)
}

// The chapter's examples: the first three rows at one txn, one behind the other.
func TestExamples(t *testing.T) {
	x := txn.Begin()
	want(t, "Put(a, 1)", x.Put("a", "1"), api.OK)
	want(t, "Delete(a)", x.Delete("a"), api.OK)
	wantLen(t, "behind them", x, 2)
	wantGet(t, "behind them", x, "a", deleted())
	want(t, "Undo(1)", x.Undo(1), api.OK)
	wantGet(t, "behind it", x, "a", value("1"))
	want(t, "Undo(2)", x.Undo(2), api.ErrArg)
	l, e := x.Done()
	if want(t, "Done", e, api.OK); !slices.Equal(l, []api.Op{put("a", "1")}) {
		t.Errorf("Done: %v", l)
	}
	l, e = x.Done()
	if want(t, "Done again", e, api.ErrOff); len(l) != 0 {
		t.Errorf("Done again: %v", l)
	}
	want(t, "Put(b, 2)", x.Put("b", "2"), api.ErrOff)
	want(t, "Drop", x.Drop(), api.ErrOff)
	l, e = txn.Begin().Done()
	if want(t, "Begin().Done", e, api.ErrArg); len(l) != 0 {
		t.Errorf("Begin().Done: %v", l)
	}
}

// P16.1

func TestBegin(t *testing.T) {
	x := txn.Begin()
	if x == nil {
		t.Fatal("Begin: nil")
	}
	wantOpen(t, "begun", x)
	want(t, "Undo(0)", x.Undo(0), api.OK)
	want(t, "Put", x.Put("a", "1"), api.OK)
	wantDone(t, "behind it", x, put("a", "1"))
	want(t, "Drop of one that was begun", txn.Begin().Drop(), api.OK)
	want(t, "Delete at one that was begun", txn.Begin().Delete("a"), api.OK)
}

func TestPutAndDeleteStandBehindTheOthers(t *testing.T) {
	for count := 1; count <= mostOps; count++ {
		x := txn.Begin()
		for i, o := range some(count) {
			want(t, "op "+strconv.Itoa(i), add(x, o), api.OK)
			wantOpen(t, "behind op "+strconv.Itoa(i), x, some(i+1)...)
		}
		wantDone(t, strconv.Itoa(count)+" ops", x, some(count)...)
	}
}

// The same key, the same op may stand in it as often as there is room.
func TestOpsOnOneKeyAllStay(t *testing.T) {
	for _, l := range [][]api.Op{
		{put("a", "1"), put("a", "1")},
		{del("a"), del("a")},
		{put("a", "1"), put("a", "2"), del("a"), put("a", ""), del("a"), del("a"), put("a", "1"), put("a", "1")},
		slices.Repeat([]api.Op{put("a", "")}, mostOps),
		slices.Repeat([]api.Op{del("a")}, mostOps),
	} {
		wantDone(t, "on one key", begun(t, l...), l...)
	}
}

// Keys and values at, just below, just above and far above their limits; and of lengths that would be within them, cut down to a byte or two.
func TestLengthsOfKeysAndValues(t *testing.T) {
	for _, k := range []int{0, 1, 2, 15, 16, 17, 18, 31, 32, 33, 255, 256, 257, 272, 5000, 65536 + 5} {
		key := strings.Repeat("k", k)
		keyMayBe := 1 <= k && k <= mostKey
		for _, v := range []int{0, 1, 16, 17, 31, 32, 33, 34, 255, 256, 257, 5000, 65536 + 5} {
			text := strings.Repeat("v", v)
			x := begun(t, put("a", "1"))
			if keyMayBe && v <= mostValue {
				want(t, "Put of "+strconv.Itoa(k)+", "+strconv.Itoa(v)+" bytes", x.Put(key, text), api.OK)
				wantDone(t, "behind it", x, put("a", "1"), put(key, text))
				continue
			}
			want(t, "Put of "+strconv.Itoa(k)+", "+strconv.Itoa(v)+" bytes", x.Put(key, text), api.ErrArg)
			wantDone(t, "behind it", x, put("a", "1"))
		}
		x := begun(t, put("a", "1"))
		if keyMayBe {
			want(t, "Delete of "+strconv.Itoa(k)+" bytes", x.Delete(key), api.OK)
			wantDone(t, "behind it", x, put("a", "1"), del(key))
			continue
		}
		want(t, "Delete of "+strconv.Itoa(k)+" bytes", x.Delete(key), api.ErrArg)
		wantDone(t, "behind it", x, put("a", "1"))
	}
}

// A length is one of bytes, not of runes.
func TestLengthsAreOfBytes(t *testing.T) {
	x := txn.Begin()
	want(t, "Put of 8 runes of 2 bytes", x.Put(strings.Repeat("\u00e9", 8), strings.Repeat("\u00e9", 16)), api.OK)
	want(t, "Put of a key of 9 runes of 2 bytes", x.Put(strings.Repeat("\u00e9", 9), ""), api.ErrArg)
	want(t, "Put of a value of 17 runes of 2 bytes", x.Put("a", strings.Repeat("\u00e9", 17)), api.ErrArg)
	want(t, "Delete of 9 runes of 2 bytes", x.Delete(strings.Repeat("\u00e9", 9)), api.ErrArg)
	wantLen(t, "behind them", x, 1)
}

func TestAnyBytesMayBe(t *testing.T) {
	for c := range 256 {
		s := string([]byte{byte(c)})
		l := []api.Op{put(s, s), del(s), put(s+s, ""), put("a"+s, s+"b"), del(strings.Repeat(s, mostKey)), put(s, strings.Repeat(s, mostValue))}
		wantDone(t, "byte "+strconv.Itoa(c), begun(t, l...), l...)
	}
}

// mayNotBe lists ops that may not be, and that can be told by Put or Delete.
func mayNotBe() []api.Op {
	return []api.Op{
		put("", ""),
		put("", "1"),
		put(strings.Repeat("k", mostKey+1), ""),
		put(strings.Repeat("k", mostKey+1), "1"),
		put("a", strings.Repeat("v", mostValue+1)),
		put("", strings.Repeat("v", mostValue+1)),
		put(strings.Repeat("k", mostKey+1), strings.Repeat("v", mostValue+1)),
		del(""),
		del(strings.Repeat("k", mostKey+1)),
		del(strings.Repeat("k", 5000)),
	}
}

// mayBe lists ops at the edges of those that may be.
func mayBe() []api.Op {
	return []api.Op{
		put("a", "1"),
		put("a", ""),
		put("a", strings.Repeat("v", mostValue)),
		put(strings.Repeat("k", mostKey), strings.Repeat("v", mostValue)),
		del("a"),
		del("\x00"),
		del(strings.Repeat("k", mostKey)),
	}
}

// Each refusal alone, and each with each other one: which one counts.
func TestWhichRefusalOfAnOpCounts(t *testing.T) {
	good, bad, full := mayBe(), mayNotBe(), some(mostOps)
	for _, c := range []struct {
		what       string
		txn        func() *txn.Txn
		good, evil api.Errno // of an op that may be, of one that may not be
	}{
		{"not there", func() *txn.Txn { return nil }, api.ErrNil, api.ErrNil},
		{"nobody's", func() *txn.Txn { return new(txn.Txn) }, api.ErrNil, api.ErrNil},
		{"done", func() *txn.Txn { return done(t, some(3)...) }, api.ErrOff, api.ErrOff},
		{"done, full", func() *txn.Txn { return done(t, full...) }, api.ErrOff, api.ErrOff},
		{"dropped", func() *txn.Txn { return dropped(t, some(3)...) }, api.ErrOff, api.ErrOff},
		{"dropped, full", func() *txn.Txn { return dropped(t, full...) }, api.ErrOff, api.ErrOff},
		{"dropped without ops", func() *txn.Txn { return dropped(t) }, api.ErrOff, api.ErrOff},
		{"open, full", func() *txn.Txn { return begun(t, full...) }, api.ErrLong, api.ErrArg},
		{"open, with room for one", func() *txn.Txn { return begun(t, some(mostOps-1)...) }, api.OK, api.ErrArg},
		{"open, without ops", func() *txn.Txn { return begun(t) }, api.OK, api.ErrArg},
	} {
		for _, o := range good {
			want(t, c.what+": an op that may be", add(c.txn(), o), c.good)
		}
		for _, o := range bad {
			want(t, c.what+": an op that may not be", add(c.txn(), o), c.evil)
		}
	}
}

// The eighth op is taken, the ninth is not; behind an Undo there is room again.
func TestTheEighthAndTheNinthOp(t *testing.T) {
	for _, o := range mayBe() {
		x := begun(t, some(mostOps-1)...)
		want(t, "the eighth", add(x, o), api.OK)
		all := append(some(mostOps-1), o)
		for _, ninth := range mayBe() {
			want(t, "the ninth", add(x, ninth), api.ErrLong)
			want(t, "the ninth again", add(x, ninth), api.ErrLong)
		}
		wantOpen(t, "behind them", x, all...)
		want(t, "Undo(7)", x.Undo(mostOps-1), api.OK)
		want(t, "another eighth", x.Put("x", "9"), api.OK)
		want(t, "another ninth", x.Put("x", "9"), api.ErrLong)
		wantDone(t, "behind it", x, append(some(mostOps-1), put("x", "9"))...)
	}
}

// There is room for eight at any time, however many were put and undone ahead.
func TestRoomIsThatOfOpsThatAreThere(t *testing.T) {
	x := begun(t, some(mostOps)...)
	for to := range 5 * mostOps {
		to %= mostOps
		want(t, "Undo", x.Undo(to), api.OK)
		for range mostOps - to {
			want(t, "up to the eighth", x.Put("a", strconv.Itoa(to)), api.OK)
		}
		want(t, "the ninth", x.Put("a", strconv.Itoa(to)), api.ErrLong)
		wantLen(t, "behind it", x, mostOps)
	}
}

// What is refused leaves the txn open, with the ops that it had.
func TestARefusedOpLeavesAllAsItIs(t *testing.T) {
	for count := range mostOps + 1 {
		for _, o := range mayNotBe() {
			x := begun(t, some(count)...)
			for range 3 {
				want(t, "what may not be", add(x, o), api.ErrArg)
			}
			wantOpen(t, "behind it", x, some(count)...)
			wantGet(t, "behind it", x, o.Key, left(some(count), o.Key))
			if count < mostOps {
				want(t, "one more behind it", x.Put("x", "9"), api.OK)
				wantDone(t, "behind both", x, append(some(count), put("x", "9"))...)
				continue
			}
			want(t, "one more behind it", x.Put("x", "9"), api.ErrLong)
			wantDone(t, "behind both", x, some(count)...)
		}
	}
}

// P16.2

func TestUndoToEachPlace(t *testing.T) {
	for count := range mostOps + 1 {
		for to := -3; to <= mostOps+4; to++ {
			x := begun(t, some(count)...)
			what := "Undo(" + strconv.Itoa(to) + ") of " + strconv.Itoa(count)
			if to < 0 || to > count {
				want(t, what, x.Undo(to), api.ErrArg)
				wantOpen(t, what, x, some(count)...)
				doneOrEmpty(t, what, x, some(count)...)
				continue
			}
			want(t, what, x.Undo(to), api.OK)
			wantOpen(t, what, x, some(count)[:to]...)
			doneOrEmpty(t, what, x, some(count)[:to]...)
		}
	}
}

// doneOrEmpty: the txn is done with just these ops; with none it is not done, and stays open.
func doneOrEmpty(t *testing.T, what string, x *txn.Txn, ops ...api.Op) {
	t.Helper()
	if len(ops) > 0 {
		wantDone(t, what, x, ops...)
		return
	}
	l, e := x.Done()
	want(t, what+": Done without ops", e, api.ErrArg)
	if len(l) != 0 {
		t.Errorf("%s: Done without ops: %v", what, l)
	}
	wantOpen(t, what+": behind Done", x)
	want(t, what+": Drop", x.Drop(), api.OK)
}

// The least and the greatest int, and numbers that would be within their bounds, cut down to fewer bits.
func TestUndoToTheLeastAndTheGreatest(t *testing.T) {
	far := []int{math.MinInt, math.MinInt + 1, math.MinInt + 2, math.MaxInt - 1, math.MaxInt}
	for _, wrap := range []int{1 << 8, 1 << 16, 1 << 31, 1 << 32, 1 << 62} {
		far = append(far, -wrap, 2-wrap, wrap, wrap+2)
	}
	for _, count := range []int{0, 1, 3, mostOps} {
		x := begun(t, some(count)...)
		for _, to := range far {
			want(t, "Undo("+strconv.Itoa(to)+")", x.Undo(to), api.ErrArg)
		}
		wantOpen(t, "behind them", x, some(count)...)
		doneOrEmpty(t, "behind them", x, some(count)...)
	}
}

// Undone is what is behind; up to where it was undone ahead is not to be reached again.
func TestUndoOneBehindTheOther(t *testing.T) {
	for first := range mostOps + 1 {
		for second := range mostOps + 1 {
			x := begun(t, some(mostOps)...)
			want(t, "the first Undo", x.Undo(first), api.OK)
			stay := min(first, second)
			if second > first {
				want(t, "an Undo up to what was undone", x.Undo(second), api.ErrArg)
			} else {
				want(t, "the second Undo", x.Undo(second), api.OK)
			}
			wantOpen(t, "behind both", x, some(mostOps)[:stay]...)
			doneOrEmpty(t, "behind both", x, some(mostOps)[:stay]...)
		}
	}
}

// Ops that are put behind an Undo stand in the place of those undone.
func TestOpsBehindAnUndo(t *testing.T) {
	others := []api.Op{put("a", "new"), del("k0"), put("k2", ""), put("b", "1"), del("b"), put("k0", "2"), put("c", ""), del("c")}
	for count := range mostOps + 1 {
		for to := range count + 1 {
			x := begun(t, some(count)...)
			want(t, "Undo", x.Undo(to), api.OK)
			ops := some(count)[:to]
			for _, o := range others[:mostOps-to] {
				want(t, "an op behind it", add(x, o), api.OK)
				ops = append(ops, o)
				wantOpen(t, "behind it", x, ops...)
			}
			want(t, "one too many", x.Put("a", "1"), api.ErrLong)
			wantDone(t, "behind them", x, ops...)
		}
	}
}

func TestUndoOfATxnThatIsNotOpen(t *testing.T) {
	for what, x := range map[string]*txn.Txn{
		"done": done(t, some(3)...), "dropped": dropped(t, some(3)...), "dropped without ops": dropped(t),
	} {
		for _, to := range []int{math.MinInt, -1, 0, 1, 3, 4, mostOps, math.MaxInt} {
			want(t, what+": Undo("+strconv.Itoa(to)+")", x.Undo(to), api.ErrOff)
		}
		wantClosed(t, what, x)
	}
}

func TestLen(t *testing.T) {
	var none *txn.Txn
	for what, c := range map[string]struct {
		txn *txn.Txn
		n   int
	}{
		"open, without ops":   {begun(t), 0},
		"open, with one":      {begun(t, some(1)...), 1},
		"open, with one key":  {begun(t, put("a", "1"), put("a", "2"), del("a")), 3},
		"open, full":          {begun(t, some(mostOps)...), mostOps},
		"done":                {done(t, some(2)...), 0},
		"done, full":          {done(t, some(mostOps)...), 0},
		"dropped":             {dropped(t, some(2)...), 0},
		"dropped, full":       {dropped(t, some(mostOps)...), 0},
		"dropped without ops": {dropped(t), 0},
		"not there":           {none, 0},
		"nobody's":            {new(txn.Txn), 0},
	} {
		wantLen(t, what, c.txn, c.n)
		wantLen(t, what+", asked again", c.txn, c.n)
	}
}

func TestGet(t *testing.T) {
	x := begun(t,
		put("once", "1"), put("twice", "1"), del("gone"), put("twice", "2"),
		put("back", "3"), del("back"), put("back", ""), put("undone", "4"))
	want(t, "Undo", x.Undo(mostOps-1), api.OK)
	for key, g := range map[string]got{
		"once":                          value("1"),
		"twice":                         value("2"),
		"gone":                          deleted(),
		"back":                          value(""),
		"undone":                        nothing(),
		"never":                         nothing(),
		"":                              nothing(),
		"onc":                           nothing(),
		"once\x00":                      nothing(),
		"Once":                          nothing(),
		"1":                             nothing(),
		strings.Repeat("k", mostKey):    nothing(),
		strings.Repeat("k", mostKey+1):  nothing(),
		strings.Repeat("once", 1000000): nothing(),
	} {
		wantGet(t, "asked", x, key, g)
		wantGet(t, "asked again", x, key, g)
	}
	wantLen(t, "behind them", x, mostOps-1)
}

// All lists of four ops on two keys: what the last one on each leaves, behind each op and behind each Undo.
func TestGetOfTheLastOpOnAKey(t *testing.T) {
	each := []api.Op{put("a", "1"), put("a", ""), del("a"), put("b", "2"), del("b")}
	const count = 4
	for number := range 5 * 5 * 5 * 5 {
		x := txn.Begin()
		var ops []api.Op
		for rest := number; len(ops) < count; rest /= len(each) {
			o := each[rest%len(each)]
			want(t, "an op", add(x, o), api.OK)
			ops = append(ops, o)
			wantOpen(t, "behind it", x, ops...)
		}
		for to := count; to >= 0; to-- {
			want(t, "Undo", x.Undo(to), api.OK)
			wantOpen(t, "behind it", x, ops[:to]...)
		}
	}
}

func TestGetOfATxnThatIsNotOpen(t *testing.T) {
	ops := []api.Op{put("a", "1"), del("b"), put("c", "")}
	var none *txn.Txn
	for what, x := range map[string]*txn.Txn{
		"done": done(t, ops...), "dropped": dropped(t, ops...), "not there": none, "nobody's": new(txn.Txn),
	} {
		for _, key := range keys() {
			wantGet(t, what, x, key, nothing())
		}
	}
}

// A call that tells changes nothing.
func TestTellingChangesNothing(t *testing.T) {
	for count := range mostOps + 1 {
		x := begun(t, some(count)...)
		for range 20 {
			wantOpen(t, "asked again", x, some(count)...)
		}
		doneOrEmpty(t, "behind them", x, some(count)...)
	}
}

// P16.3

func TestDoneWithoutOpsStaysOpen(t *testing.T) {
	for what, x := range map[string]*txn.Txn{
		"begun":              begun(t),
		"undone":             undone(t, some(1)...),
		"undone, full":       undone(t, some(mostOps)...),
		"refused":            refused(t),
		"undone and refused": refused(t, some(2)...),
	} {
		for range 3 {
			l, e := x.Done()
			if want(t, what+": Done", e, api.ErrArg); len(l) != 0 {
				t.Errorf("%s: Done: %v", what, l)
			}
			wantOpen(t, what+": behind it", x)
			want(t, what+": Undo(0) behind it", x.Undo(0), api.OK)
			want(t, what+": Undo(1) behind it", x.Undo(1), api.ErrArg)
		}
		for _, o := range some(mostOps) {
			want(t, what+": an op behind it", add(x, o), api.OK)
		}
		wantDone(t, what, x, some(mostOps)...)
	}
	x := txn.Begin()
	x.Done()
	want(t, "Drop behind Done without ops", x.Drop(), api.OK)
	wantClosed(t, "behind it", x)
}

// undone answers an open txn of which all ops were undone.
func undone(t *testing.T, ops ...api.Op) *txn.Txn {
	t.Helper()
	x := begun(t, ops...)
	want(t, "Undo(0)", x.Undo(0), api.OK)
	return x
}

// refused answers an open txn without ops that has refused some since.
func refused(t *testing.T, ops ...api.Op) *txn.Txn {
	t.Helper()
	x := undone(t, ops...)
	for _, o := range mayNotBe() {
		want(t, "what may not be", add(x, o), api.ErrArg)
	}
	return x
}

func TestDoneWithOpsCloses(t *testing.T) {
	for count := 1; count <= mostOps; count++ {
		x := begun(t, some(count)...)
		l, e := x.Done()
		if want(t, "Done", e, api.OK); !slices.Equal(l, some(count)) {
			t.Errorf("Done: %v, not %v", l, some(count))
		}
		l, e = x.Done()
		if want(t, "a second Done", e, api.ErrOff); len(l) != 0 {
			t.Errorf("a second Done: %v", l)
		}
		want(t, "Drop behind Done", x.Drop(), api.ErrOff)
		wantClosed(t, "behind them", x)
	}
}

func TestDropCloses(t *testing.T) {
	for count := range mostOps + 1 {
		x := begun(t, some(count)...)
		want(t, "Drop", x.Drop(), api.OK)
		want(t, "a second Drop", x.Drop(), api.ErrOff)
		l, e := x.Done()
		if want(t, "Done behind Drop", e, api.ErrOff); len(l) != 0 {
			t.Errorf("Done behind Drop: %v", l)
		}
		want(t, "a third Drop", x.Drop(), api.ErrOff)
		wantClosed(t, "behind them", x)
	}
}

// Each call is the first one behind the txn's end: none opens it again.
func TestEachCallBehindTheEnd(t *testing.T) {
	for what, call := range map[string]func(x *txn.Txn) api.Errno{
		"Put":    func(x *txn.Txn) api.Errno { return x.Put("a", "1") },
		"Delete": func(x *txn.Txn) api.Errno { return x.Delete("a") },
		"Undo":   func(x *txn.Txn) api.Errno { return x.Undo(0) },
		"Done":   func(x *txn.Txn) api.Errno { _, e := x.Done(); return e },
		"Drop":   func(x *txn.Txn) api.Errno { return x.Drop() },
	} {
		for end, x := range map[string]*txn.Txn{
			"done": done(t, some(2)...), "dropped": dropped(t, some(2)...), "dropped without ops": dropped(t),
		} {
			want(t, end+": "+what, call(x), api.ErrOff)
			want(t, end+": "+what+" again", call(x), api.ErrOff)
			wantClosed(t, end, x)
		}
	}
}

// P16.4

func TestWhatDoneTellsMayBe(t *testing.T) {
	for count := 1; count <= mostOps; count++ {
		for to := 1; to <= count; to++ {
			x := begun(t, some(count)...)
			for _, o := range mayNotBe() {
				add(x, o)
			}
			x.Undo(to)
			l, e := x.Done()
			want(t, "Done", e, api.OK)
			want(t, "batch.Check", batch.Check(l), api.OK)
		}
	}
	// As much as goes in: all ops and more of the greatest key and value, with others refused in between.
	x := txn.Begin()
	for range 2 * mostOps {
		for _, o := range append(mayNotBe(), put(strings.Repeat("k", mostKey), strings.Repeat("v", mostValue))) {
			add(x, o)
		}
	}
	l, e := x.Done()
	if want(t, "Done", e, api.OK); len(l) != mostOps || batch.Check(l) != api.OK {
		t.Errorf("Done: %v", l)
	}
}

// overwrite changes ops, their spare room too.
func overwrite(l []api.Op) {
	l = l[:cap(l)]
	for i := range l {
		l[i] = put("other", "other")
	}
}

// The spare room of a list is new memory, too: what was undone is not told there.
func TestWhatDoneTellsHasNothingUndone(t *testing.T) {
	for count := 1; count <= mostOps; count++ {
		for to := 1; to <= count; to++ {
			x := begun(t, some(count)...)
			x.Undo(to)
			l, _ := x.Done()
			for _, o := range l[len(l):cap(l)] {
				if o != (api.Op{}) {
					t.Errorf("%d ops undone to %d: %v in the spare room", count, to, o)
				}
			}
		}
	}
}

// The list stays as it is, whatever is done with its txn, with another one, with another list.
func TestWhatDoneToldStays(t *testing.T) {
	for count := 1; count <= mostOps; count++ {
		x := begun(t, some(count)...)
		l, _ := x.Done()
		x.Put("x", "9")
		x.Delete("x")
		x.Undo(0)
		x.Done()
		x.Drop()
		for range 20 {
			y := begun(t, some(mostOps)...)
			y.Undo(0)
			y.Put("x", "9")
			other, _ := y.Done()
			overwrite(other)
			dropped(t, put("x", "9"), del("x"))
		}
		if !slices.Equal(l, some(count)) {
			t.Errorf("it is %v, not %v", l, some(count))
		}
	}
}

// A change in the list, in its spare room too, changes no txn: not its own, not one that was begun ahead or is begun later.
func TestAChangeInWhatDoneToldChangesNoTxn(t *testing.T) {
	for count := 1; count <= mostOps; count++ {
		for to := 1; to <= count; to++ {
			ahead := begun(t, some(count)...)
			x := begun(t, some(count)...)
			x.Undo(to)
			l, _ := x.Done()
			later := begun(t, some(count)...)
			overwrite(l)
			_ = append(l[:0], put("other", "x"), del("other"))
			wantClosed(t, "its own", x)
			wantDone(t, "one of ahead", ahead, some(count)...)
			wantDone(t, "one of later", later, some(count)...)
			wantDone(t, "one begun since", begun(t, some(count)...), some(count)...)
		}
	}
}

// Txns are apart: what is done with one is not told by another.
func TestTxnsAreApart(t *testing.T) {
	x, y, z := begun(t, put("a", "1")), txn.Begin(), begun(t, del("b"))
	wantOpen(t, "y", y)
	want(t, "Put at y", y.Put("a", "2"), api.OK)
	want(t, "Put at x", x.Put("c", "3"), api.OK)
	want(t, "Drop of z", z.Drop(), api.OK)
	wantOpen(t, "x", x, put("a", "1"), put("c", "3"))
	wantDone(t, "y", y, put("a", "2"))
	wantDone(t, "x", x, put("a", "1"), put("c", "3"))
	wantClosed(t, "z", z)
}

// Many txns that are put together by turns.
func TestManyTxnsByTurns(t *testing.T) {
	const count = 300
	var l []*txn.Txn
	for range count {
		l = append(l, txn.Begin())
	}
	for turn := range mostOps {
		for i, x := range l {
			want(t, "Put", x.Put("k"+strconv.Itoa(turn), strconv.Itoa(i)), api.OK)
		}
	}
	for i, x := range l {
		var ops []api.Op
		for turn := range mostOps {
			ops = append(ops, put("k"+strconv.Itoa(turn), strconv.Itoa(i)))
		}
		wantDone(t, "txn "+strconv.Itoa(i), x, ops...)
	}
}

// Rule 5: a txn that is not there, and one that nobody made.

func TestATxnThatIsNotThere(t *testing.T) {
	var none *txn.Txn
	wantRefused(t, "not there", none, api.ErrNil)
}

func TestATxnThatNobodyMade(t *testing.T) {
	wantRefused(t, "new", new(txn.Txn), api.ErrNil)
	var declared txn.Txn
	wantRefused(t, "declared", &declared, api.ErrNil)
}

// Each call is the first one at it: none makes it one that was begun.
func TestEachCallOfATxnThatNobodyMade(t *testing.T) {
	for what, call := range map[string]func(x *txn.Txn) api.Errno{
		"Put":    func(x *txn.Txn) api.Errno { return x.Put("a", "1") },
		"Delete": func(x *txn.Txn) api.Errno { return x.Delete("a") },
		"Undo":   func(x *txn.Txn) api.Errno { return x.Undo(0) },
		"Done":   func(x *txn.Txn) api.Errno { _, e := x.Done(); return e },
		"Drop":   func(x *txn.Txn) api.Errno { return x.Drop() },
		"Len":    func(x *txn.Txn) api.Errno { return api.ErrNil + api.Errno(x.Len()) },
		"Get": func(x *txn.Txn) api.Errno {
			if v, met, there := x.Get("a"); v != "" || met || there {
				return api.OK
			}
			return api.ErrNil
		},
	} {
		for name, x := range map[string]*txn.Txn{"nobody's": new(txn.Txn), "not there": nil} {
			want(t, name+": "+what, call(x), api.ErrNil)
			want(t, name+": "+what+" again", call(x), api.ErrNil)
			wantRefused(t, name+": behind "+what, x, api.ErrNil)
		}
	}
}

// A second telling: it keeps which ops were taken and how each was taken back, and works out all else from that.

type telling struct {
	taken []entry
	over  bool
}

type entry struct {
	op     api.Op
	undone bool
}

func (m *telling) ops() []api.Op {
	var l []api.Op
	for _, x := range m.taken {
		if !x.undone && !m.over {
			l = append(l, x.op)
		}
	}
	return l
}

func opMayBe(o api.Op) bool {
	return o.Key != "" && len(o.Key) <= mostKey && len(o.Value) <= mostValue
}

func (m *telling) add(o api.Op) api.Errno {
	e := api.OK
	if len(m.ops()) == mostOps {
		e = api.ErrLong
	}
	if !opMayBe(o) {
		e = api.ErrArg
	}
	if m.over {
		e = api.ErrOff
	}
	if e == api.OK {
		m.taken = append(m.taken, entry{op: o})
	}
	return e
}

func (m *telling) undo(to int) api.Errno {
	if m.over {
		return api.ErrOff
	}
	if count := len(m.ops()); to < 0 || to > count {
		return api.ErrArg
	}
	at := 0
	for i := range m.taken {
		if m.taken[i].undone {
			continue
		}
		m.taken[i].undone = at >= to
		at++
	}
	return api.OK
}

func (m *telling) done() ([]api.Op, api.Errno) {
	l := m.ops()
	switch {
	case m.over:
		return nil, api.ErrOff
	case len(l) == 0:
		return nil, api.ErrArg
	}
	m.over = true
	return l, api.OK
}

func (m *telling) drop() api.Errno {
	if m.over {
		return api.ErrOff
	}
	m.over = true
	return api.OK
}

// Calls of a script, and what they are to.
const (
	callPut = iota
	callDelete
	callUndo     // to n
	callUndoBack // n ops less than there are
	callDone
	callDrop
)

type call struct {
	kind int
	o    api.Op
	n    int
}

// wantAsTold does a call at a txn and at the second telling, and holds all that they tell against each other; it answers what Done told.
func wantAsTold(t *testing.T, x *txn.Txn, m *telling, c call) []api.Op {
	t.Helper()
	var now, e api.Errno
	var list, right []api.Op
	switch c.kind {
	case callPut:
		now, e = x.Put(c.o.Key, c.o.Value), m.add(put(c.o.Key, c.o.Value))
	case callDelete:
		now, e = x.Delete(c.o.Key), m.add(del(c.o.Key))
	case callUndo:
		now, e = x.Undo(c.n), m.undo(c.n)
	case callUndoBack:
		to := len(m.ops()) - c.n
		now, e = x.Undo(to), m.undo(to)
	case callDone:
		list, now = x.Done()
		right, e = m.done()
	case callDrop:
		now, e = x.Drop(), m.drop()
	}
	if now != e || !slices.Equal(list, right) {
		t.Errorf("%+v: %d %v, not %d %v", c, now, list, e, right)
	}
	wantSame(t, x, m)
	return list
}

func wantSame(t *testing.T, x *txn.Txn, m *telling) {
	t.Helper()
	ops := m.ops()
	wantLen(t, "in a script", x, len(ops))
	for _, key := range [...]string{"a", "b", ""} {
		wantGet(t, "in a script", x, key, left(ops, key))
	}
}

// All scripts of four calls, behind each number of ops.
func TestScripts(t *testing.T) {
	calls := []call{
		{kind: callPut, o: put("a", "1")},
		{kind: callPut, o: put("a", "")},
		{kind: callPut, o: put("b", "2")},
		{kind: callPut, o: put("", "3")},
		{kind: callDelete, o: del("a")},
		{kind: callDelete, o: del("")},
		{kind: callUndo, n: 0},
		{kind: callUndo, n: 1},
		{kind: callUndoBack, n: -1},
		{kind: callUndoBack, n: 1},
		{kind: callDone},
		{kind: callDrop},
	}
	const length = 4
	scripts := 1
	for range length {
		scripts *= len(calls)
	}
	for _, ahead := range []int{0, 1, 4, mostOps - 2, mostOps - 1, mostOps} {
		for number := range scripts {
			x, m := txn.Begin(), &telling{}
			for _, o := range some(ahead) {
				add(x, o)
				m.add(o)
			}
			for rest, i := number, 0; i < length; rest, i = rest/len(calls), i+1 {
				wantAsTold(t, x, m, calls[rest%len(calls)])
			}
			wantAsTold(t, x, m, call{kind: callDone})
			if t.Failed() {
				t.Fatalf("%d ahead, script %d", ahead, number)
			}
		}
	}
}

// scriptOf reads bytes as calls, each at one of several txns.
func scriptOf(b []byte) (places []int, calls []call) {
	texts := [...]string{"a", "b", "", "\x00", strings.Repeat("k", mostKey), strings.Repeat("k", mostKey+1), strings.Repeat("v", mostValue), strings.Repeat("v", mostValue+1)}
	for ; len(b) >= 2; b = b[2:] {
		first, second := int(b[0]), int(b[1])
		o := put(texts[second%len(texts)], texts[second/len(texts)%len(texts)])
		places = append(places, first/8)
		switch kind := first % 8; kind {
		case 6, 7:
			calls = append(calls, call{kind: callPut, o: o})
		default:
			calls = append(calls, call{kind: kind, o: o, n: second%16 - 3})
		}
	}
	return places, calls
}

// told is a list that Done answered, and what it was then.
type told struct{ list, then []api.Op }

// playByTurns does calls at several txns by turns; what each told when it was done must stay to the end.
func playByTurns(t *testing.T, b []byte) {
	t.Helper()
	const count = 3
	var txns [count]*txn.Txn
	var tellings [count]*telling
	for i := range count {
		txns[i], tellings[i] = txn.Begin(), &telling{}
	}
	var lists []told
	places, calls := scriptOf(b)
	for i, c := range calls {
		at := places[i] % count
		if list := wantAsTold(t, txns[at], tellings[at], c); len(list) > 0 {
			lists = append(lists, told{list, slices.Clone(list)})
			// Another one takes its place.
			txns[at], tellings[at] = txn.Begin(), &telling{}
		}
		for other := range count {
			wantSame(t, txns[other], tellings[other])
		}
	}
	for i := range count {
		wantAsTold(t, txns[i], tellings[i], call{kind: callDone})
	}
	for _, x := range lists {
		if !slices.Equal(x.list, x.then) {
			t.Errorf("%v was told, and is %v now", x.then, x.list)
		}
		overwrite(x.list)
	}
}

func TestScriptsByTurns(t *testing.T) {
	seed := uint32(1)
	for range 300 {
		var b []byte
		for range 400 {
			seed = seed*1664525 + 1013904223
			b = append(b, byte(seed>>24))
		}
		playByTurns(t, b)
	}
}

func FuzzScripts(f *testing.F) {
	f.Add([]byte{0, 0, 1, 0, 2, 4, 4, 0, 5, 0})
	f.Add([]byte{0, 0, 8, 1, 0, 9, 8, 0, 3, 4, 4, 0, 12, 0, 0, 0, 5, 0, 13, 0})
	f.Add([]byte{6, 0, 6, 1, 6, 3, 6, 4, 6, 8, 6, 9, 6, 3, 6, 4, 6, 0, 6, 2, 3, 4, 6, 8, 6, 8, 4, 0})
	f.Add([]byte{4, 0, 2, 3, 5, 0, 4, 0, 0, 0})
	f.Fuzz(playByTurns)
}
