package table_test

import (
	"iter"
	"slices"
	"strconv"
	"strings"
	"testing"

	"lagleash/api"
	"lagleash/table"
)

func put(key, value string) api.Op { return api.Op{Put: true, Key: key, Value: value} }

func del(key string) api.Op { return api.Op{Key: key} }

// made answers a table to which ops were applied, on the ground of a test.
func made(t *testing.T, l ...api.Op) *table.Table {
	t.Helper()
	x := table.New()
	if e := x.Apply(l...); e != api.OK {
		t.Fatalf("Apply(%v): %d", l, e)
	}
	return x
}

// got is what Get answers.
type got struct {
	value      string
	met, there bool
}

func value(s string) got { return got{s, true, true} }

func grave() got { return got{"", true, false} }

func nothing() got { return got{} }

func get(x *table.Table, key string) got {
	v, met, there := x.Get(key)
	return got{v, met, there}
}

func wantGet(t *testing.T, what string, x *table.Table, key string, g got) {
	t.Helper()
	if now := get(x, key); now != g {
		t.Errorf("%s: Get(%q): %+v, not %+v", what, key, now, g)
	}
}

func want(t *testing.T, what string, now, e api.Errno) {
	t.Helper()
	if now != e {
		t.Errorf("%s: %d, not %d", what, now, e)
	}
}

// pair is a key with its value, as Live tells it.
type pair struct{ key, value string }

func livePairs(live iter.Seq2[string, string]) []pair {
	var pairs []pair
	for k, v := range live {
		pairs = append(pairs, pair{k, v})
	}
	return pairs
}

// putsOf lists those of all that are puts, as Live tells them.
func putsOf(all []api.Op) []pair {
	var pairs []pair
	for _, o := range all {
		if o.Put {
			pairs = append(pairs, pair{o.Key, o.Value})
		}
	}
	return pairs
}

// wantLeft: the table has just this, by each call that tells of it.
func wantLeft(t *testing.T, what string, x *table.Table, all ...api.Op) {
	t.Helper()
	if n := x.Len(); n != len(all) {
		t.Errorf("%s: Len: %d, not %d", what, n, len(all))
	}
	if now := slices.Collect(x.All()); !slices.Equal(now, all) {
		t.Errorf("%s: All: %v, not %v", what, now, all)
	}
	if now := livePairs(x.Live()); !slices.Equal(now, putsOf(all)) {
		t.Errorf("%s: Live: %v, not %v", what, now, putsOf(all))
	}
	for _, o := range all {
		wantGet(t, what, x, o.Key, got{o.Value, true, o.Put})
	}
}

// The chapter's examples, one behind the other at one table.
func TestExamples(t *testing.T) {
	x := table.New()
	want(t, "Apply", x.Apply(put("a", "1"), put("b", "2"), del("a")), api.OK)
	wantGet(t, "behind it", x, "a", grave())
	wantGet(t, "behind it", x, "b", value("2"))
	wantGet(t, "behind it", x, "c", nothing())
	if n := x.Len(); n != 2 {
		t.Errorf("Len: %d", n)
	}
	if all := slices.Collect(x.All()); !slices.Equal(all, []api.Op{del("a"), put("b", "2")}) {
		t.Errorf("All: %v", all)
	}
	if live := livePairs(x.Live()); !slices.Equal(live, []pair{{"b", "2"}}) {
		t.Errorf("Live: %v", live)
	}
	want(t, "Apply with a put of no key", x.Apply(put("c", "3"), put("", "")), api.ErrArg)
	if n := x.Len(); n != 2 {
		t.Errorf("Len behind it: %d", n)
	}
}

// P7.1

func TestNew(t *testing.T) {
	x := table.New()
	if x == nil {
		t.Fatal("New: nil")
	}
	wantLeft(t, "a new table", x)
	for _, key := range []string{"", "a", "\x00", strings.Repeat("k", 16), strings.Repeat("k", 17)} {
		wantGet(t, "a new table", x, key, nothing())
	}
	want(t, "Apply of a put", x.Apply(put("a", "1")), api.OK)
}

func TestNewTablesAreApart(t *testing.T) {
	x, y := made(t, put("a", "1"), del("b")), table.New()
	wantLeft(t, "the other table", y)
	want(t, "Apply at the other table", y.Apply(put("a", "2"), put("c", "3")), api.OK)
	wantLeft(t, "the first table", x, put("a", "1"), del("b"))
	wantLeft(t, "the other table", y, put("a", "2"), put("c", "3"))
}

func TestApplyOfNoOp(t *testing.T) {
	for _, ahead := range [][]api.Op{nil, {put("a", "1")}, {put("a", "1"), del("b")}} {
		x := made(t, ahead...)
		want(t, "Apply()", x.Apply(), api.OK)
		want(t, "Apply of nil", x.Apply([]api.Op(nil)...), api.OK)
		want(t, "Apply of an empty list", x.Apply([]api.Op{}...), api.OK)
		want(t, "Apply of an empty list with room", x.Apply([]api.Op{put("z", "9"), put("", "")}[:0]...), api.OK)
		wantLeft(t, "behind them", x, ahead...)
	}
}

// Each op on each of what may be under its key.
func TestApplyOfOne(t *testing.T) {
	grounds := map[string][]api.Op{
		"nothing":        nil,
		"a value":        {put("k", "old")},
		"an empty value": {put("k", "")},
		"the same value": {put("k", "new")},
		"a grave":        {del("k")},
	}
	for name, ahead := range grounds {
		for _, o := range []api.Op{put("k", "new"), put("k", ""), put("k", "\x00"), put("k", strings.Repeat("v", 32)), del("k")} {
			x := made(t, ahead...)
			want(t, "on "+name, x.Apply(o), api.OK)
			wantLeft(t, "on "+name, x, o)
		}
	}
}

// The keys beside the op's stay as they are.
func TestApplyLeavesOtherKeys(t *testing.T) {
	beside := []api.Op{put("a", "1"), del("j"), put("kk", "2"), del("z")}
	for _, ahead := range [][]api.Op{nil, {put("k", "old")}, {del("k")}} {
		for _, o := range []api.Op{put("k", "new"), put("k", ""), del("k")} {
			x := made(t, append(slices.Clone(beside), ahead...)...)
			want(t, "Apply", x.Apply(o), api.OK)
			wantLeft(t, "behind it", x, beside[0], beside[1], o, beside[2], beside[3])
		}
	}
}

func TestApplyOfMany(t *testing.T) {
	for _, count := range []int{2, 3, 8, 9, 100, 3000} {
		var l, all []api.Op
		for i := range count {
			key := strconv.Itoa(100000 + i)
			if i%3 == 1 {
				all = append(all, del(key))
			} else {
				all = append(all, put(key, strconv.Itoa(i)))
			}
		}
		l = slices.Clone(all)
		slices.Reverse(l)
		wantLeft(t, strconv.Itoa(count)+" ops", made(t, l...), all...)
		wantLeft(t, strconv.Itoa(count)+" ops, rising", made(t, all...), all...)
	}
}

// Several on one key in one call: the last one is what is left, also with others in between.
func TestApplyOfManyOnOneKey(t *testing.T) {
	for _, l := range [][]api.Op{
		{put("k", "1"), put("k", "2")},
		{put("k", "2"), put("k", "1")},
		{put("k", "1"), del("k")},
		{del("k"), put("k", "1")},
		{del("k"), del("k")},
		{put("k", "1"), put("k", "")},
		{put("k", ""), put("k", "1")},
		{put("k", "1"), del("k"), put("k", "1")},
		{del("k"), put("k", "1"), del("k")},
		{put("k", "1"), put("k", "2"), del("k"), put("k", "3"), put("k", "4"), del("k"), put("k", "5"), put("k", "6")},
	} {
		last := l[len(l)-1]
		wantLeft(t, "one behind the other", made(t, l...), last)
		wantLeft(t, "on a value", made(t, append([]api.Op{put("k", "0")}, l...)...), last)
		mixed := []api.Op{put("a", "a"), put("z", "z")}
		for i, o := range l {
			mixed = append(mixed, o, put("a", strconv.Itoa(i)), del("z"))
		}
		wantLeft(t, "with others in between", made(t, mixed...), put("a", strconv.Itoa(len(l)-1)), last, del("z"))
	}
}

// mayNotBe lists ops that may not be.
func mayNotBe() []api.Op {
	return []api.Op{
		{},
		put("", ""),
		put("", "1"),
		del(""),
		put(strings.Repeat("k", 17), "1"),
		put(strings.Repeat("k", 17), ""),
		del(strings.Repeat("k", 17)),
		put(strings.Repeat("k", 5000), "1"),
		put("k", strings.Repeat("v", 33)),
		put("k", strings.Repeat("v", 5000)),
		{Key: "k", Value: "1"},
		{Key: "k", Value: "\x00"},
		{Key: "k", Value: strings.Repeat("v", 33)},
		{Key: "", Value: "1"},
	}
}

// mayBe lists ops at the edges of those that may be.
func mayBe() []api.Op {
	return []api.Op{
		put("k", ""),
		put("k", strings.Repeat("v", 32)),
		put(strings.Repeat("k", 16), ""),
		put(strings.Repeat("k", 16), strings.Repeat("v", 32)),
		put("\x00", "\x00"),
		put(strings.Repeat("\xff", 16), strings.Repeat("\xff", 32)),
		del("\x00"),
		del(strings.Repeat("k", 16)),
	}
}

func TestApplyOfWhatMayBe(t *testing.T) {
	for _, o := range mayBe() {
		wantLeft(t, "by itself", made(t, o), o)
		wantLeft(t, "behind another", made(t, put("\x00\x00", "1"), o), sorted(put("\x00\x00", "1"), o)...)
	}
}

func sorted(l ...api.Op) []api.Op {
	return slices.SortedFunc(slices.Values(l), func(a, b api.Op) int { return strings.Compare(a.Key, b.Key) })
}

// Nothing of a call is done, wherever in it the op stands that may not be.
func TestApplyOfWhatMayNotBe(t *testing.T) {
	good := []api.Op{put("a", "new"), put("b", "new"), del("c"), put("d", "new"), put("e", "new"), del("a")}
	for _, ahead := range [][]api.Op{nil, {put("a", "1"), del("b"), put("c", "3")}} {
		for _, o := range mayNotBe() {
			x := made(t, ahead...)
			for at := range len(good) + 1 {
				l := slices.Insert(slices.Clone(good), at, o)
				want(t, "Apply with "+strconv.Itoa(at)+" ahead of it", x.Apply(l...), api.ErrArg)
				wantLeft(t, "behind it", x, ahead...)
				wantGet(t, "behind it", x, "d", nothing())
				wantGet(t, "behind it", x, o.Key, get(made(t, ahead...), o.Key))
			}
			want(t, "Apply of it alone", x.Apply(o), api.ErrArg)
			want(t, "Apply of it twice", x.Apply(o, o), api.ErrArg)
			want(t, "Apply of it around others", x.Apply(o, good[0], o), api.ErrArg)
			wantLeft(t, "behind them", x, ahead...)
			want(t, "Apply of the others", x.Apply(good...), api.OK)
			wantLeft(t, "behind them", x, del("a"), put("b", "new"), del("c"), put("d", "new"), put("e", "new"))
		}
	}
}

// A call has no bound: the ops of one are not those of a batch.
func TestApplyOfWhatMayNotBeAmongMany(t *testing.T) {
	good := marks(3000)
	for _, o := range mayNotBe() {
		x := made(t, put("a", "1"), del("key10"))
		for _, at := range []int{0, 1, 7, 8, 9, 1500, 2999, 3000} {
			want(t, "Apply with "+strconv.Itoa(at)+" ahead of it", x.Apply(slices.Insert(slices.Clone(good), at, o)...), api.ErrArg)
		}
		wantLeft(t, "behind them", x, put("a", "1"), del("key10"))
	}
}

// A table that refused is the same as one that was never asked.
func TestRefusedIsNotToldLater(t *testing.T) {
	x, y := made(t, put("a", "1"), del("b")), made(t, put("a", "1"), del("b"))
	for _, o := range mayNotBe() {
		x.Apply(put("c", "3"), del("a"), put("b", "2"), o)
		x.Apply(o, del("a"), put("b", "2"))
	}
	if !table.Same(x, y) {
		t.Errorf("they part: %v", slices.Collect(x.All()))
	}
}

// marks answers ops that can be told, for a list with spare room.
func marks(count int) []api.Op {
	var l []api.Op
	for i := range count {
		if i%4 == 3 {
			l = append(l, del("key"+strconv.Itoa(10+i)))
		} else {
			l = append(l, put("key"+strconv.Itoa(10+i), strconv.Itoa(i)))
		}
	}
	return l
}

// overwrite changes ops, their spare room too.
func overwrite(l []api.Op) {
	l = l[:cap(l)]
	for i := range l {
		l[i] = put("other", "other")
	}
}

func TestApplyLeavesWhatIsHandedIn(t *testing.T) {
	for _, used := range []int{0, 1, 2, 5, 8, 20} {
		whole := marks(20)
		x := made(t, whole[:used]...)
		if !slices.Equal(whole, marks(20)) {
			t.Errorf("%d ops, or their spare room, were changed", used)
		}
		// In an order that a sort would change, and with one that may not be.
		slices.Reverse(whole)
		turned := slices.Clone(whole)
		x.Apply(whole[:used]...)
		whole[19] = api.Op{}
		turned[19] = api.Op{}
		x.Apply(whole...)
		if !slices.Equal(whole, turned) {
			t.Errorf("%d ops, or their spare room, were changed when turned about", used)
		}
	}
}

func TestApplyKeepsNothingOfWhatIsHandedIn(t *testing.T) {
	for _, used := range []int{0, 1, 2, 5, 8, 20} {
		whole := marks(20)
		x := made(t, whole[:used]...)
		all, live := x.All(), x.Live()
		overwrite(whole)
		wantLeft(t, "overwritten since", x, marks(20)[:used]...)
		wantGet(t, "overwritten since", x, "other", nothing())
		if now := slices.Collect(all); !slices.Equal(now, marks(20)[:used]) {
			t.Errorf("All of ahead: %v", now)
		}
		if now := livePairs(live); !slices.Equal(now, putsOf(marks(20)[:used])) {
			t.Errorf("Live of ahead: %v", now)
		}
	}
}

// One list handed in many times.
func TestApplyOfOneListManyTimes(t *testing.T) {
	x := table.New()
	l := make([]api.Op, 1)
	var all []api.Op
	for i := range 10 {
		l[0] = put(strconv.Itoa(i), "v"+strconv.Itoa(i))
		want(t, "Apply", x.Apply(l...), api.OK)
		all = append(all, l[0])
	}
	wantLeft(t, "behind them", x, all...)
}

// P7.2

func TestGet(t *testing.T) {
	x := made(t, put("v", "value"), put("e", ""), del("g"), put("vv", "\x00\xff"), put("d", "1"), del("d"), del("p"), put("p", "2"))
	for key, g := range map[string]got{
		"v":                     value("value"),
		"e":                     value(""),
		"g":                     grave(),
		"vv":                    value("\x00\xff"),
		"d":                     grave(),
		"p":                     value("2"),
		"":                      nothing(),
		"x":                     nothing(),
		"V":                     nothing(),
		"vvv":                   nothing(),
		"v\x00":                 nothing(),
		" v":                    nothing(),
		"\x00":                  nothing(),
		"\xff":                  nothing(),
		"value":                 nothing(),
		strings.Repeat("v", 16): nothing(),
		strings.Repeat("v", 17): nothing(),
		strings.Repeat("v", 99): nothing(),
	} {
		wantGet(t, "once", x, key, g)
		wantGet(t, "twice", x, key, g)
	}
}

// A call that tells changes nothing: no key is there since it was asked for.
func TestTellingChangesNothing(t *testing.T) {
	x := made(t, put("b", "2"), del("d"))
	for range 3 {
		for _, key := range []string{"", "a", "b", "c", "d", "e"} {
			x.Get(key)
		}
		x.Len()
		for range x.All() {
		}
		for range x.Live() {
		}
		table.Same(x, table.New())
		table.Same(table.New(), x)
		table.Same(x, made(t, put("a", "1"), put("b", "3")))
		wantLeft(t, "behind them", x, put("b", "2"), del("d"))
		wantGet(t, "behind them", x, "a", nothing())
	}
}

func TestLen(t *testing.T) {
	x := table.New()
	for i, step := range []struct {
		o api.Op
		n int
	}{
		{put("a", "1"), 1},
		{put("b", "2"), 2},
		{put("a", "3"), 2},
		{del("a"), 2},
		{del("a"), 2},
		{del("c"), 3},
		{put("a", "4"), 3},
		{put("c", ""), 3},
		{del("c"), 3},
		{del("b"), 3},
		{del("a"), 3},
		{put("\x00", "5"), 4},
		{put("aa", "6"), 5},
	} {
		want(t, "Apply", x.Apply(step.o), api.OK)
		if n := x.Len(); n != step.n {
			t.Errorf("behind %d ops: %d, not %d", i+1, n, step.n)
		}
	}
}

func TestLenOfGravesAlone(t *testing.T) {
	x := made(t, del("a"), del("b"), del("c"))
	wantLeft(t, "three graves", x, del("a"), del("b"), del("c"))
	if n := x.Len(); n != 3 {
		t.Errorf("Len: %d", n)
	}
}

// P7.3

// risingKeys lists keys, rising: front parts of one another, noughts, bytes beyond 127, bytes that are no text.
func risingKeys() []string {
	return []string{
		"\x00", "\x00\x00", "\x00a", "\x01", "\x1f", " ", "!", "0", "00", "01", "1", "10", "2", "9", "A", "Z", "Za", "a", "a\x00", "a\x00b", "a ", "aA",
		"aa", "aaa", "aaaaaaaaaaaaaaaa", "aab", "ab", "a\x7f", "a\x80", "a\xff", "b", "z", "~", "\x7f", "\x7f\xff", "\x80", "\x80\x00", "\x80a", "\xc3", "\xc3\xa4", "\xe2\x82\xac",
		"\xf0", "\xfe", "\xfe\xff", "\xff", "\xff\x00", "\xff\xfe", "\xff\xff", strings.Repeat("\xff", 16),
	}
}

func TestAllAndLiveAreRising(t *testing.T) {
	keys := risingKeys()
	for place, key := range keys[1:] {
		if keys[place] >= key {
			t.Fatalf("the test's own keys: %q, %q", keys[place], key)
		}
	}
	for shift := range 3 {
		var all []api.Op
		for i, key := range keys {
			if (i+shift)%3 == 0 {
				all = append(all, del(key))
			} else {
				all = append(all, put(key, "of "+strconv.Itoa(i)))
			}
		}
		backward := slices.Clone(all)
		slices.Reverse(backward)
		r := turn(7)
		for _, l := range [][]api.Op{all, backward, shuffled(&r, all), shuffled(&r, all)} {
			wantLeft(t, "in one call", made(t, l...), all...)
			x := table.New()
			for _, o := range l {
				want(t, "Apply", x.Apply(o), api.OK)
			}
			wantLeft(t, "op by op", x, all...)
		}
	}
}

// Every two keys, in either order.
func TestTwoKeysAreRising(t *testing.T) {
	keys := risingKeys()
	for i, low := range keys {
		for _, high := range keys[i+1:] {
			wantLeft(t, "falling", made(t, put(high, "h"), put(low, "l")), put(low, "l"), put(high, "h"))
			wantLeft(t, "rising", made(t, put(low, "l"), put(high, "h")), put(low, "l"), put(high, "h"))
		}
	}
}

// What All tells are ops that may be: a delete has no value, even if there was one ahead of it.
func TestAllTellsWhatLeavesIt(t *testing.T) {
	x := made(t, put("a", "was here"), put("b", ""), put("c", "3"), del("d"))
	want(t, "Apply", x.Apply(del("a"), put("d", "4")), api.OK)
	all := slices.Collect(x.All())
	if !slices.Equal(all, []api.Op{{Put: false, Key: "a", Value: ""}, {Put: true, Key: "b", Value: ""}, {Put: true, Key: "c", Value: "3"}, {Put: true, Key: "d", Value: "4"}}) {
		t.Errorf("All: %+v", all)
	}
	if live := livePairs(x.Live()); !slices.Equal(live, []pair{{"b", ""}, {"c", "3"}, {"d", "4"}}) {
		t.Errorf("Live: %+v", live)
	}
}

func TestAllAndLiveOfFew(t *testing.T) {
	for _, all := range [][]api.Op{
		nil,
		{put("a", "1")},
		{put("a", "")},
		{del("a")},
		{del("a"), del("b")},
		{del("a"), put("b", "2")},
		{put("a", "1"), del("b")},
		{put("a", "1"), put("b", "2")},
		{del("a"), put("b", "2"), del("c")},
		{put("a", "1"), del("b"), put("c", "3")},
	} {
		x := made(t, all...)
		wantLeft(t, "few", x, all...)
		a, l := x.All(), x.Live()
		if a == nil || l == nil {
			t.Fatalf("an iterator of %v is nil", all)
		}
		for range 3 {
			if now := slices.Collect(a); !slices.Equal(now, all) {
				t.Errorf("All, gone over again: %v", now)
			}
			if now := livePairs(l); !slices.Equal(now, putsOf(all)) {
				t.Errorf("Live, gone over again: %v", now)
			}
		}
	}
}

// seven is a table with values and graves, beginning and ending with a grave.
func seven() []api.Op {
	return []api.Op{del("a"), put("b", "2"), del("c"), del("d"), put("e", "5"), put("f", ""), del("g")}
}

// stopAll goes over count ops and stops there; it answers what was told, also if that went on.
func stopAll(all iter.Seq[api.Op], count int) (seen []api.Op) {
	all(func(o api.Op) bool {
		seen = append(seen, o)
		return len(seen) < count
	})
	return seen
}

func stopLive(live iter.Seq2[string, string], count int) (seen []pair) {
	live(func(k, v string) bool {
		seen = append(seen, pair{k, v})
		return len(seen) < count
	})
	return seen
}

func TestAllAndLiveAreStopped(t *testing.T) {
	all, live := seven(), putsOf(seven())
	x := made(t, all...)
	a, l := x.All(), x.Live()
	for count := 1; count <= len(all); count++ {
		for range 2 {
			if seen := stopAll(a, count); !slices.Equal(seen, all[:count]) {
				t.Errorf("All, stopped behind %d: %v", count, seen)
			}
		}
	}
	for count := 1; count <= len(live); count++ {
		for range 2 {
			if seen := stopLive(l, count); !slices.Equal(seen, live[:count]) {
				t.Errorf("Live, stopped behind %d: %v", count, seen)
			}
		}
	}
	if seen := slices.Collect(a); !slices.Equal(seen, all) {
		t.Errorf("All, gone over whole: %v", seen)
	}
	if seen := livePairs(l); !slices.Equal(seen, live) {
		t.Errorf("Live, gone over whole: %v", seen)
	}
	wantLeft(t, "behind them", x, all...)
}

func TestAllAndLiveAreLeftByBreak(t *testing.T) {
	x := made(t, seven()...)
	for o := range x.All() {
		if o != del("a") {
			t.Errorf("All: %v", o)
		}
		break
	}
	for k, v := range x.Live() {
		if k != "b" || v != "2" {
			t.Errorf("Live: %q, %q", k, v)
		}
		break
	}
	count := 0
	for k := range x.Live() {
		if count++; k == "e" {
			break
		}
	}
	if count != 2 {
		t.Errorf("Live, up to e: %d", count)
	}
}

// One inside the other, and two turn by turn.
func TestGoneOverAtOnce(t *testing.T) {
	x := made(t, seven()...)
	a, l := x.All(), x.Live()
	seen := ""
	for o := range a {
		for k := range l {
			for p := range a {
				seen += o.Key + k + p.Key + " "
			}
		}
	}
	wanted := ""
	for _, o := range []string{"a", "b", "c", "d", "e", "f", "g"} {
		for _, k := range []string{"b", "e", "f"} {
			for _, p := range []string{"a", "b", "c", "d", "e", "f", "g"} {
				wanted += o + k + p + " "
			}
		}
	}
	if seen != wanted {
		t.Errorf("one inside the other: %s", seen)
	}
	next, stop := iter.Pull(a)
	defer stop()
	other, stopOther := iter.Pull(a)
	defer stopOther()
	for _, o := range seven() {
		first, _ := next()
		second, _ := other()
		if first != o || second != o {
			t.Errorf("turn by turn: %v, %v; not %v", first, second, o)
		}
	}
	nextLive, stopLive := iter.Pull2(l)
	defer stopLive()
	otherLive, stopOtherLive := iter.Pull2(l)
	defer stopOtherLive()
	for _, p := range putsOf(seven()) {
		k1, v1, _ := nextLive()
		k2, v2, _ := otherLive()
		if (pair{k1, v1}) != p || (pair{k2, v2}) != p {
			t.Errorf("turn by turn: %s %s, %s %s; not %v", k1, v1, k2, v2, p)
		}
	}
}

// changes lists calls that change the table of seven.
func changes() map[string][]api.Op {
	return map[string][]api.Op{
		"a key ahead of all":    {put("A", "new")},
		"a key in the midst":    {put("bb", "new")},
		"a key behind all":      {put("zz", "new")},
		"a value over a value":  {put("b", "new"), put("e", "new"), put("f", "new")},
		"a value over a grave":  {put("a", "new"), put("c", "new"), put("d", "new"), put("g", "new")},
		"a grave over a value":  {del("b"), del("e"), del("f")},
		"a grave over nothing":  {del("A"), del("bb"), del("zz")},
		"a grave over a grave":  {del("a"), del("g")},
		"all at once":           {put("A", "new"), del("b"), put("a", "new"), put("f", "new"), del("zz"), del("e")},
		"one that may not be":   {put("A", "new"), {}},
		"none":                  nil,
		"what it has, as it is": seven(),
	}
}

// Each goes over what was there at the call that gave it, also where ops were applied since.
func TestAllAndLiveStay(t *testing.T) {
	for name, change := range changes() {
		x := made(t, seven()...)
		a, l := x.All(), x.Live()
		for range 2 {
			x.Apply(change...)
			// What another one goes over is not this one's.
			for range x.All() {
			}
			for range x.Live() {
			}
			if now := slices.Collect(a); !slices.Equal(now, seven()) {
				t.Errorf("%s: All: %v", name, now)
			}
			if now := livePairs(l); !slices.Equal(now, putsOf(seven())) {
				t.Errorf("%s: Live: %v", name, now)
			}
		}
		y := made(t, seven()...)
		y.Apply(change...)
		wantLeft(t, name+", called anew", x, slices.Collect(y.All())...)
	}
}

func TestAllAndLiveOfNoKeysStay(t *testing.T) {
	x := table.New()
	a, l := x.All(), x.Live()
	want(t, "Apply", x.Apply(put("a", "1"), del("b")), api.OK)
	if now := slices.Collect(a); len(now) != 0 {
		t.Errorf("All: %v", now)
	}
	if now := livePairs(l); len(now) != 0 {
		t.Errorf("Live: %v", now)
	}
}

// What is applied while it is gone over doesn't show in it.
func TestAppliedWhileGoneOver(t *testing.T) {
	for name, change := range changes() {
		for _, at := range []int{0, 1, 2} {
			x := made(t, seven()...)
			a := x.All()
			for range 2 {
				var seen []api.Op
				for o := range a {
					if len(seen) == at {
						x.Apply(change...)
					}
					seen = append(seen, o)
				}
				if !slices.Equal(seen, seven()) {
					t.Errorf("%s, at the place %d: All: %v", name, at, seen)
				}
			}
			x = made(t, seven()...)
			l := x.Live()
			for range 2 {
				var seen []pair
				for k, v := range l {
					if len(seen) == at {
						x.Apply(change...)
					}
					seen = append(seen, pair{k, v})
				}
				if !slices.Equal(seen, putsOf(seven())) {
					t.Errorf("%s, at the place %d: Live: %v", name, at, seen)
				}
			}
		}
	}
}

// Each key is turned about while it is gone over.
func TestEachKeyIsTurnedAboutWhileGoneOver(t *testing.T) {
	x := made(t, seven()...)
	var seen, turned []api.Op
	for o := range x.All() {
		seen = append(seen, o)
		other := del(o.Key)
		if !o.Put {
			other = put(o.Key, "back")
		}
		want(t, "Apply", x.Apply(other), api.OK)
		turned = append(turned, other)
	}
	if !slices.Equal(seen, seven()) {
		t.Errorf("All: %v", seen)
	}
	wantLeft(t, "behind it", x, turned...)
	for k := range x.Live() {
		want(t, "Apply", x.Apply(del(k), put(k+"x", "more")), api.OK)
	}
	wantLeft(t, "behind Live", x,
		del("a"), put("ax", "more"), del("b"), del("c"), put("cx", "more"), del("d"), put("dx", "more"), del("e"), del("f"), del("g"), put("gx", "more"))
}

func wantSame(t *testing.T, what string, a, b *table.Table, same bool) {
	t.Helper()
	if table.Same(a, b) != same || table.Same(b, a) != same {
		t.Errorf("%s: %t, turned about %t; not %t", what, table.Same(a, b), table.Same(b, a), same)
	}
}

func TestSame(t *testing.T) {
	wantSame(t, "two new tables", table.New(), table.New(), true)
	for name, c := range map[string]struct{ a, b []api.Op }{
		"one value":                      {[]api.Op{put("a", "1")}, []api.Op{put("a", "1")}},
		"one empty value":                {[]api.Op{put("a", "")}, []api.Op{put("a", "")}},
		"one grave":                      {[]api.Op{del("a")}, []api.Op{del("a")}},
		"many":                           {seven(), seven()},
		"in another order":               {[]api.Op{put("a", "1"), del("b")}, []api.Op{del("b"), put("a", "1")}},
		"over another value":             {[]api.Op{put("a", "1")}, []api.Op{put("a", "2"), put("a", "1")}},
		"over a grave":                   {[]api.Op{put("a", "1")}, []api.Op{del("a"), put("a", "1")}},
		"a grave over a value":           {[]api.Op{del("a")}, []api.Op{put("a", "1"), del("a")}},
		"graves over unlike values":      {[]api.Op{put("a", "1"), del("a")}, []api.Op{put("a", "2"), del("a")}},
		"an empty value over a value":    {[]api.Op{put("a", "")}, []api.Op{put("a", "1"), put("a", "")}},
		"twice the same":                 {[]api.Op{put("a", "1"), put("a", "1")}, []api.Op{put("a", "1")}},
		"two keys by two roads each way": {[]api.Op{put("a", "1"), del("a"), put("b", "2")}, []api.Op{del("b"), del("a"), put("b", "2")}},
	} {
		wantSame(t, name, made(t, c.a...), made(t, c.b...), true)
	}
}

func TestNotSame(t *testing.T) {
	for name, c := range map[string]struct{ a, b []api.Op }{
		"a key more":                    {[]api.Op{put("a", "1")}, []api.Op{put("a", "1"), put("b", "2")}},
		"a key, an empty value":         {nil, []api.Op{put("a", "")}},
		"other keys":                    {[]api.Op{put("a", "1")}, []api.Op{put("b", "1")}},
		"keys of which one begins so":   {[]api.Op{put("a", "1")}, []api.Op{put("aa", "1")}},
		"keys that part in a nought":    {[]api.Op{put("a", "1")}, []api.Op{put("a\x00", "1")}},
		"other values":                  {[]api.Op{put("a", "1")}, []api.Op{put("a", "2")}},
		"a value, an empty value":       {[]api.Op{put("a", "1")}, []api.Op{put("a", "")}},
		"a grave, a value":              {[]api.Op{del("a")}, []api.Op{put("a", "1")}},
		"a grave, an empty value":       {[]api.Op{del("a")}, []api.Op{put("a", "")}},
		"a grave, nothing":              {[]api.Op{del("a")}, nil},
		"a grave more":                  {[]api.Op{put("a", "1")}, []api.Op{put("a", "1"), del("b")}},
		"graves of other keys":          {[]api.Op{del("a")}, []api.Op{del("b")}},
		"values that changed places":    {[]api.Op{put("a", "1"), put("b", "2")}, []api.Op{put("a", "2"), put("b", "1")}},
		"a key's end, a value's front":  {[]api.Op{put("ab", "c")}, []api.Op{put("a", "bc")}},
		"the order of two on one key":   {[]api.Op{put("a", "1"), del("a")}, []api.Op{del("a"), put("a", "1")}},
		"a key and a grave, as many":    {[]api.Op{put("a", "1"), del("b")}, []api.Op{del("a"), put("b", "1")}},
		"an empty value for a key less": {[]api.Op{put("a", ""), put("b", "2")}, []api.Op{put("b", "2"), put("c", "")}},
	} {
		wantSame(t, name, made(t, c.a...), made(t, c.b...), false)
	}
}

// Tables of several keys that part in one place alone, whichever it is.
func TestNotSameAtEachPlace(t *testing.T) {
	for at, o := range seven() {
		other := put(o.Key, "other")
		turned := del(o.Key)
		if !o.Put {
			turned = put(o.Key, "")
		}
		x := made(t, seven()...)
		wantSame(t, "another value", x, made(t, append(seven(), other)...), false)
		wantSame(t, "turned about", x, made(t, append(seven(), turned)...), false)
		wantSame(t, "a key less", x, made(t, slices.Delete(seven(), at, at+1)...), false)
		renamed := seven()
		renamed[at].Key += "'"
		wantSame(t, "another key", x, made(t, renamed...), false)
		wantSame(t, "back again", x, made(t, append(seven(), turned, other, o)...), true)
	}
}

func TestSameOfOneTable(t *testing.T) {
	for _, l := range [][]api.Op{nil, {put("a", "1")}, {del("a")}, seven()} {
		x := made(t, l...)
		wantSame(t, "a table and itself", x, x, true)
	}
}

// Same tells what is there now, not what was.
func TestSameFollows(t *testing.T) {
	x, y := table.New(), table.New()
	for _, o := range append(seven(), put("a", "1"), del("e"), put("b", "")) {
		wantSame(t, "ahead of it", x, y, true)
		x.Apply(o)
		wantSame(t, "at the one alone", x, y, false)
		y.Apply(o)
	}
	wantSame(t, "behind all", x, y, true)
}

// It is the same as going over both by All.
func TestSameIsByAll(t *testing.T) {
	few := []api.Op{put("a", ""), put("a", "1"), del("a"), put("b", "1"), del("b")}
	var tables []*table.Table
	for i := range len(few) + 1 {
		for j := range len(few) + 1 {
			var l []api.Op
			if i > 0 {
				l = append(l, few[i-1])
			}
			if j > 0 {
				l = append(l, few[j-1])
			}
			tables = append(tables, made(t, l...))
		}
	}
	for _, x := range tables {
		for _, y := range tables {
			same := slices.Equal(slices.Collect(x.All()), slices.Collect(y.All()))
			wantSame(t, "two of few", x, y, same)
		}
	}
}

// P7.4

// turn is a plain row of numbers, the same at each run.
type turn uint32

func (r *turn) below(n int) int {
	*r = *r*1664525 + 1013904223
	return int(*r>>8) % n
}

func shuffled(r *turn, l []api.Op) []api.Op {
	l = slices.Clone(l)
	for i := len(l) - 1; i > 0; i-- {
		j := r.below(i + 1)
		l[i], l[j] = l[j], l[i]
	}
	return l
}

// someOps answers count ops on few keys, about a third of them deletes.
func someOps(r *turn, count int) []api.Op {
	var l []api.Op
	for i := range count {
		key := risingKeys()[r.below(12)*3]
		switch r.below(6) {
		case 0, 1:
			l = append(l, del(key))
		case 2:
			l = append(l, put(key, ""))
		default:
			l = append(l, put(key, strconv.Itoa(i)))
		}
	}
	return l
}

// applied applies l in pieces, the sizes of which piece tells.
func applied(t *testing.T, l []api.Op, piece func() int) *table.Table {
	t.Helper()
	x := table.New()
	for len(l) > 0 {
		n := min(piece(), len(l))
		want(t, "Apply", x.Apply(l[:n]...), api.OK)
		l = l[n:]
	}
	return x
}

func TestAllAndAllOpsEverMakeTheSameTable(t *testing.T) {
	r := turn(4)
	for i := range 300 {
		l := someOps(&r, i%60)
		x := applied(t, l, func() int { return 1 })
		roads := map[string]*table.Table{
			"in one call":              made(t, l...),
			"in pieces of three":       applied(t, l, func() int { return 3 }),
			"in other pieces":          applied(t, l, func() int { return r.below(9) }),
			"what All tells":           made(t, slices.Collect(x.All())...),
			"what All tells, op by op": applied(t, slices.Collect(x.All()), func() int { return 1 }),
			"what All tells, mixed":    made(t, shuffled(&r, slices.Collect(x.All()))...),
			"all ops twice":            made(t, append(slices.Clone(l), l...)...),
			"all ops, then All":        made(t, append(slices.Clone(l), slices.Collect(x.All())...)...),
		}
		for name, y := range roads {
			wantSame(t, name, x, y, true)
			wantLeft(t, name, y, slices.Collect(x.All())...)
		}
	}
}

// What Live tells makes another table, if there are graves: All alone tells these.
func TestLiveTellsNoGraves(t *testing.T) {
	x, y := made(t, seven()...), table.New()
	for k, v := range x.Live() {
		want(t, "Apply", y.Apply(put(k, v)), api.OK)
	}
	wantSame(t, "what Live tells", x, y, false)
	wantLeft(t, "what Live tells", y, put("b", "2"), put("e", "5"), put("f", ""))
}

func opsOn(key string) []api.Op {
	return []api.Op{put(key, "1"), put(key, "2"), put(key, ""), del(key)}
}

// Two ops on unlike keys may change places, on whatever is there; of two on one key the later one counts.
func TestTheOrderOfTwoOps(t *testing.T) {
	for _, ahead := range [][]api.Op{nil, {put("a", "0")}, {del("a"), put("ab", "0")}, {del("b"), put("a", ""), put("ab", "")}} {
		for _, first := range opsOn("a") {
			for _, key := range []string{"b", "ab", "A", "a\x00"} {
				for _, second := range opsOn(key) {
					x := made(t, append(slices.Clone(ahead), first, second)...)
					y := made(t, append(slices.Clone(ahead), second, first)...)
					wantSame(t, "unlike keys", x, y, true)
				}
			}
			for _, second := range opsOn("a") {
				x := made(t, append(slices.Clone(ahead), first, second)...)
				wantGet(t, "one key", x, "a", got{second.Value, true, second.Put})
				wantSame(t, "one key", x, made(t, append(slices.Clone(ahead), second)...), true)
				y := made(t, append(slices.Clone(ahead), first)...)
				want(t, "Apply", y.Apply(second), api.OK)
				wantSame(t, "one key, in two calls", x, y, true)
			}
		}
	}
}

// Over many lists of calls

// model tells what a table does in another way: by all ops that were ever done, none of which is ever taken away.
type model struct{ done []api.Op }

func (m *model) apply(l []api.Op) api.Errno {
	for _, o := range l {
		if len(o.Key) == 0 || len(o.Key) > 16 || len(o.Value) > 32 || !o.Put && len(o.Value) > 0 {
			return api.ErrArg
		}
	}
	m.done = append(m.done, l...)
	return api.OK
}

func (m *model) get(key string) got {
	for _, o := range slices.Backward(m.done) {
		if o.Key == key {
			return got{o.Value, true, o.Put}
		}
	}
	return nothing()
}

func (m *model) all() []api.Op {
	var keys []string
	for _, o := range m.done {
		keys = append(keys, o.Key)
	}
	slices.Sort(keys)
	var all []api.Op
	for _, key := range slices.Compact(keys) {
		g := m.get(key)
		all = append(all, api.Op{Put: g.there, Key: key, Value: g.value})
	}
	return all
}

// checkCalls does the calls one behind the other, and looks behind each of them. What is handed in is overwritten behind it.
func checkCalls(t *testing.T, calls [][]api.Op, keys []string) {
	t.Helper()
	x, m := table.New(), &model{}
	for i, l := range calls {
		handed := slices.Clone(l)
		e, wanted := x.Apply(handed...), m.apply(l)
		if e != wanted || !slices.Equal(handed, l) {
			t.Fatalf("Apply, %v: %d, not %d", calls[:i+1], e, wanted)
		}
		overwrite(handed)
		all := m.all()
		if now := slices.Collect(x.All()); !slices.Equal(now, all) || x.Len() != len(all) {
			t.Fatalf("All, %v: %v, %d keys; not %v", calls[:i+1], now, x.Len(), all)
		}
		if now := livePairs(x.Live()); !slices.Equal(now, putsOf(all)) {
			t.Fatalf("Live, %v: %v, not %v", calls[:i+1], now, putsOf(all))
		}
		for _, key := range keys {
			if now := get(x, key); now != m.get(key) {
				t.Fatalf("Get(%q), %v: %+v, not %+v", key, calls[:i+1], now, m.get(key))
			}
		}
	}
}

// Every list of up to five out of a few calls.
func TestEveryShortListOfCalls(t *testing.T) {
	few := [][]api.Op{
		{},
		{put("a", "1")},
		{put("b", "")},
		{del("a")},
		{put("ab", "1"), del("b")},
		{del("b"), put("b", "2")},
		{put("a", "3"), {}},
		{{Key: "a", Value: "1"}, del("ab")},
	}
	var grow func(calls [][]api.Op)
	grow = func(calls [][]api.Op) {
		if len(calls) == 5 {
			checkCalls(t, calls, []string{"", "a", "ab", "b", "c"})
			return
		}
		for _, l := range few {
			grow(append(calls[:len(calls):len(calls)], l))
		}
	}
	grow(nil)
}

func TestLongListsOfCalls(t *testing.T) {
	r := turn(9)
	for range 150 {
		var calls [][]api.Op
		for range 30 {
			l := someOps(&r, r.below(7))
			if r.below(6) == 0 {
				bad := mayNotBe()[r.below(len(mayNotBe()))]
				l = slices.Insert(l, r.below(len(l)+1), bad)
			}
			calls = append(calls, l)
		}
		checkCalls(t, calls, append(risingKeys(), ""))
	}
}

func FuzzCalls(f *testing.F) {
	f.Add([]byte{1, 2, 3, 0, 1, 5, 6, 2, 7, 7, 9, 0, 200, 201, 17, 33})
	f.Fuzz(func(t *testing.T, b []byte) {
		calls, keys := [][]api.Op{nil}, []string{""}
		for ; len(b) >= 3 && len(keys) < 60; b = b[3:] {
			if b[0]%4 == 0 {
				calls = append(calls, nil)
			}
			key := strings.Repeat(string(b[1:2]), int(b[1])%18)
			o := api.Op{Put: b[0]%8 < 5, Key: key, Value: strings.Repeat(string(b[2:3]), int(b[2])%35)}
			if !o.Put && b[2] < 200 {
				o.Value = ""
			}
			calls[len(calls)-1] = append(calls[len(calls)-1], o)
			keys = append(keys, key)
		}
		checkCalls(t, calls, keys)
	})
}

// Rule 5

func notMade() map[string]*table.Table {
	var declared table.Table
	return map[string]*table.Table{"nil": nil, "new": new(table.Table), "a literal": {}, "declared": &declared}
}

func TestCallsOfNoTable(t *testing.T) {
	for name, x := range notMade() {
		t.Run(name, func(t *testing.T) {
			checkNoTable(t, x)
			// Nothing makes a table of it.
			checkNoTable(t, x)
		})
	}
}

func checkNoTable(t *testing.T, x *table.Table) {
	t.Helper()
	want(t, "Apply()", x.Apply(), api.ErrNil)
	want(t, "Apply of nil", x.Apply([]api.Op(nil)...), api.ErrNil)
	for _, o := range append(mayBe(), mayNotBe()...) {
		want(t, "Apply of one", x.Apply(o), api.ErrNil)
		want(t, "Apply of many", x.Apply(put("a", "1"), o, del("b")), api.ErrNil)
		wantGet(t, "of no table", x, o.Key, nothing())
	}
	for _, key := range []string{"", "a", "b"} {
		wantGet(t, "of no table", x, key, nothing())
	}
	if n := x.Len(); n != 0 {
		t.Errorf("Len: %d", n)
	}
	all, live := x.All(), x.Live()
	if all == nil || live == nil {
		t.Fatal("an iterator is nil")
	}
	for range 2 {
		for o := range all {
			t.Errorf("All: %v", o)
		}
		for k, v := range live {
			t.Errorf("Live: %q, %q", k, v)
		}
	}
}

func TestSameOfNoTable(t *testing.T) {
	tables := map[string]*table.Table{"a new table": table.New(), "a table with keys": made(t, seven()...), "a table of graves": made(t, del("a"))}
	for name, none := range notMade() {
		for other, x := range tables {
			wantSame(t, name+", "+other, none, x, false)
		}
		for other, x := range notMade() {
			wantSame(t, name+", "+other, none, x, false)
		}
		wantSame(t, name+" and itself", none, none, false)
	}
	for name, x := range tables {
		wantSame(t, name+" and itself, behind them", x, x, true)
	}
}
