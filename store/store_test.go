package store_test

import (
	"fmt"
	"iter"
	"math"
	"slices"
	"strings"
	"testing"

	"lagleash/api"
	"lagleash/disk"
	"lagleash/run"
	"lagleash/store"
)

const (
	most    = 1048576 // the greatest epoch and number, as the document writes it
	keysMax = 1024    // keys of a run, at most
	files   = 4       // of a disk
)

func put(key, value string) api.Op { return api.Op{Put: true, Key: key, Value: value} }
func del(key string) api.Op        { return api.Op{Key: key} }

func of(count int) string { return strings.Repeat("k", count) }

func with(epoch, number int, ops ...api.Op) api.Commit {
	return api.Commit{Epoch: epoch, Number: number, Ops: ops}
}

// one is a commit that puts its number under a.
func one(epoch, number int) api.Commit { return with(epoch, number, put("a", fmt.Sprint(number))) }

func runWith(from, upto int, ops ...api.Op) api.Run {
	return api.Run{From: from, Upto: upto, Ops: ops}
}

// odd lists ops whose keys are of any bytes, rising byte by byte.
func odd() []api.Op {
	return []api.Op{put("\x00", ""), del("\x00\x00"), put("\x00\xff", "\x00"), put("A", "x"), del("Z"), put("a", "1"), put("aa", "2"), del("b"), put("\x7f", ""), put("\x80", "y"), del("\xff"), put("\xff\x00", "z"), put("\xff\xff", of(32))}
}

// batches lists batches of several kinds.
func batches() [][]api.Op {
	return [][]api.Op{
		{put("a", "1")},
		{del("a"), put("b", "2")},
		{put("ab", ""), del("abc"), put("ab", of(32)), del("\x00\xff")},
		odd()[:8],
		{put("c", "3"), del("c"), put("c", "4"), put("a", "5"), del("a")},
		{del("c")},
		odd()[5:],
		{put(of(16), of(32)), put("b", "")},
	}
}

// behind lists commits of the epochs, numbered from one more than end on.
func behind(end int, epochs ...int) []api.Commit {
	var l []api.Commit
	for i, epoch := range epochs {
		l = append(l, with(epoch, end+1+i, batches()[i%len(batches())]...))
	}
	return l
}

// someRuns lists lists of runs: none, one, several, one that has no ops, one that ends just below the greatest number.
func someRuns() [][]api.Run {
	return [][]api.Run{
		nil,
		{runWith(1, 1, put("a", "r"))},
		{runWith(1, 2, del("a"), put("b", "r"), put("x", "r"))},
		{runWith(1, 3)},
		{runWith(1, 1, put("a", "r"), put("b", "r"), put("c", "r")), runWith(2, 9, del("a"), put("d", "")), runWith(10, 10, put("a", "s"), del("b"))},
		{runWith(1, 130, odd()...), runWith(131, 200), runWith(201, 16384, del("a"), put("zz", "r"), del("\xff\xff"))},
		{runWith(1, most-9, put("a", "r"), del("c"))},
	}
}

// someRests lists rests behind end: none, one, several.
func someRests(end int) [][]api.Commit {
	return [][]api.Commit{
		nil, {}, behind(end, 1), behind(end, 7), behind(end, most), behind(end, 1, 1), behind(end, 2, 5), behind(end, 1, most),
		behind(end, 1, 1, 1), behind(end, 3, 3, 4), behind(end, 1, 1, 2, 2, 9, 9, 9, most),
	}
}

// A second telling of a store, without the calls of the program.

type model struct {
	runs []api.Run
	rest []api.Commit
}

func endOf(l []api.Run) int {
	if len(l) == 0 {
		return 0
	}
	return l[len(l)-1].Upto
}

func (m *model) end() int { return endOf(m.runs) + len(m.rest) }

// ops lists the ops of all, in order.
func (m *model) ops() []api.Op {
	var l []api.Op
	for _, x := range m.runs {
		l = append(l, x.Ops...)
	}
	return append(l, opsOf(m.rest)...)
}

func opsOf(l []api.Commit) []api.Op {
	var ops []api.Op
	for _, c := range l {
		ops = append(ops, c.Ops...)
	}
	return ops
}

// last answers the last op on a key.
func last(ops []api.Op, key string) (api.Op, bool) {
	for _, o := range slices.Backward(ops) {
		if o.Key == key {
			return o, true
		}
	}
	return api.Op{}, false
}

func keysIn(ops []api.Op) []string {
	var keys []string
	for _, o := range ops {
		keys = append(keys, o.Key)
	}
	slices.Sort(keys)
	return slices.Compact(keys)
}

type pair struct{ key, value string }

// pairs lists what All goes over.
func (m *model) pairs() []pair {
	ops := m.ops()
	var l []pair
	for _, key := range keysIn(ops) {
		if o, _ := last(ops, key); o.Put {
			l = append(l, pair{key, o.Value})
		}
	}
	return l
}

// refusal tells why a commit may not be.
func refusal(c api.Commit) api.Errno {
	if c.Epoch < 1 || c.Epoch > most || c.Number < 1 || c.Number > most || len(c.Ops) == 0 {
		return api.ErrArg
	}
	if len(c.Ops) > 8 {
		return api.ErrLong
	}
	for _, o := range c.Ops {
		if len(o.Key) < 1 || len(o.Key) > 16 || len(o.Value) > 32 || !o.Put && o.Value != "" {
			return api.ErrArg
		}
	}
	return api.OK
}

func (m *model) apply(c api.Commit) api.Errno {
	if e := refusal(c); e != api.OK {
		return e
	}
	if c.Number != m.end()+1 || len(m.rest) > 0 && c.Epoch < m.rest[len(m.rest)-1].Epoch {
		return api.ErrOrder
	}
	m.rest = append(slices.Clone(m.rest), c)
	return api.OK
}

// flush is that of a disk that stays on.
func (m *model) flush(upto int) api.Errno {
	if upto < endOf(m.runs) || upto > m.end() {
		return api.ErrArg
	}
	count := upto - endOf(m.runs)
	if count == 0 {
		return api.OK
	}
	x := runOf(endOf(m.runs)+1, m.rest[:count])
	if len(x.Ops) > keysMax {
		return api.ErrLong
	}
	m.runs = append(slices.Clone(m.runs), x)
	m.rest = m.rest[count:]
	return api.OK
}

// runOf answers the run that some commits become.
func runOf(from int, l []api.Commit) api.Run {
	x := runWith(from, from+len(l)-1)
	ops := opsOf(l)
	for _, key := range keysIn(ops) {
		o, _ := last(ops, key)
		x.Ops = append(x.Ops, o)
	}
	return x
}

// keysNear lists the keys on which there is an op, and some next to them that may have none.
func (m *model) keysNear() []string {
	keys := []string{"", "\x00", "a", "ab", "abc", "b", "c", "x", of(16), of(17), "\xff", strings.Repeat("\xff", 40)}
	for _, key := range keysIn(m.ops()) {
		keys = append(keys, key, key+"\x00", key[:len(key)-1])
	}
	slices.Sort(keys)
	return slices.Compact(keys)
}

// What is compared, and how.

func want(t *testing.T, what string, got, e api.Errno) {
	t.Helper()
	if got != e {
		t.Errorf("%s: %d, not %d", what, got, e)
	}
}

// must stops a test whose ground is gone.
func must(t *testing.T, what string, got api.Errno) {
	t.Helper()
	if got != api.OK {
		t.Fatalf("%s: %d", what, got)
	}
}

func pairsIn(all iter.Seq2[string, string]) []pair {
	var l []pair
	for key, value := range all {
		l = append(l, pair{key, value})
	}
	return l
}

func wantPairs(t *testing.T, what string, all iter.Seq2[string, string], l []pair) {
	t.Helper()
	if got := pairsIn(all); !slices.Equal(got, l) {
		t.Errorf("%s: All goes over %q, not %q", what, got, l)
	}
}

func wantGet(t *testing.T, what string, s *store.Store, key, value string, there bool) {
	t.Helper()
	if v, ok := s.Get(key); v != value || ok != there {
		t.Errorf("%s: Get(%q) = %q, %v; not %q, %v", what, key, v, ok, value, there)
	}
}

// wantTold: the store tells what the model does, and nothing else.
func wantTold(t *testing.T, what string, s *store.Store, m *model) {
	t.Helper()
	if s.End() != m.end() || s.Rest() != len(m.rest) {
		t.Errorf("%s: End %d, Rest %d; not %d, %d", what, s.End(), s.Rest(), m.end(), len(m.rest))
	}
	wantPairs(t, what, s.All(), m.pairs())
	ops := m.ops()
	for _, key := range m.keysNear() {
		o, _ := last(ops, key)
		wantGet(t, what, s, key, o.Value, o.Put)
	}
}

func alike(a, b api.Run) bool {
	return a.From == b.From && a.Upto == b.Upto && slices.Equal(a.Ops, b.Ops)
}

func wantRuns(t *testing.T, what string, r *run.Runs, l []api.Run) {
	t.Helper()
	if got := r.List(); !slices.EqualFunc(got, l, alike) {
		t.Errorf("%s: the runs are %v, not %v", what, got, l)
	}
}

// look is what the calls that change nothing tell of a disk.
type look struct {
	on      bool
	pending int
	steps   int
	held    [files]string
	durable [files]string
}

func lookAt(d *disk.Disk) look {
	l := look{on: d.On(), pending: d.Pending(), steps: d.Steps()}
	for file := range files {
		b, _ := d.Read(file)
		l.held[file] = string(b)
		l.durable[file] = string(d.Durable(file))
	}
	return l
}

func wantLook(t *testing.T, what string, d *disk.Disk, ahead look) {
	t.Helper()
	if now := lookAt(d); now != ahead {
		t.Errorf("%s: the disk was\n%+v and is\n%+v", what, ahead, now)
	}
}

func mustRuns(t *testing.T, d *disk.Disk) *run.Runs {
	t.Helper()
	r, e := run.Open(d)
	must(t, "run.Open", e)
	return r
}

// flushed answers a new disk, and its runs to which l was flushed.
func flushed(t *testing.T, l []api.Run) (*disk.Disk, *run.Runs) {
	t.Helper()
	d := disk.New()
	r := mustRuns(t, d)
	for _, x := range l {
		must(t, "run.Flush", r.Flush(x))
	}
	return d, r
}

func mustOpen(t *testing.T, r *run.Runs, rest []api.Commit) *store.Store {
	t.Helper()
	s, e := store.Open(r, rest)
	if e != api.OK || s == nil {
		t.Fatalf("Open: %v, %d", s, e)
	}
	return s
}

// wantNone: Open answers e and no store.
func wantNone(t *testing.T, what string, r *run.Runs, rest []api.Commit, e api.Errno) {
	t.Helper()
	if s, got := store.Open(r, rest); got != e || s != nil {
		t.Errorf("%s: Open = %v, %d; not none, %d", what, s, got, e)
	}
}

// site is a store with what is below it, and what it should tell.
type site struct {
	d *disk.Disk
	r *run.Runs
	s *store.Store
	m *model
}

func newSite(t *testing.T, runs []api.Run, rest []api.Commit) site {
	t.Helper()
	d, r := flushed(t, runs)
	return site{d, r, mustOpen(t, r, rest), &model{runs, rest}}
}

// wantAsIs: the store, its runs and their disk are as they were ahead.
func (x site) wantAsIs(t *testing.T, what string, ahead look) {
	t.Helper()
	wantTold(t, what, x.s, x.m)
	wantRuns(t, what, x.r, x.m.runs)
	wantLook(t, what, x.d, ahead)
}

// apply does it at both, which answer the same.
func (x site) apply(t *testing.T, c api.Commit) api.Errno {
	t.Helper()
	e := x.m.apply(c)
	want(t, fmt.Sprintf("Apply(%v)", c), x.s.Apply(c), e)
	return e
}

// flush does it at both, which answer the same.
func (x site) flush(t *testing.T, upto int) api.Errno {
	t.Helper()
	e := x.m.flush(upto)
	want(t, fmt.Sprintf("Flush(%d)", upto), x.s.Flush(upto), e)
	return e
}

// wantAgain: a store that is opened anew, of the runs that are durable on the disk and of the same rest, tells the same.
func (x site) wantAgain(t *testing.T, what string) {
	t.Helper()
	must(t, "Pull", x.d.Pull())
	must(t, "Start", x.d.Start(0, 0))
	r := mustRuns(t, x.d)
	wantRuns(t, what, r, x.m.runs)
	wantTold(t, what, mustOpen(t, r, x.m.rest), x.m)
}

// someSites lists stores without runs and with some, without a rest and with one.
func someSites(t *testing.T) []site {
	t.Helper()
	var l []site
	for _, runs := range someRuns() {
		for _, rest := range someRests(endOf(runs)) {
			l = append(l, newSite(t, runs, rest))
		}
	}
	return l
}

// edges lists numbers at the bounds of what is a number, and on both sides of them.
func edges() []int {
	return []int{math.MinInt, math.MinInt + 1, -1 << 32, -most, -2, -1, 0, 1, 2, 3, most - 1, most, most + 1, 1 << 32, 1<<32 + 1, math.MaxInt - 1, math.MaxInt}
}

// wrongOps lists ops that may not be.
func wrongOps() []api.Op {
	return []api.Op{{}, put("", ""), put("", "1"), put(of(17), ""), put("k", of(33)), del(of(17)), del(""), {Key: "k", Value: "v"}, {Value: "v"}}
}

// wrong is a commit that may not be, and why.
type wrong struct {
	c api.Commit
	e api.Errno
}

// wrongs lists commits that may not be, though the epoch and the number might, or may not be either.
func wrongs(epoch, number int) []wrong {
	nine := slices.Repeat([]api.Op{put("a", "1")}, 9)
	fine := put("a", "1")
	l := []wrong{
		{with(epoch, number), api.ErrArg}, {api.Commit{Epoch: epoch, Number: number, Ops: []api.Op{}}, api.ErrArg},
		{with(epoch, number, nine...), api.ErrLong}, {with(epoch, number, slices.Repeat(nine, 200)...), api.ErrLong},
		{with(epoch, number, slices.Repeat([]api.Op{{}}, 9)...), api.ErrLong},
		{with(0, number, fine), api.ErrArg}, {with(-1, number, fine), api.ErrArg}, {with(most+1, number, fine), api.ErrArg}, {with(math.MaxInt, number, fine), api.ErrArg}, {with(math.MinInt, number, fine), api.ErrArg},
		{with(epoch, 0, fine), api.ErrArg}, {with(epoch, -1, fine), api.ErrArg}, {with(epoch, most+1, fine), api.ErrArg}, {with(epoch, math.MaxInt, fine), api.ErrArg}, {with(epoch, math.MinInt, fine), api.ErrArg},
		{with(0, number, nine...), api.ErrArg}, {with(epoch, 0, nine...), api.ErrArg}, {api.Commit{}, api.ErrArg},
	}
	for _, o := range wrongOps() {
		l = append(l, wrong{with(epoch, number, o), api.ErrArg}, wrong{with(epoch, number, fine, o), api.ErrArg}, wrong{with(epoch, number, o, fine, fine), api.ErrArg})
	}
	return l
}

// The chapter's examples.
func TestExamples(t *testing.T) {
	wantNone(t, "no runs' object", nil, nil, api.ErrNil)
	_, r := flushed(t, []api.Run{runWith(1, 2, put("a", "1"))})
	wantNone(t, "runs up to 2, a rest that begins with 2", r, []api.Commit{one(1, 2)}, api.ErrOrder)

	_, r = flushed(t, nil)
	s := mustOpen(t, r, []api.Commit{with(1, 1, put("a", "1")), with(1, 2, del("a"), put("b", "2"))})
	wantGet(t, "the rest", s, "a", "", false)
	wantGet(t, "the rest", s, "b", "2", true)
	wantPairs(t, "the rest", s.All(), []pair{{"b", "2"}})
	want(t, "Flush(1)", s.Flush(1), api.OK)
	if s.Rest() != 1 {
		t.Errorf("Rest: %d", s.Rest())
	}
	wantGet(t, "Flush(1)", s, "a", "", false)
	want(t, "Flush(0)", s.Flush(0), api.ErrArg)
	want(t, "Flush(3)", s.Flush(3), api.ErrArg)
	want(t, "Flush(2)", s.Flush(2), api.OK)
	if s.Rest() != 0 {
		t.Errorf("Rest: %d", s.Rest())
	}
}

// The limits are the numbers that the document writes.
func TestLimits(t *testing.T) {
	if api.MaxRunOps != keysMax || api.MaxNumber != most || api.MaxOps != 8 || api.MaxFiles != files {
		t.Error("api has other numbers")
	}
}

// P14.1

func notMadeRuns() map[string]*run.Runs {
	var declared run.Runs
	return map[string]*run.Runs{"nil": nil, "new": new(run.Runs), "a literal": {}, "declared": &declared}
}

func TestOpenOfNoRuns(t *testing.T) {
	for name, r := range notMadeRuns() {
		for _, rest := range append(someRests(0), behind(1, 1), behind(0, 2, 1), []api.Commit{{}}) {
			wantNone(t, name, r, rest, api.ErrNil)
		}
	}
}

// Open does no raw step, so that no fuse puts the disk off.
func TestOpenOfRunsAndTheirRest(t *testing.T) {
	for _, runs := range someRuns() {
		for _, rest := range someRests(endOf(runs)) {
			d, r := flushed(t, runs)
			must(t, "Write", d.Write(api.FileLog, []byte("pending")))
			must(t, "Fuse", d.Fuse(0))
			x := site{d, r, nil, &model{runs, rest}}
			ahead := lookAt(d)
			x.s = mustOpen(t, r, rest)
			x.wantAsIs(t, "opened", ahead)
		}
	}
}

func TestOpenOfARestThatBeginsElsewhere(t *testing.T) {
	for _, runs := range someRuns() {
		d, r := flushed(t, runs)
		ahead := lookAt(d)
		end := endOf(runs)
		for _, first := range []int{1, 2, end - 1, end, end + 2, end + 3, end + 128, most - 2} {
			for _, epochs := range [][]int{{1}, {most}, {1, 1}, {1, 2, 3}} {
				if first < 1 || first == end+1 || first+len(epochs)-1 > most {
					continue
				}
				what := fmt.Sprintf("runs up to %d, a rest from %d on", end, first)
				wantNone(t, what, r, behind(first-1, epochs...), api.ErrOrder)
			}
		}
		wantRuns(t, "refused", r, runs)
		wantLook(t, "refused", d, ahead)
		rest := behind(end, 1, 2)
		wantTold(t, "behind refusals", mustOpen(t, r, rest), &model{runs, rest})
	}
}

// changed answers l with another commit at a place.
func changed(l []api.Commit, at int, c api.Commit) []api.Commit {
	l = slices.Clone(l)
	l[at] = c
	return l
}

// At each place of a rest one commit is wrong: its epoch is below the one ahead, its number is not the next one, or it may not be.
func TestOpenOfARestWithAFault(t *testing.T) {
	for _, runs := range someRuns() {
		_, r := flushed(t, runs)
		end := endOf(runs)
		rest := behind(end, 2, 2, 3, 5, 5)
		for at, c := range rest {
			what := fmt.Sprintf("runs up to %d, at the place %d", end, at)
			if at > 0 {
				for _, epoch := range []int{1, rest[at-1].Epoch - 1} {
					wantNone(t, what+": its epoch falls", r, changed(rest, at, with(epoch, c.Number, c.Ops...)), api.ErrOrder)
				}
			}
			for _, number := range []int{c.Number - 1, c.Number + 1, c.Number + 2} {
				e := api.ErrOrder
				if number < 1 {
					e = api.ErrArg
				}
				wantNone(t, what+": another number", r, changed(rest, at, with(c.Epoch, number, c.Ops...)), e)
			}
			if at > 0 {
				wantNone(t, what+": it is left out", r, slices.Delete(slices.Clone(rest), at-1, at), api.ErrOrder)
				wantNone(t, what+": it stands twice", r, slices.Insert(slices.Clone(rest), at, rest[at-1]), api.ErrOrder)
			}
			for _, w := range append(wrongs(c.Epoch, c.Number), wrongs(1, c.Number+1)...) {
				wantNone(t, what+": it may not be", r, changed(rest, at, w.c), w.e)
			}
		}
		wantTold(t, "none is wrong", mustOpen(t, r, rest), &model{runs, rest})
	}
}

// Of several places that are wrong the first counts.
func TestOpenOfARestWithSeveralFaults(t *testing.T) {
	_, r := flushed(t, []api.Run{runWith(1, 4, put("a", "r"))})
	rest := behind(4, 2, 2, 3, 5, 5)
	long := with(5, 9, slices.Repeat([]api.Op{put("a", "1")}, 9)...)
	for first := range 4 {
		wantNone(t, "one that may not be, then one that is too long", r, changed(changed(rest, 4, long), first, api.Commit{}), api.ErrArg)
		order := with(most, rest[first].Number+3, put("a", "1"))
		wantNone(t, "one that does not follow, then one that is too long", r, changed(changed(rest, 4, long), first, order), api.ErrOrder)
		early := with(rest[first].Epoch, rest[first].Number, long.Ops...)
		wantNone(t, "one that is too long, then one that may not be", r, changed(changed(rest, 4, api.Commit{}), first, early), api.ErrLong)
	}
	for name, rest := range notFollowing() {
		wantNone(t, "no runs' object, "+name, nil, rest, api.ErrNil)
	}
}

func notFollowing() map[string][]api.Commit {
	return map[string][]api.Commit{"a gap": behind(1, 1), "a falling epoch": behind(0, 2, 1), "nothing in it": {{}}}
}

func TestOpenAtTheGreatestNumber(t *testing.T) {
	runs := []api.Run{runWith(1, most-2, put("a", "r"))}
	_, r := flushed(t, runs)
	rest := behind(most-2, 1, most)
	wantTold(t, "up to it", mustOpen(t, r, rest), &model{runs, rest})
	wantNone(t, "one more", r, behind(most-2, 1, 1, 1), api.ErrArg)

	runs = []api.Run{runWith(1, most, put("a", "r"))}
	_, r = flushed(t, runs)
	wantTold(t, "runs up to it", mustOpen(t, r, nil), &model{runs: runs})
	wantNone(t, "behind it", r, behind(most, 1), api.ErrArg)
	wantNone(t, "it, once more", r, behind(most-1, 1), api.ErrOrder)
}

// roomy answers l with spare room behind it, and behind the ops of each commit; and the whole of it.
func roomy(l []api.Commit) (handed, whole []api.Commit) {
	for _, c := range l {
		c.Ops = append(slices.Clone(c.Ops), put("room", "room"), del("room"))[:len(c.Ops)]
		whole = append(whole, c)
	}
	whole = append(whole, one(3, 3), one(4, 4))
	return whole[:len(l):len(whole)], whole
}

// copied answers l in memory of its own, the spare room of its ops with them.
func copied(l []api.Commit) []api.Commit {
	l = slices.Clone(l)
	for i, c := range l {
		l[i].Ops = slices.Clone(c.Ops[:cap(c.Ops)])[:len(c.Ops)]
	}
	return l
}

// alikeWhole: the same commits, with the same in their spare room.
func alikeWhole(a, b []api.Commit) bool {
	return slices.EqualFunc(a, b, func(x, y api.Commit) bool {
		return x.Epoch == y.Epoch && x.Number == y.Number && len(x.Ops) == len(y.Ops) && slices.Equal(x.Ops[:cap(x.Ops)], y.Ops[:cap(x.Ops)])
	})
}

// spoil writes over all of l, its ops and their spare room.
func spoil(l []api.Commit) {
	for i, c := range l {
		ops := c.Ops[:cap(c.Ops)]
		for j := range ops {
			ops[j] = put("spoilt", "spoilt")
		}
		l[i] = with(7, 7, put("spoilt", "spoilt"))
	}
}

func TestOpenLeavesTheRestAloneAndKeepsNoneOfIt(t *testing.T) {
	for _, runs := range someRuns() {
		for _, rest := range someRests(endOf(runs)) {
			_, r := flushed(t, runs)
			handed, whole := roomy(rest)
			keep := copied(whole)
			m := &model{runs, rest}
			s := mustOpen(t, r, handed)
			if !alikeWhole(whole, keep) {
				t.Fatalf("it was changed: %v", whole)
			}
			spoil(whole)
			wantTold(t, "written over", s, m)
			for s.End() < most && len(m.rest) < 9 {
				x := site{nil, r, s, m}
				must(t, "Apply", x.apply(t, one(most, s.End()+1)))
			}
			want(t, "Flush", s.Flush(m.end()-1), m.flush(m.end()-1))
			wantTold(t, "flushed", s, m)
			wantRuns(t, "flushed", r, m.runs)
		}
	}
}

// One rest may be handed in again and again.
func TestOpenOfOneRestTwice(t *testing.T) {
	rest := behind(0, 1, 1, 2)
	m := &model{rest: rest}
	_, r := flushed(t, nil)
	_, other := flushed(t, nil)
	a, b := mustOpen(t, r, rest), mustOpen(t, other, rest)
	must(t, "Flush", a.Flush(3))
	wantTold(t, "the one that was not flushed", b, m)
	must(t, "Apply", b.Apply(one(2, 4)))
	must(t, "Flush", b.Flush(2))
	must(t, "model", m.flush(3))
	wantTold(t, "the one that was flushed", a, m)
}

// A rest that is refused is left alone, too.
func TestOpenThatIsRefusedLeavesTheRestAlone(t *testing.T) {
	_, r := flushed(t, nil)
	for _, rest := range [][]api.Commit{behind(1, 1, 1), behind(0, 1, 2, 1), append(behind(0, 1, 1), with(1, 3))} {
		handed, whole := roomy(rest)
		keep := copied(whole)
		wantNone(t, "refused", r, handed, refused(rest))
		wantNone(t, "no runs", nil, handed, api.ErrNil)
		if !alikeWhole(whole, keep) {
			t.Errorf("it was changed: %v", whole)
		}
	}
}

// refused tells why a rest is, behind no runs.
func refused(rest []api.Commit) api.Errno {
	m := &model{}
	for _, c := range rest {
		if e := m.apply(c); e != api.OK {
			return e
		}
	}
	return api.OK
}

// Open asks nothing of the disk: one that is off, or was, is no reason to refuse, and runs that are not broken aren't by that.
func TestOpenOfRunsWhoseDiskIsOff(t *testing.T) {
	for _, runs := range someRuns() {
		rest := behind(endOf(runs), 1, 1, 2)
		d, r := flushed(t, runs)
		must(t, "Pull", d.Pull())
		ahead := lookAt(d)
		x := site{d, r, mustOpen(t, r, rest), &model{runs, rest}}
		wantNone(t, "refused, off", r, behind(endOf(runs)+1, 1), api.ErrOrder)
		x.wantAsIs(t, "off", ahead)
		must(t, "Start", d.Start(0, 0))
		must(t, "Flush, on again", x.flush(t, x.m.end()))
		wantTold(t, "Flush, on again", x.s, x.m)
		wantRuns(t, "Flush, on again", r, x.m.runs)
	}
}

func TestOpenOfBrokenRuns(t *testing.T) {
	for _, runs := range someRuns() {
		rest := behind(endOf(runs), 1, 1, 2)
		d, r := flushed(t, runs)
		must(t, "Pull", d.Pull())
		want(t, "run.Flush", r.Flush(api.Run{}), api.ErrOff)
		must(t, "Start", d.Start(0, 0))
		ahead := lookAt(d)
		x := site{d, r, mustOpen(t, r, rest), &model{runs, rest}}
		x.wantAsIs(t, "broken", ahead)
		want(t, "Flush", x.s.Flush(x.m.end()), api.ErrOff)
		x.wantAsIs(t, "refused", ahead)
	}
}

// P14.2

func notMade() map[string]*store.Store {
	var declared store.Store
	return map[string]*store.Store{"nil": nil, "new": new(store.Store), "a literal": {}, "declared": &declared}
}

func TestApplyAtNoStore(t *testing.T) {
	for name, s := range notMade() {
		for range 2 {
			want(t, name, s.Apply(one(1, 1)), api.ErrNil)
			want(t, name+", another number", s.Apply(one(1, 2)), api.ErrNil)
			for _, w := range wrongs(1, 1) {
				want(t, name+", one that may not be", s.Apply(w.c), api.ErrNil)
			}
			checkNoStore(t, name, s)
		}
	}
}

func TestApplyOfWhatFollows(t *testing.T) {
	for _, x := range someSites(t) {
		ahead := lookAt(x.d)
		for i, ops := range batches() {
			if x.m.end() == most {
				break
			}
			epoch := 1
			if n := len(x.m.rest); n > 0 {
				epoch = min(x.m.rest[n-1].Epoch+i%2, most)
			}
			must(t, "Apply", x.apply(t, with(epoch, x.m.end()+1, ops...)))
			x.wantAsIs(t, "applied", ahead)
		}
	}
}

// Each number and each epoch at the bounds, and next to the end's.
func TestApplyOfEachNumberAndEpoch(t *testing.T) {
	fine := 0
	for _, x := range someSites(t) {
		lastEpoch := 1
		if n := len(x.m.rest); n > 0 {
			lastEpoch = x.m.rest[n-1].Epoch
		}
		numbers := append(edges(), x.m.end()-1, x.m.end(), x.m.end()+1, x.m.end()+2)
		epochs := append(edges(), lastEpoch-1, lastEpoch, lastEpoch+1)
		ahead, rest := lookAt(x.d), x.m.rest
		for _, number := range numbers {
			for _, epoch := range epochs {
				if x.apply(t, one(epoch, number)) == api.OK {
					fine++
					wantTold(t, "applied", x.s, x.m)
					x.m.rest = rest
					x.s = mustOpen(t, x.r, rest)
				}
			}
		}
		x.wantAsIs(t, "behind all", ahead)
	}
	if fine < 100 {
		t.Errorf("just %d were taken", fine)
	}
}

func TestApplyOfOneThatDoesNotFollow(t *testing.T) {
	x := newSite(t, []api.Run{runWith(1, 4, put("a", "r"))}, behind(4, 3, 5))
	for _, c := range []api.Commit{one(5, 6), one(5, 8), one(5, 5), one(5, 4), one(5, 1), one(9, 6), one(9, 8), one(4, 7), one(3, 7), one(1, 7), one(4, 6), one(4, 8)} {
		want(t, fmt.Sprint(c), x.s.Apply(c), api.ErrOrder)
		wantTold(t, "refused", x.s, x.m)
	}
	want(t, "the same epoch", x.s.Apply(one(5, 7)), api.OK)
	want(t, "a greater epoch", x.s.Apply(one(9, 8)), api.OK)
	want(t, "a lower epoch", x.s.Apply(one(8, 9)), api.ErrOrder)
	if x.s.End() != 8 || x.s.Rest() != 4 {
		t.Errorf("End %d, Rest %d", x.s.End(), x.s.Rest())
	}
}

// A commit that may not be is refused for that, whether it would follow or not.
func TestApplyOfWhatMayNotBe(t *testing.T) {
	for _, x := range someSites(t) {
		ahead := lookAt(x.d)
		for _, number := range []int{x.m.end() + 1, x.m.end(), x.m.end() + 2, 1, most} {
			for _, epoch := range []int{1, most} {
				for _, w := range wrongs(epoch, number) {
					// The end may be 0, which is no number of a commit.
					if number > 0 && number <= most {
						want(t, fmt.Sprintf("Apply at %d", number), x.s.Apply(w.c), w.e)
					}
				}
			}
		}
		x.wantAsIs(t, "refused", ahead)
	}
}

// Behind an empty rest each epoch is taken: what the runs were made of is not known any more.
func TestApplyBehindAnEmptyRest(t *testing.T) {
	for _, epoch := range []int{1, 2, 6, 7, 8, most} {
		x := newSite(t, nil, behind(0, 7, 7))
		must(t, "Flush", x.flush(t, 2))
		must(t, "Apply", x.apply(t, one(epoch, 3)))
		wantTold(t, "flushed, then applied", x.s, x.m)
		x.apply(t, one(epoch-1, 4))
		x.apply(t, one(epoch, 4))
		wantTold(t, "one more", x.s, x.m)

		for _, runs := range someRuns() {
			x := newSite(t, runs, nil)
			must(t, "Apply", x.apply(t, one(epoch, endOf(runs)+1)))
			x.apply(t, one(epoch-1, endOf(runs)+2))
			wantTold(t, "runs alone, then applied", x.s, x.m)
		}
	}
}

// Where a rest is left behind a flush, its last epoch counts still.
func TestApplyBehindAFlushOfSome(t *testing.T) {
	x := newSite(t, nil, behind(0, 2, 7, 7))
	for upto := range 3 {
		must(t, "Flush", x.flush(t, upto))
		for _, epoch := range []int{1, 2, 6} {
			want(t, "a lower epoch", x.s.Apply(one(epoch, 4)), api.ErrOrder)
		}
	}
	must(t, "Apply", x.apply(t, one(7, 4)))
	wantTold(t, "applied", x.s, x.m)
}

func TestApplyAtTheGreatestNumber(t *testing.T) {
	for _, runs := range [][]api.Run{{runWith(1, most-1)}, {runWith(1, most-2, put("a", "r"))}} {
		x := newSite(t, runs, nil)
		for x.m.end() < most {
			must(t, "Apply", x.apply(t, one(1, x.m.end()+1)))
		}
		want(t, "1048577", x.s.Apply(one(1, most+1)), api.ErrArg)
		want(t, "1048576 again", x.s.Apply(one(1, most)), api.ErrOrder)
		wantTold(t, "refused", x.s, x.m)
		want(t, "Flush of 1048577", x.s.Flush(most+1), api.ErrArg)
		must(t, "Flush", x.flush(t, most))
		want(t, "1048577, flushed", x.s.Apply(one(1, most+1)), api.ErrArg)
		wantTold(t, "flushed", x.s, x.m)
		x.wantAgain(t, "opened again")
	}
}

func TestApplyLeavesACommitAloneAndKeepsNoneOfIt(t *testing.T) {
	for _, upto := range []int{0, 1, 4, 8} {
		x := newSite(t, nil, nil)
		for i, c := range behind(0, 1, 1, 2, 2, 2, 3, 3, 3) {
			handed, whole := roomy([]api.Commit{c})
			keep := copied(whole)
			must(t, "model", x.m.apply(c))
			must(t, "Apply", x.s.Apply(handed[0]))
			want(t, "Apply again", x.s.Apply(handed[0]), api.ErrOrder)
			if !alikeWhole(whole, keep) {
				t.Fatalf("commit %d was changed: %v", i, whole)
			}
			spoil(whole)
			wantTold(t, "written over", x.s, x.m)
		}
		must(t, "Flush", x.flush(t, upto))
		wantTold(t, "written over and flushed", x.s, x.m)
		wantRuns(t, "written over and flushed", x.r, x.m.runs)
	}
}

// Apply asks nothing of the disk, and breaks no runs whose disk is off.
func TestApplyWhileTheDiskIsOff(t *testing.T) {
	x := newSite(t, []api.Run{runWith(1, 2, put("a", "r"))}, behind(2, 1))
	must(t, "Pull", x.d.Pull())
	ahead := lookAt(x.d)
	must(t, "Apply", x.apply(t, one(1, 4)))
	want(t, "Apply of what does not follow", x.s.Apply(one(1, 4)), api.ErrOrder)
	x.wantAsIs(t, "off", ahead)
	must(t, "Start", x.d.Start(0, 0))
	must(t, "Flush", x.flush(t, 4))
	wantTold(t, "flushed", x.s, x.m)
}

// P14.3

// reads answers a store of which the runs, the rest or both have keys.
func reads(t *testing.T) site {
	return newSite(t, []api.Run{
		runWith(1, 1, put("gone", "1"), put("only", "1"), put("over", "1"), put("twice", "1")),
		runWith(2, 5, put("back", "2"), del("gone"), put("grave", "2"), del("hidden"), put("twice", "2"), put("void", "2")),
	}, []api.Commit{
		with(1, 6, put("mine", "3"), del("grave"), put("over", "3"), del("never")),
		with(1, 7, del("back"), put("mine", "4"), put("hidden", "4"), put("void", "")),
		with(2, 8, put("back", "5"), put("last", "5"), del("last"), put("same", "5"), put("same", "6")),
	})
}

func TestGet(t *testing.T) {
	x := reads(t)
	there := map[string]string{
		"only":   "1", // just the runs have it
		"twice":  "2", // two of the runs have it
		"over":   "3", // both have it
		"mine":   "4", // just the rest has it
		"hidden": "4", // the runs deleted it
		"back":   "5", // the rest deleted it, and put it again
		"same":   "6", // one commit put it twice
		"void":   "",  // no bytes are a value, too
	}
	for range 2 {
		for key, value := range there {
			wantGet(t, "there", x.s, key, value, true)
		}
		for _, key := range []string{"gone", "grave", "never", "last", "none", "", "onl", "only\x00", of(16), of(17), of(1000), "\xff"} {
			wantGet(t, "not there", x.s, key, "", false)
		}
		wantPairs(t, "there", x.s.All(), []pair{{"back", "5"}, {"hidden", "4"}, {"mine", "4"}, {"only", "1"}, {"over", "3"}, {"same", "6"}, {"twice", "2"}, {"void", ""}})
		wantTold(t, "all of it", x.s, x.m)
	}
}

// Each two of what the runs, the rest's first commit and its last one may do with a key.
func TestGetOfEachWayToLeaveAKey(t *testing.T) {
	ways := [][]api.Op{{put("z", "z")}, {put("a", "1")}, {put("a", "")}, {del("a")}, {del("a"), put("a", "2")}, {put("a", "3"), del("a")}}
	for _, inRuns := range ways[:4] {
		for _, first := range ways {
			for _, second := range ways {
				x := newSite(t, []api.Run{runWith(1, 1, inRuns...)}, []api.Commit{with(1, 2, first...), with(1, 3, second...)})
				wantTold(t, fmt.Sprint(inRuns, first, second), x.s, x.m)
				y := newSite(t, []api.Run{runWith(1, 1, inRuns...)}, nil)
				must(t, "Apply", y.apply(t, with(1, 2, first...)))
				wantTold(t, "applied", y.s, y.m)
				must(t, "Apply", y.apply(t, with(1, 3, second...)))
				wantTold(t, "applied", y.s, y.m)
				for upto := 1; upto <= 3; upto++ {
					must(t, "Flush", y.flush(t, upto))
					wantTold(t, "flushed", y.s, y.m)
				}
			}
		}
	}
}

// Keys of any bytes rise byte by byte, whichever of them the runs have.
func TestAllIsRising(t *testing.T) {
	keys := []string{"\x00", "\x00\x00", "\x00\x01", "\x01", " ", "A", "Aa", "a", "a\x00", "aa", "ab", "b", of(16), "\x7f", "\x80", "é", "\xff", "\xff\x00", strings.Repeat("\xff", 16)}
	slices.Sort(keys)
	for way := range 8 {
		var inRuns []api.Op
		var rest []api.Commit
		var l []pair
		for i, key := range keys {
			l = append(l, pair{key, fmt.Sprint(i)})
			if (i*i+way)%(way+2) == 0 {
				inRuns = append(inRuns, put(key, fmt.Sprint(i)))
			} else {
				// Those of the rest fall.
				rest = slices.Insert(rest, 0, with(1, 1, put(key, fmt.Sprint(i))))
			}
		}
		for i := range rest {
			rest[i].Number = i + 2
		}
		x := newSite(t, []api.Run{runWith(1, 1, inRuns...)}, rest)
		wantPairs(t, fmt.Sprint("way ", way), x.s.All(), l)
		must(t, "Flush", x.s.Flush(1+len(rest)/2))
		wantPairs(t, fmt.Sprint("flushed, way ", way), x.s.All(), l)
	}
}

// stopped goes over what all gives till it has count of them.
func stopped(all iter.Seq2[string, string], count int) []pair {
	var l []pair
	all(func(key, value string) bool {
		l = append(l, pair{key, value})
		return len(l) < count
	})
	return l
}

func TestAllIsBrokenOff(t *testing.T) {
	x := reads(t)
	l := x.m.pairs()
	all := x.s.All()
	for count := 1; count <= len(l); count++ {
		if got := stopped(all, count); !slices.Equal(got, l[:count]) {
			t.Errorf("stopped behind %d: %q", count, got)
		}
		var seen []pair
		for key, value := range all {
			seen = append(seen, pair{key, value})
			if len(seen) == count {
				break
			}
		}
		if !slices.Equal(seen, l[:count]) {
			t.Errorf("left behind %d: %q", count, seen)
		}
		wantPairs(t, "whole again", all, l)
	}
}

func TestAllIsGoneThroughTwice(t *testing.T) {
	for _, x := range someSites(t) {
		all := x.s.All()
		l := x.m.pairs()
		for range 3 {
			wantPairs(t, "again", all, l)
		}
		// Each within each.
		outer := 0
		for key, value := range all {
			if l[outer] != (pair{key, value}) {
				t.Errorf("outer: %q %q", key, value)
			}
			wantPairs(t, "inner", all, l)
			outer++
		}
		if outer != len(l) {
			t.Errorf("outer: %d of %d", outer, len(l))
		}
		next, stop := iter.Pull2(all)
		for _, p := range l {
			key, value, ok := next()
			wantPairs(t, "beside it", x.s.All(), l)
			if !ok || p != (pair{key, value}) {
				t.Errorf("pulled: %q %q %v; not %q", key, value, ok, p)
			}
		}
		stop()
	}
}

// changes lists what may be done to a store behind All.
func changes() map[string]func(x site) {
	return map[string]func(x site){
		"Apply": func(x site) {
			x.s.Apply(with(9, x.s.End()+1, put("a new", "9"), del("only"), put("over", "9"), del("mine"), put("grave", "9"), put("zz", "9")))
		},
		"Flush of one":       func(x site) { x.s.Flush(x.r.End() + 1) },
		"Flush":              func(x site) { x.s.Flush(x.s.End()) },
		"Flush of the runs":  func(x site) { x.r.Flush(runWith(6, 8, del("only"), put("twice", "9"), put("zz", "9"))) },
		"a refused Apply":    func(x site) { x.s.Apply(with(9, 1, del("only"))) },
		"the disk goes off":  func(x site) { x.d.Pull() },
		"a Flush cut off":    func(x site) { x.d.Fuse(1); x.s.Flush(x.s.End()) },
		"another All":        func(x site) { pairsIn(x.s.All()) },
		"all of the log new": func(x site) { x.s.Flush(x.s.End()); x.s.Apply(with(1, 9, del("back"), put("hidden", "9"))) },
	}
}

// It goes over what was there at the call that gave it, whatever was done to the store since.
func TestAllStays(t *testing.T) {
	for name, change := range changes() {
		x := reads(t)
		l := x.m.pairs()
		all := x.s.All()
		change(x)
		for range 2 {
			wantPairs(t, name, all, l)
		}
		for place := range l {
			y := reads(t)
			all := y.s.All()
			var seen []pair
			for key, value := range all {
				if len(seen) == place {
					change(y)
				}
				seen = append(seen, pair{key, value})
			}
			if !slices.Equal(seen, l) {
				t.Errorf("%s at the place %d: %q", name, place, seen)
			}
			wantPairs(t, name, all, l)
		}
	}
	x := newSite(t, nil, nil)
	all := x.s.All()
	must(t, "Apply", x.s.Apply(one(1, 1)))
	wantPairs(t, "of no keys", all, nil)
}

// A key is deleted, another one put, for each that is gone over.
func TestAppliedWhileGoneOver(t *testing.T) {
	x := reads(t)
	l := x.m.pairs()
	var seen []pair
	for key, value := range x.s.All() {
		seen = append(seen, pair{key, value})
		must(t, "Apply", x.apply(t, with(2, x.m.end()+1, del(key), put(key+"'", value))))
		if len(seen)%3 == 0 {
			must(t, "Flush", x.flush(t, x.m.end()-1))
		}
	}
	if !slices.Equal(seen, l) {
		t.Errorf("%q", seen)
	}
	wantTold(t, "behind it", x.s, x.m)
}

func TestEndAndRest(t *testing.T) {
	for _, x := range someSites(t) {
		if x.s.End() != endOf(x.m.runs)+len(x.m.rest) || x.s.Rest() != len(x.m.rest) {
			t.Errorf("End %d, Rest %d", x.s.End(), x.s.Rest())
		}
	}
	x := newSite(t, []api.Run{runWith(1, 40)}, nil)
	for i := range 20 {
		must(t, "Apply", x.s.Apply(one(1, 41+i)))
		if x.s.End() != 41+i || x.s.Rest() != i+1 {
			t.Errorf("End %d, Rest %d", x.s.End(), x.s.Rest())
		}
	}
	must(t, "Flush", x.s.Flush(45))
	if x.s.End() != 60 || x.s.Rest() != 15 {
		t.Errorf("End %d, Rest %d", x.s.End(), x.s.Rest())
	}
}

// checkNoStore: it tells nothing.
func checkNoStore(t *testing.T, what string, s *store.Store) {
	t.Helper()
	for _, key := range []string{"", "a", of(16), of(17)} {
		wantGet(t, what, s, key, "", false)
	}
	if s.End() != 0 || s.Rest() != 0 {
		t.Errorf("%s: End %d, Rest %d", what, s.End(), s.Rest())
	}
	all := s.All()
	if all == nil {
		t.Fatalf("%s: All is nil", what)
	}
	for range 2 {
		wantPairs(t, what, all, nil)
	}
}

func TestNoStoreTellsNothing(t *testing.T) {
	for name, s := range notMade() {
		checkNoStore(t, name, s)
	}
}

func TestTellingChangesNothing(t *testing.T) {
	for _, off := range []bool{false, true} {
		x := reads(t)
		must(t, "Write", x.d.Write(api.FileLog, []byte("pending")))
		if off {
			must(t, "Pull", x.d.Pull())
		}
		ahead := lookAt(x.d)
		for range 3 {
			x.wantAsIs(t, "told", ahead)
		}
		if off {
			must(t, "Start", x.d.Start(0, 0))
		}
		// Not broken by it.
		must(t, "Flush", x.flush(t, 8))
	}
}

func TestStoresAreApart(t *testing.T) {
	x := newSite(t, nil, behind(0, 1, 1))
	y := newSite(t, []api.Run{runWith(1, 7, put("a", "y"))}, nil)
	must(t, "Apply", y.apply(t, with(3, 8, del("a"), put("y", "y"))))
	wantTold(t, "the other", x.s, x.m)
	must(t, "Pull", y.d.Pull())
	want(t, "Flush of the one that is off", y.s.Flush(8), api.ErrOff)
	must(t, "Flush of the other", x.flush(t, 1))
	wantTold(t, "the other", x.s, x.m)
	wantTold(t, "the one that is off", y.s, y.m)
}

// The runs are kept: what is flushed to them by another one that has them is the store's, too, and its rest is what is behind their end.
func TestTheRunsAreKept(t *testing.T) {
	x := newSite(t, nil, nil)
	more := runWith(1, 3, put("a", "r"), del("b"))
	must(t, "run.Flush", x.r.Flush(more))
	x.m.runs = []api.Run{more}
	wantTold(t, "no rest", x.s, x.m)
	want(t, "Apply of what the runs have", x.s.Apply(one(1, 3)), api.ErrOrder)
	must(t, "Apply", x.apply(t, with(1, 4, put("b", "4"))))
	wantTold(t, "applied", x.s, x.m)
}

func TestTwoStoresOverTheSameRuns(t *testing.T) {
	for _, upto := range []int{1, 2, 3, 4, 5} {
		rest := behind(0, 1, 1, 2, 2, 3)
		x := newSite(t, nil, rest)
		y := site{x.d, x.r, mustOpen(t, x.r, rest), &model{rest: rest}}
		must(t, "Flush", x.flush(t, upto))
		must(t, "model", y.m.flush(upto))
		wantTold(t, "the one that was not asked to flush", y.s, y.m)
		if upto < 5 {
			want(t, "Flush of what the runs have", y.s.Flush(upto-1), api.ErrArg)
			must(t, "Flush of the next one", y.flush(t, upto+1))
			must(t, "model", x.m.flush(upto+1))
		}
		wantTold(t, "the other one", x.s, x.m)
		wantTold(t, "this one", y.s, y.m)
		wantRuns(t, "both", x.r, x.m.runs)
		must(t, "Apply", x.apply(t, one(3, 6)))
		wantTold(t, "the one that was not applied to", y.s, y.m)
	}
}

// Runs that went on further than the store leave it no rest.
func TestRunsThatWentOn(t *testing.T) {
	for _, call := range []func(x site) api.Errno{
		func(x site) api.Errno { return x.s.Flush(9) },
		func(x site) api.Errno { return x.s.Apply(api.Commit{}) - api.ErrArg },
		func(x site) api.Errno { x.s.Get("a"); return api.OK },
		func(x site) api.Errno { pairsIn(x.s.All()); return api.OK },
		func(x site) api.Errno { return api.Errno(x.s.End() - 9) },
		func(x site) api.Errno { return api.Errno(x.s.Rest()) },
	} {
		x := newSite(t, nil, behind(0, 5, 5, 5))
		more := runWith(1, 9, put("a", "r"), put("q", "r"))
		must(t, "run.Flush", x.r.Flush(more))
		must(t, "the first call behind it", call(x))
		x.m = &model{runs: []api.Run{more}}
		wantTold(t, "no rest", x.s, x.m)
		want(t, "Flush of what the runs have", x.s.Flush(3), api.ErrArg)
		must(t, "Flush of their end", x.flush(t, 9))
		must(t, "Apply", x.apply(t, one(1, 10)))
		wantTold(t, "applied", x.s, x.m)
	}
}

// P14.4

func TestFlushAtNoStore(t *testing.T) {
	for name, s := range notMade() {
		for _, upto := range append(edges(), 0, 1) {
			want(t, name, s.Flush(upto), api.ErrNil)
		}
		checkNoStore(t, name, s)
	}
}

func TestFlushOutOfBounds(t *testing.T) {
	for _, x := range someSites(t) {
		ahead := lookAt(x.d)
		from, end := endOf(x.m.runs), x.m.end()
		for _, upto := range append(edges(), from-1, from-2, from-127, end+1, end+2, end+127) {
			if upto < from || upto > end {
				want(t, fmt.Sprintf("runs up to %d, the end %d: Flush(%d)", from, end, upto), x.s.Flush(upto), api.ErrArg)
			}
		}
		x.wantAsIs(t, "refused", ahead)
	}
}

// Nothing is to be done for what the runs have: there is no raw step at which the disk might go off.
func TestFlushOfTheRunsEnd(t *testing.T) {
	for _, x := range someSites(t) {
		must(t, "Fuse", x.d.Fuse(0))
		ahead := lookAt(x.d)
		for range 2 {
			want(t, "Flush", x.s.Flush(endOf(x.m.runs)), api.OK)
			x.wantAsIs(t, "flushed", ahead)
		}
	}
}

// Each number from the runs' end up to the end; the run that is written is what these commits left.
func TestFlushOfEachNumber(t *testing.T) {
	for _, runs := range someRuns() {
		for _, rest := range someRests(endOf(runs)) {
			for count := range len(rest) + 1 {
				x := newSite(t, runs, rest)
				upto := endOf(runs) + count
				must(t, "Flush", x.flush(t, upto))
				wantTold(t, "flushed", x.s, x.m)
				wantRuns(t, "flushed", x.r, x.m.runs)
				if x.r.End() != upto || x.s.Rest() != len(rest)-count || x.d.Pending() != 0 {
					t.Errorf("Flush(%d): the runs' end is %d, Rest %d, %d pending", upto, x.r.End(), x.s.Rest(), x.d.Pending())
				}
				ahead := lookAt(x.d)
				must(t, "Flush again", x.flush(t, upto))
				x.wantAsIs(t, "flushed again", ahead)
				if upto > 0 {
					want(t, "Flush of one less", x.s.Flush(upto-1), api.ErrArg)
				}
				x.wantAgain(t, "opened again")
			}
		}
	}
}

func TestTheRunThatIsWritten(t *testing.T) {
	x := newSite(t, []api.Run{runWith(1, 3, put("a", "r"), put("q", "r"))}, []api.Commit{
		with(1, 4, put("c", "1"), put("a", "1"), del("b")),
		with(1, 5, del("a"), put("b", "2"), put("b", ""), put("c", "1")),
		with(2, 6, put("a", "late")),
	})
	must(t, "Flush", x.s.Flush(5))
	// A grave hides what the earlier runs have, so it is written, too; a key on which these have no op is not.
	wantRuns(t, "flushed", x.r, []api.Run{runWith(1, 3, put("a", "r"), put("q", "r")), runWith(4, 5, del("a"), put("b", ""), put("c", "1"))})
	must(t, "Flush", x.s.Flush(6))
	wantRuns(t, "flushed", x.r, []api.Run{runWith(1, 3, put("a", "r"), put("q", "r")), runWith(4, 5, del("a"), put("b", ""), put("c", "1")), runWith(6, 6, put("a", "late"))})
}

func TestFlushLeavesTheOtherFilesAlone(t *testing.T) {
	x := newSite(t, nil, behind(0, 1, 1))
	for _, file := range []int{api.FileLog, api.FilePages, api.FileOrphans} {
		must(t, "Write", x.d.Write(file, []byte{byte(file), 7, 7}))
	}
	ahead := lookAt(x.d)
	must(t, "Flush", x.flush(t, 2))
	now := lookAt(x.d)
	for _, file := range []int{api.FileLog, api.FilePages, api.FileOrphans} {
		// The sync is the whole disk's.
		if now.held[file] != ahead.held[file] || now.durable[file] != ahead.held[file] {
			t.Errorf("file %d held %q and holds %q, durable %q", file, ahead.held[file], now.held[file], now.durable[file])
		}
	}
}

// wide lists commits behind end with ops on count keys in all, eight to a commit, every fifth op a delete.
func wide(end, count int) []api.Commit {
	var l []api.Commit
	for i := range count {
		if i%8 == 0 {
			l = append(l, with(1, end+1+len(l)))
		}
		o := put(fmt.Sprintf("%04d%012d", i*7919%10000, 0), of(32))
		if i%5 == 4 {
			o = del(o.Key)
		}
		l[len(l)-1].Ops = append(l[len(l)-1].Ops, o)
	}
	return l
}

// As many keys as a run may have, and one more; graves count, and a key that has several ops counts once.
func TestFlushOfManyKeys(t *testing.T) {
	for _, runs := range [][]api.Run{nil, {runWith(1, 5, put("a", "r"))}} {
		end := endOf(runs)
		for _, count := range []int{1016, 1023, 1024} {
			x := newSite(t, runs, wide(end, count))
			must(t, "Flush", x.flush(t, x.m.end()))
			if l := x.r.List(); len(l[len(l)-1].Ops) != count {
				t.Errorf("%d keys: the run has %d ops", count, len(l[len(l)-1].Ops))
			}
			wantTold(t, "flushed", x.s, x.m)
			x.wantAgain(t, "opened again")
		}
		for _, count := range []int{1025, 1026, 1032, 2048, 3000} {
			x := newSite(t, runs, wide(end, count))
			ahead := lookAt(x.d)
			want(t, fmt.Sprint(count, " keys"), x.s.Flush(x.m.end()), api.ErrLong)
			x.wantAsIs(t, "refused", ahead)
			want(t, "129 commits", x.s.Flush(end+129), api.ErrLong)
			must(t, "128 commits", x.flush(t, end+128))
			wantTold(t, "flushed", x.s, x.m)
			for x.s.Rest() > 0 {
				must(t, "the next ones", x.flush(t, min(x.r.End()+128, x.s.End())))
			}
			wantTold(t, "flushed in pieces", x.s, x.m)
			wantRuns(t, "flushed in pieces", x.r, x.m.runs)
		}
	}
}

func TestFlushOfManyOpsOnFewerKeys(t *testing.T) {
	x := newSite(t, nil, wide(0, keysMax))
	for _, c := range wide(0, keysMax) {
		must(t, "Apply", x.apply(t, with(1, x.m.end()+1, c.Ops...)))
		must(t, "Apply", x.apply(t, with(1, x.m.end()+1, del(c.Ops[0].Key))))
	}
	must(t, "Flush of 1,024 keys with more ops", x.flush(t, x.m.end()))
	wantTold(t, "flushed", x.s, x.m)
	wantRuns(t, "flushed", x.r, x.m.runs)

	x = newSite(t, nil, wide(0, keysMax))
	must(t, "Apply", x.apply(t, with(1, 129, del("one more"))))
	want(t, "Flush of 1,024 keys and of a grave", x.s.Flush(129), api.ErrLong)
	must(t, "Flush of 1,024 keys", x.flush(t, 128))
	must(t, "Flush of the grave", x.flush(t, 129))
	wantTold(t, "flushed", x.s, x.m)
}

// What was flushed counts no more.
func TestManyKeysInTheRuns(t *testing.T) {
	x := newSite(t, nil, nil)
	for range 3 {
		for _, c := range wide(x.m.end(), 800) {
			for i := range c.Ops {
				c.Ops[i].Key = fmt.Sprint(len(x.m.runs)) + c.Ops[i].Key[1:]
			}
			must(t, "Apply", x.apply(t, c))
		}
		must(t, "Flush", x.flush(t, x.m.end()))
	}
	wantTold(t, "flushed", x.s, x.m)
}

// The order of what refuses: out of bounds, nothing to do, too many keys, and only then the disk.
func TestFlushWhileTheDiskIsOff(t *testing.T) {
	for _, runs := range someRuns()[:6] {
		from := endOf(runs)
		x := newSite(t, runs, wide(from, 1025))
		end := x.m.end()
		must(t, "Pull", x.d.Pull())
		ahead := lookAt(x.d)
		for _, upto := range []int{from - 1, end + 1, math.MinInt, math.MaxInt} {
			want(t, "off: out of bounds", x.s.Flush(upto), api.ErrArg)
		}
		want(t, "off: the runs' end", x.s.Flush(from), api.OK)
		want(t, "off: too many keys", x.s.Flush(end), api.ErrLong)
		x.wantAsIs(t, "off", ahead)
		// None of these has asked the runs for a thing, so they are not broken.
		must(t, "Start", x.d.Start(0, 0))
		must(t, "Flush", x.flush(t, from+1))
		from++
		must(t, "Pull", x.d.Pull())
		ahead = lookAt(x.d)
		for _, upto := range []int{from + 1, end - 1} {
			want(t, "off: Flush", x.s.Flush(upto), api.ErrOff)
			x.wantAsIs(t, "off", ahead)
		}
		must(t, "Start", x.d.Start(0, 0))
		ahead = lookAt(x.d)
		for _, upto := range []int{from + 1, end - 1} {
			want(t, "on again: Flush", x.s.Flush(upto), api.ErrOff)
			x.wantAsIs(t, "on again", ahead)
		}
	}
}

// Where the runs are broken, more than 1,024 keys are refused as such still; what is in bounds and not too long with ErrOff.
func TestFlushToBrokenRuns(t *testing.T) {
	x := newSite(t, []api.Run{runWith(1, 5, put("a", "r"))}, wide(5, 1030))
	must(t, "Pull", x.d.Pull())
	want(t, "off", x.s.Flush(6), api.ErrOff)
	must(t, "Start", x.d.Start(0, 0))
	ahead := lookAt(x.d)
	for range 2 {
		want(t, "the runs' end less one", x.s.Flush(4), api.ErrArg)
		want(t, "one behind the end", x.s.Flush(x.m.end()+1), api.ErrArg)
		want(t, "the runs' end", x.s.Flush(5), api.OK)
		want(t, "too many keys", x.s.Flush(x.m.end()), api.ErrLong)
		want(t, "one", x.s.Flush(6), api.ErrOff)
		want(t, "1,024 keys", x.s.Flush(5+128), api.ErrOff)
		x.wantAsIs(t, "broken", ahead)
	}
	// It takes commits still.
	must(t, "Apply", x.apply(t, one(1, x.m.end()+1)))
	x.wantAsIs(t, "applied", ahead)
	x.wantAgain(t, "opened again")
}

// The disk goes off at each raw step of a flush: the store is as it was. Started again, the run stands, or it doesn't; a store that is opened of the runs and of what the log has behind them tells the same.
func TestFlushToADiskThatGoesOff(t *testing.T) {
	for _, runs := range someRuns() {
		end := endOf(runs)
		rest := behind(end, 1, 1, 2, 2, 2, 2, 3, 3)
		for _, count := range []int{1, 4, 8} {
			dry := newSite(t, runs, rest)
			ahead := dry.d.Steps()
			must(t, "Flush", dry.flush(t, end+count))
			steps := dry.d.Steps() - ahead
			for fuse := range steps {
				for k := range fuse + 1 {
					cutOff(t, runs, rest, count, fuse, k)
				}
			}
			x := newSite(t, runs, rest)
			must(t, "Fuse", x.d.Fuse(steps))
			must(t, "Flush, with a fuse that is long enough", x.flush(t, end+count))
			wantTold(t, "flushed", x.s, x.m)
		}
	}
}

func cutOff(t *testing.T, runs []api.Run, rest []api.Commit, count, fuse, k int) {
	t.Helper()
	x := newSite(t, runs, rest)
	upto := endOf(runs) + count
	what := fmt.Sprintf("runs up to %d, Flush(%d), fuse %d, %d kept", endOf(runs), upto, fuse, k)
	durable := lookAt(x.d).durable
	must(t, "Fuse", x.d.Fuse(fuse))
	want(t, what, x.s.Flush(upto), api.ErrOff)
	wantTold(t, what, x.s, x.m)
	wantRuns(t, what, x.r, runs)
	if now := lookAt(x.d); now.on || now.pending != fuse || now.durable != durable {
		t.Errorf("%s: %+v", what, now)
	}
	must(t, "Start", x.d.Start(k, 5))
	want(t, what+": again", x.s.Flush(upto), api.ErrOff)
	wantTold(t, what+": again", x.s, x.m)
	r := mustRuns(t, x.d)
	if r.End() == upto {
		must(t, "model", x.m.flush(upto))
	}
	wantRuns(t, what+": opened", r, x.m.runs)
	wantTold(t, what+": opened", mustOpen(t, r, x.m.rest), x.m)
	if t.Failed() {
		t.FailNow()
	}
}

// The greatest run, cut off at some of its raw steps.
func TestFlushOfTheGreatestRunCutOff(t *testing.T) {
	rest := wide(2, keysMax)
	runs := []api.Run{runWith(1, 2, put("a", "r"))}
	dry := newSite(t, runs, rest)
	ahead := dry.d.Steps()
	must(t, "Flush", dry.flush(t, dry.m.end()))
	steps := dry.d.Steps() - ahead
	if steps < 600 {
		t.Errorf("it took %d raw steps", steps)
	}
	for fuse := range steps {
		x := newSite(t, runs, rest)
		must(t, "Fuse", x.d.Fuse(fuse))
		want(t, "Flush", x.s.Flush(x.m.end()), api.ErrOff)
		if x.s.End() != x.m.end() || x.s.Rest() != len(rest) || x.r.End() != 2 || x.d.Pending() != fuse {
			t.Fatalf("fuse %d: End %d, Rest %d, the runs' end %d, %d pending", fuse, x.s.End(), x.s.Rest(), x.r.End(), x.d.Pending())
		}
		if fuse%150 == 0 || fuse == steps-1 {
			wantTold(t, "cut off", x.s, x.m)
		}
	}
}

// P14.5

// compositions lists each way to come from 0 to count in steps.
func compositions(count int) [][]int {
	if count == 0 {
		return [][]int{nil}
	}
	var l [][]int
	for first := 1; first <= count; first++ {
		for _, way := range compositions(count - first) {
			l = append(l, append([]int{first}, way...))
		}
	}
	return l
}

// A log that is flushed in each way tells the same, ahead of and behind each flush.
func TestEachWayToFlush(t *testing.T) {
	log := behind(0, 1, 1, 2, 2, 2, 5, 5, 5)
	whole := &model{rest: log}
	for _, way := range compositions(len(log)) {
		x := newSite(t, nil, log)
		for _, count := range way {
			must(t, "Flush", x.flush(t, endOf(x.m.runs)+count))
			wantTold(t, fmt.Sprint(way), x.s, x.m)
			wantPairs(t, fmt.Sprint(way), x.s.All(), whole.pairs())
			// That puts the disk off and on, in none of the runs' calls: they are not broken.
			x.wantAgain(t, fmt.Sprint(way, ", opened again"))
		}
		wantRuns(t, fmt.Sprint(way), x.r, x.m.runs)
	}
}

// acts lists what is done in a script: a commit is applied, or so many more are flushed.
func acts() []func(t *testing.T, x site) api.Errno {
	apply := func(ops ...api.Op) func(t *testing.T, x site) api.Errno {
		return func(t *testing.T, x site) api.Errno { return x.apply(t, with(1, x.m.end()+1, ops...)) }
	}
	return []func(t *testing.T, x site) api.Errno{
		apply(put("a", "1"), put("b", "1")),
		apply(del("a"), put("c", of(32)), put(of(16), of(32))),
		apply(del("b"), put("b", "2"), del("c"), put("a", "")),
		func(t *testing.T, x site) api.Errno { return x.flush(t, endOf(x.m.runs)+1) },
		func(t *testing.T, x site) api.Errno { return x.flush(t, endOf(x.m.runs)+2) },
		func(t *testing.T, x site) api.Errno { return x.flush(t, x.m.end()) },
		func(t *testing.T, x site) api.Errno { return x.flush(t, endOf(x.m.runs)-1) },
	}
}

// scripts lists all scripts of count acts, each told by its place in acts.
func scripts(count int) [][]int {
	all := [][]int{nil}
	for range count {
		var longer [][]int
		for _, script := range all {
			for a := range acts() {
				longer = append(longer, append(slices.Clone(script), a))
			}
		}
		all = longer
	}
	return all
}

// Each script of a few acts, looked at behind each one, and opened again at its end.
func TestEachShortScript(t *testing.T) {
	for _, script := range scripts(5) {
		x := newSite(t, nil, nil)
		var log []api.Commit
		for _, a := range script {
			ahead := pairsIn(x.s.All())
			e := acts()[a](t, x)
			if a < 3 {
				must(t, "Apply", e)
				log = append(log, x.m.rest[len(x.m.rest)-1])
				ahead = (&model{rest: log}).pairs()
			}
			wantPairs(t, "the fold of the whole log", x.s.All(), ahead)
			wantTold(t, "an act", x.s, x.m)
			if e != api.OK && e != api.ErrArg {
				t.Errorf("act %d: %d", a, e)
			}
		}
		wantRuns(t, "at the end", x.r, x.m.runs)
		x.wantAgain(t, "opened again")
		if t.Failed() {
			t.Fatalf("script %v", script)
		}
	}
}

// playCut plays a script at a disk that goes off behind fuse raw steps, and answers the whole log. It goes on behind that: commits are taken, flushes are refused.
func playCut(t *testing.T, script []int, fuse int) (site, []api.Commit) {
	t.Helper()
	x := newSite(t, nil, nil)
	must(t, "Fuse", x.d.Fuse(fuse))
	var log []api.Commit
	for _, a := range script {
		if a < 3 {
			must(t, "Apply", acts()[a](t, x))
			log = append(log, x.m.rest[len(x.m.rest)-1])
			wantTold(t, "applied", x.s, x.m)
			continue
		}
		upto := []int{endOf(x.m.runs) + 1, endOf(x.m.runs) + 2, x.m.end(), endOf(x.m.runs) - 1}[a-3]
		then := &model{x.m.runs, x.m.rest}
		wanted := then.flush(upto)
		did := x.s.Flush(upto)
		if did == api.ErrOff && wanted == api.OK && upto > endOf(x.m.runs) && !x.d.On() {
			then = x.m
		} else {
			want(t, "Flush", did, wanted)
		}
		*x.m = *then
		wantTold(t, "flushed, or cut off", x.s, x.m)
	}
	return x, log
}

// Each script of a few acts, cut off at each raw step, with each way in which the disk may keep what is pending.
func TestEachShortScriptCutOff(t *testing.T) {
	for _, script := range scripts(4) {
		whole, _ := playCut(t, script, math.MaxInt)
		for fuse := range whole.d.Steps() {
			for k := range 4 {
				x, log := playCut(t, script, fuse)
				if k > x.d.Pending() {
					break
				}
				must(t, "Start", x.d.Start(k, 9))
				// The run that was cut off stands, or it doesn't.
				r := mustRuns(t, x.d)
				if r.End() < endOf(x.m.runs) || r.End() > len(log) {
					t.Fatalf("script %v, fuse %d, %d kept: the runs' end is %d", script, fuse, k, r.End())
				}
				again := site{x.d, r, mustOpen(t, r, log[r.End():]), &model{r.List(), log[r.End():]}}
				wantTold(t, "opened again", again.s, again.m)
				wantPairs(t, "the fold of the whole log", again.s.All(), (&model{rest: log}).pairs())
				must(t, "Flush", again.flush(t, len(log)))
				wantPairs(t, "flushed", again.s.All(), (&model{rest: log}).pairs())
				// The one over the broken runs is as it was.
				wantTold(t, "the broken one", x.s, x.m)
				if t.Failed() {
					t.Fatalf("script %v, fuse %d, %d kept", script, fuse, k)
				}
			}
		}
	}
}

// turn is a plain row of numbers, the same at each run.
type turn uint32

func (r *turn) below(n int) int {
	*r = *r*1664525 + 1013904223
	return int(*r>>8) % n
}

// mixedOps answers a batch that may be, on few keys.
func mixedOps(r *turn) []api.Op {
	var l []api.Op
	for range 1 + r.below(8) {
		key := []string{"\x00", "a", "ab", "abc", "b", "c", "cc", "d", "\xff", of(16)}[r.below(10)]
		if r.below(3) == 0 {
			l = append(l, del(key))
			continue
		}
		l = append(l, put(key, strings.Repeat("v", r.below(4))+fmt.Sprint(r.below(100))))
	}
	return l
}

// Long mixed scripts, with commits that are refused, power cuts on the way, and stores that are opened again.
func TestMixedScripts(t *testing.T) {
	r := turn(145)
	cuts, stood := 0, 0
	for range 250 {
		x := newSite(t, nil, nil)
		var log []api.Commit
		epoch := 1
		for range 60 {
			switch r.below(9) {
			case 0, 1, 2, 3:
				epoch += r.below(5) / 4
				c := with(epoch, x.m.end()+1, mixedOps(&r)...)
				if x.apply(t, c) == api.OK {
					log = append(log, c)
				}
			case 4:
				x.apply(t, with(epoch, x.m.end()+r.below(3), mixedOps(&r)...))
				log = slices.Concat(log[:endOf(x.m.runs)], x.m.rest)
			case 5, 6:
				x.flush(t, endOf(x.m.runs)-1+r.below(len(x.m.rest)+3))
			case 7:
				x.wantAgain(t, "opened again")
				x.r = mustRuns(t, x.d)
				x.s = mustOpen(t, x.r, log[x.r.End():])
			case 8:
				must(t, "Fuse", x.d.Fuse(r.below(4)))
				if len(x.m.rest) == 0 || x.s.Flush(x.m.end()) == api.OK {
					x.m.flush(x.m.end())
					must(t, "Safe", x.d.Safe())
					continue
				}
				wantTold(t, "cut off", x.s, x.m)
				cuts++
				must(t, "Start", x.d.Start(r.below(5), r.below(64)))
				x.r = mustRuns(t, x.d)
				if x.r.End() == x.m.end() {
					x.m.flush(x.m.end())
					stood++
				}
				x.s = mustOpen(t, x.r, log[x.r.End():])
			}
			wantTold(t, "an act", x.s, x.m)
			wantPairs(t, "the fold of the whole log", x.s.All(), (&model{rest: log}).pairs())
			wantRuns(t, "an act", x.r, x.m.runs)
			if t.Failed() {
				return
			}
		}
	}
	if cuts < 50 || stood < 10 {
		t.Errorf("%d were cut off, %d stood", cuts, stood)
	}
}

// A long log, flushed now and then.
func TestALongLog(t *testing.T) {
	r := turn(146)
	x := newSite(t, nil, nil)
	var log []api.Commit
	for n := 1; n <= 4000; n++ {
		c := with(1+n/500, n, mixedOps(&r)...)
		must(t, "Apply", x.s.Apply(c))
		log = append(log, c)
		if r.below(20) == 0 {
			must(t, "Flush", x.s.Flush(n-r.below(x.s.Rest())))
		}
		if x.s.End() != n || x.s.Rest() != n-x.r.End() {
			t.Fatalf("End %d, Rest %d, the runs' end %d; not %d", x.s.End(), x.s.Rest(), x.r.End(), n)
		}
		if n%400 == 0 {
			wantPairs(t, "the fold of the whole log", x.s.All(), (&model{rest: log}).pairs())
		}
	}
	wantTold(t, "at the end", x.s, &model{x.r.List(), log[x.r.End():]})
	wantTold(t, "opened of the log alone", mustOpen(t, mustRuns(t, disk.New()), log), &model{rest: log})
}

// FuzzCalls plays bytes as calls, and holds a store against the second telling.
func FuzzCalls(f *testing.F) {
	f.Add([]byte{})
	f.Add([]byte{0, 1, 2, 3, 4, 5, 6, 7, 8, 9, 10, 11, 12, 13, 14, 15})
	f.Add([]byte{0, 0, 0, 5, 9, 0, 0, 13, 1, 2, 3, 200, 255, 7})
	f.Fuzz(func(t *testing.T, b []byte) {
		r := turn(147)
		x := newSite(t, nil, nil)
		for _, y := range b[:min(len(b), 60)] {
			switch n := int(y / 4); y % 4 {
			case 0, 1:
				x.apply(t, with(1+n/8, x.m.end()+n%8/6+1, mixedOps(&r)...))
			case 2:
				x.flush(t, endOf(x.m.runs)+n%6-1)
			case 3:
				x.apply(t, with(n-1, x.m.end()+n%3, slices.Repeat(mixedOps(&r), n%4)...))
			}
			wantTold(t, "an act", x.s, x.m)
		}
		wantRuns(t, "at the end", x.r, x.m.runs)
		x.wantAgain(t, "opened again")
	})
}
