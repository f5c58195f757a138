package take_test

import (
	"fmt"
	"math"
	"slices"
	"strconv"
	"strings"
	"testing"

	"lagleash/api"
	"lagleash/commit"
	"lagleash/letter"
	"lagleash/ship"
	"lagleash/take"
)

// The limits, as the document writes them.
const (
	most     = 1048576
	mostShip = 4
	mostOps  = 8
)

func put(key, value string) api.Op { return api.Op{Put: true, Key: key, Value: value} }

func del(key string) api.Op { return api.Op{Key: key} }

func of(count int) string { return strings.Repeat("k", count) }

func with(epoch, number int, ops ...api.Op) api.Commit {
	return api.Commit{Epoch: epoch, Number: number, Ops: ops}
}

// one is a commit with one to eight ops, which tell its number.
func one(epoch, number int) api.Commit {
	ops := []api.Op{put("n", strconv.Itoa(number))}
	for range number % mostOps {
		ops = append(ops, del("d"+strconv.Itoa(len(ops))))
	}
	return with(epoch, number, ops...)
}

// run lists commits with these epochs, one behind the other from that number on.
func run(first int, epochs ...int) []api.Commit {
	var l []api.Commit
	for at, epoch := range epochs {
		l = append(l, one(epoch, first+at))
	}
	return l
}

func logOf(epochs ...int) []api.Commit { return run(1, epochs...) }

// example is the log of the chapter's examples.
func example() []api.Commit { return logOf(1, 1, 3) }

// begin makes starts of pairs: an epoch, its first number.
func begin(pairs ...int) []api.Start {
	var l []api.Start
	for at := 0; at < len(pairs); at += 2 {
		l = append(l, api.Start{Epoch: pairs[at], First: pairs[at+1]})
	}
	return l
}

// The kinds and roles are written as the document numbers them.

func hello(epoch int, role api.Role, end int, l ...api.Start) api.Message {
	return api.Message{Kind: 1, Epoch: epoch, Role: role, End: end, Starts: l}
}

func shipped(epoch, from, prev int, l ...api.Commit) api.Message {
	return api.Message{Kind: 2, Epoch: epoch, From: from, Prev: prev, Commits: l}
}

func ack(epoch, end int) api.Message { return api.Message{Kind: 3, Epoch: epoch, End: end} }

// piece is the ship of so many commits of a log, from that number on.
func piece(epoch int, l []api.Commit, from, count int) api.Message {
	m := shipped(epoch, from, 0, l[from-1:from-1+count]...)
	if from > 1 {
		m.Prev = l[from-2].Epoch
	}
	return m
}

func alike(a, b api.Commit) bool {
	return a.Epoch == b.Epoch && a.Number == b.Number && slices.Equal(a.Ops, b.Ops)
}

func alikeLists(a, b []api.Commit) bool { return slices.EqualFunc(a, b, alike) }

// The second telling of the layer: the chapter's words one by one, each thing found by going through all commits.

func within(x, least, greatest int) bool { return least <= x && x <= greatest }

func opMayBe(o api.Op) bool {
	return within(len(o.Key), 1, 16) && len(o.Value) <= 32 && (o.Put || o.Value == "")
}

func refusalOfCommit(c api.Commit) api.Errno {
	switch {
	case !within(c.Epoch, 1, most), !within(c.Number, 1, most), len(c.Ops) == 0:
		return api.ErrArg
	case len(c.Ops) > mostOps:
		return api.ErrLong
	case slices.ContainsFunc(c.Ops, func(o api.Op) bool { return !opMayBe(o) }):
		return api.ErrArg
	}
	return api.OK
}

// refusalOfList tells why l does not follow the end epoch, number.
func refusalOfList(epoch, number int, l []api.Commit) api.Errno {
	for at, c := range l {
		if e := refusalOfCommit(c); e != api.OK {
			return e
		}
		if at > 0 {
			epoch, number = l[at-1].Epoch, l[at-1].Number
		}
		if c.Number-number != 1 || c.Epoch < epoch {
			return api.ErrOrder
		}
	}
	return api.OK
}

func startsMayBe(l []api.Start, end, epoch int) bool {
	if !within(end, 0, most) || (len(l) == 0) != (end == 0) {
		return false
	}
	for at, s := range l {
		if !within(s.Epoch, 1, epoch) || !within(s.First, 1, end) {
			return false
		}
		if at == 0 && s.First != 1 || at > 0 && (s.Epoch <= l[at-1].Epoch || s.First <= l[at-1].First) {
			return false
		}
	}
	return true
}

func messageMayBe(m api.Message) bool {
	if !within(m.Epoch, 1, most) {
		return false
	}
	noHello := m.Role == 0 && len(m.Starts) == 0
	noShip := m.From == 0 && m.Prev == 0 && len(m.Commits) == 0
	switch m.Kind {
	case 1:
		return noShip && within(int(m.Role), 1, 3) && startsMayBe(m.Starts, m.End, m.Epoch)
	case 2:
		return noHello && m.End == 0 && within(m.From, 1, most) && within(m.Prev, 0, m.Epoch) && (m.Prev == 0) == (m.From == 1) &&
			len(m.Commits) <= mostShip && refusalOfList(m.Prev, m.From-1, m.Commits) == api.OK &&
			!slices.ContainsFunc(m.Commits, func(c api.Commit) bool { return c.Epoch > m.Epoch })
	case 3:
		return noHello && noShip && within(m.End, 0, most)
	}
	return false
}

func fitsTold(log []api.Commit, m api.Message) bool {
	ahead := m.From == 1 && m.Prev == 0
	for _, c := range log {
		if c.Number == m.From-1 {
			ahead = c.Epoch == m.Prev
		}
		for _, other := range m.Commits {
			if other.Number == c.Number && other.Epoch != c.Epoch {
				return false
			}
		}
	}
	return ahead
}

func takeTold(epoch int, log []api.Commit, m api.Message) ([]api.Commit, api.Errno) {
	if e := refusalOfList(0, 0, log); e != api.OK {
		return nil, e
	}
	switch {
	case !messageMayBe(m), m.Kind != 2:
		return nil, api.ErrArg
	case m.Epoch < epoch:
		return nil, api.ErrStale
	case m.Epoch > epoch:
		return nil, api.ErrArg
	case m.From-len(log) > 1:
		return nil, api.ErrGap
	case !fitsTold(log, m):
		return nil, api.ErrFork
	}
	return slices.DeleteFunc(slices.Clone(m.Commits), func(c api.Commit) bool { return c.Number <= len(log) }), api.OK
}

func knownTold(epoch, known int, m api.Message) (int, bool, api.Errno) {
	switch {
	case !messageMayBe(m):
		return 0, false, api.ErrArg
	case m.Epoch < epoch:
		return 0, false, api.ErrStale
	case m.Epoch > epoch:
		return 0, false, api.ErrArg
	}
	tells := m.Kind == 3 || m.Kind == 1 && m.Role == 2
	switch {
	case tells && m.End > known:
		return m.End, true, api.OK
	case !tells && known < 0:
		return 0, false, api.OK
	}
	return known, tells, api.OK
}

// What is asked of the calls, mostly very often: the first failure of a test tells enough.

// short writes anything in at most a few lines: a log may be very long.
func short(x any) string { return fmt.Sprintf("%.400q", fmt.Sprintf("%+v", x)) }

// wantTaken: just these commits are told, they follow the log, and the same ship behind them brings nothing more.
func wantTaken(t *testing.T, what string, epoch int, log []api.Commit, m api.Message, l ...api.Commit) {
	t.Helper()
	now, e := take.Take(epoch, log, m)
	if e != api.OK || !alikeLists(now, l) {
		t.Fatalf("%s: %s, %d, not %s", what, short(now), e, short(l))
	}
	both := slices.Concat(log, now)
	if f := commit.Follows(0, 0, both); f != (api.Fault{}) {
		t.Fatalf("%s: %s does not follow: %v", what, short(now), f)
	}
	if again, e := take.Take(epoch, both, m); e != api.OK || len(again) != 0 {
		t.Fatalf("%s: the same ship again: %s, %d", what, short(again), e)
	}
}

func wantRefused(t *testing.T, what string, epoch int, log []api.Commit, m api.Message, right api.Errno) {
	t.Helper()
	if now, e := take.Take(epoch, log, m); e != right || len(now) != 0 {
		t.Fatalf("Take: %s: %s, %d, not %d", what, short(now), e, right)
	}
}

func wantKnown(t *testing.T, what string, epoch, known int, m api.Message, end int, told bool) {
	t.Helper()
	if now, tells, e := take.Known(epoch, known, m); e != api.OK || now != end || tells != told {
		t.Fatalf("%s, known %d: %d, %t, %d, not %d, %t", what, known, now, tells, e, end, told)
	}
}

func wantUnknown(t *testing.T, what string, epoch, known int, m api.Message, right api.Errno) {
	t.Helper()
	if now, tells, e := take.Known(epoch, known, m); e != right || now != 0 || tells {
		t.Fatalf("Known: %s, known %d: %d, %t, %d, not %d", what, known, now, tells, e, right)
	}
}

// wantAsTold: both calls tell what the second telling tells, and which message may be is told as by letter.
func wantAsTold(t *testing.T, epoch int, log []api.Commit, m api.Message, known int) {
	t.Helper()
	if right := letter.Check(m) == api.OK; right != messageMayBe(m) {
		t.Fatalf("%s: the second telling tells %t, letter %t", short(m), messageMayBe(m), right)
	}
	now, e := take.Take(epoch, log, m)
	if l, right := takeTold(epoch, log, m); e != right || !alikeLists(now, l) {
		t.Fatalf("Take(%d, %s, %s): %s, %d, not %s, %d", epoch, short(log), short(m), short(now), e, short(l), right)
	}
	end, tells, e := take.Known(epoch, known, m)
	if n, told, right := knownTold(epoch, known, m); e != right || end != n || tells != told {
		t.Fatalf("Known(%d, %d, %s): %d, %t, %d, not %d, %t, %d", epoch, known, short(m), end, tells, e, n, told, right)
	}
}

// edges lists numbers at the bounds of what is a number, on both sides of them, and such as would be within them, cut down to fewer bits.
func edges() []int {
	return []int{
		math.MinInt, math.MinInt + 1, -1<<32 + 1, -1 << 32, -most, -2, -1, 0, 1, 2, 3, 4, 5, 6, 7,
		most - 4, most - 1, most, most + 1, 1 << 31, 1<<32 + 1, 1<<32 + 3, math.MaxInt - 1, math.MaxInt,
	}
}

// odd lists ops at the edges of those that may be.
func odd() []api.Op {
	return []api.Op{put("a", ""), put("\x00", "\xff"), put(of(16), of(32)), del(of(16)), del("\xff"), put("a", "1"), put("a", "1"), del("a")}
}

// logs lists logs that may be, with epochs up to 9.
func logs() [][]api.Commit {
	return [][]api.Commit{
		nil,
		{},
		logOf(1),
		logOf(9),
		logOf(1, 1),
		logOf(1, 2),
		logOf(2, 5, 9),
		logOf(1, 1, 1, 1),
		logOf(1, 1, 1, 1, 2),
		logOf(1, 2, 3, 4, 5, 6, 7, 8, 9),
		logOf(3, 3, 3, 4, 4, 4, 4, 4, 4, 7, 7, 9),
		example(),
		logOf(slices.Repeat([]int{1}, 17)...),
		{with(1, 1, odd()...), with(1, 2, odd()[:1]...), with(4, 3, odd()[2:4]...), with(4, 4, odd()[7:]...), with(4, 5, slices.Repeat(odd()[2:3], 8)...)},
	}
}

// pieces lists all ships of a log, of no commit up to four.
func pieces(epoch int, l []api.Commit) []api.Message {
	var list []api.Message
	for from := 1; from <= len(l)+1; from++ {
		for count := range min(mostShip, len(l)+1-from) + 1 {
			list = append(list, piece(epoch, l, from, count))
		}
	}
	return list
}

func TestLimits(t *testing.T) {
	if api.MaxNumber != most || api.MaxShip != mostShip || api.MaxOps != mostOps {
		t.Errorf("%d %d %d", api.MaxNumber, api.MaxShip, api.MaxOps)
	}
	if api.Primary != 1 || api.Replica != 2 || api.Deposed != 3 || api.Hello != 1 || api.Ship != 2 || api.Ack != 3 {
		t.Error("the roles and the kinds are numbered otherwise")
	}
	for e, right := range map[api.Errno]int{api.ErrArg: 2, api.ErrLong: 3, api.ErrStale: 12, api.ErrGap: 13, api.ErrFork: 14, api.ErrOrder: 15} {
		if int(e) != right {
			t.Errorf("%d, not %d", e, right)
		}
	}
}

// The chapter's examples.
func TestExamples(t *testing.T) {
	l := example()
	first := shipped(3, 3, 1, one(3, 3), one(3, 4))
	wantTaken(t, "from 3 on", 3, l, first, one(3, 4))
	wantTaken(t, "from 4 on, none", 3, l, shipped(3, 4, 3))
	wantRefused(t, "from 5 on", 3, l, shipped(3, 5, 3, one(3, 5)), api.ErrGap)
	wantRefused(t, "from 5 on, none", 3, l, shipped(3, 5, 3), api.ErrGap)
	wantRefused(t, "from 4 on, behind the epoch 2", 3, l, shipped(3, 4, 2, one(3, 4)), api.ErrFork)
	wantRefused(t, "from 4 on, behind the epoch 2, none", 3, l, shipped(3, 4, 2), api.ErrFork)
	wantRefused(t, "from 2 on, of the epoch 3", 3, l, shipped(3, 2, 1, one(3, 2)), api.ErrFork)
	wantRefused(t, "in the epoch 4", 4, l, first, api.ErrStale)
	// Of the epoch 2 it may not be, as it has commits of the epoch 3; in the epoch 2 it is too early.
	wantRefused(t, "of the epoch 2", 3, l, shipped(2, 3, 1, one(3, 3), one(3, 4)), api.ErrArg)
	wantRefused(t, "in the epoch 2", 2, l, first, api.ErrArg)
	wantKnown(t, "an ack", 3, -1, ack(3, 2), 2, true)
	wantKnown(t, "an ack", 3, 5, ack(3, 2), 5, true)
	wantKnown(t, "a hello of a Deposed", 3, 5, hello(3, 3, 0), 5, false)
	wantKnown(t, "a hello of a Deposed with a log", 3, 5, hello(3, 3, 7, begin(1, 1)...), 5, false)
}

// DOC.md's examples of the whole, as far as they speak of what is taken: the second, the fourth and the sixth one.
func TestExamplesOfTheWhole(t *testing.T) {
	l := []api.Commit{with(1, 1, put("a", "1")), with(1, 2, put("b", "2"))}
	wantKnown(t, "the replica's hello", 1, -1, hello(1, 2, 0), 0, true)
	wantTaken(t, "the ship", 1, nil, shipped(1, 1, 0, l...), l...)
	wantKnown(t, "the ack", 1, 0, ack(1, 2), 2, true)
	promoted := with(2, 3, put("a", "9"))
	wantTaken(t, "behind a reconciliation", 2, l, shipped(2, 3, 1, promoted), promoted)
	wantRefused(t, "ahead of one", 2, append(slices.Clone(l), with(1, 3, put("c", "3"))), shipped(2, 3, 1, promoted), api.ErrFork)
	wantRefused(t, "a letter of the epoch 1", 2, l, shipped(1, 3, 1, with(1, 3, put("c", "3"))), api.ErrStale)
	wantUnknown(t, "a letter of the epoch 1", 2, 2, ack(1, 3), api.ErrStale)
}

// P18.1, its errors

// wrong is a commit that may not stand at a place, and why.
type wrong struct {
	what string
	c    api.Commit
	e    api.Errno
}

// wrongs lists commits that may not stand behind the end epoch, number.
func wrongs(epoch, number int) []wrong {
	next, fine := number+1, put("a", "1")
	nine := slices.Repeat([]api.Op{fine}, mostOps+1)
	l := []wrong{
		{"nothing of a commit", api.Commit{}, api.ErrArg},
		{"no ops", with(epoch+1, next), api.ErrArg},
		{"no ops, not nil", api.Commit{Epoch: epoch + 1, Number: next, Ops: []api.Op{}}, api.ErrArg},
		{"nine ops", with(epoch+1, next, nine...), api.ErrLong},
		{"nine ops, none of which may be", with(epoch+1, next, make([]api.Op, mostOps+1)...), api.ErrLong},
		{"nine ops, and out of order", with(epoch+1, next+1, nine...), api.ErrLong},
		{"nine ops, and no epoch", with(0, next, nine...), api.ErrArg},
		{"nine ops, and no number", with(epoch+1, most+1, nine...), api.ErrArg},
		{"no ops, and out of order", with(epoch+1, next+1), api.ErrArg},
		{"a number too great by one", with(epoch+1, next+1, fine), api.ErrOrder},
		{"a number too great by two", with(epoch+1, next+2, fine), api.ErrOrder},
		{"the greatest number", with(epoch+1, most, fine), api.ErrOrder},
	}
	for _, bad := range []int{0, -1, math.MinInt, most + 1, 1<<32 + 1, math.MaxInt} {
		what := " " + strconv.Itoa(bad)
		l = append(l, wrong{"the epoch" + what, with(bad, next, fine), api.ErrArg}, wrong{"the number" + what, with(epoch+1, bad, fine), api.ErrArg})
	}
	for _, o := range []api.Op{{}, put("", "1"), put(of(17), ""), put("k", of(33)), del(of(17)), {Key: "k", Value: "v"}} {
		l = append(l, wrong{"an op that may not be", with(epoch+1, next, o), api.ErrArg}, wrong{"one behind others", with(epoch+1, next, fine, fine, o), api.ErrArg})
	}
	if number > 0 {
		l = append(l, wrong{"the number once more", with(epoch+1, number, fine), api.ErrOrder}, wrong{"an epoch that falls", with(epoch-1, next, fine), api.ErrOrder},
			wrong{"an epoch that falls to 1", with(1, next, fine), api.ErrOrder})
	}
	if number > 1 {
		l = append(l, wrong{"a number too low by two", with(epoch+1, number-1, fine), api.ErrOrder}, wrong{"the first one again", with(epoch+1, 1, fine), api.ErrOrder})
	}
	return l
}

// fault is a log that does not follow the end 0, 0, and why.
type fault struct {
	what string
	log  []api.Commit
	e    api.Errno
}

// faults lists logs with one commit that may not stand there, the first one, a middle one or the last one; the others would follow.
func faults() []fault {
	var list []fault
	for _, epochs := range [][]int{{4}, {3, 4}, {3, 3, 3}, {2, 3, 5, 5, 6, 6, 6}} {
		for at := range epochs {
			ahead := 0
			if at > 0 {
				ahead = epochs[at-1]
			}
			for _, w := range wrongs(ahead, at) {
				l := logOf(epochs...)
				l[at] = w.c
				list = append(list, fault{w.what + " at " + strconv.Itoa(at) + " of " + strconv.Itoa(len(l)), l, w.e})
			}
		}
	}
	return list
}

// anyMessages lists some of each kind, those that would be taken, that leave a gap, that do not fit, and that may not be.
func anyMessages() []api.Message {
	return []api.Message{
		{}, hello(6, 1, 0), hello(6, 2, 3, begin(1, 1, 4, 2)...), ack(6, 0), ack(6, 7), {Kind: 4, Epoch: 6}, shipped(6, 1, 0), shipped(6, 1, 0, one(2, 1), one(3, 2)),
		shipped(6, 1, 0, one(3, 1)), shipped(6, 2, 3, one(3, 2)), shipped(6, 2, 1), shipped(6, 8, 6), shipped(6, 8, 6, one(6, 8)), shipped(6, 9, 6), shipped(6, most, 6),
		shipped(6, 0, 0), shipped(6, 1, 1), shipped(6, 3, 0), shipped(0, 1, 0), shipped(6, 1, 0, logOf(1, 1, 1, 1, 1)...),
	}
}

// A log that does not follow, alone and ahead of each other error.
func TestALogThatDoesNotFollow(t *testing.T) {
	for _, f := range faults() {
		if e := commit.Follows(0, 0, f.log).Err; e != f.e {
			t.Fatalf("%s: commit.Follows tells %d, not %d", f.what, e, f.e)
		}
		for _, m := range anyMessages() {
			for _, epoch := range []int{math.MinInt, 0, 5, 6, 7, math.MaxInt} {
				wantRefused(t, f.what, epoch, f.log, m, f.e)
			}
		}
	}
}

// Of several faults the first one counts.
func TestALogWithSeveralFaults(t *testing.T) {
	nine := slices.Repeat([]api.Op{put("a", "1")}, mostOps+1)
	for what, c := range map[string]struct {
		log []api.Commit
		e   api.Errno
	}{
		"order, then ops":        {[]api.Commit{one(1, 1), one(1, 3), with(1, 3, nine...)}, api.ErrOrder},
		"ops, then order":        {[]api.Commit{one(1, 1), with(1, 2, nine...), one(1, 5)}, api.ErrLong},
		"epoch, then ops":        {[]api.Commit{one(0, 1), with(1, 2, nine...)}, api.ErrArg},
		"ops, then epoch":        {[]api.Commit{with(1, 1, nine...), one(0, 2)}, api.ErrLong},
		"order, then no commit":  {[]api.Commit{one(2, 1), one(1, 2), {}}, api.ErrOrder},
		"no commit, then order":  {[]api.Commit{{}, one(2, 1), one(1, 2)}, api.ErrArg},
		"order at once, and ops": {[]api.Commit{one(1, 2), with(1, 3, nine...)}, api.ErrOrder},
	} {
		for _, m := range anyMessages() {
			wantRefused(t, what, 6, c.log, m, c.e)
		}
	}
}

// That a commit of the log is of a higher epoch than the replica's is no fault of the log.
func TestALogOfAHigherEpoch(t *testing.T) {
	wantTaken(t, "in the epoch 2", 2, logOf(1, 1, 3), shipped(2, 2, 1, one(1, 2)))
	wantTaken(t, "in the epoch 1", 1, logOf(1, 9), shipped(1, 1, 0))
	wantTaken(t, "in the epoch 1", 1, logOf(1, most), shipped(1, 2, 1))
	wantRefused(t, "its last commit is ahead", 2, logOf(1, 1, 3), shipped(2, 4, 2), api.ErrFork)
	wantRefused(t, "its last commit is another one", 2, logOf(1, 1, 3), shipped(2, 3, 1, one(2, 3)), api.ErrFork)
}

// bad is a message that may not be.
type bad struct {
	what string
	m    api.Message
}

// badShips lists ships of the epoch 3 that would be taken behind the chapter's log, but that may not be.
func badShips() []bad {
	good := func() api.Message { return shipped(3, 3, 1, one(3, 3), one(3, 4)) }
	changed := func(what string, change func(m *api.Message)) bad {
		m := good()
		change(&m)
		return bad{what, m}
	}
	list := []bad{
		changed("a role", func(m *api.Message) { m.Role = 2 }),
		changed("an end", func(m *api.Message) { m.End = 1 }),
		changed("an end below 0", func(m *api.Message) { m.End = -1 }),
		changed("starts", func(m *api.Message) { m.Starts = begin(1, 1) }),
		changed("no prev", func(m *api.Message) { m.Prev = 0 }),
		changed("a prev below 0", func(m *api.Message) { m.Prev = -1 }),
		changed("a prev above its epoch", func(m *api.Message) { m.Prev = 4 }),
		changed("no from", func(m *api.Message) { m.From = 0 }),
		changed("a from that its commits don't follow", func(m *api.Message) { m.From = 4 }),
		changed("a from that is its last commit", func(m *api.Message) { m.Commits = m.Commits[1:] }),
		changed("a commit left out", func(m *api.Message) { m.Commits = []api.Commit{one(3, 3), one(3, 5)} }),
		changed("a commit twice", func(m *api.Message) { m.Commits = []api.Commit{one(3, 3), one(3, 3)} }),
		changed("an epoch that falls", func(m *api.Message) { m.Commits[1].Epoch = 2 }),
		changed("an epoch above its own", func(m *api.Message) { m.Commits[1].Epoch = 4 }),
		changed("five commits", func(m *api.Message) { m.Commits = run(3, 3, 3, 3, 3, 3) }),
		changed("very many commits", func(m *api.Message) { m.Commits = run(3, slices.Repeat([]int{3}, 500)...) }),
		changed("no epoch", func(m *api.Message) { m.Epoch = 0 }),
		{"prev 1 at from 1", shipped(3, 1, 1)},
		{"prev 1 at from 1, with commits", shipped(3, 1, 1, one(1, 1))},
		{"prev 0 behind the end", shipped(3, 4, 0)},
		{"from 0", shipped(3, 0, 0)},
		{"from -1", shipped(3, -1, 1)},
		{"the least from", shipped(3, math.MinInt, 1)},
		{"from above the greatest number", shipped(3, most+1, 1)},
		{"the greatest from", shipped(3, math.MaxInt, 1)},
		{"a commit above the greatest number", shipped(3, most, 3, one(3, most), one(3, most+1))},
	}
	// Most of these are of the epoch 3, and have the number 4.
	for _, w := range wrongs(2, 3) {
		list = append(list, changed(w.what, func(m *api.Message) { m.Commits[1] = w.c }))
	}
	return list
}

// noShips lists messages that are no ship, such as may be and such as may not.
func noShips() []bad {
	return []bad{
		{"nothing of a message", api.Message{}},
		{"an ack", ack(3, 2)},
		{"an ack of 0", ack(3, 0)},
		{"an ack of the greatest number", ack(3, most)},
		{"a hello of a primary", hello(3, 1, 0)},
		{"a hello of a replica", hello(3, 2, 3, begin(1, 1, 3, 3)...)},
		{"a hello of a deposed one", hello(3, 3, 2, begin(1, 1)...)},
		{"an ack with what a ship has", api.Message{Kind: 3, Epoch: 3, From: 4, Prev: 3}},
		{"an ack below 0", ack(3, -1)},
		{"an ack above the greatest number", ack(3, most+1)},
		{"a hello with what a ship has", api.Message{Kind: 1, Epoch: 3, Role: 2, From: 4, Prev: 3}},
		{"a hello without a role", hello(3, 0, 0)},
		{"a hello of the role 4", hello(3, 4, 0)},
		{"a hello with an end alone", hello(3, 2, 1)},
		{"the kind 0", api.Message{Epoch: 3, From: 4, Prev: 3}},
		{"the kind 4", api.Message{Kind: 4, Epoch: 3, From: 4, Prev: 3}},
		{"the kind -1", api.Message{Kind: -1, Epoch: 3, From: 4, Prev: 3}},
		{"the kind 258", api.Message{Kind: 258, Epoch: 3, From: 4, Prev: 3}},
		{"the least kind", api.Message{Kind: math.MinInt, Epoch: 3, From: 4, Prev: 3}},
		{"the greatest kind", api.Message{Kind: math.MaxInt, Epoch: 3, From: 4, Prev: 3}},
	}
}

// A ship that may not be, or none, alone and ahead of ErrStale, ErrGap and ErrFork.
func TestAMessageThatIsNoShip(t *testing.T) {
	for _, b := range badShips() {
		if letter.Check(b.m) != api.ErrArg {
			t.Fatalf("%s: it may be", b.what)
		}
	}
	for _, b := range append(badShips(), noShips()...) {
		for _, epoch := range edges() {
			for _, l := range [][]api.Commit{nil, {}, logOf(1), logOf(2), logOf(1, 1), logOf(1, 2), example(), logOf(1, 1, 2), logOf(2, 2, 2, 2), logOf(1, 1, 3, 3, 3, 3)} {
				wantRefused(t, b.what, epoch, l, b.m, api.ErrArg)
			}
		}
	}
}

// A ship of another epoch, alone and ahead of ErrGap and ErrFork.
func TestAnotherEpoch(t *testing.T) {
	l := example()
	ships := func(epoch int) []bad {
		return []bad{
			{"it would be taken", shipped(epoch, 3, 1, one(3, 3), one(3, 4))},
			{"it brings nothing", shipped(epoch, 4, 3)},
			{"it brings nothing from 1 on", shipped(epoch, 1, 0)},
			{"a gap", shipped(epoch, 5, 3)},
			{"a great gap", shipped(epoch, most, 3)},
			{"another prev", shipped(epoch, 4, 2)},
			{"another commit", shipped(epoch, 2, 1, one(3, 2))},
		}
	}
	errors := []api.Errno{api.OK, api.OK, api.OK, api.ErrGap, api.ErrGap, api.ErrFork, api.ErrFork}
	for _, epoch := range []int{3, 4, 7, most - 1, most} {
		for at, s := range ships(epoch) {
			for _, own := range []int{epoch + 1, epoch + 2, most + 1, 1 << 32, 1<<32 + epoch, math.MaxInt - 1, math.MaxInt} {
				wantRefused(t, s.what+", the epoch is "+strconv.Itoa(own), own, l, s.m, api.ErrStale)
			}
			for _, own := range []int{epoch - 1, epoch - 2, 1, 0, -1, -epoch, -most, epoch - 1<<32, math.MinInt, math.MinInt + 1} {
				wantRefused(t, s.what+", the epoch is "+strconv.Itoa(own), own, l, s.m, api.ErrArg)
			}
			if _, e := take.Take(epoch, l, s.m); e != errors[at] {
				t.Fatalf("%s, the epoch is its own, %d: %d, not %d", s.what, epoch, e, errors[at])
			}
		}
	}
	// The least epoch that a ship has.
	for own, right := range map[int]api.Errno{math.MinInt: api.ErrArg, -1: api.ErrArg, 0: api.ErrArg, 1: api.OK, 2: api.ErrStale, math.MaxInt: api.ErrStale} {
		wantRefused(t, "of the epoch 1, in the epoch "+strconv.Itoa(own), own, logOf(1), shipped(1, 2, 1), right)
		wantRefused(t, "of the epoch 1, in the epoch "+strconv.Itoa(own), own, nil, shipped(1, 1, 0), right)
	}
}

// From at the log's end, one above it, two above it and further; a ship behind a gap does not fit, whatever its Prev.
func TestAGap(t *testing.T) {
	for _, l := range logs() {
		end, last := len(l), 0
		if end > 0 {
			last = l[end-1].Epoch
		}
		wantTaken(t, "from 1 on", 9, l, shipped(9, 1, 0))
		if end > 0 {
			wantTaken(t, "one above the end", 9, l, shipped(9, end+1, last))
			wantTaken(t, "one above the end", 9, l, shipped(9, end+1, last, one(9, end+1)), one(9, end+1))
			wantTaken(t, "at the end", 9, l, piece(9, l, end, 0))
			wantTaken(t, "at the end", 9, l, piece(9, l, end, 1))
		}
		for _, from := range []int{end + 2, end + 3, end + 4, end + 5, end + 100, most - 1, most} {
			for prev := 1; prev <= 9; prev++ {
				wantRefused(t, "from "+strconv.Itoa(from)+" on", 9, l, shipped(9, from, prev), api.ErrGap)
				wantRefused(t, "from "+strconv.Itoa(from)+" on", 9, l, shipped(9, from, prev, one(9, from)), api.ErrGap)
			}
		}
	}
}

// Prev is the epoch of the commit ahead of the first one, wherever the ship begins, with commits and without.
func TestAForkByPrev(t *testing.T) {
	for _, l := range logs() {
		for from := 2; from <= len(l)+1; from++ {
			right := l[from-2].Epoch
			for prev := 1; prev <= 10; prev++ {
				for count := range min(mostShip, len(l)-from+1) + 1 {
					m := piece(10, l, from, count)
					m.Prev = prev
					what := "from " + strconv.Itoa(from) + " on, prev " + strconv.Itoa(prev) + " for " + strconv.Itoa(right)
					switch {
					case prev == right:
						wantTaken(t, what, 10, l, m)
					case count > 0 && prev > m.Commits[0].Epoch:
						wantRefused(t, what, 10, l, m, api.ErrArg)
					default:
						wantRefused(t, what, 10, l, m, api.ErrFork)
					}
				}
			}
		}
	}
}

// From 1 on no commit is ahead, whatever the log has.
func TestPrevOfTheFirstOne(t *testing.T) {
	for _, l := range logs() {
		wantTaken(t, "none", 9, l, shipped(9, 1, 0))
		for prev := 1; prev <= 9; prev++ {
			wantRefused(t, "prev "+strconv.Itoa(prev), 9, l, shipped(9, 1, prev), api.ErrArg)
		}
		count := min(mostShip, len(l))
		wantTaken(t, "its first ones", 9, l, piece(9, l, 1, count))
	}
	for count := range mostShip + 1 {
		l := logOf(2, 2, 3, 5)[:count]
		wantTaken(t, "all of it", 9, nil, shipped(9, 1, 0, l...), l...)
		wantTaken(t, "all of it", 9, []api.Commit{}, shipped(9, 1, 0, l...), l...)
	}
}

// One commit of a ship has another epoch than the log's, the first, a middle or the last one of those that the log has; with new ones behind them or not.
func TestAForkByACommit(t *testing.T) {
	l := logOf(2, 2, 4, 4, 4, 6, 6)
	for from := 1; from <= len(l); from++ {
		for count := 1; count <= mostShip; count++ {
			shared := min(count, len(l)-from+1)
			for at := range shared {
				for epoch := 1; epoch <= 9; epoch++ {
					m := piece(9, append(slices.Clone(l), run(8, 9, 9, 9, 9)...), from, count)
					m.Commits = slices.Clone(m.Commits)
					right := m.Commits[at].Epoch
					m.Commits[at].Epoch = epoch
					what := "from " + strconv.Itoa(from) + " on, " + strconv.Itoa(count) + " commits, the epoch " + strconv.Itoa(epoch) + " at " + strconv.Itoa(at)
					switch {
					case epoch == right:
						wantTaken(t, what, 9, l, m, m.Commits[shared:]...)
					case !messageMayBe(m):
						wantRefused(t, what, 9, l, m, api.ErrArg)
					default:
						wantRefused(t, what, 9, l, m, api.ErrFork)
					}
				}
			}
		}
	}
}

// The same told by hand: four commits that the log has, one of them another one.
func TestAForkAtEachPlaceOfAShip(t *testing.T) {
	l := logOf(1, 3, 3, 3, 3, 5, 5)
	wantTaken(t, "all the same", 9, l, shipped(9, 2, 1, run(2, 3, 3, 3, 3)...))
	wantRefused(t, "at the first one", 9, l, shipped(9, 2, 1, run(2, 2, 3, 3, 3)...), api.ErrFork)
	wantRefused(t, "from the second one on", 9, l, shipped(9, 2, 1, run(2, 3, 4, 4, 4)...), api.ErrFork)
	wantRefused(t, "from the third one on", 9, l, shipped(9, 2, 1, run(2, 3, 3, 4, 4)...), api.ErrFork)
	wantRefused(t, "at the last one", 9, l, shipped(9, 2, 1, run(2, 3, 3, 3, 4)...), api.ErrFork)
	wantRefused(t, "at all", 9, l, shipped(9, 2, 1, run(2, 4, 4, 4, 4)...), api.ErrFork)
	wantRefused(t, "up to the third one", 9, l, shipped(9, 2, 1, run(2, 1, 1, 1, 3)...), api.ErrFork)
	wantTaken(t, "the last one that the log has, with new ones", 9, l, shipped(9, 6, 3, run(6, 5, 5, 6, 9)...), run(8, 6, 9)...)
	wantRefused(t, "at the last one that the log has, with new ones", 9, l, shipped(9, 6, 3, run(6, 5, 6, 6, 9)...), api.ErrFork)
	wantRefused(t, "at the one ahead of it, with new ones", 9, l, shipped(9, 6, 3, run(6, 4, 5, 6, 9)...), api.ErrFork)
	wantRefused(t, "at the last one alone", 9, l, shipped(9, 7, 5, one(9, 7)), api.ErrFork)
	wantRefused(t, "at the last one, with a new one", 9, l, shipped(9, 7, 5, run(7, 8, 8)...), api.ErrFork)
	wantRefused(t, "at the first one of all", 9, l, shipped(9, 1, 0, one(2, 1)), api.ErrFork)
	wantRefused(t, "at the first one of all, with others", 9, l, shipped(9, 1, 0, run(1, 2, 3, 3)...), api.ErrFork)
}

// Of the commits that both have, the epoch alone is held against the log's.
func TestOpsAreNotComparedWithTheLog(t *testing.T) {
	l := example()
	other := []api.Commit{with(1, 2, del("other")), with(3, 3, put("other", "o")), with(3, 4, put("new", "n"))}
	wantTaken(t, "other ops", 3, l, shipped(3, 2, 1, other...), other[2])
	wantTaken(t, "other ops, none new", 3, l, shipped(3, 2, 1, other[:2]...))
}

// call is what Take is called with.
type call struct {
	epoch int
	log   []api.Commit
	m     api.Message
}

// spoiling puts one thing wrong, for which e is answered, if nothing counts ahead of it.
type spoiling struct {
	what string
	e    api.Errno
	do   func(x *call)
}

// spoilings lists ways to spoil a call that tells one commit, in the order in which their errors count; each leaves the others' ways open.
func spoilings() [][]spoiling {
	nine := slices.Repeat([]api.Op{put("a", "1")}, mostOps+1)
	return [][]spoiling{
		{
			{"nine ops in the log", api.ErrLong, func(x *call) { x.log[0].Ops = nine }},
			{"no ops in the log", api.ErrArg, func(x *call) { x.log[0].Ops = nil }},
			{"a log from 2 on", api.ErrOrder, func(x *call) { x.log[0].Number = 2 }},
		}, {
			{"a ship with an end", api.ErrArg, func(x *call) { x.m.End = 4 }},
			{"a ship with starts", api.ErrArg, func(x *call) { x.m.Starts = begin(1, 1) }},
			{"a ship with nine ops", api.ErrArg, func(x *call) { x.m.Commits[1].Ops = nine }},
			{"the kind 4", api.ErrArg, func(x *call) { x.m.Kind = 4 }},
			{"nothing of a message", api.ErrArg, func(x *call) { x.m = api.Message{} }},
			{"an ack", api.ErrArg, func(x *call) { x.m = ack(3, 3) }},
			{"a hello", api.ErrArg, func(x *call) { x.m = hello(3, 2, 3, begin(1, 1, 3, 3)...) }},
		}, {
			{"the epoch one above", api.ErrStale, func(x *call) { x.epoch = 4 }},
			{"the epoch far above", api.ErrStale, func(x *call) { x.epoch = math.MaxInt }},
			{"the epoch one below", api.ErrArg, func(x *call) { x.epoch = 2 }},
			{"the epoch 0", api.ErrArg, func(x *call) { x.epoch = 0 }},
			{"the epoch far below", api.ErrArg, func(x *call) { x.epoch = math.MinInt }},
		}, {
			{"a gap", api.ErrGap, func(x *call) { x.log = x.log[:1] }},
		}, {
			{"another epoch ahead", api.ErrFork, func(x *call) { x.log[1].Epoch = 2 }},
			{"another epoch at its first one", api.ErrFork, func(x *call) { x.log[2].Epoch = 2 }},
			{"another one at both", api.ErrFork, func(x *call) { x.log[1].Epoch, x.log[2].Epoch = 2, 2 }},
		},
	}
}

// Each error alone, each two at once, and all further ones: the first one counts.
func TestTheOrderOfErrors(t *testing.T) {
	kinds := spoilings()
	var further func(at int, chosen []spoiling)
	further = func(at int, chosen []spoiling) {
		if at < len(kinds) {
			further(at+1, chosen)
			for _, s := range kinds[at] {
				further(at+1, append(slices.Clone(chosen), s))
			}
			return
		}
		x := call{3, example(), shipped(3, 3, 1, one(3, 3), one(3, 4))}
		var what []string
		// Backward: the log's commits must still be there where they are changed.
		for _, s := range slices.Backward(chosen) {
			s.do(&x)
			what = append(what, s.what)
		}
		if len(chosen) == 0 {
			wantTaken(t, "nothing is wrong", x.epoch, x.log, x.m, one(3, 4))
			return
		}
		wantRefused(t, strings.Join(what, ", "), x.epoch, x.log, x.m, chosen[0].e)
	}
	further(0, nil)
}

// P18.1, its answer

// A log is a first part of another one, of which each ship is: what the log does not have is told, in order, with its ops.
func TestWhatIsTaken(t *testing.T) {
	for _, whole := range logs() {
		for end := range len(whole) + 1 {
			for _, m := range pieces(9, whole) {
				what := "the end " + strconv.Itoa(end) + ", from " + strconv.Itoa(m.From) + " on " + strconv.Itoa(len(m.Commits))
				last := m.From - 1 + len(m.Commits)
				switch {
				case m.From > end+1:
					wantRefused(t, what, 9, whole[:end], m, api.ErrGap)
				case last > end:
					wantTaken(t, what, 9, whole[:end], m, whole[end:last]...)
				default:
					wantTaken(t, what, 9, whole[:end], m)
				}
			}
		}
	}
}

// All, some or none of four commits are new.
func TestHowManyAreNew(t *testing.T) {
	whole := logOf(1, 1, 2, 2, 2, 3, 3, 3, 3, 3)
	for end := range 9 {
		for count := range mostShip + 1 {
			for from := 1; from <= end+1 && from-1+count <= len(whole); from++ {
				now, e := take.Take(3, whole[:end], piece(3, whole, from, count))
				news := max(0, from-1+count-end)
				if e != api.OK || len(now) != news {
					t.Fatalf("%d from %d on, the end %d: %d new, %d, not %d", count, from, end, len(now), e, news)
				}
				for i, c := range now {
					if !alike(c, one(whole[end+i].Epoch, end+1+i)) {
						t.Fatalf("%d from %d on, the end %d: %s at %d", count, from, end, short(c), i)
					}
				}
			}
		}
	}
}

// The epochs of new commits may rise, up to the ship's.
func TestEpochsOfNewCommits(t *testing.T) {
	for _, epochs := range [][]int{{3}, {4}, {9}, {3, 3, 3, 3}, {3, 4, 5, 6}, {3, 3, 9, 9}, {9, 9, 9, 9}, {8, 9}} {
		l := run(4, epochs...)
		wantTaken(t, "behind the end", 9, example(), shipped(9, 4, 3, l...), l...)
	}
	l := run(2, most-1, most)
	wantTaken(t, "the greatest epochs", most, logOf(1), shipped(most, 2, 1, l...), l...)
	wantTaken(t, "the greatest epoch alone", most, logOf(most), shipped(most, 2, most, one(most, 2)), one(most, 2))
}

// The ops of new commits are told as they are, at all lengths.
func TestOpsOfNewCommits(t *testing.T) {
	var l []api.Commit
	for count := 1; count <= mostOps; count++ {
		l = append(l, with(1, count, odd()[:count]...))
	}
	wantTaken(t, "the first four", 1, nil, shipped(1, 1, 0, l[:4]...), with(1, 1, odd()[:1]...), with(1, 2, odd()[:2]...), with(1, 3, odd()[:3]...), with(1, 4, odd()[:4]...))
	wantTaken(t, "the last four", 1, l[:4], shipped(1, 5, 1, l[4:]...), with(1, 5, odd()[:5]...), with(1, 6, odd()[:6]...), with(1, 7, odd()[:7]...), with(1, 8, odd()...))
}

func TestNoLog(t *testing.T) {
	for what, l := range map[string][]api.Commit{"nil": nil, "empty": {}, "with room": example()[:0], "behind others": example()[3:]} {
		for _, epoch := range []int{1, 2, most} {
			wantTaken(t, what, epoch, l, shipped(epoch, 1, 0))
			wantTaken(t, what, epoch, l, shipped(epoch, 1, 0, one(epoch, 1)), one(epoch, 1))
			wantTaken(t, what, epoch, l, shipped(epoch, 1, 0, logOf(1, 1, epoch, epoch)...), logOf(1, 1, epoch, epoch)...)
			for from := 2; from < 7; from++ {
				wantRefused(t, what, epoch, l, shipped(epoch, from, 1), api.ErrGap)
				wantRefused(t, what, epoch, l, shipped(epoch, from, 1, one(1, from)), api.ErrGap)
			}
			wantRefused(t, what, epoch, l, shipped(epoch, most, epoch), api.ErrGap)
		}
	}
}

// A ship without commits, its list nil or empty.
func TestAShipOfNoCommit(t *testing.T) {
	for _, l := range logs() {
		for from := 1; from <= len(l)+1; from++ {
			m := piece(9, l, from, 0)
			for _, none := range [][]api.Commit{nil, {}, example()[:0]} {
				m.Commits = none
				wantTaken(t, "none from "+strconv.Itoa(from)+" on", 9, l, m)
			}
		}
	}
}

// The greatest log, with an epoch of its own for each commit, or one epoch for all.
func TestTheGreatestLog(t *testing.T) {
	ops := []api.Op{del("a")}
	steep, flat := make([]api.Commit, most+1), make([]api.Commit, most+1)
	for at := range steep {
		steep[at] = api.Commit{Epoch: at + 1, Number: at + 1, Ops: ops}
		flat[at] = api.Commit{Epoch: 5, Number: at + 1, Ops: ops}
	}
	// One more has a number that is none.
	for _, l := range [][]api.Commit{steep, flat} {
		wantRefused(t, "above the greatest number", 5, l, shipped(5, 1, 0), api.ErrArg)
	}
	for _, l := range [][]api.Commit{steep[:most], flat[:most]} {
		wantTaken(t, "the first four", most, l, piece(most, l, 1, 4))
		wantTaken(t, "the last four", most, l, piece(most, l, most-3, 4))
		wantTaken(t, "the last one", most, l, piece(most, l, most, 1))
		wantTaken(t, "none", most, l, piece(most, l, most, 0))
		wantTaken(t, "the last one is new", most, l[:most-1], piece(most, l, most, 1), l[most-1])
		wantTaken(t, "the last two of four are new", most, l[:most-2], piece(most, l, most-3, 4), l[most-2:]...)
		wantTaken(t, "the last one is next", most, l[:most-1], piece(most, l, most, 0))
		wantRefused(t, "a gap of one", most, l[:most-2], piece(most, l, most, 1), api.ErrGap)
		wantRefused(t, "from above the greatest number on", most, l, shipped(most, most+1, l[most-1].Epoch), api.ErrArg)
		wantRefused(t, "the greatest from", most, l, shipped(most, math.MaxInt, l[most-1].Epoch), api.ErrArg)
	}
	wantRefused(t, "another one ahead", most, steep[:most], piece(most, flat, most, 0), api.ErrFork)
	wantRefused(t, "another last one", most, steep[:most], shipped(most, most, most-1, one(most-1, most)), api.ErrFork)
}

// P18.2

// nows lists what may be known of an end.
func nows() []int {
	return append(edges(), -3, 8, 9, 10, 100)
}

// greater is what is known behind a message that tells of that end.
func greater(known, end int) int {
	if known > end {
		return known
	}
	return end
}

func TestKnownOfAnAck(t *testing.T) {
	for _, end := range []int{0, 1, 2, 5, 8, 9, most - 1, most} {
		for _, known := range nows() {
			for _, epoch := range []int{1, 3, most} {
				wantKnown(t, "an ack of "+strconv.Itoa(end), epoch, known, ack(epoch, end), greater(known, end), true)
			}
		}
	}
}

// A replica's hello tells its end, with starts of any kind; one of another role tells nothing of a replica.
func TestKnownOfAHello(t *testing.T) {
	for _, h := range []struct {
		end int
		l   []api.Start
	}{{0, nil}, {1, begin(1, 1)}, {2, begin(3, 1)}, {5, begin(1, 1, 2, 2, 3, 5)}, {9, begin(1, 1, 3, 2)}, {most, begin(2, 1)}, {most - 1, begin(1, 1, 3, most-1)}} {
		for _, known := range nows() {
			what := "the end " + strconv.Itoa(h.end)
			wantKnown(t, "a replica's hello, "+what, 3, known, hello(3, 2, h.end, h.l...), greater(known, h.end), true)
			wantKnown(t, "a primary's hello, "+what, 3, known, hello(3, 1, h.end, h.l...), greater(known, 0), false)
			wantKnown(t, "a hello of a deposed one, "+what, 3, known, hello(3, 3, h.end, h.l...), greater(known, 0), false)
		}
	}
}

func TestKnownOfAShip(t *testing.T) {
	for _, m := range []api.Message{shipped(3, 1, 0), shipped(3, 1, 0, logOf(1, 1, 2, 3)...), shipped(3, 4, 3), shipped(3, most, 1, one(2, most)), shipped(3, 7, 2, one(3, 7))} {
		for _, known := range nows() {
			wantKnown(t, "a ship", 3, known, m, greater(known, 0), false)
		}
	}
}

// What is below 0 is told as 0 where nothing is learned, and 0 is learned as 0.
func TestNothingIsKnown(t *testing.T) {
	for _, known := range []int{-1, -2, -most, -1 << 32, math.MinInt + 1, math.MinInt} {
		wantKnown(t, "an ack of 0", 3, known, ack(3, 0), 0, true)
		wantKnown(t, "an ack of 1", 3, known, ack(3, 1), 1, true)
		wantKnown(t, "a hello of a replica without a log", 3, known, hello(3, 2, 0), 0, true)
		wantKnown(t, "a hello of a primary", 3, known, hello(3, 1, 4, begin(1, 1)...), 0, false)
		wantKnown(t, "a hello of a deposed one", 3, known, hello(3, 3, 4, begin(1, 1)...), 0, false)
		wantKnown(t, "a ship", 3, known, shipped(3, 1, 0), 0, false)
	}
	wantKnown(t, "an ack of 0", 3, 0, ack(3, 0), 0, true)
	wantKnown(t, "a ship", 3, 0, shipped(3, 1, 0), 0, false)
	wantKnown(t, "an ack below what is known", 3, 7, ack(3, 6), 7, true)
	wantKnown(t, "an ack of what is known", 3, 7, ack(3, 7), 7, true)
	wantKnown(t, "an ack above what is known", 3, 7, ack(3, 8), 8, true)
}

// badMessages lists messages of the epoch 3 that may not be.
func badMessages() []bad {
	list := badShips()
	for _, b := range noShips() {
		if !messageMayBe(b.m) {
			list = append(list, b)
		}
	}
	return append(list,
		bad{"an ack with a role", api.Message{Kind: 3, Epoch: 3, Role: 2, End: 2}},
		bad{"an ack with starts", api.Message{Kind: 3, Epoch: 3, End: 2, Starts: begin(1, 1)}},
		bad{"an ack with a from", api.Message{Kind: 3, Epoch: 3, End: 2, From: 1}},
		bad{"an ack with a prev", api.Message{Kind: 3, Epoch: 3, End: 2, Prev: 1}},
		bad{"an ack with commits", api.Message{Kind: 3, Epoch: 3, End: 2, Commits: logOf(1)}},
		bad{"an ack of the least end", ack(3, math.MinInt)},
		bad{"an ack of the greatest end", ack(3, math.MaxInt)},
		bad{"an ack of no epoch", ack(0, 2)},
		bad{"an ack of the epoch -1", ack(-1, 2)},
		bad{"an ack of an epoch above the greatest", ack(most+1, 2)},
		bad{"an ack of the least epoch", ack(math.MinInt, 2)},
		bad{"an ack of the greatest epoch", ack(math.MaxInt, 2)},
		bad{"a replica's hello with commits", api.Message{Kind: 1, Epoch: 3, Role: 2, Commits: logOf(1)}},
		bad{"a replica's hello with a from", api.Message{Kind: 1, Epoch: 3, Role: 2, From: 1}},
		bad{"a replica's hello with starts alone", hello(3, 2, 0, begin(1, 1)...)},
		bad{"a replica's hello with starts that fall", hello(3, 2, 5, begin(2, 1, 1, 3)...)},
		bad{"a replica's hello with starts behind its end", hello(3, 2, 2, begin(1, 1, 2, 3)...)},
		bad{"a replica's hello with starts of a higher epoch", hello(3, 2, 5, begin(1, 1, 4, 3)...)},
		bad{"a replica's hello with an end below 0", hello(3, 2, -1)},
		bad{"a replica's hello with an end above the greatest", hello(3, 2, most+1, begin(1, 1)...)},
		bad{"a replica's hello of no epoch", hello(0, 2, 0)},
		bad{"a hello of the role 130", hello(3, 130, 0)},
		bad{"a hello of the role 255", hello(3, 255, 0)},
	)
}

// A message that may not be, alone and ahead of ErrStale.
func TestKnownOfAMessageThatMayNotBe(t *testing.T) {
	for _, b := range badMessages() {
		if letter.Check(b.m) != api.ErrArg {
			t.Fatalf("%s: it may be", b.what)
		}
		for _, epoch := range edges() {
			for _, known := range []int{math.MinInt, -1, 0, 1, 5, most, math.MaxInt} {
				wantUnknown(t, b.what+", the epoch "+strconv.Itoa(epoch), epoch, known, b.m, api.ErrArg)
			}
		}
	}
}

// The epoch one below, at and one above the message's, and far from it; of all kinds alike.
func TestKnownOfAnotherEpoch(t *testing.T) {
	for _, epoch := range []int{1, 2, 3, 7, most - 1, most} {
		for _, m := range []api.Message{ack(epoch, 6), ack(epoch, 0), hello(epoch, 1, 0), hello(epoch, 2, 6, begin(1, 1)...), hello(epoch, 3, 6, begin(1, 1)...), shipped(epoch, 1, 0), shipped(epoch, 4, 1, one(epoch, 4))} {
			for _, known := range []int{math.MinInt, -1, 0, 5, 6, 7, math.MaxInt} {
				what := "the kind " + strconv.Itoa(m.Kind) + ", the epoch " + strconv.Itoa(epoch)
				for _, own := range []int{epoch + 1, epoch + 2, most + 1, 1<<32 + epoch, math.MaxInt - 1, math.MaxInt} {
					wantUnknown(t, what+" in "+strconv.Itoa(own), own, known, m, api.ErrStale)
				}
				for _, own := range []int{epoch - 1, epoch - 2, 0, -1, -epoch, epoch - 1<<32, math.MinInt + 1, math.MinInt} {
					wantUnknown(t, what+" in "+strconv.Itoa(own), own, known, m, api.ErrArg)
				}
				if _, _, e := take.Known(epoch, known, m); e != api.OK {
					t.Fatalf("%s in its own: %d", what, e)
				}
			}
		}
	}
}

// P18.3

// Both together are the log's commits up to From less 1 and the ship's, or the log alone.
func TestBothTogether(t *testing.T) {
	whole := logOf(1, 2, 2, 2, 4, 4, 5, 7, 7, 7, 7)
	for end := range len(whole) + 1 {
		// Behind the log's end the ship's commits may be others than those that the whole log has.
		for _, other := range [][]api.Commit{whole, append(slices.Clone(whole[:end]), run(end+1, 8, 8, 9, 9)...)} {
			for _, m := range pieces(9, other) {
				log := whole[:end]
				now, e := take.Take(9, log, m)
				if m.From > end+1 {
					wantRefused(t, "a gap", 9, log, m, api.ErrGap)
					continue
				}
				both := slices.Concat(log, now)
				joined := slices.Concat(log[:m.From-1], m.Commits)
				if e != api.OK || !alikeLists(both, joined) && !alikeLists(both, log) {
					t.Fatalf("the end %d, from %d on: %s, %d", end, m.From, short(now), e)
				}
				if len(both) != max(len(joined), len(log)) {
					t.Fatalf("the end %d, from %d on: %d and %d", end, m.From, len(log), len(now))
				}
				if f := commit.Follows(0, 0, both); f != (api.Fault{}) {
					t.Fatalf("the end %d, from %d on: they don't follow: %v", end, m.From, f)
				}
			}
		}
	}
}

func TestAShipThatIsTakenTwice(t *testing.T) {
	whole := logOf(1, 2, 2, 2, 4, 4, 5)
	for end := range len(whole) + 1 {
		for _, m := range pieces(7, whole) {
			log := slices.Clone(whole[:end])
			now, e := take.Take(7, log, m)
			if e != api.OK {
				continue
			}
			log = append(log, now...)
			for range 3 {
				if now, e := take.Take(7, log, m); e != api.OK || len(now) != 0 {
					t.Fatalf("the end %d, from %d on: again %s, %d", end, m.From, short(now), e)
				}
			}
		}
	}
}

// flight has messages on their way: it loses, doubles and turns them about.
type flight struct {
	r *turn
	l []api.Message
}

func (f *flight) send(m api.Message) {
	for range f.r.below(3) {
		f.l = append(f.l, m)
	}
}

func (f *flight) next() (api.Message, bool) {
	if len(f.l) == 0 {
		return api.Message{}, false
	}
	at := f.r.below(len(f.l))
	m := f.l[at]
	f.l = slices.Delete(f.l, at, at+1)
	return m, true
}

// Whatever the link does, the replica's log is a first part of the primary's, what is known of it is never more than it has and never falls, and all comes through in the end.
func TestShipsAndAcksThatAreLostDoubledAndTurnedAbout(t *testing.T) {
	r := turn(18)
	for range 150 {
		whole := r.log(30)
		ships, acks := flight{r: &r}, flight{r: &r}
		var log []api.Commit
		known := -1
		for step := 0; known < len(whole); step++ {
			if step > 20000 {
				t.Fatalf("%d of %d known, the replica has %d", known, len(whole), len(log))
			}
			if r.below(4) == 0 {
				h, e := ship.Hello(most, api.Replica, log)
				if e != api.OK {
					t.Fatalf("Hello: %d", e)
				}
				acks.send(h)
			}
			if m, e := ship.Next(most, whole, max(known, 0)); e == api.OK && known >= 0 {
				ships.send(m)
			}
			if m, any := ships.next(); any {
				now, e := take.Take(most, log, m)
				if e != api.OK {
					t.Fatalf("%s: %d", short(m), e)
				}
				log = append(log, now...)
				if len(log) > len(whole) || !alikeLists(log, whole[:len(log)]) {
					t.Fatalf("%s is no first part of %s", short(log), short(whole))
				}
				a, _ := ship.Ack(most, len(log))
				acks.send(a)
			}
			if m, any := acks.next(); any {
				end, tells, e := take.Known(most, known, m)
				if e != api.OK || !tells || end < known || end > len(log) {
					t.Fatalf("%d was known, the replica has %d: %d, %t, %d", known, len(log), end, tells, e)
				}
				known = end
			}
		}
		if !alikeLists(log, whole) {
			t.Fatalf("%s, not %s", short(log), short(whole))
		}
	}
}

func TestKnownNeverFalls(t *testing.T) {
	messages := []api.Message{ack(3, 0), ack(3, 7), ack(3, 4), hello(3, 2, 0), hello(3, 2, 9, begin(1, 1)...), hello(3, 1, 2, begin(1, 1)...), hello(3, 3, 12, begin(1, 1)...), shipped(3, 1, 0), shipped(3, 20, 2)}
	for _, known := range nows() {
		for _, m := range messages {
			if now, _, e := take.Known(3, known, m); e != api.OK || now < known || now < 0 {
				t.Fatalf("%d was known: %d, %d", known, now, e)
			}
		}
	}
	r := turn(5)
	known, greatest := -1, 0
	for range 2000 {
		end := r.below(most + 1)
		m := []api.Message{ack(3, end), hello(3, 2, end, begin(1, 1)...), hello(3, 1, end, begin(1, 1)...), hello(3, 3, end, begin(1, 1)...)}[r.below(4)]
		if end == 0 {
			m = ack(3, 0)
		}
		if m.Kind == 3 || m.Role == 2 {
			greatest = greater(greatest, end)
		}
		now, _, e := take.Known(3, known, m)
		if e != api.OK || now != greatest {
			t.Fatalf("%d, %d, not %d", now, e, greatest)
		}
		known = now
	}
}

// Rules 2 to 4: what is refused, what is handed in, what is told.

func TestZeroBesideAnError(t *testing.T) {
	refused := 0
	for _, l := range append(logs(), logOf(2, 1), logOf(1, 0), []api.Commit{{}}) {
		for _, m := range anyMessages() {
			for _, epoch := range []int{-1, 0, 5, 6, 7} {
				if now, e := take.Take(epoch, l, m); e != api.OK {
					refused++
					if len(now) != 0 || cap(now) != 0 {
						t.Fatalf("Take: %s beside %d", short(now), e)
					}
				}
				for _, known := range []int{-1, 0, 5} {
					if end, tells, e := take.Known(epoch, known, m); e != api.OK && (end != 0 || tells) {
						t.Fatalf("Known: %d, %t beside %d", end, tells, e)
					}
				}
			}
		}
	}
	if refused == 0 {
		t.Error("nothing was refused")
	}
}

// roomy answers l with spare room behind it, and behind the ops of each commit; and the whole of it.
func roomy(l []api.Commit) (handed, whole []api.Commit) {
	for _, c := range l {
		c.Ops = append(slices.Clone(c.Ops), put("room", "room"), del("room"))[:len(c.Ops)]
		whole = append(whole, c)
	}
	first := 1
	if len(l) > 0 {
		first = l[len(l)-1].Number + 1
	}
	// What stands there would follow.
	for at := range 6 {
		whole = append(whole, with(9, first+at, put("room", "room")))
	}
	return whole[:len(l):len(whole)], whole
}

// copied answers l in memory of its own, the spare room of its ops with them.
func copied(l []api.Commit) []api.Commit {
	l = slices.Clone(l)
	for i, c := range l {
		l[i].Ops = slices.Clone(c.Ops[:cap(c.Ops)])[:len(c.Ops)]
	}
	return l
}

// alikeWhole: the same commits, with the same in their spare room.
func alikeWhole(a, b []api.Commit) bool {
	return slices.EqualFunc(a, b, func(x, y api.Commit) bool {
		return x.Epoch == y.Epoch && x.Number == y.Number && len(x.Ops) == len(y.Ops) && slices.Equal(x.Ops[:cap(x.Ops)], y.Ops[:cap(x.Ops)])
	})
}

func spoilOps(l []api.Op) {
	l = l[:cap(l)]
	for i := range l {
		l[i] = put("spoilt", "spoilt")
	}
}

// spoil writes over all of l, its spare room, its ops and theirs.
func spoil(l []api.Commit) {
	l = l[:cap(l)]
	for i, c := range l {
		spoilOps(c.Ops)
		l[i] = with(7, 7, put("spoilt", "spoilt"))
	}
}

// handing is a call with room behind all that is handed in, and the whole of that.
type handing struct {
	epoch        int
	log, logRoom []api.Commit
	m            api.Message
	shipRoom     []api.Commit
}

func handed(epoch int, l []api.Commit, m api.Message) handing {
	x := handing{epoch: epoch, m: m}
	x.log, x.logRoom = roomy(l)
	x.m.Commits, x.shipRoom = roomy(m.Commits)
	return x
}

func (x handing) take() ([]api.Commit, api.Errno) { return take.Take(x.epoch, x.log, x.m) }

// everyHanding calls do with calls that tell something, and with some that are refused.
func everyHanding(do func(anew func() handing)) {
	for _, whole := range [][]api.Commit{example(), logOf(1, 1, 1, 1, 2), logOf(3, 3, 3, 4, 4, 4, 4, 4, 4), logs()[len(logs())-1]} {
		for end := range len(whole) + 1 {
			for _, m := range pieces(9, whole) {
				for epoch := 8; epoch <= 10; epoch++ {
					do(func() handing { return handed(epoch, whole[:end], m) })
				}
			}
		}
	}
	do(func() handing { return handed(9, logOf(2, 1), shipped(9, 1, 0, logOf(1, 1)...)) })
	do(func() handing { return handed(9, logOf(1, 1), shipped(9, 2, 1, run(2, 2, 2)...)) })
	do(func() handing { return handed(9, logOf(1, 1), shipped(9, 3, 2, run(3, 2, 2)...)) })
	do(func() handing { return handed(9, nil, shipped(9, 1, 0, logOf(1, 1, 1, 1, 1)...)) })
	do(func() handing { return handed(9, nil, api.Message{Kind: 3, Epoch: 9, Commits: logOf(1, 1)}) })
}

func TestWhatIsHandedInIsLeftAlone(t *testing.T) {
	everyHanding(func(anew func() handing) {
		x := anew()
		log, ships := copied(x.logRoom), copied(x.shipRoom)
		now, e := x.take()
		take.Known(x.epoch, 3, x.m)
		if !alikeWhole(x.logRoom, log) || !alikeWhole(x.shipRoom, ships) {
			t.Fatalf("it was changed: %s", short(x))
		}
		// The spare room is not looked at.
		m := x.m
		m.Commits = slices.Clip(slices.Clone(m.Commits))
		if other, right := take.Take(x.epoch, slices.Clip(slices.Clone(x.log)), m); e != right || !alikeLists(now, other) {
			t.Fatalf("with spare room %s, %d, without %s, %d", short(now), e, short(other), right)
		}
	})
}

func TestStartsAreLeftAlone(t *testing.T) {
	whole := begin(1, 1, 2, 3, 3, 4, 3, 5)
	keep := slices.Clone(whole)
	for role := range 5 {
		m := hello(3, api.Role(role), 5)
		m.Starts = whole[:2]
		take.Known(3, 1, m)
		take.Known(2, 1, m)
		take.Take(3, example(), m)
		if !slices.Equal(whole, keep) {
			t.Fatalf("they were changed: %v", whole)
		}
	}
}

func TestALaterChangeChangesNothingThatWasTold(t *testing.T) {
	everyHanding(func(anew func() handing) {
		x := anew()
		now, _ := x.take()
		keep := copied(now)
		spoil(x.logRoom)
		spoil(x.shipRoom)
		if !alikeLists(now, keep) {
			t.Fatalf("%s was told, and is %s now", short(keep), short(now))
		}
	})
}

// What is written into an answer, and into its spare room, is seen nowhere else: neither in what was handed in, nor in another answer.
func TestAnswersAreNewMemory(t *testing.T) {
	everyHanding(func(anew func() handing) {
		x := anew()
		log, ships := copied(x.logRoom), copied(x.shipRoom)
		now, _ := x.take()
		other, e := x.take()
		then := copied(other)
		if room := now[:cap(now)]; slices.ContainsFunc(room[len(now):], func(c api.Commit) bool { return c.Epoch != 0 || c.Number != 0 || c.Ops != nil }) {
			t.Fatalf("spare room was handed out: %s", short(room))
		}
		spoil(now)
		if !alikeWhole(x.logRoom, log) || !alikeWhole(x.shipRoom, ships) {
			t.Fatalf("it is seen in what was handed in: %s", short(x))
		}
		if !alikeLists(other, then) {
			t.Fatalf("it is seen in another answer: %s, not %s", short(other), short(then))
		}
		if again, right := x.take(); right != e || !alikeLists(again, then) {
			t.Fatalf("it is seen in a later answer: %s, %d, not %s, %d", short(again), right, short(then), e)
		}
	})
}

// The ops of two commits that are told share nothing, though those of the ship may: each is a piece of one list, or the very same.
func TestListsOfOneAnswerShareNothing(t *testing.T) {
	ops := slices.Repeat(odd(), 2)
	for what, cut := range map[string]func(number int) []api.Op{
		"one list":                     func(number int) []api.Op { return ops[:3] },
		"pieces one behind the other":  func(number int) []api.Op { return ops[number : number+1] },
		"pieces that lie over another": func(number int) []api.Op { return ops[number : number+4] },
	} {
		var l []api.Commit
		for number := 1; number <= 6; number++ {
			l = append(l, api.Commit{Epoch: 1, Number: number, Ops: cut(number)})
		}
		for end := range 3 {
			for at := range 4 - end {
				now, e := take.Take(1, l[:end], shipped(1, 1, 0, l[:4]...))
				if e != api.OK || len(now) != 4-end {
					t.Fatalf("%s: %s, %d", what, short(now), e)
				}
				keep := copied(now)
				spoilOps(now[at].Ops)
				keep[at].Ops = now[at].Ops
				if !alikeLists(now, keep) {
					t.Fatalf("%s: written over at %d: %s, not %s", what, at, short(now), short(keep))
				}
				if !slices.Equal(ops, slices.Repeat(odd(), 2)) {
					t.Fatalf("%s: it is seen in what was handed in", what)
				}
			}
		}
	}
}

// The log and the ship may be one and the same memory.
func TestAShipOfTheLogItself(t *testing.T) {
	whole := logOf(1, 1, 2, 2, 3, 3, 3)
	keep := copied(whole)
	for end := range len(whole) + 1 {
		for from := 1; from <= end+1; from++ {
			for count := range min(mostShip, len(whole)-from+1) + 1 {
				now, e := take.Take(3, whole[:end], piece(3, whole, from, count))
				if e != api.OK || !alikeLists(now, keep[end:max(end, from-1+count)]) {
					t.Fatalf("the end %d, %d from %d on: %s, %d", end, count, from, short(now), e)
				}
				spoil(now)
				if !alikeLists(whole, keep) {
					t.Fatalf("the end %d, %d from %d on: it was changed", end, count, from)
				}
			}
		}
	}
}

// A log may be grown in place by what is told, and what was told ahead stays.
func TestALogThatGrows(t *testing.T) {
	whole := logOf(slices.Repeat([]int{2}, 40)...)
	log := make([]api.Commit, 0, 40)
	var told, then [][]api.Commit
	for len(log) < len(whole) {
		from := max(1, len(log)-1)
		now, e := take.Take(2, log, piece(2, whole, from, min(mostShip, len(whole)-from+1)))
		if e != api.OK || len(now) == 0 {
			t.Fatalf("%d commits: %s, %d", len(log), short(now), e)
		}
		told, then = append(told, now), append(then, copied(now))
		log = append(log, now...)
	}
	for i := range told {
		if !alikeLists(told[i], then[i]) {
			t.Fatalf("%s was told, and is %s now", short(then[i]), short(told[i]))
		}
	}
}

// P1: all calls at all edges, and all small logs and ships.

// Gone through twice, the second time backward, as no answer hangs on a call ahead.
func TestAllCallsAtAllEdges(t *testing.T) {
	l := edges()
	for range 2 {
		for _, a := range l {
			for _, b := range l {
				for _, epoch := range []int{a, b, 3} {
					wantAsTold(t, epoch, example(), shipped(3, a, b), a)
					wantAsTold(t, epoch, example(), shipped(a, b, 3, one(3, b)), b)
					wantAsTold(t, epoch, example(), shipped(a, 4, 3, one(b, 4)), b)
					wantAsTold(t, epoch, nil, shipped(a, 1, 0, one(b, 1)), b)
					wantAsTold(t, epoch, []api.Commit{one(a, 1), one(b, 2)}, shipped(3, 2, 1), a)
					wantAsTold(t, epoch, []api.Commit{one(1, 1), one(1, a)}, shipped(3, b, 1), a)
					wantAsTold(t, epoch, nil, ack(a, b), b)
					wantAsTold(t, epoch, nil, ack(3, a), b)
					wantAsTold(t, epoch, nil, api.Message{Kind: a, Epoch: 3, End: b}, b)
					wantAsTold(t, epoch, nil, api.Message{Kind: a, Epoch: b, From: 1}, b)
					for role := range 5 {
						wantAsTold(t, epoch, nil, hello(3, api.Role(role), a, begin(1, 1, 2, b)...), b)
						wantAsTold(t, epoch, nil, hello(a, api.Role(role), 2, begin(1, 1)...), b)
					}
				}
			}
		}
		slices.Reverse(l)
	}
}

func TestAllRoles(t *testing.T) {
	for role := range 256 {
		for known := -1; known < 8; known++ {
			wantAsTold(t, 3, example(), hello(3, api.Role(role), 5, begin(1, 1, 3, 3)...), known)
			wantAsTold(t, 3, example(), hello(3, api.Role(role), 0), known)
		}
		m := shipped(3, 4, 3, one(3, 4))
		m.Role = api.Role(role)
		wantAsTold(t, 3, example(), m, 1)
		m = ack(3, 2)
		m.Role = api.Role(role)
		wantAsTold(t, 3, example(), m, 1)
	}
}

// everyRow lists every list of at most length numbers from least to top that never fall.
func everyRow(length, least, top int) [][]int {
	var list [][]int
	var further func(row []int, least int)
	further = func(row []int, least int) {
		list = append(list, row)
		if len(row) == length {
			return
		}
		for x := least; x <= top; x++ {
			further(append(slices.Clone(row), x), x)
		}
	}
	further(nil, least)
	return list
}

// All logs of few commits, and all ships that are near them.
func TestEverySmallLogAndShip(t *testing.T) {
	rows := everyRow(4, 1, 3)
	for _, epochs := range rows {
		log := logOf(epochs...)
		for from := 0; from <= 6; from++ {
			for prev := range 4 {
				for _, others := range rows {
					l := run(from, others...)
					for i := range l {
						l[i].Ops = append(l[i].Ops[:1], put("ship", "s"))
					}
					wantAsTold(t, 3, log, shipped(3, from, prev, l...), from-2)
				}
			}
		}
	}
	for _, epochs := range everyRow(3, 1, 3) {
		log := logOf(epochs...)
		for from := 1; from <= 5; from++ {
			for _, others := range everyRow(2, 1, 3) {
				for prev := range 4 {
					for epoch := range 5 {
						for own := range 5 {
							wantAsTold(t, own, log, shipped(epoch, from, prev, run(from, others...)...), prev-1)
						}
					}
				}
			}
		}
	}
}

// turn is a row of numbers that looks mixed and is the same each time.
type turn uint64

func (r *turn) below(n int) int {
	*r = *r*6364136223846793005 + 1442695040888963407
	return int(uint64(*r) >> 33 % uint64(n))
}

// log answers a log of at most length commits, whose epochs rise now and then.
func (r *turn) log(length int) []api.Commit {
	var l []api.Commit
	epoch := 1 + r.below(3)
	for number := range r.below(length + 1) {
		if r.below(4) == 0 {
			epoch += 1 + r.below(3)
		}
		l = append(l, one(epoch, number+1))
	}
	return l
}

// ship answers one of a log that is whole up to a number, and goes on in other epochs behind it.
func (r *turn) ship(whole []api.Commit) api.Message {
	l := copied(whole[:r.below(len(whole)+1)])
	for range r.below(6) {
		epoch := 1
		if len(l) > 0 {
			epoch = l[len(l)-1].Epoch
		}
		l = append(l, one(epoch+r.below(3), len(l)+1))
	}
	epoch := 1
	if len(l) > 0 {
		epoch = l[len(l)-1].Epoch
	}
	from := 1 + r.below(len(l)+1)
	return piece(epoch+r.below(3), l, from, r.below(min(mostShip, len(l)-from+1)+1))
}

// change puts one commit of l wrong, perhaps.
func (r *turn) change(l []api.Commit) {
	if len(l) == 0 {
		return
	}
	c := &l[r.below(len(l))]
	switch r.below(5) {
	case 0:
		c.Epoch += r.below(5) - 2
	case 1:
		c.Number += r.below(3) - 1
	case 2:
		c.Ops = slices.Repeat(c.Ops, r.below(10))
	case 3:
		c.Epoch = edges()[r.below(len(edges()))]
	case 4:
		// An earlier change may have left none.
		if len(c.Ops) > 0 {
			c.Ops[r.below(len(c.Ops))].Key = of(r.below(20))
		}
	}
}

// changeMessage puts one field of m wrong, perhaps.
func (r *turn) changeMessage(m *api.Message) {
	switch r.below(8) {
	case 0:
		m.Kind = r.below(5)
	case 1:
		m.Epoch += r.below(3) - 1
	case 2:
		m.Role = api.Role(r.below(5))
	case 3:
		m.End = r.below(5) - 1
	case 4:
		m.Starts = begin(1, r.below(3))
	case 5:
		m.From += r.below(3) - 1
	case 6:
		m.Prev += r.below(3) - 1
	case 7:
		r.change(m.Commits)
	}
}

// Mixed logs and ships, of which some are changed: each answer that there is comes often enough to tell.
func TestMixedLogsAndShips(t *testing.T) {
	r := turn(17)
	count := map[api.Errno]int{}
	told := 0
	for range 40000 {
		log := r.log(12)
		m := r.ship(log)
		if r.below(3) == 0 {
			log = log[:r.below(len(log)+1)]
		}
		log, m.Commits = copied(log), copied(m.Commits)
		if r.below(8) == 0 {
			r.change(log)
		}
		if r.below(4) == 0 {
			r.changeMessage(&m)
		}
		epoch := m.Epoch
		if r.below(5) == 0 {
			epoch += r.below(5) - 2
		}
		wantAsTold(t, epoch, log, m, r.below(16)-2)
		now, e := take.Take(epoch, log, m)
		count[e]++
		if len(now) > 0 {
			told++
		}
	}
	for _, e := range []api.Errno{api.OK, api.ErrArg, api.ErrLong, api.ErrStale, api.ErrGap, api.ErrFork, api.ErrOrder} {
		if count[e] < 50 {
			t.Errorf("%d came %d times alone", e, count[e])
		}
	}
	if told < 1000 {
		t.Errorf("commits were told %d times alone", told)
	}
}

// read makes a list of commits from that number on, of bytes: two each, most of which follow one another.
func read(first int, b []byte) []api.Commit {
	var l []api.Commit
	epoch := 1
	for ; len(b) >= 2; b = b[2:] {
		epoch += int(b[0] % 3)
		c := one(epoch, first+len(l))
		switch b[1] {
		case 0:
			c.Number++
		case 1:
			c.Epoch--
		case 2:
			c.Ops = nil
		case 3:
			c.Ops = slices.Repeat(c.Ops, 9)
		case 4:
			c.Ops[0].Key = ""
		case 5:
			c.Epoch = most
		}
		l = append(l, c)
	}
	return l
}

func FuzzCalls(f *testing.F) {
	log := []byte{0, 9, 0, 9, 2, 9}
	f.Add(3, 3, 3, 1, -1, uint8(2), uint8(0), log, []byte{2, 9, 0, 9})
	f.Add(3, 3, 4, 3, 5, uint8(2), uint8(0), log, []byte{})
	f.Add(3, 3, 5, 3, 5, uint8(2), uint8(0), log, []byte{})
	f.Add(3, 3, 4, 2, 5, uint8(2), uint8(0), log, []byte{})
	f.Add(3, 3, 2, 1, 5, uint8(2), uint8(0), log, []byte{2, 9})
	f.Add(4, 3, 2, 0, 5, uint8(3), uint8(0), log, []byte{0, 1})
	f.Add(3, 3, 2, 1, 5, uint8(1), uint8(2), []byte{0, 0}, []byte{1, 2})
	f.Add(most, most, most, most, most, uint8(2), uint8(0), []byte{0, 5}, []byte{0, 5})
	f.Add(math.MinInt, math.MaxInt, math.MinInt, math.MaxInt, math.MinInt, uint8(2), uint8(255), []byte{}, []byte{})
	f.Fuzz(func(t *testing.T, epoch, own, from, prev, known int, kind, role uint8, logBytes, shipBytes []byte) {
		l := read(1, logBytes)
		wantAsTold(t, epoch, l, shipped(own, from, prev, read(from, shipBytes)...), known)
		wantAsTold(t, epoch, l, ack(own, from), known)
		wantAsTold(t, epoch, l, hello(own, api.Role(role), from, begin(1, 1, prev, known)...), prev)
		wantAsTold(t, epoch, l, api.Message{Kind: int(kind), Epoch: own, Role: api.Role(role), End: known, From: from, Prev: prev}, known)
		// Most numbers are far out of their bounds: these are near them.
		near := 1 + int(uint(from)%uint(len(l)+3))
		others := read(near, shipBytes[:min(len(shipBytes), 10)])
		wantAsTold(t, 99+epoch%2, l, shipped(99+own%2, near, int(uint(prev)%8), others...), known)
		ahead := 0
		if near > 1 && near-2 < len(l) {
			ahead = l[near-2].Epoch
		}
		wantAsTold(t, 99, l, shipped(99, near, ahead, l[min(len(l), near-1):min(len(l), near+2)]...), known)
	})
}
