package ship_test

import (
	"fmt"
	"math"
	"slices"
	"strconv"
	"strings"
	"testing"

	"lagleash/api"
	"lagleash/commit"
	"lagleash/letter"
	"lagleash/ship"
	"lagleash/starts"
)

// The limits, as the document writes them.
const (
	most     = 1048576
	mostShip = 4
	mostOps  = 8
)

func put(key, value string) api.Op { return api.Op{Put: true, Key: key, Value: value} }

func del(key string) api.Op { return api.Op{Key: key} }

func of(count int) string { return strings.Repeat("k", count) }

func with(epoch, number int, ops ...api.Op) api.Commit {
	return api.Commit{Epoch: epoch, Number: number, Ops: ops}
}

// one is a commit with one to eight ops, which tell its number.
func one(epoch, number int) api.Commit {
	ops := []api.Op{put("n", strconv.Itoa(number))}
	for range number % mostOps {
		ops = append(ops, del("d"+strconv.Itoa(len(ops))))
	}
	return with(epoch, number, ops...)
}

// logOf makes a log with these epochs.
func logOf(epochs ...int) []api.Commit {
	var l []api.Commit
	for at, epoch := range epochs {
		l = append(l, one(epoch, at+1))
	}
	return l
}

// longLog makes a log of one epoch.
func longLog(epoch, end int) []api.Commit { return logOf(slices.Repeat([]int{epoch}, end)...) }

// example is the log of the chapter's examples.
func example() []api.Commit { return logOf(1, 1, 1, 1, 1, 3) }

// begin makes starts of pairs: an epoch, its first number.
func begin(pairs ...int) []api.Start {
	var l []api.Start
	for at := 0; at < len(pairs); at += 2 {
		l = append(l, api.Start{Epoch: pairs[at], First: pairs[at+1]})
	}
	return l
}

// The kinds and roles are written as the document numbers them.

func hello(epoch int, role api.Role, end int, l []api.Start) api.Message {
	return api.Message{Kind: 1, Epoch: epoch, Role: role, End: end, Starts: l}
}

func shipped(epoch, from, prev int, l ...api.Commit) api.Message {
	return api.Message{Kind: 2, Epoch: epoch, From: from, Prev: prev, Commits: l}
}

func ack(epoch, end int) api.Message { return api.Message{Kind: 3, Epoch: epoch, End: end} }

func alikeCommits(a, b api.Commit) bool {
	return a.Epoch == b.Epoch && a.Number == b.Number && slices.Equal(a.Ops, b.Ops)
}

func alike(a, b api.Message) bool {
	return a.Kind == b.Kind && a.Epoch == b.Epoch && a.Role == b.Role && a.End == b.End && slices.Equal(a.Starts, b.Starts) &&
		a.From == b.From && a.Prev == b.Prev && slices.EqualFunc(a.Commits, b.Commits, alikeCommits)
}

// The second telling of the layer: the chapter's words one by one, each thing found by going through the whole log.

func within(x, least, greatest int) bool { return least <= x && x <= greatest }

func opMayBe(o api.Op) bool {
	return within(len(o.Key), 1, 16) && len(o.Value) <= 32 && (o.Put || o.Value == "")
}

func refusalOfCommit(c api.Commit) api.Errno {
	switch {
	case !within(c.Epoch, 1, most), !within(c.Number, 1, most), len(c.Ops) == 0:
		return api.ErrArg
	case len(c.Ops) > mostOps:
		return api.ErrLong
	case slices.ContainsFunc(c.Ops, func(o api.Op) bool { return !opMayBe(o) }):
		return api.ErrArg
	}
	return api.OK
}

func refusalOfLog(epoch int, log []api.Commit) api.Errno {
	if !within(epoch, 1, most) {
		return api.ErrArg
	}
	for at, c := range log {
		if e := refusalOfCommit(c); e != api.OK {
			return e
		}
		if c.Number != at+1 || at > 0 && c.Epoch < log[at-1].Epoch {
			return api.ErrOrder
		}
	}
	for _, c := range log {
		if c.Epoch > epoch {
			return api.ErrOrder
		}
	}
	return api.OK
}

func startsOf(log []api.Commit) []api.Start {
	var l []api.Start
	for _, c := range log {
		if !slices.ContainsFunc(l, func(s api.Start) bool { return s.Epoch == c.Epoch }) {
			l = append(l, api.Start{Epoch: c.Epoch, First: c.Number})
		}
	}
	return l
}

func helloTold(epoch int, role api.Role, log []api.Commit) (api.Message, api.Errno) {
	if e := refusalOfLog(epoch, log); e != api.OK {
		return api.Message{}, e
	}
	if role != 1 && role != 2 && role != 3 {
		return api.Message{}, api.ErrArg
	}
	return hello(epoch, role, len(log), startsOf(log)), api.OK
}

func nextTold(epoch int, log []api.Commit, known int) (api.Message, api.Errno) {
	if e := refusalOfLog(epoch, log); e != api.OK {
		return api.Message{}, e
	}
	if !within(known, 0, len(log)) || known == most {
		return api.Message{}, api.ErrArg
	}
	m := shipped(epoch, known+1, 0)
	for _, c := range log {
		if c.Number == known {
			m.Prev = c.Epoch
		}
		if c.Number > known && len(m.Commits) < mostShip {
			m.Commits = append(m.Commits, c)
		}
	}
	return m, api.OK
}

func ackTold(epoch, end int) (api.Message, api.Errno) {
	if !within(epoch, 1, most) || !within(end, 0, most) {
		return api.Message{}, api.ErrArg
	}
	return ack(epoch, end), api.OK
}

// What is asked of the calls.

// short writes a message of at most a few lines: a log may be very long.
func short(m api.Message) string { return fmt.Sprintf("%.400q", fmt.Sprintf("%+v", m)) }

// want: just this was told; and what was told without an error may be.
func want(t *testing.T, what string, now api.Message, e api.Errno, m api.Message, right api.Errno) {
	t.Helper()
	if e != right || !alike(now, m) {
		t.Errorf("%s: %s, %d, not %s, %d", what, short(now), e, short(m), right)
	}
	if e == api.OK && letter.Check(now) != api.OK {
		t.Errorf("%s: %s may not be", what, short(now))
	}
}

func wantHello(t *testing.T, what string, epoch int, role api.Role, log []api.Commit, m api.Message) {
	t.Helper()
	now, e := ship.Hello(epoch, role, log)
	want(t, "Hello: "+what, now, e, m, api.OK)
}

func wantNext(t *testing.T, what string, epoch int, log []api.Commit, known int, m api.Message) {
	t.Helper()
	now, e := ship.Next(epoch, log, known)
	want(t, "Next: "+what, now, e, m, api.OK)
}

func wantNoHello(t *testing.T, what string, epoch int, role api.Role, log []api.Commit, right api.Errno) {
	t.Helper()
	now, e := ship.Hello(epoch, role, log)
	want(t, "Hello: "+what, now, e, api.Message{}, right)
}

func wantNoShip(t *testing.T, what string, epoch int, log []api.Commit, known int, right api.Errno) {
	t.Helper()
	now, e := ship.Next(epoch, log, known)
	want(t, "Next: "+what, now, e, api.Message{}, right)
}

// wantNeither: a log that is refused with right arguments and with all wrong ones alike.
func wantNeither(t *testing.T, what string, epoch int, log []api.Commit, right api.Errno) {
	t.Helper()
	for _, role := range append(roles(), noRoles()...) {
		wantNoHello(t, what+", role "+strconv.Itoa(int(role)), epoch, role, log, right)
	}
	for _, known := range append(edges(), len(log)-1, len(log), len(log)+1) {
		wantNoShip(t, what+", known "+strconv.Itoa(known), epoch, log, known, right)
	}
	stopIfFailed(t)
}

// stopIfFailed is for what is asked of very many: the first of them tells enough.
func stopIfFailed(t *testing.T) {
	t.Helper()
	if t.Failed() {
		t.FailNow()
	}
}

// wantAsTold: the calls with these arguments tell what the second telling tells.
func wantAsTold(t *testing.T, epoch int, role api.Role, log []api.Commit, known int) {
	t.Helper()
	what := "epoch " + strconv.Itoa(epoch) + ", role " + strconv.Itoa(int(role)) + ", " + strconv.Itoa(len(log)) + " commits, known " + strconv.Itoa(known)
	now, e := ship.Hello(epoch, role, log)
	m, right := helloTold(epoch, role, log)
	want(t, "Hello: "+what, now, e, m, right)
	now, e = ship.Next(epoch, log, known)
	m, right = nextTold(epoch, log, known)
	want(t, "Next: "+what, now, e, m, right)
	now, e = ship.Ack(epoch, known)
	m, right = ackTold(epoch, known)
	want(t, "Ack: "+what, now, e, m, right)
	stopIfFailed(t)
}

func roles() []api.Role { return []api.Role{1, 2, 3} }

func noRoles() []api.Role { return []api.Role{0, 4, 5, 127, 128, 129, 130, 254, 255} }

// edges lists numbers at the bounds of what is a number, on both sides of them, and such as would be within them, cut down to fewer bits.
func edges() []int {
	return []int{
		math.MinInt, math.MinInt + 1, math.MinInt + 2, -1<<32 + 1, -1 << 32, -most, -5, -4, -3, -2, -1, 0, 1, 2, 3, 4, 5, 6, 7,
		most - 5, most - 4, most - 1, most, most + 1, most + 2, 1 << 31, 1<<32 + 1, 1<<32 + 2, math.MaxInt - 5, math.MaxInt - 4, math.MaxInt - 1, math.MaxInt,
	}
}

// noEpochs lists the edges that no epoch is.
func noEpochs() []int {
	return slices.DeleteFunc(edges(), func(x int) bool { return within(x, 1, most) })
}

// odd lists ops at the edges of those that may be.
func odd() []api.Op {
	return []api.Op{put("a", ""), put("\x00", "\xff"), put(of(16), of(32)), del(of(16)), del("\xff"), put("a", "1"), put("a", "1"), del("a")}
}

// logs lists logs that may be, with epochs up to 9.
func logs() [][]api.Commit {
	return [][]api.Commit{
		nil,
		{},
		logOf(1),
		logOf(9),
		logOf(1, 1),
		logOf(1, 2),
		logOf(2, 5, 9),
		logOf(1, 1, 1, 1),
		logOf(1, 1, 1, 1, 1),
		logOf(1, 1, 1, 1, 2),
		logOf(1, 2, 3, 4, 5, 6, 7, 8, 9),
		logOf(3, 3, 3, 4, 4, 4, 4, 4, 4, 7, 7, 9),
		example(),
		longLog(1, 17),
		{with(1, 1, odd()...), with(1, 2, odd()[:1]...), with(4, 3, odd()[2:4]...), with(4, 4, odd()[7:]...), with(4, 5, slices.Repeat(odd()[2:3], 8)...)},
	}
}

func TestLimits(t *testing.T) {
	if api.MaxNumber != most || api.MaxShip != mostShip || api.MaxOps != mostOps {
		t.Errorf("%d %d %d", api.MaxNumber, api.MaxShip, api.MaxOps)
	}
	if api.Primary != 1 || api.Replica != 2 || api.Deposed != 3 || api.Hello != 1 || api.Ship != 2 || api.Ack != 3 {
		t.Error("the roles and the kinds are numbered otherwise")
	}
}

// The chapter's examples.
func TestExamples(t *testing.T) {
	l := example()
	wantNext(t, "nothing known", 3, l, 0, shipped(3, 1, 0, l[0], l[1], l[2], l[3]))
	wantNext(t, "four known", 3, l, 4, shipped(3, 5, 1, l[4], l[5]))
	wantNext(t, "all known", 3, l, 6, shipped(3, 7, 3))
	wantNoShip(t, "a lower epoch", 2, l, 0, api.ErrOrder)
	wantNoShip(t, "more known than there are", 3, l, 7, api.ErrArg)
	wantHello(t, "of the primary", 3, api.Primary, l, hello(3, 1, 6, begin(1, 1, 3, 6)))
}

// DOC.md's second and fourth example of the whole, as far as they speak of what is sent.
func TestExamplesOfTheWhole(t *testing.T) {
	l := []api.Commit{with(1, 1, put("a", "1")), with(1, 2, put("b", "2"))}
	wantHello(t, "of the replica", 1, api.Replica, nil, hello(1, 2, 0, nil))
	wantNext(t, "of the primary", 1, l, 0, shipped(1, 1, 0, l...))
	now, e := ship.Ack(1, 2)
	want(t, "Ack", now, e, ack(1, 2), api.OK)
	wantNext(t, "nothing is out", 1, l, 2, shipped(1, 3, 1))
	deposed := append(slices.Clone(l), with(1, 3, put("c", "3")))
	promoted := append(slices.Clone(l), with(2, 3, put("a", "9")))
	wantHello(t, "of the one that was promoted", 2, api.Primary, promoted, hello(2, 1, 3, begin(1, 1, 2, 3)))
	wantHello(t, "of the one that was deposed", 2, api.Deposed, deposed, hello(2, 3, 3, begin(1, 1)))
	wantNext(t, "to the one that was deposed", 2, promoted, 2, shipped(2, 3, 1, promoted[2]))
}

// The errors of each call that is handed a log.

// An epoch that is none, alone and ahead of each other error.
func TestAnEpochThatIsNone(t *testing.T) {
	for _, epoch := range noEpochs() {
		for _, l := range logs() {
			wantNeither(t, "epoch "+strconv.Itoa(epoch), epoch, l, api.ErrArg)
		}
		for _, f := range faults() {
			wantNeither(t, "epoch "+strconv.Itoa(epoch)+", "+f.what, epoch, f.log, api.ErrArg)
		}
		wantNeither(t, "epoch "+strconv.Itoa(epoch)+", a log with the greatest one", epoch, logOf(1, most), api.ErrArg)
	}
}

func TestEpochsAtTheirBounds(t *testing.T) {
	for _, epoch := range []int{1, 2, most - 1, most} {
		wantHello(t, "no log", epoch, 1, nil, hello(epoch, 1, 0, nil))
		wantNext(t, "no log", epoch, nil, 0, shipped(epoch, 1, 0))
		l := logOf(1, 1, epoch)
		right := begin(1, 1, epoch, 3)
		if epoch == 1 {
			right = begin(1, 1)
		}
		wantHello(t, "its last commit is of that epoch", epoch, 2, l, hello(epoch, 2, 3, right))
		wantNext(t, "its last commit is of that epoch", epoch, l, 2, shipped(epoch, 3, 1, l[2]))
		wantNext(t, "its last commit is known", epoch, l, 3, shipped(epoch, 4, epoch))
	}
}

// fault is a log that does not follow the end 0, 0, and why.
type fault struct {
	what string
	log  []api.Commit
	e    api.Errno
}

// wrong is a commit that may not stand at a place.
type wrong struct {
	what string
	c    api.Commit
	e    api.Errno
}

// wrongs lists commits that may not stand behind the end epoch, number.
func wrongs(epoch, number int) []wrong {
	next, fine := number+1, put("a", "1")
	nine := slices.Repeat([]api.Op{fine}, mostOps+1)
	l := []wrong{
		{"nothing of a commit", api.Commit{}, api.ErrArg},
		{"no ops", with(epoch+1, next), api.ErrArg},
		{"no ops, not nil", api.Commit{Epoch: epoch + 1, Number: next, Ops: []api.Op{}}, api.ErrArg},
		{"nine ops", with(epoch+1, next, nine...), api.ErrLong},
		{"very many ops", with(epoch+1, next, slices.Repeat(nine, 100)...), api.ErrLong},
		{"nine ops, none of which may be", with(epoch+1, next, make([]api.Op, mostOps+1)...), api.ErrLong},
		{"nine ops, and out of order", with(epoch+1, next+1, nine...), api.ErrLong},
		{"nine ops, and no epoch", with(0, next, nine...), api.ErrArg},
		{"nine ops, and no number", with(epoch+1, most+1, nine...), api.ErrArg},
		{"no ops, and out of order", with(epoch+1, next+1), api.ErrArg},
		{"a number too great by one", with(epoch+1, next+1, fine), api.ErrOrder},
		{"a number too great by two", with(epoch+1, next+2, fine), api.ErrOrder},
		{"the greatest number", with(epoch+1, most, fine), api.ErrOrder},
	}
	for _, bad := range []int{0, -1, math.MinInt, most + 1, 1<<32 + 1, math.MaxInt} {
		what := " " + strconv.Itoa(bad)
		l = append(l, wrong{"the epoch" + what, with(bad, next, fine), api.ErrArg}, wrong{"the number" + what, with(epoch+1, bad, fine), api.ErrArg})
	}
	for _, o := range []api.Op{{}, put("", "1"), put(of(17), ""), put("k", of(33)), del(of(17)), {Key: "k", Value: "v"}} {
		l = append(l, wrong{"an op that may not be", with(epoch+1, next, o), api.ErrArg}, wrong{"one behind others", with(epoch+1, next, fine, fine, o), api.ErrArg},
			wrong{"one, and out of order", with(epoch+1, next+1, o), api.ErrArg})
	}
	if number > 0 {
		l = append(l, wrong{"the number once more", with(epoch+1, number, fine), api.ErrOrder}, wrong{"an epoch that falls", with(epoch-1, next, fine), api.ErrOrder},
			wrong{"an epoch that falls to 1", with(1, next, fine), api.ErrOrder})
	}
	if number > 1 {
		l = append(l, wrong{"a number too low by two", with(epoch+1, number-1, fine), api.ErrOrder}, wrong{"the first one again", with(epoch+1, 1, fine), api.ErrOrder})
	}
	return l
}

// faults lists logs with one commit that may not stand there, the first one, a middle one or the last one; the others would follow.
func faults() []fault {
	var list []fault
	for _, epochs := range [][]int{{4}, {3, 4}, {3, 3, 3}, {2, 3, 5, 5, 6, 6, 6}} {
		for at := range epochs {
			ahead := 0
			if at > 0 {
				ahead = epochs[at-1]
			}
			for _, w := range wrongs(ahead, at) {
				l := logOf(epochs...)
				l[at] = w.c
				list = append(list, fault{w.what + " at " + strconv.Itoa(at) + " of " + strconv.Itoa(len(l)), l, w.e})
			}
		}
	}
	return list
}

// A log that does not follow, alone and ahead of a last epoch that is above, of no role and of what cannot be known.
func TestALogThatDoesNotFollow(t *testing.T) {
	for _, f := range faults() {
		if e := commit.Follows(0, 0, f.log).Err; e != f.e {
			t.Errorf("%s: commit.Follows tells %d, not %d", f.what, e, f.e)
		}
		for _, epoch := range []int{1, 2, 6, 7, most} {
			wantNeither(t, f.what, epoch, f.log, f.e)
		}
	}
}

// Of several faults the first one counts.
func TestALogWithSeveralFaults(t *testing.T) {
	nine := slices.Repeat([]api.Op{put("a", "1")}, mostOps+1)
	for what, c := range map[string]struct {
		log []api.Commit
		e   api.Errno
	}{
		"order, then ops":        {[]api.Commit{one(1, 1), one(1, 3), with(1, 3, nine...)}, api.ErrOrder},
		"ops, then order":        {[]api.Commit{one(1, 1), with(1, 2, nine...), one(1, 5)}, api.ErrLong},
		"epoch, then ops":        {[]api.Commit{one(0, 1), with(1, 2, nine...)}, api.ErrArg},
		"ops, then epoch":        {[]api.Commit{with(1, 1, nine...), one(0, 2)}, api.ErrLong},
		"order, then no commit":  {[]api.Commit{one(2, 1), one(1, 2), {}}, api.ErrOrder},
		"no commit, then order":  {[]api.Commit{{}, one(2, 1), one(1, 2)}, api.ErrArg},
		"order at once, and ops": {[]api.Commit{one(1, 2), with(1, 3, nine...)}, api.ErrOrder},
	} {
		for _, epoch := range []int{1, 5} {
			wantNeither(t, what, epoch, c.log, c.e)
		}
	}
}

// A log whose last epoch is above, alone and ahead of no role and of what cannot be known.
func TestTheLastEpoch(t *testing.T) {
	for _, l := range logs() {
		if len(l) == 0 {
			continue
		}
		last := l[len(l)-1].Epoch
		for epoch := 1; epoch < last; epoch++ {
			wantNeither(t, "epoch "+strconv.Itoa(epoch)+", its last one is "+strconv.Itoa(last), epoch, l, api.ErrOrder)
		}
		for _, epoch := range []int{last, last + 1, last + 2, most} {
			wantHello(t, "epoch "+strconv.Itoa(epoch), epoch, 3, l, hello(epoch, 3, len(l), startsOf(l)))
			wantNext(t, "epoch "+strconv.Itoa(epoch), epoch, l, len(l), shipped(epoch, len(l)+1, last))
		}
	}
	wantNeither(t, "one below the greatest", most-1, logOf(1, most), api.ErrOrder)
	wantHello(t, "the greatest", most, 1, logOf(1, most), hello(most, 1, 2, begin(1, 1, most, 2)))
	wantHello(t, "the last one below the greatest", most, 1, logOf(most-1), hello(most, 1, 1, begin(most-1, 1)))
}

// Nothing is asked of no commits.
func TestNoLog(t *testing.T) {
	for what, l := range map[string][]api.Commit{"nil": nil, "empty": {}, "with room": example()[:0], "behind others": example()[6:]} {
		for _, epoch := range []int{1, 2, 3, most} {
			for _, role := range roles() {
				wantHello(t, what, epoch, role, l, hello(epoch, role, 0, nil))
			}
			for _, role := range noRoles() {
				wantNoHello(t, what, epoch, role, l, api.ErrArg)
			}
			wantNext(t, what, epoch, l, 0, shipped(epoch, 1, 0))
			for _, known := range edges() {
				if known != 0 {
					wantNoShip(t, what+", known "+strconv.Itoa(known), epoch, l, known, api.ErrArg)
				}
			}
		}
	}
}

// P17.1

func TestHelloOfEachRole(t *testing.T) {
	for _, l := range logs() {
		for role := range 256 {
			now, e := ship.Hello(9, api.Role(role), l)
			if within(role, 1, 3) {
				want(t, "role "+strconv.Itoa(role), now, e, hello(9, api.Role(role), len(l), startsOf(l)), api.OK)
			} else {
				want(t, "role "+strconv.Itoa(role), now, e, api.Message{}, api.ErrArg)
			}
		}
	}
}

func TestHelloTellsTheEndAndTheStarts(t *testing.T) {
	for _, c := range []struct {
		epochs []int
		l      []api.Start
	}{
		{nil, nil},
		{[]int{1}, begin(1, 1)},
		{[]int{7}, begin(7, 1)},
		{[]int{1, 1}, begin(1, 1)},
		{[]int{1, 2}, begin(1, 1, 2, 2)},
		{[]int{2, 9}, begin(2, 1, 9, 2)},
		{[]int{1, 1, 1, 3, 3}, begin(1, 1, 3, 4)},
		{[]int{1, 2, 3, 4, 5}, begin(1, 1, 2, 2, 3, 3, 4, 4, 5, 5)},
		{[]int{4, 4, 5, 5, 5, 8, 9, 9}, begin(4, 1, 5, 3, 8, 6, 9, 7)},
		{[]int{1, most - 1, most}, begin(1, 1, most-1, 2, most, 3)},
	} {
		for _, role := range roles() {
			wantHello(t, "starts", most, role, logOf(c.epochs...), hello(most, role, len(c.epochs), c.l))
		}
		if now, f := starts.Of(logOf(c.epochs...)); f != (api.Fault{}) || !slices.Equal(now, c.l) {
			t.Errorf("starts.Of tells %v, %v", now, f)
		}
	}
}

// P17.2

func TestNextOfEachKnown(t *testing.T) {
	for _, l := range logs() {
		for _, known := range append(edges(), len(l)-1, len(l), len(l)+1) {
			if !within(known, 0, len(l)) {
				wantNoShip(t, "known "+strconv.Itoa(known), 9, l, known, api.ErrArg)
			}
		}
		for known := range len(l) + 1 {
			m := shipped(9, known+1, 0, l[known:min(len(l), known+4)]...)
			if known > 0 {
				m.Prev = l[known-1].Epoch
			}
			wantNext(t, "known "+strconv.Itoa(known), 9, l, known, m)
		}
	}
}

// None, fewer than four, just four, and more commits behind known.
func TestNextHowMany(t *testing.T) {
	for end := range 15 {
		l := longLog(2, end)
		for known := range end + 1 {
			m, e := ship.Next(2, l, known)
			count := end - known
			if count > 4 {
				count = 4
			}
			if e != api.OK || len(m.Commits) != count {
				t.Fatalf("%d of %d known: %d commits, %d", known, end, len(m.Commits), e)
			}
			for i, c := range m.Commits {
				if !alikeCommits(c, one(2, known+1+i)) {
					t.Errorf("%d of %d known: %+v at %d", known, end, c, i)
				}
			}
		}
	}
}

// Prev is the epoch of the commit known, wherever the epoch changes.
func TestNextPrev(t *testing.T) {
	for end := 1; end < 9; end++ {
		for change := 1; change <= end; change++ {
			l := append(longLog(3, change), logOf(slices.Repeat([]int{5}, end)...)[change:]...)
			for known := range end + 1 {
				prev := 5
				switch {
				case known == 0:
					prev = 0
				case known <= change:
					prev = 3
				}
				m, e := ship.Next(6, l, known)
				if e != api.OK || m.Prev != prev || m.From != known+1 || m.Epoch != 6 {
					t.Errorf("%d of %d known, the epoch changes behind %d: %+v, %d", known, end, change, m, e)
				}
			}
		}
	}
}

// The ops of the commits are told as they are, at all lengths.
func TestNextTellsTheOps(t *testing.T) {
	var l []api.Commit
	for count := 1; count <= mostOps; count++ {
		l = append(l, with(1, count, odd()[:count]...))
	}
	wantNext(t, "the first four", 1, l, 0, shipped(1, 1, 0, with(1, 1, odd()[:1]...), with(1, 2, odd()[:2]...), with(1, 3, odd()[:3]...), with(1, 4, odd()[:4]...)))
	wantNext(t, "the last four", 1, l, 4, shipped(1, 5, 1, with(1, 5, odd()[:5]...), with(1, 6, odd()[:6]...), with(1, 7, odd()[:7]...), with(1, 8, odd()...)))
}

// P17.3

func TestAck(t *testing.T) {
	for _, epoch := range edges() {
		for _, end := range edges() {
			now, e := ship.Ack(epoch, end)
			what := "Ack(" + strconv.Itoa(epoch) + ", " + strconv.Itoa(end) + ")"
			if 1 <= epoch && epoch <= 1048576 && 0 <= end && end <= 1048576 {
				want(t, what, now, e, ack(epoch, end), api.OK)
			} else {
				want(t, what, now, e, api.Message{}, api.ErrArg)
			}
		}
	}
	for _, c := range []struct{ epoch, end int }{{1, 0}, {1, 1}, {2, 7}, {7, 2}, {1, most}, {most, 0}, {most, most}, {most - 1, most - 1}} {
		now, e := ship.Ack(c.epoch, c.end)
		want(t, "within its bounds", now, e, ack(c.epoch, c.end), api.OK)
	}
	for _, c := range []struct{ epoch, end int }{
		{0, 0}, {-1, 0}, {most + 1, 0}, {math.MinInt, 5}, {math.MaxInt, 5}, {1, -1}, {1, most + 1}, {1, math.MinInt}, {1, math.MaxInt},
		{0, -1}, {0, most + 1}, {most + 1, most + 1}, {most + 1, -1}, {math.MinInt, math.MinInt}, {math.MaxInt, math.MaxInt}, {math.MinInt, math.MaxInt},
	} {
		now, e := ship.Ack(c.epoch, c.end)
		want(t, "out of its bounds", now, e, api.Message{}, api.ErrArg)
	}
}

// P17.4

// wantMayBe: a message that may be, and that comes through as bytes.
func wantMayBe(t *testing.T, m api.Message, e api.Errno) {
	t.Helper()
	if e != api.OK || letter.Check(m) != api.OK {
		t.Fatalf("%+v, %d: may it be? %d", m, e, letter.Check(m))
	}
	b, e := letter.Encode(m)
	if e != api.OK {
		t.Fatalf("%+v: Encode: %d", m, e)
	}
	if back, e := letter.Decode(b); e != api.OK || !alike(back, m) {
		t.Fatalf("%+v comes through as %+v, %d", m, back, e)
	}
}

func TestWhatIsToldMayBe(t *testing.T) {
	for _, l := range logs() {
		for _, epoch := range []int{9, 10, most} {
			for _, role := range roles() {
				m, e := ship.Hello(epoch, role, l)
				wantMayBe(t, m, e)
			}
			for known := range len(l) + 1 {
				m, e := ship.Next(epoch, l, known)
				wantMayBe(t, m, e)
			}
		}
	}
	for _, epoch := range []int{1, 2, most - 1, most} {
		for _, end := range []int{0, 1, 2, most - 1, most} {
			m, e := ship.Ack(epoch, end)
			wantMayBe(t, m, e)
		}
	}
}

// brought answers what ships bring, one behind the other, to one that knows so many, until one brings nothing.
func brought(t *testing.T, epoch int, log []api.Commit, known int) []api.Commit {
	t.Helper()
	list := slices.Clone(log[:known])
	for range len(log) + 2 {
		m, e := ship.Next(epoch, log, known)
		wantMayBe(t, m, e)
		if m.From != len(list)+1 {
			t.Fatalf("From %d behind %d commits", m.From, len(list))
		}
		if len(m.Commits) == 0 {
			return list
		}
		list = append(list, m.Commits...)
		known = m.From - 1 + len(m.Commits)
	}
	t.Fatalf("ships without an end")
	return nil
}

func TestShipsBringTheWholeLog(t *testing.T) {
	all := logs()
	for end := range 40 {
		all = append(all, longLog(1+end%9, end))
	}
	for _, l := range all {
		for known := range len(l) + 1 {
			if now := brought(t, 9, l, known); !slices.EqualFunc(now, l, alikeCommits) {
				t.Errorf("from %d on: %+v, not %+v", known, now, l)
			}
		}
	}
}

// As many ships as there are fours, the last one perhaps shorter.
func TestHowManyShipsBringALog(t *testing.T) {
	for end := range 30 {
		l, ships := longLog(1, end), 0
		for known := 0; known < end; ships++ {
			m, e := ship.Next(1, l, known)
			wantMayBe(t, m, e)
			if len(m.Commits) == 0 {
				t.Fatalf("nothing behind %d of %d", known, end)
			}
			known = m.From - 1 + len(m.Commits)
		}
		if ships != (end+3)/4 {
			t.Errorf("%d ships bring %d commits", ships, end)
		}
	}
}

// The other site's hello and a ship go together: what the ship has ahead of it is the epoch that the starts tell.
func TestAHelloTellsEachPrev(t *testing.T) {
	for _, l := range logs() {
		h, e := ship.Hello(9, api.Primary, l)
		wantMayBe(t, h, e)
		for known := range len(l) + 1 {
			m, _ := ship.Next(9, l, known)
			if epoch, e := starts.At(h.Starts, h.End, known); e != api.OK || epoch != m.Prev {
				t.Errorf("%d known: Prev %d, and the starts tell %d, %d", known, m.Prev, epoch, e)
			}
		}
	}
}

// The greatest log, with an epoch of its own for each commit, or one epoch for all.
func TestTheGreatestLog(t *testing.T) {
	ops := []api.Op{del("a")}
	steep, flat := make([]api.Commit, most+1), make([]api.Commit, most+1)
	for at := range steep {
		steep[at] = api.Commit{Epoch: at + 1, Number: at + 1, Ops: ops}
		flat[at] = api.Commit{Epoch: 5, Number: at + 1, Ops: ops}
	}
	// One more has a number that is none.
	for _, l := range [][]api.Commit{steep, flat} {
		wantNoHello(t, "above the greatest number", most, 1, l, api.ErrArg)
		wantNoShip(t, "above the greatest number", most, l, 0, api.ErrArg)
	}
	steep, flat = steep[:most], flat[:most]
	m, e := ship.Hello(most, 2, steep)
	if e != api.OK || m.End != most || len(m.Starts) != most || m.Starts[0] != (api.Start{Epoch: 1, First: 1}) || m.Starts[most-1] != (api.Start{Epoch: most, First: most}) || letter.Check(m) != api.OK {
		t.Errorf("Hello: end %d, %d starts, %d", m.End, len(m.Starts), e)
	}
	wantNoHello(t, "an epoch below the last one", most-1, 2, steep, api.ErrOrder)
	wantHello(t, "one epoch", 5, 2, flat, hello(5, 2, most, begin(5, 1)))
	wantNext(t, "nothing known", most, steep, 0, shipped(most, 1, 0, steep[:4]...))
	for known := most - 6; known < most; known++ {
		wantNext(t, "known "+strconv.Itoa(known), most, steep, known, shipped(most, known+1, known, steep[known:min(known+4, most)]...))
		wantNext(t, "known "+strconv.Itoa(known), 6, flat, known, shipped(6, known+1, 5, flat[known:min(known+4, most)]...))
	}
	// The end is known, but there is no number behind it.
	for _, known := range []int{most, most + 1, -1, math.MinInt, math.MaxInt} {
		wantNoShip(t, "known "+strconv.Itoa(known), most, steep, known, api.ErrArg)
		wantNoShip(t, "known "+strconv.Itoa(known), 5, flat, known, api.ErrArg)
	}
	wantNext(t, "the end is just below", most, steep[:most-1], most-1, shipped(most, most, most-1))
	wantNoShip(t, "the greatest number, the end being just below", most, steep[:most-1], most, api.ErrArg)
}

// Rules 2 to 4: what is refused, what is handed in, what is told.

func TestZeroBesideAnError(t *testing.T) {
	wantZero := func(what string, m api.Message, e api.Errno) {
		t.Helper()
		if e == api.OK || m.Kind != 0 || m.Epoch != 0 || m.Role != 0 || m.End != 0 || len(m.Starts) != 0 || m.From != 0 || m.Prev != 0 || len(m.Commits) != 0 {
			t.Errorf("%s: %+v, %d", what, m, e)
		}
	}
	for _, l := range append(logs(), logOf(2, 1), logOf(1, 0), []api.Commit{{}}) {
		for _, epoch := range []int{0, most + 1} {
			m, e := ship.Hello(epoch, 1, l)
			wantZero("Hello, no epoch", m, e)
			m, e = ship.Next(epoch, l, 0)
			wantZero("Next, no epoch", m, e)
			m, e = ship.Ack(epoch, 0)
			wantZero("Ack, no epoch", m, e)
		}
		m, e := ship.Hello(9, 4, l)
		wantZero("Hello, no role", m, e)
		m, e = ship.Next(9, l, len(l)+1)
		wantZero("Next, too much known", m, e)
		m, e = ship.Next(9, l, -1)
		wantZero("Next, less than nothing known", m, e)
		m, e = ship.Ack(9, most+1)
		wantZero("Ack, no end", m, e)
	}
}

// roomy answers l with spare room behind it, and behind the ops of each commit; and the whole of it.
func roomy(l []api.Commit) (handed, whole []api.Commit) {
	for _, c := range l {
		c.Ops = append(slices.Clone(c.Ops), put("room", "room"), del("room"))[:len(c.Ops)]
		whole = append(whole, c)
	}
	// What stands there would follow.
	for range 6 {
		whole = append(whole, with(9, len(whole)+1, put("room", "room")))
	}
	return whole[:len(l):len(whole)], whole
}

// copied answers l in memory of its own, the spare room of its ops with them.
func copied(l []api.Commit) []api.Commit {
	l = slices.Clone(l)
	for i, c := range l {
		l[i].Ops = slices.Clone(c.Ops[:cap(c.Ops)])[:len(c.Ops)]
	}
	return l
}

// alikeWhole: the same commits, with the same in their spare room.
func alikeWhole(a, b []api.Commit) bool {
	return slices.EqualFunc(a, b, func(x, y api.Commit) bool {
		return x.Epoch == y.Epoch && x.Number == y.Number && len(x.Ops) == len(y.Ops) && slices.Equal(x.Ops[:cap(x.Ops)], y.Ops[:cap(x.Ops)])
	})
}

func spoilOps(l []api.Op) {
	l = l[:cap(l)]
	for i := range l {
		l[i] = put("spoilt", "spoilt")
	}
}

// spoil writes over all of l, its spare room, its ops and theirs.
func spoil(l []api.Commit) {
	l = l[:cap(l)]
	for i, c := range l {
		spoilOps(c.Ops)
		l[i] = with(7, 7, put("spoilt", "spoilt"))
	}
}

func spoilStarts(l []api.Start) {
	l = l[:cap(l)]
	for i := range l {
		l[i] = api.Start{Epoch: -7, First: -7}
	}
}

// copiedMessage answers m in memory of its own.
func copiedMessage(m api.Message) api.Message {
	m.Starts = slices.Clone(m.Starts)
	m.Commits = copied(m.Commits)
	return m
}

// calls lists those that tell something of a log, at each known and for each role, and those that are refused.
func calls(l []api.Commit) []func(log []api.Commit) (api.Message, api.Errno) {
	var list []func(log []api.Commit) (api.Message, api.Errno)
	for role := range 5 {
		list = append(list, func(log []api.Commit) (api.Message, api.Errno) { return ship.Hello(9, api.Role(role), log) })
	}
	for known := -1; known <= len(l)+1; known++ {
		list = append(list, func(log []api.Commit) (api.Message, api.Errno) { return ship.Next(9, log, known) })
	}
	return append(list,
		func(log []api.Commit) (api.Message, api.Errno) { return ship.Hello(0, 1, log) },
		func(log []api.Commit) (api.Message, api.Errno) { return ship.Next(0, log, 0) },
		func(log []api.Commit) (api.Message, api.Errno) { return ship.Hello(1, 1, log) },
		func(log []api.Commit) (api.Message, api.Errno) { return ship.Next(1, log, 0) })
}

// manyLogs lists logs that may be and some that are refused.
func manyLogs() [][]api.Commit {
	return append(logs(), logOf(2, 1), logOf(1, 1, 0, 1), append(logOf(1, 1), api.Commit{}), append(logOf(1), one(1, 3)))
}

func TestWhatIsHandedInIsLeftAlone(t *testing.T) {
	for _, l := range manyLogs() {
		for i, call := range calls(l) {
			handed, whole := roomy(l)
			keep := copied(whole)
			m, e := call(handed)
			if !alikeWhole(whole, keep) {
				t.Errorf("call %d of %+v: it was changed: %+v", i, keep, whole)
			}
			// The spare room is not looked at.
			if other, right := call(copied(l)); e != right || !alike(m, other) {
				t.Errorf("call %d: with spare room %+v, %d, without %+v, %d", i, m, e, other, right)
			}
		}
	}
}

func TestALaterChangeChangesNothingThatWasTold(t *testing.T) {
	for _, l := range manyLogs() {
		for i, call := range calls(l) {
			handed, whole := roomy(l)
			m, _ := call(handed)
			keep := copiedMessage(m)
			spoil(whole)
			if !alike(m, keep) {
				t.Errorf("call %d: %+v was told, and is %+v now", i, keep, m)
			}
		}
	}
}

// What is written into an answer, and into its spare room, is seen nowhere else: neither in what was handed in, nor in another answer.
func TestAnswersAreNewMemory(t *testing.T) {
	for _, l := range manyLogs() {
		for i, call := range calls(l) {
			handed, whole := roomy(l)
			keep := copied(whole)
			m, _ := call(handed)
			other, e := call(handed)
			then := copiedMessage(other)
			spoil(m.Commits)
			spoilStarts(m.Starts)
			if !alikeWhole(whole, keep) {
				t.Errorf("call %d: it is seen in the log: %+v, not %+v", i, whole, keep)
			}
			if !alike(other, then) {
				t.Errorf("call %d: it is seen in another answer: %+v, not %+v", i, other, then)
			}
			if again, now := call(handed); now != e || !alike(again, then) {
				t.Errorf("call %d: it is seen in a later answer: %+v, %d, not %+v, %d", i, again, now, then, e)
			}
		}
	}
}

// The ops of two commits of a ship share nothing, though those of the log may: each is a piece of one list, or the very same.
func TestListsOfOneShipShareNothing(t *testing.T) {
	ops := slices.Repeat(odd(), 2)
	for what, piece := range map[string]func(number int) []api.Op{
		"one list":                     func(number int) []api.Op { return ops[:3] },
		"pieces one behind the other":  func(number int) []api.Op { return ops[number : number+1] },
		"pieces that lie over another": func(number int) []api.Op { return ops[number : number+4] },
	} {
		var l []api.Commit
		for number := 1; number <= 6; number++ {
			l = append(l, api.Commit{Epoch: 1, Number: number, Ops: piece(number)})
		}
		for known := range 6 {
			for at := range min(mostShip, 6-known) {
				m, e := ship.Next(1, l, known)
				keep := copiedMessage(m)
				wantMayBe(t, m, e)
				spoilOps(m.Commits[at].Ops)
				keep.Commits[at].Ops = m.Commits[at].Ops
				if !alike(m, keep) {
					t.Errorf("%s: written over at %d: %+v, not %+v", what, at, m, keep)
				}
				if !slices.Equal(ops, slices.Repeat(odd(), 2)) {
					t.Fatalf("%s: it is seen in the log", what)
				}
			}
		}
	}
}

// A log may be grown in place, and what was told of its first part stays.
func TestALogThatGrows(t *testing.T) {
	log := make([]api.Commit, 0, 40)
	var told, then []api.Message
	for number := 1; number <= 40; number++ {
		log = append(log, one(1+number/7, number))
		for _, known := range []int{0, max(0, number-5), number - 1, number} {
			m, e := ship.Next(9, log, known)
			wantMayBe(t, m, e)
			h, e := ship.Hello(9, api.Primary, log)
			wantMayBe(t, h, e)
			told = append(told, m, h)
			then = append(then, copiedMessage(m), copiedMessage(h))
		}
	}
	for i := range told {
		if !alike(told[i], then[i]) {
			t.Errorf("%+v was told, and is %+v now", then[i], told[i])
		}
	}
}

// P1: all calls at all edges, and all small logs.

// Gone through twice, the second time backward, as no answer hangs on a call ahead.
func TestAllCallsAtAllEdges(t *testing.T) {
	l := edges()
	for range 2 {
		for _, epoch := range l {
			for _, known := range l {
				for _, role := range append(roles(), 0, 4, 255) {
					wantAsTold(t, epoch, role, nil, known)
					wantAsTold(t, epoch, role, logOf(1, 1, 3, 3, 6), known)
					wantAsTold(t, epoch, role, []api.Commit{one(epoch, 1), one(epoch, 2)}, known)
					wantAsTold(t, epoch, role, []api.Commit{one(1, 1), one(1, known)}, known)
				}
			}
		}
		slices.Reverse(l)
	}
}

// everyList calls do with every list of at most length numbers from least to top.
func everyList(length, least, top int, do func(list []int)) {
	var further func(list []int)
	further = func(list []int) {
		do(list)
		if len(list) == length {
			return
		}
		for x := least; x <= top; x++ {
			further(append(slices.Clone(list), x))
		}
	}
	further(nil)
}

// All lists of few epochs, those that fall and that are none too.
func TestEverySmallLog(t *testing.T) {
	everyList(6, 0, 3, func(epochs []int) {
		l := logOf(epochs...)
		for epoch := range 5 {
			for known := -1; known <= len(l)+1; known++ {
				wantAsTold(t, epoch, api.Role(known+1), l, known)
			}
		}
	})
}

// All lists of few numbers.
func TestEverySmallListOfNumbers(t *testing.T) {
	everyList(5, 0, 5, func(numbers []int) {
		var l []api.Commit
		for at, number := range numbers {
			l = append(l, one(1+at/2, number))
		}
		for epoch := 1; epoch <= 3; epoch++ {
			wantAsTold(t, epoch, 2, l, len(l)/2)
		}
	})
}

// turn is a row of numbers that looks mixed and is the same each time.
type turn uint64

func (r *turn) below(n int) int {
	*r = *r*6364136223846793005 + 1442695040888963407
	return int(uint64(*r) >> 33 % uint64(n))
}

// log answers a log of at most length commits, whose epochs rise now and then.
func (r *turn) log(length int) []api.Commit {
	var l []api.Commit
	epoch := 1 + r.below(3)
	for number := range r.below(length + 1) {
		if r.below(4) == 0 {
			epoch += 1 + r.below(3)
		}
		l = append(l, one(epoch, number+1))
	}
	return l
}

// change puts one commit of l wrong, perhaps.
func (r *turn) change(l []api.Commit) {
	if len(l) == 0 {
		return
	}
	c := &l[r.below(len(l))]
	switch r.below(5) {
	case 0:
		c.Epoch += r.below(5) - 2
	case 1:
		c.Number += r.below(3) - 1
	case 2:
		c.Ops = slices.Repeat(c.Ops, r.below(10))
	case 3:
		c.Epoch = edges()[r.below(len(edges()))]
	case 4:
		// An earlier change may have left none.
		if len(c.Ops) > 0 {
			c.Ops[r.below(len(c.Ops))].Key = of(r.below(20))
		}
	}
}

func TestMixedLogs(t *testing.T) {
	r := turn(17)
	for range 20000 {
		l := r.log(20)
		for range r.below(3) {
			r.change(l)
		}
		last := 1
		if len(l) > 0 {
			last = l[len(l)-1].Epoch
		}
		wantAsTold(t, last+r.below(5)-1, api.Role(r.below(5)), l, r.below(len(l)+3)-1)
	}
}

// A replica that asks anew now and then, from what it has on, has a first part of the log at all times, and all of it in the end.
func TestShipsOfALogThatGrows(t *testing.T) {
	r := turn(3)
	for range 200 {
		whole := r.log(60)
		end, known := 0, 0
		var has []api.Commit
		for end < len(whole) || known < end {
			end = min(end+r.below(7), len(whole))
			m, e := ship.Next(most, whole[:end], known)
			wantMayBe(t, m, e)
			if r.below(3) == 0 {
				continue
			}
			has = append(has, m.Commits...)
			known = m.From - 1 + len(m.Commits)
			if !slices.EqualFunc(has, whole[:known], alikeCommits) {
				t.Fatalf("%+v, not a first part of %+v", has, whole)
			}
		}
		if len(has) != len(whole) {
			t.Errorf("%d of %d", len(has), len(whole))
		}
	}
}

// read makes a list of commits of bytes: two each, most of which are a log's.
func read(b []byte) []api.Commit {
	var l []api.Commit
	epoch := 1
	for ; len(b) >= 2; b = b[2:] {
		epoch += int(b[0] % 3)
		c := one(epoch, len(l)+1)
		switch b[1] {
		case 0:
			c.Number++
		case 1:
			c.Epoch--
		case 2:
			c.Ops = nil
		case 3:
			c.Ops = slices.Repeat(c.Ops, 9)
		case 4:
			c.Ops[0].Key = ""
		case 5:
			c.Epoch = most
		}
		l = append(l, c)
	}
	return l
}

func FuzzCalls(f *testing.F) {
	f.Add(3, uint8(1), 0, []byte{0, 9, 0, 9, 0, 9, 0, 9, 0, 9, 2, 9})
	f.Add(3, uint8(4), 6, []byte{0, 9, 0, 9, 0, 9, 0, 9, 0, 9, 2, 9})
	f.Add(2, uint8(2), 7, []byte{0, 9, 1, 0, 1, 9})
	f.Add(most, uint8(3), most, []byte{0, 9, 0, 5})
	f.Add(math.MinInt, uint8(0), math.MaxInt, []byte{0, 3, 0, 1})
	f.Fuzz(func(t *testing.T, epoch int, role uint8, known int, b []byte) {
		l := read(b)
		wantAsTold(t, epoch, api.Role(role), l, known)
		// Most numbers are far out of their bounds: these are near them.
		last := 1
		if len(l) > 0 {
			last = l[len(l)-1].Epoch
		}
		wantAsTold(t, last+epoch%3, api.Role(role%5), l, known%(len(l)+2))
	})
}
