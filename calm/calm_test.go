package calm_test

import (
	"fmt"
	"math"
	"reflect"
	"slices"
	"strings"
	"testing"

	"lagleash/api"
	"lagleash/calm"
	"lagleash/commit"
	"lagleash/world"
)

// The limits and errors, as the document writes them.
const (
	mostNumber = 1048576
	mostLeash  = 16
	mostRounds = 4096
	rPhases    = 5
	hPhases    = 2
	errNil     = 1
	errArg     = 2
	errDown    = 7
)

func TestLimits(t *testing.T) {
	for name, x := range map[string][2]int{
		"MaxNumber": {api.MaxNumber, mostNumber},
		"MaxLeash":  {api.MaxLeash, mostLeash},
		"MaxRounds": {api.MaxRounds, mostRounds},
		"RPhases":   {api.RPhases, rPhases},
		"HPhases":   {api.HPhases, hPhases},
		"ErrNil":    {int(api.ErrNil), errNil},
		"ErrArg":    {int(api.ErrArg), errArg},
		"ErrDown":   {int(api.ErrDown), errDown},
		"a measure": {reflect.TypeFor[api.Measure]().NumField(), 3},
	} {
		if x[0] != x[1] {
			t.Errorf("%s: %d, not %d", name, x[0], x[1])
		}
	}
}

func put(key, value string) api.Op { return api.Op{Put: true, Key: key, Value: value} }
func del(key string) api.Op        { return api.Op{Key: key} }

func with(epoch, number int, ops ...api.Op) api.Commit {
	return api.Commit{Epoch: epoch, Number: number, Ops: ops}
}

func commits(node int, l ...api.Op) api.Act { return api.Act{Kind: api.ActCommit, Node: node, Ops: l} }
func reads(node int, key string) api.Act    { return api.Act{Kind: api.ActRead, Node: node, Key: key} }
func ticks(node int) api.Act                { return api.Act{Kind: api.ActTick, Node: node} }
func promotes(node int) api.Act             { return api.Act{Kind: api.ActPromote, Node: node} }
func flushes(node int) api.Act              { return api.Act{Kind: api.ActFlush, Node: node} }
func delivers(n int) api.Act                { return api.Act{Kind: api.ActDeliver, N: n} }
func doubles(n int) api.Act                 { return api.Act{Kind: api.ActTwice, N: n} }
func drops(n int) api.Act                   { return api.Act{Kind: api.ActDrop, N: n} }
func fuses(node, n int) api.Act             { return api.Act{Kind: api.ActFuse, Node: node, N: n} }
func pulls(node int) api.Act                { return api.Act{Kind: api.ActPull, Node: node} }
func starts(node, k, t int) api.Act         { return api.Act{Kind: api.ActStart, Node: node, N: k, T: t} }
func rounds() api.Act                       { return api.Act{Kind: api.ActRound} }

// short keeps what is told of much readable.
func short(x any) string {
	s := strings.ToValidUTF8(fmt.Sprintf("%+v", x), "?")
	if len(s) > 900 {
		return s[:700] + " .. " + s[len(s)-180:]
	}
	return s
}

func newWorld(most int) *world.World {
	w, e := world.New(most)
	if e != api.OK {
		panic(fmt.Sprintf("a test asks for what may not be: %d", e))
	}
	return w
}

// do lets acts happen, none of which may be refused.
func do(t testing.TB, w *world.World, l ...api.Act) {
	t.Helper()
	for _, a := range l {
		if did := w.Do(a); did.Err != api.OK {
			t.Fatalf("%s is refused: %d", short(a), did.Err)
		}
	}
}

// refuses lets an act happen that is refused.
func refuses(t testing.TB, w *world.World, a api.Act, e api.Errno) {
	t.Helper()
	if did := w.Do(a); did.Err != e {
		t.Fatalf("%s is told %d, not %d", short(a), did.Err, e)
	}
}

// acked: two commits are durable at both nodes, and the node 0 knows that.
func acked() []api.Act {
	return []api.Act{commits(0, put("a", "1")), commits(0, put("b", "2")), ticks(1), delivers(1), ticks(0), delivers(3), delivers(4)}
}

// parted: the commits 3 of both nodes are two; the node 0 has not heard of the epoch 2.
func parted() []api.Act {
	return append(acked(), commits(0, put("c", "3")), promotes(1), commits(1, put("a", "9")))
}

// chapter: the acts of chapter 24's examples that are not refused.
func chapter() []api.Act { return append(parted(), ticks(1), delivers(5)) }

// stand is a world to which acts were done.
func stand(t testing.TB, most int, l ...api.Act) *world.World {
	t.Helper()
	w := newWorld(most)
	do(t, w, l...)
	return w
}

// stateOf is all that a world tells.
func stateOf(w *world.World) string {
	s := fmt.Sprint(w.Most(), w.Answered(), w.Flight())
	for node := range 2 {
		p, e := w.Page(node)
		out, known, met := w.Memory(node)
		s += fmt.Sprint(w.Up(node), p, e, w.Log(node), w.Sections(node), w.Runs(node), out, known, met)
	}
	return s
}

func alike(a, b []api.Commit) bool { return slices.EqualFunc(a, b, commit.Same) }

// of writes a measure as the document does.
func of(phases, shakes, out int) api.Measure {
	return api.Measure{Phases: phases, Shakes: shakes, Out: out}
}

var rest = api.Measure{}

// wantMeasure: a fit world's measure is m, and to ask for it changes nothing.
func wantMeasure(t testing.TB, w *world.World, m api.Measure) {
	t.Helper()
	state := stateOf(w)
	if !calm.Fit(w) {
		t.Errorf("P27.1: it is not fit")
	}
	for range 2 {
		if got, e := calm.Measure(w); got != m || e != api.OK {
			t.Errorf("P27.1: the measure is %+v, %d, not %+v", got, e, m)
		}
	}
	if now := stateOf(w); now != state {
		t.Errorf("P27.1: to ask for the measure changes %s to %s", short(state), short(now))
	}
}

// wantRound: a round leaves this measure, and the world tells the same.
func wantRound(t testing.TB, w *world.World, m api.Measure) {
	t.Helper()
	if got, e := calm.Round(w); got != m || e != api.OK {
		t.Errorf("P27.2: behind a round the measure is %+v, %d, not %+v", got, e, m)
	}
	wantMeasure(t, w, m)
}

// wantSettle: so many rounds are done, and the world tells the measure that is told then.
func wantSettle(t testing.TB, w *world.World, most, rounds int, m api.Measure) {
	t.Helper()
	if n, got, e := calm.Settle(w, most); n != rounds || got != m || e != api.OK {
		t.Errorf("P27.4: Settle of %d: %d, %+v, %d, not %d, %+v", most, n, got, e, rounds, m)
	}
	wantMeasure(t, w, m)
}

// The chapter's examples, and DOC.md's tenth.
func TestExamples(t *testing.T) {
	w := newWorld(2)
	wantMeasure(t, w, of(0, 2, 0))
	wantRound(t, w, rest)
	wantRound(t, w, rest)

	for out, n := range map[int]int{0: 36, 16: 612, -1: 0} {
		if got := calm.Bound(out); got != n {
			t.Errorf("P27.3: Bound of %d: %d, not %d", out, got, n)
		}
	}
	if !calm.Less(of(0, 2, 0), of(1, 0, 0)) || calm.Less(of(0, 1, 5), of(0, 1, 5)) {
		t.Error("P27.1: Less")
	}

	w = newWorld(2)
	do(t, w, acked()[:2]...)
	refuses(t, w, commits(0, put("c", "3")), api.ErrLagging)
	do(t, w, chapter()[2:]...)
	wantMeasure(t, w, of(4, 2, 1))
	wantSettle(t, w, 100, 6, rest)
	wantLogs(t, w, with(1, 1, put("a", "1")), with(1, 2, put("b", "2")), with(2, 3, put("a", "9")))
}

func TestTenthExample(t *testing.T) {
	w := stand(t, 2, parted()...)
	wantMeasure(t, w, of(5, 2, 1))
	wantSettle(t, w, 100, 7, rest)
	wantLogs(t, w, with(1, 1, put("a", "1")), with(1, 2, put("b", "2")), with(2, 3, put("a", "9")))
	if d := w.Do(commits(1, put("d", "4"))); d.Err != api.OK || d.Number != 4 {
		t.Errorf("P10: the next commit: %+v", d)
	}
}

// wantLogs: both logs are this one.
func wantLogs(t testing.TB, w *world.World, l ...api.Commit) {
	t.Helper()
	for node := range 2 {
		if got := w.Log(node); !alike(got, l) {
			t.Errorf("P27.5: the log of the node %d is %s, not %s", node, short(got), short(l))
		}
	}
}

// P27.1: a world is fit, if both nodes are up.
func TestFit(t *testing.T) {
	for most := 1; most <= mostLeash; most++ {
		w := newWorld(most)
		wantMeasure(t, w, of(0, 2, 0))
		do(t, w, pulls(0))
		wantDown(t, w)
		do(t, w, pulls(1))
		wantDown(t, w)
		do(t, w, starts(0, 0, 0))
		wantDown(t, w)
		do(t, w, starts(1, 0, 0))
		wantMeasure(t, w, of(0, 2, 0))
		do(t, w, pulls(1))
		wantDown(t, w)
		refuses(t, w, commits(0, put("", "")), api.ErrArg)
		do(t, w, commits(0, put("a", "1")))
		wantDown(t, w)
		do(t, w, starts(1, 0, 0))
		wantMeasure(t, w, of(0, 2, 1))
	}
	// A fuse that has not gone off leaves it fit; one that has does not.
	w := stand(t, 2, fuses(0, 0), fuses(1, 3))
	wantMeasure(t, w, of(0, 2, 0))
	refuses(t, w, commits(0, put("a", "1")), api.ErrOff)
	wantDown(t, w)
}

// wantDown: of a world that is not fit nothing is told, and nothing is done to it.
func wantDown(t testing.TB, w *world.World) {
	t.Helper()
	state := stateOf(w)
	if calm.Fit(w) {
		t.Error("P27.1: it is fit")
	}
	if m, e := calm.Measure(w); m != rest || e != errDown {
		t.Errorf("P27.1: Measure: %+v, %d", m, e)
	}
	if m, e := calm.Round(w); m != rest || e != errDown {
		t.Errorf("P27.2: Round: %+v, %d", m, e)
	}
	// That it is not fit counts ahead of a number that may not be.
	for _, most := range []int{0, 1, 7, mostRounds, mostRounds + 1, -1, math.MaxInt, math.MinInt} {
		if n, m, e := calm.Settle(w, most); n != 0 || m != rest || e != errDown {
			t.Errorf("P27.4: Settle of %d: %d, %+v, %d", most, n, m, e)
		}
	}
	if now := stateOf(w); now != state {
		t.Errorf("P27.2: a refused call changes %s to %s", short(state), short(now))
	}
}

// P27.1: what is left of the other node's phases: of a primary that has not heard, of a deposed one in each of its phases, of a replica.
func TestPhases(t *testing.T) {
	w := stand(t, 2, parted()...)
	wantMeasure(t, w, of(5, 2, 1))
	do(t, w, ticks(1))
	wantMeasure(t, w, of(5, 2, 1))
	do(t, w, delivers(5))
	for _, x := range []struct{ phase, left int }{{1, 4}, {2, 3}, {3, 2}, {4, 1}, {0, 0}} {
		if p, _ := w.Page(0); int(p.Phase) != x.phase {
			t.Fatalf("the page is %+v", p)
		}
		shakes := 2
		if x.left == 0 {
			// Now its hello is a replica's.
			shakes = 1
		}
		wantMeasure(t, w, of(x.left, shakes, 1))
		// It is durable, so that a power cut changes nothing of it.
		do(t, w, pulls(0))
		wantDown(t, w)
		do(t, w, starts(0, 0, 0))
		wantMeasure(t, w, of(x.left, shakes, 1))
		if x.phase == 1 {
			// Opened anew it has no hello any more.
			do(t, w, ticks(0))
			wantMeasure(t, w, of(4, 2, 1))
			do(t, w, ticks(1))
			l := w.Flight()
			do(t, w, delivers(l[len(l)-1].Number))
		}
		do(t, w, ticks(0))
	}

	// The other way round: the history is the node 0's, the node 1 the one that was deposed.
	do(t, w, promotes(0))
	wantMeasure(t, w, of(5, 2, 0))
	wantRound(t, w, of(4, 2, 0))
	wantRound(t, w, of(3, 2, 0))
	wantRound(t, w, of(2, 2, 0))
	wantRound(t, w, of(1, 2, 0))
	wantRound(t, w, rest)
}

// P27.1: whether the history's node knows its replica's end.
func TestShakes(t *testing.T) {
	w := stand(t, 2, acked()...)
	wantMeasure(t, w, rest)
	// Opened anew it knows nothing of it; what was acked stands in its page just when it has flushed.
	do(t, w, pulls(0), starts(0, 0, 0))
	wantMeasure(t, w, of(0, 2, 2))
	do(t, w, ticks(1))
	wantMeasure(t, w, of(0, 1, 2))
	do(t, w, doubles(5))
	wantMeasure(t, w, of(0, 1, 2))
	do(t, w, drops(5))
	wantMeasure(t, w, of(0, 1, 2))
	do(t, w, drops(6))
	wantMeasure(t, w, of(0, 2, 2))
	do(t, w, ticks(1))
	wantMeasure(t, w, of(0, 1, 2))
	do(t, w, delivers(7))
	wantMeasure(t, w, rest)
	// Once it is known, another hello in flight counts no more.
	do(t, w, ticks(1))
	wantMeasure(t, w, rest)
	do(t, w, flushes(0), pulls(0), starts(0, 0, 0))
	wantMeasure(t, w, of(0, 1, 0))
	// The other node's being opened anew changes nothing.
	do(t, w, delivers(8))
	wantMeasure(t, w, rest)
	do(t, w, pulls(1), starts(1, 0, 0))
	wantMeasure(t, w, rest)
}

// P27.1: letters that are no hello of a replica of the history's epoch, as acts bring them about.
func TestShakesOfOtherLetters(t *testing.T) {
	// To the other site: the primary's own hello.
	wantMeasure(t, stand(t, 2, ticks(0)), of(0, 2, 0))
	wantMeasure(t, stand(t, 2, ticks(0), ticks(1)), of(0, 1, 0))

	// An ack of the epoch, and a primary that was opened anew.
	w := stand(t, 2, acked()[:6]...)
	if l := w.Flight(); len(l) != 2 || l[1].To != 0 || l[1].Bytes[0] != api.Ack {
		t.Fatalf("in flight are %s", short(l))
	}
	wantMeasure(t, w, of(0, 0, 2))
	do(t, w, pulls(0), starts(0, 0, 0))
	wantMeasure(t, w, of(0, 2, 2))
	// It tells the end, though, when it is there.
	do(t, w, delivers(4))
	wantMeasure(t, w, rest)

	// A hello of a deposed node.
	w = stand(t, 2, append(chapter(), ticks(0))...)
	if l := w.Flight(); l[len(l)-1].To != 1 || l[len(l)-1].Bytes[2] != byte(api.Deposed) {
		t.Fatalf("in flight are %s", short(l))
	}
	wantMeasure(t, w, of(3, 2, 1))

	// A hello of a replica, of the epoch 1, to a primary of the epoch 3.
	w = stand(t, 2, ticks(1), promotes(1), ticks(1), delivers(2))
	wantMeasure(t, w, of(4, 2, 0))
	do(t, w, ticks(0), ticks(0), ticks(0), ticks(0))
	wantMeasure(t, w, of(0, 1, 0))
	do(t, w, promotes(0))
	wantMeasure(t, w, of(5, 2, 0))
	if l := w.Flight(); l[0].Number != 1 || l[0].To != 0 || l[0].Bytes[2] != byte(api.Replica) {
		t.Fatalf("in flight are %s", short(l))
	}
	do(t, w, delivers(1))
	wantMeasure(t, w, of(5, 2, 0))
}

// P27.1: how many commits are out, none to as many as the leash lets be.
func TestOut(t *testing.T) {
	for most := 1; most <= mostLeash; most++ {
		w := newWorld(most)
		for n := range most {
			wantMeasure(t, w, of(0, 2, n))
			do(t, w, commits(0, put("a", fmt.Sprint(n))))
		}
		refuses(t, w, commits(0, put("a", "1")), api.ErrLagging)
		wantMeasure(t, w, of(0, 2, most))
		do(t, w, ticks(1))
		wantMeasure(t, w, of(0, 1, most))
		do(t, w, delivers(1))
		// Each ship has four; what it brought about is known behind its ack.
		for out := most; out > 0; out -= min(out, 4) {
			wantMeasure(t, w, of(0, 0, out))
			do(t, w, ticks(0))
			l := w.Flight()
			ship := l[len(l)-1].Number
			do(t, w, delivers(ship))
			wantMeasure(t, w, of(0, 0, out))
			do(t, w, delivers(ship+1))
		}
		wantMeasure(t, w, rest)

		// What the deposed one has is no matter.
		do(t, w, commits(0, put("b", "1")))
		wantMeasure(t, w, of(0, 0, 1))
		do(t, w, promotes(1))
		wantMeasure(t, w, of(5, 2, 0))
		for n := range most {
			do(t, w, commits(1, put("c", fmt.Sprint(n))))
			wantMeasure(t, w, of(5, 2, n+1))
		}
	}
}

// P27.1: which of two measures is less.
func TestLess(t *testing.T) {
	for _, x := range []struct {
		a, b api.Measure
	}{
		{of(0, 0, 0), of(0, 0, 1)},
		{of(0, 0, 0), of(0, 1, 0)},
		{of(0, 0, 0), of(1, 0, 0)},
		{of(5, 2, 15), of(5, 2, 16)},
		{of(5, 1, 16), of(5, 2, 16)},
		{of(4, 2, 16), of(5, 2, 16)},
		{of(0, 0, 16), of(0, 1, 0)},
		{of(0, 0, 16), of(1, 0, 0)},
		{of(0, 2, 0), of(1, 0, 0)},
		{of(0, 2, 16), of(1, 0, 0)},
		{of(4, 2, 16), of(5, 0, 0)},
		{of(4, 0, 16), of(4, 1, 0)},
		{of(0, 0, -1), of(0, 0, 0)},
		{of(0, -1, 9), of(0, 0, 0)},
		{of(-1, 9, 9), of(0, 0, 0)},
		{of(-2, -1, -1), of(-1, -1, -1)},
		{of(-1, -2, -1), of(-1, -1, -1)},
		{of(-1, -1, -2), of(-1, -1, -1)},
		{of(math.MinInt, 0, 0), of(math.MaxInt, 0, 0)},
		{of(0, math.MinInt, 0), of(0, math.MaxInt, 0)},
		{of(0, 0, math.MinInt), of(0, 0, math.MaxInt)},
		{of(math.MinInt, math.MaxInt, math.MaxInt), of(math.MaxInt, math.MinInt, math.MinInt)},
	} {
		if !calm.Less(x.a, x.b) || calm.Less(x.b, x.a) {
			t.Errorf("P27.1: %+v is to be less than %+v, and not the other way round", x.a, x.b)
		}
		if calm.Less(x.a, x.a) || calm.Less(x.b, x.b) {
			t.Errorf("P27.1: %+v or %+v is less than itself", x.a, x.b)
		}
	}
}

// P27.1: all measures, in their order.
func TestOrder(t *testing.T) {
	var l []api.Measure
	for phases := -1; phases <= rPhases; phases++ {
		for shakes := -1; shakes <= hPhases; shakes++ {
			for out := -1; out <= mostLeash; out++ {
				l = append(l, of(phases, shakes, out))
			}
		}
	}
	for i, a := range l {
		for j, b := range l {
			if calm.Less(a, b) != (i < j) {
				t.Fatalf("P27.1: is %+v less than %+v: %v", a, b, i >= j)
			}
		}
	}
}

// P27.2: the world is made safe, then the act is done.
func TestRound(t *testing.T) {
	for _, l := range [][]api.Act{nil, acked()[:2], acked(), parted(), chapter(), append(chapter(), ticks(0), ticks(0), ticks(0))} {
		w, twin := stand(t, 2, l...), stand(t, 2, l...)
		for turn := range 12 {
			// Fuses of all lengths, at either node, which would go off.
			do(t, w, fuses(0, turn%5), fuses(1, turn/3))
			m, e := calm.Round(w)
			twin.Safe()
			do(t, twin, rounds())
			if stateOf(w) != stateOf(twin) {
				t.Errorf("P27.2: behind %d rounds: %s, not %s", turn+1, short(stateOf(w)), short(stateOf(twin)))
			}
			if want, _ := calm.Measure(twin); m != want || e != api.OK || m != tellMeasure(twin) {
				t.Errorf("P27.2: behind %d rounds: %+v, %d, not %+v", turn+1, m, e, want)
			}
		}
		wantMeasure(t, w, rest)
		// No fuse is left.
		node := 0
		if p, _ := w.Page(1); p.Role == api.Primary {
			node = 1
		}
		for range 2 {
			do(t, w, commits(node, put("z", "1")), ticks(1-node))
		}
	}
}

// P27.2: step by step, what a round brings about.
func TestRoundByRound(t *testing.T) {
	// Six commits: a ship has four.
	w := newWorld(6)
	for n := range 6 {
		do(t, w, commits(0, put("a", fmt.Sprint(n))))
	}
	wantMeasure(t, w, of(0, 2, 6))
	wantRound(t, w, of(0, 0, 6))
	wantRound(t, w, of(0, 0, 6))
	if n := len(w.Log(1)); n != 4 {
		t.Errorf("P27.2: the replica has %d commits", n)
	}
	wantRound(t, w, of(0, 0, 2))
	wantRound(t, w, of(0, 0, 2))
	wantRound(t, w, rest)
	if n := len(w.Log(1)); n != 6 {
		t.Errorf("P27.2: the replica has %d commits", n)
	}
	wantRound(t, w, rest)
	// What is in flight at first is delivered in the first round.
	w = stand(t, 2, commits(0, put("a", "1")), ticks(1), ticks(1), ticks(0))
	wantMeasure(t, w, of(0, 1, 1))
	wantRound(t, w, of(0, 0, 1))
	for _, l := range w.Flight() {
		if l.Number < 4 {
			t.Errorf("P27.2: in flight is %s still", short(l))
		}
	}
}

// P27.2, P27.4: of a world that is not fit nothing is changed: its fuses stay in.
func TestFusesStay(t *testing.T) {
	for name, ask := range map[string]func(w *world.World){
		"Fit":        func(w *world.World) { calm.Fit(w) },
		"Measure":    func(w *world.World) { calm.Measure(w) },
		"Round":      func(w *world.World) { calm.Round(w) },
		"Settle":     func(w *world.World) { calm.Settle(w, 9) },
		"Settle -1":  func(w *world.World) { calm.Settle(w, -1) },
		"Settle 0":   func(w *world.World) { calm.Settle(w, 0) },
		"Settle max": func(w *world.World) { calm.Settle(w, mostRounds+1) },
	} {
		w := stand(t, 2, pulls(1), fuses(0, 1))
		ask(w)
		if d := w.Do(commits(0, put("a", "1"))); d.Err != api.ErrOff {
			t.Errorf("P27.2: %s took the fuse out: %d", name, d.Err)
		}
		if name == "Round" || name == "Settle" {
			continue
		}
		// These do no round of a fit one, either.
		w = stand(t, 2, fuses(0, 1))
		ask(w)
		if d := w.Do(commits(0, put("a", "1"))); d.Err != api.ErrOff {
			t.Errorf("P27.4: %s took the fuse out: %d", name, d.Err)
		}
	}
	// Where nothing is left Settle does no round, so that fuses stay, too.
	w := stand(t, 2, append(acked(), fuses(0, 1))...)
	wantSettle(t, w, 9, 0, rest)
	refuses(t, w, commits(0, put("c", "3")), api.ErrOff)
	// A round, or one that Settle does, takes them out.
	for _, ask := range []func(w *world.World){func(w *world.World) { calm.Round(w) }, func(w *world.World) { calm.Settle(w, 1) }} {
		w = stand(t, 2, fuses(0, 0), fuses(1, 0))
		ask(w)
		do(t, w, commits(0, put("a", "1")), promotes(1))
	}
}

// P27.3: so many measures there are, two rounds for each.
func TestBound(t *testing.T) {
	for out, want := range map[int]int{
		0: 36, 1: 72, 2: 108, 3: 144, 4: 180, 15: 576, 16: 612, 17: 648, 1000: 36036,
		mostNumber - 1: 36 * mostNumber, mostNumber: 36*mostNumber + 36, mostNumber + 1: 0, mostNumber + 2: 0, 2 * mostNumber: 0,
		-1: 0, -2: 0, -36: 0, math.MaxInt: 0, math.MinInt: 0, math.MaxInt32: 0, math.MinInt32: 0, 1 << 32: 0, 1<<32 + 1: 0, -(1 << 32): 0,
	} {
		if got := calm.Bound(out); got != want {
			t.Errorf("P27.3: Bound of %d: %d, not %d", out, got, want)
		}
	}
	n := 0
	for out := range 1000 {
		for range rPhases + 1 {
			for range hPhases + 1 {
				n += 2
			}
		}
		if got := calm.Bound(out); got != n {
			t.Errorf("P27.3: Bound of %d: %d, not %d", out, got, n)
		}
	}
}

// P27.4: fewer rounds than are wanted, as many, more: how many were done, and the measure then.
func TestSettle(t *testing.T) {
	for _, x := range []struct {
		most int
		acts []api.Act
		path []api.Measure
	}{
		{2, nil, []api.Measure{of(0, 2, 0), rest}},
		{2, acked()[:3], []api.Measure{of(0, 1, 2), of(0, 0, 2), of(0, 0, 2), rest}},
		{2, acked(), []api.Measure{rest}},
		{2, parted(), []api.Measure{of(5, 2, 1), of(4, 2, 1), of(3, 2, 1), of(2, 2, 1), of(1, 2, 1), of(0, 0, 1), of(0, 0, 1), rest}},
		{2, chapter(), []api.Measure{of(4, 2, 1), of(3, 2, 1), of(2, 2, 1), of(1, 2, 1), of(0, 0, 1), of(0, 0, 1), rest}},
		{2, append(chapter(), pulls(0), starts(0, 0, 0)), []api.Measure{of(4, 2, 1), of(4, 2, 1), of(3, 2, 1), of(2, 2, 1), of(1, 2, 1), of(0, 0, 1), of(0, 0, 1), rest}},
	} {
		last := len(x.path) - 1
		for most := range last + 20 {
			w := stand(t, x.most, x.acts...)
			wantMeasure(t, w, x.path[0])
			n := min(most, last)
			wantSettle(t, w, most, n, x.path[n])
			// The same rounds, one by one.
			twin := stand(t, x.most, x.acts...)
			for at := range n {
				wantRound(t, twin, x.path[at+1])
			}
			if stateOf(w) != stateOf(twin) {
				t.Errorf("P27.4: Settle of %d: %s, not %s", most, short(stateOf(w)), short(stateOf(twin)))
			}
			// What is left is done by the next one.
			wantSettle(t, w, mostRounds, last-n, rest)
			wantSettle(t, w, mostRounds, 0, rest)
			wantSettle(t, w, 0, 0, rest)
		}
	}
}

// P27.4: how many rounds may be asked for; nothing is changed where that is refused.
func TestSettleOfNumbers(t *testing.T) {
	for _, l := range [][]api.Act{nil, acked(), chapter()} {
		w := stand(t, 2, l...)
		m := tellMeasure(w)
		state := stateOf(w)
		for _, most := range []int{-1, -2, mostRounds + 1, mostRounds + 2, 2 * mostRounds, -mostRounds, math.MaxInt, math.MinInt, 1 << 32, -(1 << 32), 1<<32 + 1, math.MaxInt32, math.MinInt32} {
			if n, got, e := calm.Settle(w, most); n != 0 || got != rest || e != errArg {
				t.Errorf("P27.4: Settle of %d: %d, %+v, %d", most, n, got, e)
			}
		}
		wantSettle(t, w, 0, 0, m)
		if now := stateOf(w); now != state {
			t.Errorf("P27.4: %s became %s", short(state), short(now))
		}
		wantSettle(t, w, mostRounds, roundsOf(t, stand(t, 2, l...)), rest)
	}
}

// roundsOf does rounds one by one until nothing is left, and answers how many.
func roundsOf(t testing.TB, w *world.World) int {
	t.Helper()
	for n := range mostRounds {
		if tellMeasure(w) == rest {
			return n
		}
		do(t, w, rounds())
	}
	t.Fatalf("P27.5: %d rounds leave %+v", mostRounds, tellMeasure(w))
	return 0
}

// Rule 5: of a world that is nil, and of one that nobody made; ahead of numbers that may not be.
func TestNoWorld(t *testing.T) {
	var declared world.World
	// Of a refused leash there is none.
	refused, _ := world.New(17)
	for name, w := range map[string]*world.World{"nil": nil, "new": new(world.World), "declared": &declared, "refused": refused} {
		t.Run(name, func(t *testing.T) {
			for range 2 {
				if calm.Fit(w) {
					t.Error("P27.1: it is fit")
				}
				if m, e := calm.Measure(w); m != rest || e != errNil {
					t.Errorf("P27.1: %+v, %d", m, e)
				}
				if m, e := calm.Round(w); m != rest || e != errNil {
					t.Errorf("P27.2: %+v, %d", m, e)
				}
				for _, most := range []int{0, 1, 9, mostRounds, mostRounds + 1, -1, math.MaxInt, math.MinInt} {
					if n, m, e := calm.Settle(w, most); n != 0 || m != rest || e != errNil {
						t.Errorf("P27.4: Settle of %d: %d, %+v, %d", most, n, m, e)
					}
				}
				// What an act is told at such a world changes nothing of that.
				w.Do(rounds())
			}
		})
	}
}

// P1: worlds are measured and settled each by itself.
func TestWorldsApart(t *testing.T) {
	one, other := stand(t, 2, chapter()...), stand(t, 3, commits(0, put("a", "1")))
	state := stateOf(other)
	wantSettle(t, one, 3, 3, of(1, 2, 1))
	if stateOf(other) != state {
		t.Error("P1: a round of one world changes another one")
	}
	wantSettle(t, other, 9, 3, rest)
	wantMeasure(t, one, of(1, 2, 1))
}
