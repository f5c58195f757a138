package audit_test

import (
	"fmt"
	"math"
	"reflect"
	"slices"
	"strings"
	"testing"

	"lagleash/api"
	"lagleash/audit"
	"lagleash/commit"
	"lagleash/world"
)

// The limits and errors, as the document writes them.
const (
	mostNumber = 1048576
	mostLeash  = 16
	errNil     = 1
	errArg     = 2
)

func TestLimits(t *testing.T) {
	for name, x := range map[string][2]int{
		"MaxNumber": {api.MaxNumber, mostNumber},
		"MaxLeash":  {api.MaxLeash, mostLeash},
		"ErrNil":    {int(api.ErrNil), errNil},
		"ErrArg":    {int(api.ErrArg), errArg},
		"places":    {reflect.TypeFor[api.Place]().NumField(), 3},
		"an audit":  {reflect.TypeFor[api.Audit]().NumField(), 6},
	} {
		if x[0] != x[1] {
			t.Errorf("%s: %d, not %d", name, x[0], x[1])
		}
	}
}

func put(key, value string) api.Op { return api.Op{Put: true, Key: key, Value: value} }
func del(key string) api.Op        { return api.Op{Key: key} }

func with(epoch, number int, ops ...api.Op) api.Commit {
	return api.Commit{Epoch: epoch, Number: number, Ops: ops}
}

func holds(epoch, fork int, l ...api.Commit) api.Section {
	return api.Section{Epoch: epoch, Fork: fork, Commits: l}
}

func commits(node int, l ...api.Op) api.Act { return api.Act{Kind: api.ActCommit, Node: node, Ops: l} }
func reads(node int, key string) api.Act    { return api.Act{Kind: api.ActRead, Node: node, Key: key} }
func ticks(node int) api.Act                { return api.Act{Kind: api.ActTick, Node: node} }
func promotes(node int) api.Act             { return api.Act{Kind: api.ActPromote, Node: node} }
func flushes(node int) api.Act              { return api.Act{Kind: api.ActFlush, Node: node} }
func delivers(n int) api.Act                { return api.Act{Kind: api.ActDeliver, N: n} }
func doubles(n int) api.Act                 { return api.Act{Kind: api.ActTwice, N: n} }
func drops(n int) api.Act                   { return api.Act{Kind: api.ActDrop, N: n} }
func fuses(node, n int) api.Act             { return api.Act{Kind: api.ActFuse, Node: node, N: n} }
func pulls(node int) api.Act                { return api.Act{Kind: api.ActPull, Node: node} }
func starts(node, k, t int) api.Act         { return api.Act{Kind: api.ActStart, Node: node, N: k, T: t} }
func rounds() api.Act                       { return api.Act{Kind: api.ActRound} }

// The commits of chapter 24's examples.
func putA() api.Commit  { return with(1, 1, put("a", "1")) }
func putB() api.Commit  { return with(1, 2, put("b", "2")) }
func putC() api.Commit  { return with(1, 3, put("c", "3")) }
func putA9() api.Commit { return with(2, 3, put("a", "9")) }

// short keeps what is told of much readable.
func short(x any) string {
	s := strings.ToValidUTF8(fmt.Sprintf("%+v", x), "?")
	if len(s) > 900 {
		return s[:700] + " .. " + s[len(s)-180:]
	}
	return s
}

func newWorld(most int) *world.World {
	w, e := world.New(most)
	if e != api.OK {
		panic(fmt.Sprintf("a test asks for what may not be: %d", e))
	}
	return w
}

// do lets acts happen, none of which may be refused.
func do(t testing.TB, w *world.World, l ...api.Act) {
	t.Helper()
	for _, a := range l {
		if did := w.Do(a); did.Err != api.OK {
			t.Fatalf("%s is refused: %d", short(a), did.Err)
		}
	}
}

// refuses lets an act happen that is refused.
func refuses(t testing.TB, w *world.World, a api.Act, e api.Errno) {
	t.Helper()
	if did := w.Do(a); did.Err != e {
		t.Fatalf("%s is told %d, not %d", short(a), did.Err, e)
	}
}

// acked: two commits are durable at both nodes, and the node 0 knows that.
func acked() []api.Act {
	return []api.Act{commits(0, put("a", "1")), commits(0, put("b", "2")), ticks(1), delivers(1), ticks(0), delivers(3), delivers(4)}
}

// parted: the commits 3 of both nodes are two; the node 0 has not heard of the epoch 2.
func parted() []api.Act {
	return append(acked(), commits(0, put("c", "3")), promotes(1), commits(1, put("a", "9")))
}

// chapter: the acts of chapter 24's examples that are not refused.
func chapter() []api.Act { return append(parted(), ticks(1), delivers(5)) }

// stand is a world to which acts were done.
func stand(t testing.TB, most int, l ...api.Act) *world.World {
	t.Helper()
	w := newWorld(most)
	do(t, w, l...)
	return w
}

// stateOf is all that a world tells.
func stateOf(w *world.World) string {
	s := fmt.Sprint(w.Most(), w.Answered(), w.Flight())
	for node := range 2 {
		p, e := w.Page(node)
		out, known, met := w.Memory(node)
		s += fmt.Sprint(w.Up(node), p, e, w.Log(node), w.Sections(node), w.Runs(node), out, known, met)
	}
	return s
}

func alike(a, b []api.Commit) bool { return slices.EqualFunc(a, b, commit.Same) }

func wantHistory(t testing.TB, w *world.World, node int, l ...api.Commit) {
	t.Helper()
	if n, got := audit.History(w); n != node || !alike(got, l) {
		t.Errorf("P26.1: the history is %d, %s, not %d, %s", n, short(got), node, short(l))
	}
}

func wantSuffix(t testing.TB, w *world.World, l ...api.Commit) {
	t.Helper()
	if got := audit.Suffix(w); !alike(got, l) {
		t.Errorf("P26.1: the suffix is %s, not %s", short(got), short(l))
	}
}

// What Where may tell.
var (
	nowhere   = api.Place{}
	inHistory = api.Place{History: true}
	inSuffix  = api.Place{Suffix: true}
	anOrphan  = api.Place{Orphan: true}
)

func wantWhere(t testing.TB, w *world.World, p api.Place, l ...api.Commit) {
	t.Helper()
	for _, c := range l {
		if got := audit.Where(w, c); got != p {
			t.Errorf("P26.2: where is %s: %+v, not %+v", short(c), got, p)
		}
	}
}

func wantVanished(t testing.TB, w *world.World, l ...api.Commit) {
	t.Helper()
	if got := audit.Vanished(w); !alike(got, l) {
		t.Errorf("P26.3: %s vanished, not %s", short(got), short(l))
	}
}

func wantBehind(t testing.TB, w *world.World, zero, one int) {
	t.Helper()
	for node, n := range []int{zero, one} {
		if got, e := audit.Behind(w, node); got != n || e != api.OK {
			t.Errorf("P26.4: behind at the node %d are %d, %d, not %d", node, got, e, n)
		}
	}
}

func wantAudit(t testing.TB, w *world.World, a api.Audit) {
	t.Helper()
	if got, e := audit.Of(w); got != a || e != api.OK {
		t.Errorf("P26.5: the audit is %+v, %d, not %+v", got, e, a)
	}
}

// The chapter's examples.
func TestExamples(t *testing.T) {
	w := newWorld(2)
	do(t, w, acked()[:2]...)
	refuses(t, w, commits(0, put("c", "3")), api.ErrLagging)
	do(t, w, chapter()[2:]...)
	wantHistory(t, w, 1, putA(), putB(), putA9())
	wantSuffix(t, w, putC())
	wantWhere(t, w, inSuffix, putC())
	wantBehind(t, w, 0, 1)
	wantAudit(t, w, api.Audit{Node: 1, Answered: 4, Vanished: 0, Both: 0, Behind: [2]int{0, 1}, Orphans: [2]int{0, 0}})
}

// DOC.md's ninth example: the node 0 has not heard yet.
func TestNinthExample(t *testing.T) {
	w := stand(t, 2, parted()...)
	wantAudit(t, w, api.Audit{Node: 1, Answered: 4, Behind: [2]int{1, 1}})
	wantBehind(t, w, 1, 1)
	wantHistory(t, w, 1, putA(), putB(), putA9())
	wantSuffix(t, w, putC())
}

// P26.1: of a new world.
func TestNewWorld(t *testing.T) {
	for most := 1; most <= mostLeash; most++ {
		w := newWorld(most)
		wantHistory(t, w, 0)
		wantSuffix(t, w)
		wantVanished(t, w)
		wantBehind(t, w, 0, 0)
		wantAudit(t, w, api.Audit{})
		wantWhere(t, w, nowhere, api.Commit{}, putA(), with(1, 0, put("a", "1")), with(0, 1, put("a", "1")))
	}
}

// P26.1: the history grows by what is durable alone.
func TestCommits(t *testing.T) {
	w := stand(t, 3, commits(0, put("a", "1")))
	wantHistory(t, w, 0, putA())
	do(t, w, commits(0, put("b", "2")))
	wantHistory(t, w, 0, putA(), putB())
	wantSuffix(t, w)
	wantWhere(t, w, inHistory, putA(), putB())
	wantAudit(t, w, api.Audit{Answered: 2, Behind: [2]int{2, 0}})

	// The third one is written, and not synced: it is not durable, and was not answered.
	do(t, w, fuses(0, 1))
	refuses(t, w, commits(0, put("c", "3")), api.ErrOff)
	wantHistory(t, w, 0, putA(), putB())
	wantWhere(t, w, nowhere, putC())
	wantAudit(t, w, api.Audit{Answered: 2, Behind: [2]int{2, 0}})
	// Started again it stands, though it was never answered.
	do(t, w, starts(0, 1, 0))
	wantHistory(t, w, 0, putA(), putB(), putC())
	wantWhere(t, w, inHistory, putC())
	wantAudit(t, w, api.Audit{Answered: 2, Behind: [2]int{3, 0}})

	// Or it is gone, and its number is given anew.
	w = stand(t, 3, commits(0, put("a", "1")), commits(0, put("b", "2")), fuses(0, 1))
	refuses(t, w, commits(0, put("c", "3")), api.ErrOff)
	do(t, w, starts(0, 0, 7))
	wantHistory(t, w, 0, putA(), putB())
	do(t, w, commits(0, put("c", "4")))
	wantHistory(t, w, 0, putA(), putB(), with(1, 3, put("c", "4")))
	wantWhere(t, w, nowhere, putC())
	wantAudit(t, w, api.Audit{Answered: 3, Behind: [2]int{3, 0}})
}

// P26.1: what is taken by the replica changes neither the history nor the suffix.
func TestShipped(t *testing.T) {
	w := newWorld(2)
	for _, a := range acked() {
		do(t, w, a)
		if n, l := audit.History(w); n != 0 || len(l) != len(w.Answered()) {
			t.Errorf("P26.1: %d, %s", n, short(l))
		}
		wantSuffix(t, w)
	}
	wantBehind(t, w, 0, 0)
	wantWhere(t, w, inHistory, putA(), putB())
	wantAudit(t, w, api.Audit{Answered: 2})
}

// P26.1: behind a promotion both pages say primary, and the greater epoch counts; what the other one took meanwhile becomes the suffix, then orphans.
func TestPromotion(t *testing.T) {
	w := stand(t, 3, append(acked(), commits(0, put("c", "3")), commits(0, put("d", "4")))...)
	wantHistory(t, w, 0, putA(), putB(), putC(), with(1, 4, put("d", "4")))
	wantSuffix(t, w)
	wantBehind(t, w, 2, 0)

	do(t, w, promotes(1))
	wantHistory(t, w, 1, putA(), putB())
	wantSuffix(t, w, putC(), with(1, 4, put("d", "4")))
	wantWhere(t, w, inHistory, putA(), putB())
	wantWhere(t, w, inSuffix, putC(), with(1, 4, put("d", "4")))
	wantBehind(t, w, 2, 0)
	wantAudit(t, w, api.Audit{Node: 1, Answered: 4, Behind: [2]int{2, 0}})

	// Deposed, it goes on having the suffix until its log is cut; the file of orphans has it ahead of that.
	do(t, w, ticks(1), delivers(5))
	orphans := [2]int{}
	for _, x := range []struct {
		phase api.Phase
		place api.Place
	}{
		{api.Heard, inSuffix},
		{api.Forked, inSuffix},
		{api.Filed, api.Place{Suffix: true, Orphan: true}},
		{api.Cut, anOrphan},
		{api.None, anOrphan},
	} {
		if p, _ := w.Page(0); p.Phase != x.phase || p.Epoch != 2 {
			t.Fatalf("the page is %+v", p)
		}
		wantHistory(t, w, 1, putA(), putB())
		wantWhere(t, w, inHistory, putA(), putB())
		wantWhere(t, w, x.place, putC(), with(1, 4, put("d", "4")))
		wantVanished(t, w)
		wantBehind(t, w, 0, 0)
		suffix := w.Log(0)[2:]
		wantSuffix(t, w, suffix...)
		if x.place.Orphan {
			orphans[0] = 2
		}
		wantAudit(t, w, api.Audit{Node: 1, Answered: 4, Orphans: orphans})
		do(t, w, ticks(0))
	}

	// There and back: the node 0 is promoted into the epoch 3, the node 1 has one commit of the epoch 2 alone.
	do(t, w, commits(1, put("a", "9")), promotes(0))
	wantHistory(t, w, 0, putA(), putB())
	wantSuffix(t, w, putA9())
	wantBehind(t, w, 0, 1)
	wantWhere(t, w, anOrphan, putC())
	do(t, w, commits(0, put("z", "3")))
	wantHistory(t, w, 0, putA(), putB(), with(3, 3, put("z", "3")))
	wantSuffix(t, w, putA9())
	wantWhere(t, w, nowhere, with(2, 3, put("z", "3")), with(3, 3, put("a", "9")))
	for range 9 {
		do(t, w, rounds())
	}
	wantHistory(t, w, 0, putA(), putB(), with(3, 3, put("z", "3")))
	wantSuffix(t, w)
	// Now the files of both nodes have orphans.
	wantWhere(t, w, anOrphan, putC(), with(1, 4, put("d", "4")), putA9())
	wantAudit(t, w, api.Audit{Answered: 6, Orphans: [2]int{2, 1}})
}

// P26.1: logs that don't part have no suffix, whichever is longer.
func TestNoSuffix(t *testing.T) {
	for most := 1; most <= mostLeash; most++ {
		w := newWorld(most)
		for n := range most {
			do(t, w, commits(0, put("a", fmt.Sprint(n))))
			wantSuffix(t, w)
			wantBehind(t, w, n+1, 0)
		}
		for range 9 {
			do(t, w, rounds())
			wantSuffix(t, w)
		}
		do(t, w, promotes(1))
		wantSuffix(t, w)
		wantBehind(t, w, 0, 0)
		for n := range most {
			do(t, w, commits(1, put("a", fmt.Sprint(n))))
			wantSuffix(t, w)
			wantBehind(t, w, 0, n+1)
		}
	}
}

// P26.1 to P26.5: a node that is down is told of as one that is up: by what is durable.
func TestDown(t *testing.T) {
	w, twin := stand(t, 2, chapter()...), stand(t, 2, chapter()...)
	for node := range 2 {
		do(t, w, pulls(node))
		if w.Up(node) {
			t.Fatalf("the node %d is up", node)
		}
		alikeAudits(t, w, twin)
	}
	do(t, w, starts(1, 9, 9))
	alikeAudits(t, w, twin)
	do(t, w, starts(0, 0, 0))
	alikeAudits(t, w, twin)
}

// alikeAudits: both worlds are audited alike.
func alikeAudits(t testing.TB, w, twin *world.World) {
	t.Helper()
	node, l := audit.History(twin)
	wantHistory(t, w, node, l...)
	wantSuffix(t, w, audit.Suffix(twin)...)
	wantVanished(t, w, audit.Vanished(twin)...)
	zero, _ := audit.Behind(twin, 0)
	one, _ := audit.Behind(twin, 1)
	wantBehind(t, w, zero, one)
	a, _ := audit.Of(twin)
	wantAudit(t, w, a)
	for _, c := range slices.Concat(twin.Log(0), twin.Log(1), twin.Answered()) {
		wantWhere(t, w, audit.Where(twin, c), c)
	}
}

// P26.1: a promotion that was cut off counts as soon as its page is durable, answered or not.
func TestPromotionCutOff(t *testing.T) {
	for kept := range 2 {
		w := stand(t, 2, append(acked(), commits(0, put("c", "3")), fuses(1, 1))...)
		refuses(t, w, promotes(1), api.ErrOff)
		wantHistory(t, w, 0, putA(), putB(), putC())
		wantSuffix(t, w)
		wantBehind(t, w, 1, 0)
		do(t, w, starts(1, kept, 0))
		if kept == 0 {
			wantHistory(t, w, 0, putA(), putB(), putC())
			wantSuffix(t, w)
			continue
		}
		wantHistory(t, w, 1, putA(), putB())
		wantSuffix(t, w, putC())
		wantAudit(t, w, api.Audit{Node: 1, Answered: 3, Behind: [2]int{1, 0}})
	}
}

// P26.2: commits that are nowhere: of another epoch, another number, with other ops, or none at all.
func TestNowhere(t *testing.T) {
	w := stand(t, 2, chapter()...)
	filed := stand(t, 2, chapter()...)
	for range 9 {
		do(t, filed, rounds())
	}
	for c, ahead := range map[*api.Commit]api.Place{
		new(putA()): inHistory, new(putB()): inHistory, new(putA9()): inHistory, new(putC()): inSuffix,
	} {
		wantWhere(t, w, ahead, *c)
		behind := ahead
		if ahead == inSuffix {
			behind = anOrphan
		}
		wantWhere(t, filed, behind, *c)
		o := c.Ops[0]
		for _, bent := range []api.Commit{
			with(c.Epoch, c.Number),
			with(c.Epoch, c.Number, o, o),
			with(c.Epoch, c.Number, put(o.Key, o.Value+"0")),
			with(c.Epoch, c.Number, put(o.Key, "")),
			with(c.Epoch, c.Number, put(o.Key+"0", o.Value)),
			with(c.Epoch, c.Number, put("", o.Value)),
			with(c.Epoch, c.Number, del(o.Key)),
			with(c.Epoch, c.Number, api.Op{Key: o.Key, Value: o.Value}),
			with(c.Epoch+1, c.Number, o),
			with(c.Epoch+2, c.Number, o),
			with(c.Epoch-1, c.Number, o),
			with(c.Epoch-2, c.Number, o),
			with(-c.Epoch, c.Number, o),
			with(c.Epoch, c.Number+1, o),
			with(c.Epoch, c.Number+2, o),
			with(c.Epoch, c.Number-1, o),
			with(c.Epoch, c.Number-3, o),
			with(c.Epoch, -c.Number, o),
			with(c.Number, c.Epoch+9, o),
			with(c.Epoch+mostNumber, c.Number, o),
			with(c.Epoch, c.Number+mostNumber, o),
			with(math.MaxInt, c.Number, o),
			with(math.MinInt, c.Number, o),
			with(c.Epoch, math.MaxInt, o),
			with(c.Epoch, math.MinInt, o),
			with(c.Epoch, c.Number+1<<32, o),
			with(c.Epoch+1<<32, c.Number, o),
		} {
			wantWhere(t, w, nowhere, bent)
			wantWhere(t, filed, nowhere, bent)
		}
	}
	for _, c := range []api.Commit{{}, with(0, 0, put("a", "1")), with(1, 0), with(0, 1), with(-1, -1)} {
		wantWhere(t, w, nowhere, c)
		wantWhere(t, filed, nowhere, c)
		wantWhere(t, newWorld(1), nowhere, c)
	}
}

// P26.2: a commit of several ops is held against the logs op by op, in their order.
func TestWhereOfSeveralOps(t *testing.T) {
	ops := []api.Op{put("a", "1"), del("a"), put("a", ""), put("\x00\xff", "2")}
	w := stand(t, 2, commits(0, ops...))
	wantWhere(t, w, inHistory, with(1, 1, ops...))
	for at := range ops {
		wantWhere(t, w, nowhere, with(1, 1, ops[:at]...), with(1, 1, ops[at+1:]...))
		if at > 0 {
			bent := slices.Clone(ops)
			bent[0], bent[at] = bent[at], bent[0]
			wantWhere(t, w, nowhere, with(1, 1, bent...))
		}
	}
}

// P26.2: what is told holds behind power cuts, at each raw step, however much of it stands.
func TestPowerCuts(t *testing.T) {
	for fuse := range 14 {
		for kept := range 4 {
			for torn := range 3 {
				w := stand(t, 2, chapter()...)
				do(t, w, fuses(0, fuse), fuses(1, fuse/2))
				for range 6 {
					do(t, w, rounds())
					for node := range 2 {
						if !w.Up(node) {
							wantVanished(t, w)
							do(t, w, starts(node, kept, 7*torn))
						}
					}
					wantVanished(t, w)
					wantHistory(t, w, 1, putA(), putB(), putA9())
					wantWhere(t, w, inHistory, putA(), putB(), putA9())
					if p := audit.Where(w, putC()); p.History || !p.Suffix && !p.Orphan {
						t.Errorf("P26.2: fuse %d, kept %d: %+v", fuse, kept, p)
					}
				}
				w.Safe()
				for range 9 {
					do(t, w, rounds())
				}
				wantWhere(t, w, anOrphan, putC())
				wantAudit(t, w, api.Audit{Node: 1, Answered: 4, Orphans: [2]int{1, 0}})
			}
		}
	}
}

// P26.3: with commits at both nodes that are unacked, and behind what follows, each that was answered is looked up by itself.
func TestAnsweredOneByOne(t *testing.T) {
	for most := 1; most <= mostLeash; most++ {
		w := stand(t, most, promotes(1))
		for node := range 2 {
			for n := range most {
				do(t, w, commits(node, put("a", fmt.Sprint(n))))
			}
		}
		all := w.Answered()
		wantVanished(t, w)
		wantWhere(t, w, inSuffix, all[:most]...)
		wantWhere(t, w, inHistory, all[most:]...)
		wantAudit(t, w, api.Audit{Node: 1, Answered: 2 * most, Behind: [2]int{most, most}})
		for range 9 + most {
			do(t, w, rounds())
			wantVanished(t, w)
		}
		wantWhere(t, w, anOrphan, all[:most]...)
		wantWhere(t, w, inHistory, all[most:]...)
		wantAudit(t, w, api.Audit{Node: 1, Answered: 2 * most, Orphans: [2]int{most, 0}})
	}
}

// P26.4: of a node that is not there.
func TestBehindOfNoNode(t *testing.T) {
	for _, w := range []*world.World{newWorld(1), stand(t, 2, chapter()...), stand(t, 2, parted()...)} {
		for _, node := range []int{-1, 2, 3, -2, 1 << 32, math.MaxInt, math.MinInt} {
			if n, e := audit.Behind(w, node); n != 0 || e != api.ErrArg {
				t.Errorf("P26.4: of the node %d: %d, %d", node, n, e)
			}
		}
	}
}

// P26.4: of a replica, of a primary, of deposed ones; the other side has all, some, none.
func TestBehind(t *testing.T) {
	w := newWorld(4)
	wantBehind(t, w, 0, 0)
	for n := range 4 {
		do(t, w, commits(0, put("a", fmt.Sprint(n))))
		wantBehind(t, w, n+1, 0)
	}
	refuses(t, w, commits(0, put("a", "9")), api.ErrLagging)
	wantBehind(t, w, 4, 0)
	// It hangs on what is durable at the other one, not on what the primary knows.
	do(t, w, ticks(1), delivers(1), ticks(0), delivers(3))
	wantBehind(t, w, 0, 0)
	if out, _, _ := w.Memory(0); out != 4 {
		t.Fatalf("%d are out", out)
	}
	do(t, w, delivers(4), commits(0, put("b", "1")), commits(0, put("b", "2")))
	wantBehind(t, w, 2, 0)

	// The deposed one that has not heard is a primary still; the new one has all but its own.
	do(t, w, promotes(1))
	wantBehind(t, w, 2, 0)
	do(t, w, commits(1, put("c", "1")), commits(1, put("c", "2")), commits(1, put("c", "3")))
	wantBehind(t, w, 2, 3)
	do(t, w, commits(0, put("b", "3")))
	wantBehind(t, w, 3, 3)
	do(t, w, ticks(1), delivers(5))
	wantBehind(t, w, 0, 3)
	for range 9 {
		do(t, w, rounds())
	}
	wantBehind(t, w, 0, 0)
	do(t, w, commits(1, put("d", "1")))
	wantBehind(t, w, 0, 1)
	do(t, w, promotes(0))
	wantBehind(t, w, 0, 1)
	do(t, w, commits(0, put("d", "1")))
	// The same number, the same ops, another epoch.
	wantBehind(t, w, 1, 1)
}

// P26.5: audits are the same just if all their fields are.
func TestAuditsCompared(t *testing.T) {
	w, twin := stand(t, 2, chapter()...), stand(t, 2, chapter()...)
	one, _ := audit.Of(w)
	other, _ := audit.Of(twin)
	if one != other {
		t.Errorf("P26.5: %+v, %+v", one, other)
	}
	seen := map[api.Audit]int{}
	for i, a := range append(chapter(), rounds(), rounds(), rounds(), rounds(), rounds(), rounds(), rounds()) {
		if i == 0 {
			w = newWorld(2)
		}
		do(t, w, a)
		x, e := audit.Of(w)
		if e != api.OK {
			t.Fatalf("P26.5: %d", e)
		}
		seen[x]++
	}
	want := map[api.Audit]int{
		{Answered: 1, Behind: [2]int{1, 0}}:                                  1,
		{Answered: 2, Behind: [2]int{2, 0}}:                                  4,
		{Answered: 2}:                                                        2,
		{Answered: 3, Behind: [2]int{1, 0}}:                                  1,
		{Node: 1, Answered: 3, Behind: [2]int{1, 0}}:                         1,
		{Node: 1, Answered: 4, Behind: [2]int{1, 1}}:                         2,
		{Node: 1, Answered: 4, Behind: [2]int{0, 1}}:                         2,
		{Node: 1, Answered: 4, Behind: [2]int{0, 1}, Orphans: [2]int{1, 0}}:  3,
		{Node: 1, Answered: 4, Behind: [2]int{0, 0}, Orphans: [2]int{1, 0}}:  3,
		{Node: 1, Answered: 99, Behind: [2]int{0, 0}, Orphans: [2]int{1, 0}}: 0,
	}
	for a, n := range want {
		if seen[a] != n {
			t.Errorf("P26.5: %+v was told %d times, not %d", a, seen[a], n)
		}
		delete(seen, a)
	}
	if len(seen) > 0 {
		t.Errorf("P26.5: also told: %+v", seen)
	}
}

// Rule 5: of a world that is nil, and of one that nobody made.
func TestNoWorld(t *testing.T) {
	var declared world.World
	// Of a refused leash there is none.
	refused, _ := world.New(17)
	for name, w := range map[string]*world.World{"nil": nil, "new": new(world.World), "declared": &declared, "refused": refused} {
		t.Run(name, func(t *testing.T) {
			wantHistory(t, w, -1)
			wantSuffix(t, w)
			wantVanished(t, w)
			wantWhere(t, w, nowhere, api.Commit{}, putA(), with(-1, -1))
			for _, node := range []int{0, 1, -1, 2, math.MaxInt, math.MinInt} {
				if n, e := audit.Behind(w, node); n != 0 || e != api.ErrNil {
					t.Errorf("P26.4: of the node %d: %d, %d", node, n, e)
				}
			}
			if a, e := audit.Of(w); a != (api.Audit{}) || e != api.ErrNil {
				t.Errorf("P26.5: %+v, %d", a, e)
			}
			// What an act is told at such a world changes nothing of that.
			w.Do(commits(0, put("a", "1")))
			wantHistory(t, w, -1)
			if a, e := audit.Of(w); a != (api.Audit{}) || e != api.ErrNil {
				t.Errorf("P26.5: %+v, %d", a, e)
			}
		})
	}
}

// Rule 4: answers are new memory, their spare room, too.
func TestAnswersAreNew(t *testing.T) {
	w := stand(t, 4, append(parted(), commits(0, put("e", "4"), del("b")), commits(1, put("f", "4"), del("a")))...)
	state := stateOf(w)
	asks := map[string]func() []api.Commit{
		"History": func() []api.Commit { _, l := audit.History(w); return l },
		"Suffix":  func() []api.Commit { return audit.Suffix(w) },
	}
	for name, ask := range asks {
		want := ask()
		if len(want) < 2 {
			t.Fatalf("%s: %s", name, short(want))
		}
		for at := range want {
			l := ask()
			spoil(l[at].Ops)
			spoilList(l[len(l):cap(l)])
			if !alike(l[:at], want[:at]) || !alike(l[at+1:], want[at+1:]) {
				t.Errorf("rule 4: %s: a change of the commit at %d is seen in others: %s", name, at, short(l))
			}
			spoilList(l)
			for other, ask := range asks {
				if got := ask(); name == other && !alike(got, want) || !slices.EqualFunc(got, ask(), commit.Same) {
					t.Errorf("rule 4: a change of what %s told is seen in %s", name, other)
				}
			}
		}
		if stateOf(w) != state {
			t.Errorf("rule 4: a change of what %s told is seen in the world", name)
		}
	}
}

// spoil writes over all the room of a list of ops.
func spoil(l []api.Op) {
	l = l[:cap(l)]
	for i := range l {
		l[i] = del("spoilt")
	}
}

func spoilList(l []api.Commit) {
	for i := range l {
		l[i] = with(77, 77)
	}
}

// Rule 4: a commit that is handed in is left alone, its spare room, too, and not kept.
func TestCommitIsLeftAlone(t *testing.T) {
	w := stand(t, 2, chapter()...)
	state := stateOf(w)
	for _, c := range []api.Commit{putA(), putC(), putA9(), with(1, 1, put("x", "1")), with(9, 9)} {
		room := append(slices.Clone(c.Ops), put("spare", "room"), del("spare"))
		keep := slices.Clone(room)
		c.Ops = room[:len(c.Ops)]
		was := audit.Where(w, c)
		if !slices.Equal(room, keep) {
			t.Errorf("rule 4: %s became %s", short(keep), short(room))
		}
		spoil(c.Ops)
		if got := audit.Where(w, with(c.Epoch, c.Number, keep[:len(c.Ops)]...)); got != was || stateOf(w) != state {
			t.Errorf("rule 4: a change behind the call is seen: %+v", got)
		}
	}
}

// An audit changes nothing: neither what a world tells, nor what it tells later.
func TestAuditsChangeNothing(t *testing.T) {
	w, twin := newWorld(2), newWorld(2)
	for _, a := range append(chapter(), rounds(), fuses(0, 2), rounds(), starts(0, 1, 3), rounds(), pulls(1), rounds(), starts(1, 0, 0), rounds()) {
		audits(w)
		one, other := w.Do(a), twin.Do(a)
		if !reflect.DeepEqual(one, other) || stateOf(w) != stateOf(twin) {
			t.Errorf("%s: audited it tells %+v, %s, else %+v, %s", short(a), one, stateOf(w), other, stateOf(twin))
		}
	}
}

// audits asks for all that is told of a world.
func audits(w *world.World) {
	audit.History(w)
	audit.Suffix(w)
	audit.Vanished(w)
	audit.Where(w, putA())
	for node := -1; node <= 2; node++ {
		audit.Behind(w, node)
	}
	audit.Of(w)
}
