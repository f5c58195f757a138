package audit_test

import (
	"fmt"
	"slices"
	"strings"
	"testing"

	"lagleash/api"
	"lagleash/audit"
	"lagleash/world"
)

// turn is a row of numbers that look like chance, and are the same each time.
type turn uint64

func (x *turn) below(n int) int {
	*x = *x*6364136223846793005 + 1442695040888963407
	return int(uint64(*x) >> 33 % uint64(n))
}

func pick[T any](x *turn, l ...T) T { return l[x.below(len(l))] }

// ops answers a batch; now and then one that may not be.
func (x *turn) ops() []api.Op {
	if x.below(20) == 0 {
		return pick(x, nil, []api.Op{del("")}, slices.Repeat([]api.Op{del("k")}, 9))
	}
	if x.below(10) == 0 {
		// One that takes several raw writes.
		return slices.Repeat([]api.Op{put(strings.Repeat("k", 16), strings.Repeat("v", 32)), del("a")}, 4)
	}
	var l []api.Op
	for range 1 + x.below(3) {
		key := pick(x, "a", "b", "ab", "\x00\xff")
		if x.below(3) == 0 {
			l = append(l, del(key))
		} else {
			l = append(l, put(key, fmt.Sprint(x.below(100))))
		}
	}
	return l
}

// letter answers the number of a letter; now and then one that is not in flight.
func (x *turn) letter(w *world.World) int {
	if l := w.Flight(); len(l) > 0 && x.below(20) > 0 {
		return l[x.below(len(l))].Number
	}
	return x.below(40)
}

// trouble answers an act that lets a disk go off, or on again.
func (x *turn) trouble(node int) api.Act {
	switch x.below(6) {
	case 0:
		return pulls(node)
	case 1, 2:
		return starts(node, x.below(8)-x.below(2), x.below(66)-x.below(2))
	}
	return fuses(node, x.below(9)-x.below(2))
}

// act answers one for a world; with as much trouble as is asked for, of 100.
func (x *turn) act(w *world.World, trouble int) api.Act {
	node := x.below(2)
	for at := range 2 {
		if !w.Up(at) && x.below(4) == 0 {
			return starts(at, x.below(6), x.below(64))
		}
	}
	if x.below(100) < trouble {
		return x.trouble(node)
	}
	switch x.below(26) {
	case 0, 1, 2, 3, 4:
		return commits(node, x.ops()...)
	case 5:
		return reads(node, pick(x, "a", "b", ""))
	case 6, 7, 8:
		return ticks(node)
	case 9:
		return promotes(node)
	case 10, 11:
		return flushes(node)
	case 12, 13:
		return pick(x, doubles(x.letter(w)), drops(x.letter(w)))
	case 14, 15, 16:
		return rounds()
	case 17:
		return api.Act{Kind: x.below(17) - 2, Node: x.below(6) - 2, N: x.below(6) - 2, T: x.below(6) - 2, Ops: x.ops()}
	}
	return delivers(x.letter(w))
}

// watch is what an audit told ahead of an act, so that what it tells behind it can be held against P26.6.
type watch struct {
	node    int
	epoch   int
	history []api.Commit
	replica int // how long the log of a replica was; -1: there was none
	seen    map[string]int
}

// newWatch is the watch of a new world.
func newWatch() *watch { return &watch{epoch: 1, seen: map[string]int{}} }

// look holds what is told now against P26.6, and against what was told ahead of the act.
func (x *watch) look(t testing.TB, w *world.World) {
	t.Helper()
	a, e := audit.Of(w)
	if e != api.OK || a.Vanished != 0 || a.Both != 0 || a.Node != 0 && a.Node != 1 {
		t.Errorf("P26.6: %+v, %d", a, e)
		return
	}
	if a.Behind[0] > w.Most() || a.Behind[1] > w.Most() {
		t.Errorf("P26.6: behind are %+v, the leash is %d", a.Behind, w.Most())
	}
	wantVanished(t, w)
	node, history := audit.History(w)
	p, _ := w.Page(node)
	x.follows(t, node, p.Epoch, history)
	x.count(a, w)
	x.node, x.epoch, x.history, x.replica = node, p.Epoch, history, -1
	if other, _ := w.Page(1 - node); other.Role == api.Replica {
		x.replica = len(w.Log(1 - node))
	}
}

// follows: the later history begins with the earlier one's first commits, up to the end of the replica that was promoted, if one was.
func (x *watch) follows(t testing.TB, node, epoch int, history []api.Commit) {
	t.Helper()
	shared := len(x.history)
	if epoch != x.epoch {
		x.seen["promoted"]++
		if node == x.node || epoch != x.epoch+1 || x.replica < 0 {
			t.Errorf("P26.6: the node %d of the epoch %d is followed by the node %d of the epoch %d", x.node, x.epoch, node, epoch)
		}
		shared = max(x.replica, 0)
		if shared < len(x.history) {
			x.seen["promoted, some not there"]++
		}
	}
	if epoch == x.epoch && node != x.node {
		t.Errorf("P26.6: the history was the node %d's, it is the node %d's in the same epoch", x.node, node)
	}
	if len(x.history) < shared || len(history) < shared || !alike(history[:shared], x.history[:shared]) {
		t.Errorf("P26.6: the history was %s, it is %s, %d should be shared", short(x.history), short(history), shared)
	}
}

// count keeps how often what is audited was so.
func (x *watch) count(a api.Audit, w *world.World) {
	for what, is := range map[string]bool{
		"a suffix":      len(audit.Suffix(w)) > 0,
		"orphans":       a.Orphans[0]+a.Orphans[1] > 0,
		"orphans twice": a.Orphans[0] > 0 && a.Orphans[1] > 0,
		"both behind":   a.Behind[0] > 0 && a.Behind[1] > 0,
		"as far behind": a.Behind[0] == w.Most() || a.Behind[1] == w.Most(),
		"a node down":   !w.Up(0) || !w.Up(1),
		"both down":     !w.Up(0) && !w.Up(1),
	} {
		if is {
			x.seen[what]++
		}
	}
}

// P26.6: behind each act of many lists with all kinds of acts; and what is told is what the second telling tells.
func TestMixedActs(t *testing.T) {
	seen := map[string]int{}
	for seed := range 120 {
		x := turn(seed*7919 + 3)
		w, sees := newWorld(1+x.below(4)), newWatch()
		sees.look(t, w)
		for range 150 {
			a := x.act(w, seed%3*8)
			did := w.Do(a)
			sees.look(t, w)
			seen[fmt.Sprintf("kind %d, told %d", a.Kind, did.Err)]++
			if x.below(6) == 0 {
				compare(t, w, x.bent(w)...)
			}
			if t.Failed() {
				t.Fatalf("seed %d, act %s", seed, short(a))
			}
		}
		for what, n := range sees.seen {
			seen[what] += n
		}
	}
	for what, least := range map[string]int{
		"promoted": 150, "promoted, some not there": 50, "a suffix": 500, "orphans": 500, "orphans twice": 50, "both behind": 100, "as far behind": 500, "a node down": 500, "both down": 20,
		"kind 1, told 0": 500, "kind 1, told 6": 20, "kind 1, told 8": 50, "kind 4, told 0": 150, "kind 4, told 6": 5, "kind 6, told 0": 500, "kind 8, told 0": 50, "kind 11, told 0": 50, "kind 12, told 0": 500,
	} {
		if seen[what] < least {
			t.Errorf("%s: seen %d times alone", what, seen[what])
		}
	}
}

// P26.6: promotions by turns, with what is lost at the other node each time.
func TestThereAndBack(t *testing.T) {
	for most := 1; most <= mostLeash; most += 3 {
		w, sees := newWorld(most), newWatch()
		lost := [2]int{}
		sees.look(t, w)
		for turn := range 7 {
			at := turn % 2
			for n := range most {
				do(t, w, commits(at, put("a", fmt.Sprint(turn, n))))
				sees.look(t, w)
			}
			do(t, w, promotes(1-at), commits(1-at, put("b", fmt.Sprint(turn))))
			lost[at] += most
			for range 9 + most {
				sees.look(t, w)
				do(t, w, rounds())
			}
			a, _ := audit.Of(w)
			if want := (api.Audit{Node: 1 - at, Answered: (turn + 1) * (most + 1), Orphans: lost}); a != want {
				t.Errorf("P26.5: %+v, not %+v", a, want)
			}
		}
		compare(t, w)
	}
}

// FuzzActs: acts as bytes; each audit is what the second telling tells, and holds P26.6.
func FuzzActs(f *testing.F) {
	f.Add([]byte{2, 0, 0, 2, 1, 5, 1, 2, 0, 5, 3, 5, 4, 0, 0, 3, 1, 0, 1})
	f.Add([]byte{1, 0, 0, 8, 1, 11, 0, 3, 1, 11, 0, 10, 1, 11, 0})
	f.Fuzz(func(t *testing.T, b []byte) {
		if len(b) == 0 || len(b) > 200 {
			return
		}
		w, sees := newWorld(1+int(b[0])%16), newWatch()
		sees.look(t, w)
		for at := 1; at+1 < len(b); at += 2 {
			n := int(b[at+1])
			w.Do(api.Act{Kind: 1 + int(b[at])%12, Node: n % 2, N: n / 2, T: n, Ops: []api.Op{put("k", fmt.Sprint(n))}})
			sees.look(t, w)
		}
		compare(t, w)
	})
}
