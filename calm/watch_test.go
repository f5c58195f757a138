package calm_test

import (
	"fmt"
	"slices"
	"strings"
	"testing"

	"lagleash/api"
	"lagleash/audit"
	"lagleash/calm"
	"lagleash/world"
)

// turn is a row of numbers that look like chance, and are the same each time.
type turn uint64

func (x *turn) below(n int) int {
	*x = *x*6364136223846793005 + 1442695040888963407
	return int(uint64(*x) >> 33 % uint64(n))
}

func pick[T any](x *turn, l ...T) T { return l[x.below(len(l))] }

// ops answers a batch; now and then one that may not be.
func (x *turn) ops() []api.Op {
	if x.below(20) == 0 {
		return pick(x, nil, []api.Op{del("")}, slices.Repeat([]api.Op{del("k")}, 9))
	}
	if x.below(10) == 0 {
		// One that takes several raw writes.
		return slices.Repeat([]api.Op{put(strings.Repeat("k", 16), strings.Repeat("v", 32)), del("a")}, 4)
	}
	var l []api.Op
	for range 1 + x.below(3) {
		key := pick(x, "a", "b", "ab", "\x00\xff")
		if x.below(3) == 0 {
			l = append(l, del(key))
		} else {
			l = append(l, put(key, fmt.Sprint(x.below(100))))
		}
	}
	return l
}

// letter answers the number of a letter; now and then one that is not in flight.
func (x *turn) letter(w *world.World) int {
	if l := w.Flight(); len(l) > 0 && x.below(20) > 0 {
		return l[x.below(len(l))].Number
	}
	return x.below(40)
}

// trouble answers an act that lets a disk go off, or on again.
func (x *turn) trouble(node int) api.Act {
	switch x.below(6) {
	case 0:
		return pulls(node)
	case 1, 2:
		return starts(node, x.below(8)-x.below(2), x.below(66)-x.below(2))
	}
	return fuses(node, x.below(9)-x.below(2))
}

// act answers one for a world; with as much trouble as is asked for, of 100.
func (x *turn) act(w *world.World, trouble int) api.Act {
	node := x.below(2)
	for at := range 2 {
		if !w.Up(at) && x.below(4) == 0 {
			return starts(at, x.below(6), x.below(64))
		}
	}
	if x.below(100) < trouble {
		return x.trouble(node)
	}
	switch x.below(28) {
	case 0, 1, 2, 3, 4, 5:
		return commits(node, x.ops()...)
	case 6:
		return reads(node, pick(x, "a", "b", ""))
	case 7, 8, 9:
		return ticks(node)
	case 10, 11:
		return promotes(node)
	case 12:
		return flushes(node)
	case 13, 14, 15:
		return pick(x, doubles(x.letter(w)), drops(x.letter(w)))
	case 16, 17:
		return rounds()
	case 18:
		return api.Act{Kind: x.below(17) - 2, Node: x.below(6) - 2, N: x.below(6) - 2, T: x.below(6) - 2, Ops: x.ops()}
	}
	return delivers(x.letter(w))
}

// late answers an act that leaves much to be done.
func (x *turn) late() api.Act {
	node := x.below(2)
	switch x.below(10) {
	case 0, 1, 2, 3, 4, 5:
		return commits(node, put("late", fmt.Sprint(x.below(100))))
	case 6:
		return promotes(node)
	}
	return ticks(node)
}

// ups starts each node that is down.
func ups(w *world.World, k, t int) {
	for node := range 2 {
		if !w.Up(node) {
			w.Do(starts(node, k, t))
		}
	}
}

// settles holds P27.5 of a world and of its twin, to which the same was done, and answers the measures on the way.
func settles(t testing.TB, w, twin *world.World) []api.Measure {
	t.Helper()
	wantMeasure(t, w, tellMeasure(w))
	path := []api.Measure{tellMeasure(w)}
	for len(path) < 700 && (len(path) < 5 || path[len(path)-5] != rest) {
		m, e := calm.Round(w)
		if e != api.OK || m != tellMeasure(w) {
			t.Fatalf("P27.2: %+v, %d, not %+v", m, e, tellMeasure(w))
		}
		path = append(path, m)
	}
	wantFalls(t, path)
	n := slices.Index(path, rest)
	u := slices.MaxFunc(path, func(a, b api.Measure) int { return a.Out - b.Out }).Out
	if n < 0 || n > calm.Bound(u) {
		t.Fatalf("P27.5: %d rounds: %s", n, short(path))
	}
	wantSame(t, w)
	// The twin comes there at once: with at most as many rounds as the bound says.
	wantSettle(t, twin, calm.Bound(u), n, rest)
	wantSame(t, twin)
	if n == 0 {
		// No round was done, which would have taken the fuses out: P10 speaks of worlds without.
		twin.Safe()
	}
	wantNext(t, twin)
	return path[:n+1]
}

// wantFalls: each measure is less than the one two rounds ahead, until nothing is left.
func wantFalls(t testing.TB, path []api.Measure) {
	t.Helper()
	for at, m := range path {
		if at >= 2 && path[at-2] != rest && !calm.Less(m, path[at-2]) {
			t.Errorf("P27.5: behind %d rounds %+v: %s", at, m, short(path))
		}
		if at >= 1 && path[at-1] == rest && m != rest {
			t.Errorf("P27.5: behind %d rounds something is left again: %s", at, short(path))
		}
	}
}

// wantSame: nobody is lost, and both logs are one.
func wantSame(t testing.TB, w *world.World) {
	t.Helper()
	a, e := audit.Of(w)
	if e != api.OK || a.Vanished != 0 || a.Both != 0 || a.Behind != [2]int{} {
		t.Errorf("P27.5: %+v, %d", a, e)
	}
	wantLogs(t, w, w.Log(0)...)
}

// wantNext: commits of the history's node are taken again, as many as the leash lets be; and they, too, come to the other one.
func wantNext(t testing.TB, w *world.World) {
	t.Helper()
	node := tellNode(w)
	end := len(w.Log(node))
	for n := range w.Most() {
		if d := w.Do(commits(node, put("n", fmt.Sprint(n)))); d.Err != api.OK || d.Number != end+n+1 {
			t.Errorf("P27.5: the next commit: %+v", d)
		}
		wantMeasure(t, w, of(0, 0, n+1))
	}
	refuses(t, w, commits(node, put("n", "")), api.ErrLagging)
	if n, m, e := calm.Settle(w, 2*((w.Most()+3)/4)); m != rest || e != api.OK || n == 0 {
		t.Errorf("P27.5: %d, %+v, %d", n, m, e)
	}
	wantSame(t, w)
	if n := len(w.Log(1 - node)); n != end+w.Most() {
		t.Errorf("P27.5: the other one has %d commits", n)
	}
}

// count keeps how often a measure was met.
func count(seen map[string]int, path []api.Measure) {
	for _, m := range path {
		seen[fmt.Sprint("phases ", m.Phases)]++
		seen[fmt.Sprint("shakes ", m.Shakes)]++
		if m.Out > 0 {
			seen["out"]++
		}
	}
	for at, m := range path {
		if at > 0 && m == path[at-1] {
			seen["as ahead"]++
		}
	}
	if n := len(path) - 1; n >= 8 {
		seen["many rounds"]++
	}
}

// P27.5, P10: behind many lists with all kinds of acts, of at most as many as a script has.
func TestMixedActs(t *testing.T) {
	seen := map[string]int{}
	for seed := range 3000 {
		x := turn(seed*7919 + 5)
		most := 1 + x.below(pick(&x, 2, 4, 16))
		w, twin := newWorld(most), newWorld(most)
		trouble := seed % 4 * 8
		for range x.below(api.MaxActs - 30) {
			a := x.act(w, trouble)
			did, same := w.Do(a), twin.Do(a)
			if did.Err != same.Err {
				t.Fatalf("seed %d: %s: %d, %d", seed, short(a), did.Err, same.Err)
			}
			seen[fmt.Sprintf("kind %d, told %d", a.Kind, did.Err)]++
			if !w.Up(0) || !w.Up(1) {
				seen["a node down"]++
				if x.below(8) == 0 {
					wantDown(t, w)
				}
			} else if x.below(8) == 0 {
				wantMeasure(t, w, tellMeasure(w))
			}
		}
		k, torn := x.below(6), x.below(64)
		ups(w, k, torn)
		ups(twin, k, torn)
		for range x.below(20) {
			a := x.late()
			w.Do(a)
			twin.Do(a)
		}
		ups(w, 1, 7)
		ups(twin, 1, 7)
		count(seen, settles(t, w, twin))
		if t.Failed() {
			t.Fatalf("seed %d", seed)
		}
	}
	for what, least := range map[string]int{
		"phases 5": 200, "phases 4": 200, "phases 3": 200, "phases 2": 200, "phases 1": 200, "phases 0": 1000, "shakes 2": 500, "shakes 1": 100, "shakes 0": 1000, "out": 500, "as ahead": 200, "many rounds": 50, "a node down": 5000,
		"kind 1, told 0": 5000, "kind 1, told 6": 100, "kind 1, told 8": 500, "kind 4, told 0": 500, "kind 4, told 6": 20, "kind 6, told 0": 1000, "kind 7, told 0": 500, "kind 8, told 0": 500, "kind 10, told 0": 300, "kind 11, told 0": 500, "kind 12, told 0": 3000,
	} {
		if seen[what] < least {
			t.Errorf("%s: seen %d times alone", what, seen[what])
		}
	}
}

// P27.5: a reconciliation that is cut off at each raw step, however much of it stands, at either node.
func TestCutOff(t *testing.T) {
	for _, l := range [][]api.Act{acked()[:2], parted(), chapter(), append(chapter(), commits(1, put("d", "4"))), append(chapter(), rounds(), rounds())} {
		for fuse := range 12 {
			for kept := range 3 {
				for torn := range 3 {
					w, twin := newWorld(2), newWorld(2)
					for _, x := range []*world.World{w, twin} {
						do(t, x, l...)
						do(t, x, fuses(0, fuse), fuses(1, fuse/2))
						for range 6 {
							do(t, x, rounds())
							ups(x, kept, 7*torn)
						}
					}
					settles(t, w, twin)
					if t.Failed() {
						t.Fatalf("fuse %d, kept %d, torn %d", fuse, kept, torn)
					}
				}
			}
		}
	}
}

// P27.5: promotions by turns, each with as much out at both nodes as may be.
func TestThereAndBack(t *testing.T) {
	for most := 1; most <= mostLeash; most++ {
		w, twin := newWorld(most), newWorld(most)
		for turn := range 4 {
			at := turn % 2
			for _, x := range []*world.World{w, twin} {
				for n := range most {
					do(t, x, commits(at, put("a", fmt.Sprint(turn, n))))
				}
				do(t, x, promotes(1-at))
				for n := range most {
					do(t, x, commits(1-at, put("b", fmt.Sprint(turn, n))))
				}
			}
			wantMeasure(t, w, of(5, 2, most))
			// Five rounds until the other one is back, two for the first four commits; then two for each further four.
			want := 5 + 2*((most+3)/4)
			wantSettle(t, w, mostRounds, want, rest)
			wantSame(t, w)
			n := roundsOf(t, twin)
			if n != want {
				t.Errorf("P27.4: %d rounds, not %d", n, want)
			}
		}
		settles(t, w, twin)
	}
}

// P27.5: letters that were held back, doubled and dropped change nothing of that.
func TestHeldBack(t *testing.T) {
	for most := 1; most <= mostLeash; most += 3 {
		w, twin := newWorld(most), newWorld(most)
		for _, x := range []*world.World{w, twin} {
			for n := range 20 {
				x.Do(commits(n%2, put("a", fmt.Sprint(n))))
				do(t, x, ticks(0), ticks(1))
				if n%5 == 0 {
					x.Do(promotes(n / 5 % 2))
				}
				for _, l := range x.Flight() {
					switch l.Number % 4 {
					case 0:
						x.Do(delivers(l.Number))
					case 1:
						x.Do(doubles(l.Number))
					case 2:
						x.Do(drops(l.Number))
					}
					if len(x.Flight()) > 100 {
						break
					}
				}
			}
		}
		settles(t, w, twin)
	}
}

// P1: a link that is full ahead of it: rounds end all the same.
func TestFullLink(t *testing.T) {
	w := stand(t, 2, ticks(1))
	for range api.MaxFlight - 1 {
		do(t, w, doubles(1))
	}
	refuses(t, w, doubles(1), api.ErrLong)
	do(t, w, commits(0, put("a", "1")))
	wantMeasure(t, w, of(0, 1, 1))
	n, m, e := calm.Settle(w, mostRounds)
	if m != rest || e != api.OK || n > calm.Bound(1) {
		t.Errorf("P27.4: %d, %+v, %d", n, m, e)
	}
	wantSame(t, w)
}

// FuzzActs: acts as bytes; behind them, both nodes started, the world comes to rest.
func FuzzActs(f *testing.F) {
	f.Add([]byte{2, 0, 0, 2, 1, 5, 1, 2, 0, 5, 3, 5, 4, 0, 0, 3, 1, 0, 1})
	f.Add([]byte{1, 0, 0, 8, 1, 11, 0, 3, 1, 11, 0, 10, 1, 11, 0})
	f.Fuzz(func(t *testing.T, b []byte) {
		if len(b) == 0 || len(b) > 2*(api.MaxActs-2) {
			return
		}
		most := 1 + int(b[0])%16
		w, twin := newWorld(most), newWorld(most)
		for _, x := range []*world.World{w, twin} {
			for at := 1; at+1 < len(b); at += 2 {
				n := int(b[at+1])
				x.Do(api.Act{Kind: 1 + int(b[at])%12, Node: n % 2, N: n / 2, T: n, Ops: []api.Op{put("k", fmt.Sprint(n))}})
			}
			ups(x, len(b)%5, len(b)%64)
		}
		settles(t, w, twin)
	})
}
