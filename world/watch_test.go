package world_test

import (
	"fmt"
	"slices"
	"testing"

	"lagleash/api"
	"lagleash/batch"
	"lagleash/commit"
	"lagleash/letter"
)

// watch is what is kept of what a world told so far, so that each act more can be held against DOC.md's promises P2 to P9.
type watch struct {
	commits map[[2]int]api.Commit // each that was ever told of, by its epoch and number
	writers map[int]int           // by epoch: the node that took commits in it
	makers  map[int]int           // by epoch: the node that was its primary
	falls   [2]*fall              // of a node that is deposed
	runs    [2][]api.Run          // the last that were told of a node
	read    [2]int                // the longest log of a node since its last reconciliation
	seen    map[string]int
}

// fall is what was told of a node when it was deposed.
type fall struct {
	epoch    int
	log      []api.Commit
	sections []api.Section
	runs     []api.Run
}

func newWatch() watch {
	return watch{commits: map[[2]int]api.Commit{}, writers: map[int]int{}, makers: map[int]int{}, seen: map[string]int{}}
}

// look holds what is told now, behind the act and what was told ahead of it, against the promises.
func (b *bench) look(a api.Act, did api.Did, ahead told) {
	b.t.Helper()
	b.seen[fmt.Sprintf("%d %d", a.Kind, did.Err)]++
	at := b.history()
	history := b.now.nodes[at].log
	b.nothingVanishes(history, b.now.nodes[1-at].log)
	b.answers(a, did, ahead)
	b.leashHolds(a, did, ahead)
	b.promotions(a, did, ahead)
	b.oneWriter()
	for at := range b.now.nodes {
		b.wayBack(at, history, ahead)
		b.replicaFollows(at, history)
		b.runsStand(at, history)
		b.reads(at)
	}
	b.letters(a, did, ahead)
}

// history is the node that is primary of the greatest epoch: there is always just one.
func (b *bench) history() int {
	b.t.Helper()
	at, greatest := -1, 0
	for i, n := range b.now.nodes {
		if n.pageErr != api.OK {
			b.fail("the page of the node %d is refused: %d", i, n.pageErr)
		}
		if n.page.Role != api.Primary {
			continue
		}
		if n.page.Epoch == greatest {
			b.fail("both nodes are primary of the epoch %d", greatest)
		}
		if n.page.Epoch > greatest {
			at, greatest = i, n.page.Epoch
		}
	}
	for _, n := range b.now.nodes {
		if at < 0 || n.page.Epoch > greatest {
			b.fail("there is no primary of the greatest epoch")
		}
	}
	if at >= 0 && b.now.nodes[1-at].page.Role == api.Primary {
		b.seen["two primaries"]++
	}
	return at
}

// shared is how many first commits two logs share.
func shared(a, b []api.Commit) int {
	n := 0
	for n < min(len(a), len(b)) && commit.Same(a[n], b[n]) {
		n++
	}
	return n
}

func has(log []api.Commit, c api.Commit) bool {
	return slices.ContainsFunc(log, func(x api.Commit) bool { return commit.Same(x, c) })
}

// orphans lists the commits in both files of orphans.
func (x told) orphans() []api.Commit {
	var l []api.Commit
	for _, n := range x.nodes {
		for _, s := range n.sections {
			l = append(l, s.Commits...)
		}
	}
	return l
}

// nothingVanishes (P2): each commit that was answered is somewhere, and none is in the history and in a file of orphans.
func (b *bench) nothingVanishes(history, other []api.Commit) {
	b.t.Helper()
	suffix, orphans := other[shared(history, other):], b.now.orphans()
	for _, c := range b.now.answered {
		switch {
		case has(history, c):
		case has(suffix, c):
			b.seen["answered, in the suffix"]++
		case has(orphans, c):
			b.seen["answered, an orphan"]++
		default:
			b.fail("%s was answered, and vanished", short(c))
		}
	}
	for _, c := range orphans {
		if has(history, c) {
			b.fail("%s is in the history, and in a file of orphans", short(c))
		}
	}
}

// answers: what a commit was answered is the next number of a primary, durable at once, and all that is written down.
func (b *bench) answers(a api.Act, did api.Did, ahead told) {
	b.t.Helper()
	right := ahead.answered
	if a.Kind == kindCommit && did.Err == api.OK {
		was := ahead.nodes[a.Node]
		c := with(was.page.Epoch, len(was.log)+1, a.Ops...)
		if was.page.Role != api.Primary || did.Number != c.Number || !has(b.now.nodes[a.Node].log, c) {
			b.fail("%s was answered %d at a node that was %s", short(a), did.Number, short(was))
		}
		// P6: at most one node takes commits in any one epoch.
		if writer, taken := b.writers[c.Epoch]; taken && writer != a.Node {
			b.fail("both nodes took commits in the epoch %d", c.Epoch)
		}
		b.writers[c.Epoch] = a.Node
		right = append(slices.Clip(right), c)
	}
	if !alikeLogs(b.now.answered, right) {
		b.fail("answered are %s, not %s", short(b.now.answered), short(right))
	}
}

// leashHolds (P4): of a primary's durable commits at most so many are not durable at the other site as the leash is long; and only then it is short.
func (b *bench) leashHolds(a api.Act, did api.Did, ahead told) {
	b.t.Helper()
	for at, n := range b.now.nodes {
		other := b.now.nodes[1-at].log
		behind := 0
		for _, c := range n.log {
			if !has(other, c) {
				behind++
			}
		}
		if n.page.Role == api.Primary && behind > b.now.most {
			b.fail("%d commits of the node %d are not durable at the other one", behind, at)
		}
		if n.page.Role == api.Primary && behind == b.now.most {
			b.seen["as far behind as may be"]++
		}
		for _, s := range n.sections {
			if len(s.Commits) > b.now.most {
				b.fail("%d commits were lost at once", len(s.Commits))
			}
		}
	}
	if a.Kind != kindCommit || a.Node != 0 && a.Node != 1 {
		return
	}
	n := ahead.nodes[a.Node]
	lagging := n.out >= b.now.most
	if did.Err == api.ErrLagging && !lagging || did.Err == api.OK && lagging {
		b.fail("with %d unacked a commit was answered %d", n.out, did.Err)
	}
	if n.up && n.page.Role == api.Primary && batch.Check(a.Ops) == api.OK && !lagging && did.Err != api.OK && did.Err != api.ErrOff {
		b.fail("with %d unacked a commit was refused: %d", n.out, did.Err)
	}
}

// promotions (P6): each makes an epoch of its own, out of a replica alone.
func (b *bench) promotions(a api.Act, did api.Did, ahead told) {
	b.t.Helper()
	if a.Kind == kindPromote && (a.Node == 0 || a.Node == 1) && ahead.nodes[a.Node].up {
		was, is := ahead.nodes[a.Node].page, b.now.nodes[a.Node].page
		right := map[api.Role]api.Errno{api.Primary: api.ErrAlreadyPrimary, api.Replica: api.OK, api.Deposed: api.ErrDeposed}[was.Role]
		if did.Err != right && (did.Err != api.ErrOff || right != api.OK) {
			b.fail("a promotion of %+v is answered %d", was, did.Err)
		}
		if did.Err == api.OK {
			if _, taken := b.makers[did.Number]; taken || is != primary(was.Epoch+1, len(ahead.nodes[a.Node].log)) || did.Number != is.Epoch {
				b.fail("a promotion made the epoch %d", did.Number)
			}
		}
	}
	for at, n := range b.now.nodes {
		if n.page.Role != api.Primary {
			continue
		}
		if maker, taken := b.makers[n.page.Epoch]; taken && maker != at {
			b.fail("both nodes were primary of the epoch %d", n.page.Epoch)
		}
		b.makers[n.page.Epoch] = at
	}
}

// oneWriter (P6): two commits with the same epoch and number are the same.
func (b *bench) oneWriter() {
	b.t.Helper()
	all := slices.Concat(b.now.nodes[0].log, b.now.nodes[1].log, b.now.answered, b.now.orphans())
	for _, c := range all {
		if other, there := b.commits[epochOf(c)]; there && !commit.Same(c, other) {
			b.fail("%s and %s are two", short(c), short(other))
		}
		b.commits[epochOf(c)] = c
	}
}

// wayBack (P3, P8, P9): a deposed node keeps its log until what it will lose is in its file of orphans, durably; its runs stay; and when it is back just that was added, and the log is what it shares with the history.
func (b *bench) wayBack(at int, history []api.Commit, ahead told) {
	b.t.Helper()
	n, was := b.now.nodes[at], ahead.nodes[at]
	f := b.falls[at]
	if n.page.Role != api.Deposed && f == nil {
		return
	}
	if f == nil || n.page.Role == api.Deposed && n.page.Epoch != f.epoch {
		if !alikeLogs(n.log, was.log) || !alikeSections(n.sections, was.sections) {
			b.fail("the node %d was deposed, and changed", at)
		}
		f = &fall{n.page.Epoch, n.log, n.sections, b.runs[at]}
		b.falls[at] = f
	}
	fork := shared(f.log, history)
	kept, filed := f.log[:fork], f.sections
	if fork < len(f.log) {
		filed = append(slices.Clip(filed), holds(f.epoch, fork, f.log[fork:]...))
	}
	whole, cut := alikeLogs(n.log, f.log), alikeLogs(n.log, kept)
	none, all := alikeSections(n.sections, f.sections), alikeSections(n.sections, filed)
	right := deposed(f.epoch, n.page.Phase, fork, sectionBytes(f.sections...))
	fine := false
	switch n.page.Phase {
	case api.Heard:
		fine, right = whole && none, heard(f.epoch)
	case api.Forked:
		fine = whole && (none || all)
	case api.Filed:
		fine = (whole || cut) && all
	case api.Cut:
		fine = cut && all
	case api.None:
		// In the same round it may have been sent what is behind the fork.
		fine, right = len(n.log) >= fork && alikeLogs(n.log[:fork], kept) && all, replica(f.epoch)
		b.falls[at] = nil
		b.read[at] = fork
		b.seen[fmt.Sprintf("back, lost some: %v", fork < len(f.log))]++
	}
	if !fine || n.page != right {
		b.fail("the node %d fell with %s, the fork is %d; it is %s", at, short(f), fork, short(n))
	}
	if n.up && !alikeRuns(n.runs, f.runs) {
		b.fail("the runs of the deposed node %d changed", at)
	}
	if len(n.runs) > 0 {
		b.seen["deposed, with runs"]++
	}
}

// replicaFollows (P7): a replica's log is a first part of the history, and no log becomes shorter, but by a reconciliation.
func (b *bench) replicaFollows(at int, history []api.Commit) {
	b.t.Helper()
	n := b.now.nodes[at]
	if n.page.Role == api.Replica && shared(n.log, history) < len(n.log) {
		b.fail("the replica %d has %s, the history is %s", at, short(n.log), short(history))
	}
	if n.page.Role == api.Deposed {
		return
	}
	if len(n.log) < b.read[at] {
		b.fail("the node %d had %d commits, it has %d", at, b.read[at], len(n.log))
	}
	b.read[at] = len(n.log)
}

// runsStand (P9): runs are what commits left that the history has, too; and none that was there goes.
func (b *bench) runsStand(at int, history []api.Commit) {
	b.t.Helper()
	n := b.now.nodes[at]
	if !n.up {
		return
	}
	end := 0
	for _, r := range n.runs {
		if r.From != end+1 || r.Upto < r.From || r.Upto > shared(n.log, history) || !slices.Equal(r.Ops, leftBy(n.log[r.From-1:r.Upto])) {
			b.fail("the node %d has the run %s, its log is %s, the history is %s", at, short(r), short(n.log), short(history))
		}
		end = r.Upto
	}
	if ahead := b.runs[at]; len(n.runs) < len(ahead) || !alikeRuns(n.runs[:len(ahead)], ahead) {
		b.fail("the node %d had the runs %s, it has %s", at, short(ahead), short(n.runs))
	}
	b.runs[at] = n.runs
}

// reads (P7): a read answers ErrDeposed, or out of the fold of the durable log.
func (b *bench) reads(at int) {
	b.t.Helper()
	n := b.now.nodes[at]
	read := fold(n.log)
	for _, key := range []string{"a", "b", "ab", "c", "\x00\xff", of(16), ""} {
		right := api.Did{}
		right.Value, right.There = read[key], false
		if _, there := read[key]; there {
			right.There = true
		}
		switch {
		case !n.up:
			right = refused(api.ErrDown)
		case n.page.Role == api.Deposed:
			right = refused(api.ErrDeposed)
		}
		if got := b.w.Do(reads(at, key)); !alikeDid(got, right) {
			b.fail("a read of %q at the node %d is told %+v, not %+v", key, at, got, right)
		}
	}
}

// letters (P6): one of a lower epoch changes nothing, but that it is in flight no more; nor does one to a node that is down.
func (b *bench) letters(a api.Act, did api.Did, ahead told) {
	b.t.Helper()
	at := slices.IndexFunc(ahead.flight, func(l api.Letter) bool { return l.Number == a.N })
	if a.Kind != kindDeliver || at < 0 {
		return
	}
	l := ahead.flight[at]
	m := sure(letter.Decode(l.Bytes))
	to := ahead.nodes[l.To]
	lower := m.Epoch < to.page.Epoch
	if to.up && !lower {
		return
	}
	right := ahead
	right.flight = tidy(slices.Delete(slices.Clone(ahead.flight), at, at+1))
	if !alikeDid(did, api.Did{}) || !alikeTold(b.now, right) {
		b.fail("the letter %s to a node of %+v is told %+v, the world\n%s", short(m), to.page, did, short(b.now))
	}
	if to.up {
		b.seen["a lower epoch"]++
	} else {
		b.seen["to a node that is down"]++
	}
}

// turn is a row of numbers that look like chance, and are the same each time.
type turn uint64

func (x *turn) below(n int) int {
	*x = *x*6364136223846793005 + 1442695040888963407
	return int(uint64(*x) >> 33 % uint64(n))
}

func pick[T any](x *turn, l ...T) T { return l[x.below(len(l))] }

// ops answers a batch; now and then one that may not be.
func (x *turn) ops() []api.Op {
	if x.below(20) == 0 {
		return pick(x, nil, nine(), []api.Op{del("")})
	}
	if x.below(10) == 0 {
		return big()
	}
	var l []api.Op
	for range 1 + x.below(3) {
		key := pick(x, "a", "b", "ab", "\x00\xff", of(16))
		if x.below(3) == 0 {
			l = append(l, del(key))
		} else {
			l = append(l, put(key, fmt.Sprint(x.below(100))))
		}
	}
	return l
}

// letter answers the number of a letter; now and then one that is not in flight.
func (x *turn) letter(now told) int {
	if len(now.flight) == 0 || x.below(20) == 0 {
		return x.below(40)
	}
	return now.flight[x.below(len(now.flight))].Number
}

// wrong answers an act that may be none.
func (x *turn) wrong() api.Act {
	return api.Act{Kind: x.below(17) - 2, Node: x.below(6) - 2, N: x.below(6) - 2, T: x.below(6) - 2, Key: pick(x, "", "a"), Ops: x.ops()}
}

// trouble answers an act that lets a disk go off, or on again.
func (x *turn) trouble(node int) api.Act {
	switch x.below(6) {
	case 0:
		return pulls(node)
	case 1, 2:
		return starts(node, x.below(8)-x.below(2), x.below(66)-x.below(2))
	}
	return fuses(node, x.below(9)-x.below(2))
}

// act answers one for a world; with as much trouble as is asked for, of 100.
func (x *turn) act(now told, trouble int) api.Act {
	node := x.below(2)
	for at, n := range now.nodes {
		if !n.up && x.below(4) == 0 {
			return starts(at, x.below(6), x.below(64))
		}
	}
	if x.below(100) < trouble {
		return x.trouble(node)
	}
	switch x.below(26) {
	case 0, 1, 2, 3, 4:
		return commits(node, x.ops()...)
	case 5:
		return reads(node, pick(x, "a", "b", "ab", "c", ""))
	case 6, 7, 8:
		return ticks(node)
	case 9:
		return promotes(node)
	case 10, 11:
		return flushes(node)
	case 12, 13:
		return pick(x, doubles(x.letter(now)), drops(x.letter(now)))
	case 14, 15, 16:
		return rounds()
	case 17:
		return x.wrong()
	}
	return delivers(x.letter(now))
}

// calm lets rounds pass without a fault until nothing is left to be done, and answers how many there were.
func (b *bench) calm() int {
	b.t.Helper()
	for at, n := range b.now.nodes {
		if !n.up {
			b.all(starts(at, 0, 0))
		}
	}
	b.safe()
	for count := range 36 * (200 + 1) {
		at := b.history()
		h, o := b.now.nodes[at], b.now.nodes[1-at]
		if o.page == replica(h.page.Epoch) && h.met && h.out == 0 {
			if !alikeLogs(h.log, o.log) {
				b.fail("nothing is unacked, the logs are %s and %s", short(h.log), short(o.log))
			}
			return count
		}
		b.all(rounds())
	}
	b.fail("calm rounds come to no end")
	return 0
}

// safe takes the fuses out.
func (b *bench) safe() {
	b.t.Helper()
	b.w.Safe()
	for _, d := range b.x.disks {
		d.Safe()
	}
	b.compare()
}

// TestMixed: many acts of all kinds, mixed, with fuses, pulls and starts in between: all that is told is what the second telling tells, and holds what P2 to P9 promise; and calm brings all together.
func TestMixed(t *testing.T) {
	seen := map[string]int{}
	for seed := range 240 {
		x := turn(seed*7919 + 3)
		b := newBench(t, pick(&x, 1, 2, 2, 3, 4, 1+x.below(mostLeash)))
		trouble := pick(&x, 0, 5, 12, 25)
		for range 160 {
			b.do(x.act(b.now, trouble))
		}
		b.calm()
		b.want(commits(b.history(), put("a", "1")), numbered(len(b.now.nodes[0].log)+1))
		for name, n := range b.seen {
			seen[name] += n
		}
	}
	for _, name := range []string{
		"1 0", "1 2", "1 3", "1 6", "1 7", "1 8", "1 9", "1 11", "2 0", "2 7", "2 9", "3 0", "3 6", "3 7", "4 0", "4 6", "4 7", "4 9", "4 10",
		"5 0", "5 6", "5 7", "5 9", "6 0", "6 4", "6 6", "7 0", "7 4", "8 0", "8 4", "9 0", "9 2", "9 6", "10 0", "10 6", "11 0", "11 2", "12 0", "0 2", "13 2",
		"two primaries", "answered, in the suffix", "answered, an orphan", "as far behind as may be", "back, lost some: true", "back, lost some: false", "deposed, with runs", "a lower epoch", "to a node that is down",
	} {
		if seen[name] < 10 {
			t.Errorf("too few of %q: %d", name, seen[name])
		}
	}
}

// FuzzActs: acts out of numbers, held against the second telling and the promises.
func FuzzActs(f *testing.F) {
	for seed := range 8 {
		f.Add(uint64(seed), uint8(60), uint8(seed*31), uint8(seed*5))
	}
	f.Fuzz(func(t *testing.T, seed uint64, count, most, trouble uint8) {
		x := turn(seed)
		b := newBench(t, 1+int(most)%mostLeash)
		for range count {
			b.do(x.act(b.now, int(trouble)%40))
		}
		b.calm()
	})
}

// DOC.md's examples of the whole.

func TestExamplesOfTheWhole(t *testing.T) {
	one, two, lost, kept := with(1, 1, put("a", "1")), with(1, 2, put("b", "2")), with(1, 3, put("c", "3")), with(2, 3, put("a", "9"))
	b := newBench(t, 2)
	// 1
	b.want(commits(0, one.Ops...), numbered(1))
	b.want(commits(0, two.Ops...), numbered(2))
	b.refuses(commits(0, lost.Ops...), api.ErrLagging)
	// 2
	b.all(ticks(1), delivers(1), ticks(0), delivers(3), delivers(4))
	b.wantMemory(0, 0, 2, true)
	b.wantLog(0, one, two)
	b.wantLog(1, one, two)
	b.want(commits(0, lost.Ops...), numbered(3))
	// 3
	b.want(promotes(1), numbered(2))
	b.wantPage(0, primary(1, 0))
	b.wantPage(1, primary(2, 2))
	b.want(commits(1, kept.Ops...), numbered(3))
	b.wantLog(0, one, two, lost)
	b.wantLog(1, one, two, kept)
	if at := b.history(); at != 1 {
		t.Errorf("the history is the log of the node %d", at)
	}
	// 4
	b.all(ticks(1), delivers(5))
	b.wantPage(0, heard(2))
	b.refuses(reads(0, "a"), api.ErrDeposed)
	for _, p := range []api.Page{deposed(2, api.Forked, 2, 0), deposed(2, api.Filed, 2, 0), deposed(2, api.Cut, 2, 0), replica(2)} {
		b.refuses(promotes(0), api.ErrDeposed)
		b.all(ticks(0))
		b.wantPage(0, p)
	}
	b.wantSections(0, holds(2, 2, lost))
	b.wantSections(1)
	b.wantLog(0, one, two)
	// 6
	b.refuses(promotes(1), api.ErrAlreadyPrimary)
	b.want(promotes(0), numbered(3))
}

// TestExampleOfATornSection: cut off behind Forked, with half of the section written, and started again.
func TestExampleOfATornSection(t *testing.T) {
	lost := with(1, 3, put("c", "3"))
	whole := sectionBytes(holds(2, 2, lost))
	for part := range whole {
		b := stand{"", 2, append(phasesBehind(1), fuses(0, 1))}.bench(t)
		b.want(ticks(0), refused(api.ErrOff))
		b.all(starts(0, 0, part))
		// The torn end is cut off, durably.
		if left := len(b.x.disks[0].Durable(api.FileOrphans)); left != 0 || b.x.disks[0].Pending() != 0 {
			t.Errorf("of %d bytes %d are left", part, left)
		}
		b.wantSections(0)
		b.wantPage(0, deposed(2, api.Forked, 2, 0))
		if n := len(b.now.nodes[0].log); n != 3 {
			t.Errorf("the log has %d commits", n)
		}
		b.all(ticks(0))
		b.wantPage(0, deposed(2, api.Filed, 2, 0))
		b.wantSections(0, holds(2, 2, lost))
		if n := len(b.now.nodes[0].log); n != 3 {
			t.Errorf("the log has %d commits", n)
		}
	}
}

// TestExampleOfAnOldLetter: letters of the epoch 1 that come to the node 1 in the epoch 2 change nothing.
func TestExampleOfAnOldLetter(t *testing.T) {
	b := stand{"", 2, append(shipped(), doubles(3), delivers(3), ticks(0), promotes(1))}.bench(t)
	for _, l := range b.now.flight {
		if l.To == 1 {
			b.passesButFlight(delivers(l.Number))
		}
	}
	if b.seen["a lower epoch"] != 4 {
		t.Errorf("%d letters were of a lower epoch", b.seen["a lower epoch"])
	}
}

// TestExampleOfAFuse: a commit that was refused is gone, or stands; its number is given anew, or not.
func TestExampleOfAFuse(t *testing.T) {
	for kept := range 2 {
		b := stand{"", 2, []api.Act{fuses(0, 1)}}.bench(t)
		b.want(commits(0, put("a", "1")), refused(api.ErrOff))
		if b.now.nodes[0].up {
			t.Errorf("the node 0 is up")
		}
		b.want(starts(0, kept, 0), api.Did{})
		b.wantMemory(0, kept, 0, false)
		b.want(commits(0, put("a", "2")), numbered(1+kept))
	}
}

// TestExampleOfAFlush: what is acked alone is flushed.
func TestExampleOfAFlush(t *testing.T) {
	b := newBench(t, 2)
	b.all(commits(0, put("a", "1")), ticks(1), delivers(1), ticks(0), delivers(3), delivers(4), commits(0, put("b", "2")), flushes(0))
	if l := b.now.nodes[0].runs; len(l) != 1 || l[0].Upto != 1 {
		t.Errorf("the runs are %s", short(l))
	}
	// Behind a reconciliation the run is what it was.
	b.all(promotes(1))
	b.calm()
	b.wantSections(0, holds(2, 1, with(1, 2, put("b", "2"))))
	if l := b.now.nodes[0].runs; len(l) != 1 || l[0].Upto != 1 {
		t.Errorf("the runs are %s", short(l))
	}
}

// P2 to P9, one by one.

// TestAnswerDoesNotWait (P5): with a link that delivers nothing the first commits are answered, as many as the leash is long, whatever else is done; the next one is not.
func TestAnswerDoesNotWait(t *testing.T) {
	for most := 1; most <= mostLeash; most++ {
		b := newBench(t, most)
		b.all(ticks(0), ticks(1))
		for n := 1; n <= most; n++ {
			b.refuses(commits(0), api.ErrArg)
			b.refuses(commits(0, nine()...), api.ErrLong)
			if n%2 == 0 {
				b.all(drops(b.do(doubles(1)).Number), flushes(0), flushes(1), ticks(0), ticks(1), reads(0, "a"))
			}
			b.want(commits(0, big()[:1+n%8]...), numbered(n))
		}
		for range 3 {
			b.refuses(commits(0, put("a", "1")), api.ErrLagging)
			b.all(ticks(0), ticks(1), flushes(0))
		}
		b.wantMemory(0, most, 0, false)
	}
}

// TestLeashOfADeposedOne (P4): a primary that was deposed and has not heard has its leash still: with two such ones each loses at most as many commits as the leash is long.
func TestLeashOfADeposedOne(t *testing.T) {
	for most := 1; most <= mostLeash; most++ {
		for acked := 0; acked <= most; acked++ {
			b := newBench(t, most)
			for range acked {
				b.all(commits(0, put("a", "1")))
			}
			b.calm()
			b.all(promotes(1))
			for at := range 2 {
				for range most {
					b.all(commits(at, put("a", "2")))
				}
				b.refuses(commits(at, put("a", "3")), api.ErrLagging)
			}
			b.all(flushes(0), flushes(1))
			b.calm()
			if l := b.now.nodes[0].sections; len(l) != 1 || len(l[0].Commits) != most || l[0].Fork != acked {
				t.Errorf("with the leash %d %s were lost", most, short(l))
			}
			b.wantSections(1)
		}
	}
}

// TestLeashBehindARestart (P4): what was acked is forgotten, unless it stands on the page: then more may be unacked than the leash is long, but not more be behind.
func TestLeashBehindARestart(t *testing.T) {
	b := stand{"", 2, append(acked(), commits(0, put("c", "3")), commits(0, put("d", "4")), pulls(0), starts(0, 0, 0))}.bench(t)
	b.wantMemory(0, 4, 0, false)
	b.refuses(commits(0, put("e", "5")), api.ErrLagging)
	b.all(promotes(1))
	b.calm()
	b.wantSections(0, holds(2, 2, with(1, 3, put("c", "3")), with(1, 4, put("d", "4"))))

	b = stand{"", 2, append(acked(), flushes(0), commits(0, put("c", "3")), pulls(0), starts(0, 0, 0))}.bench(t)
	b.wantMemory(0, 1, 0, false)
	b.want(commits(0, put("d", "4")), numbered(4))
	b.refuses(commits(0, put("e", "5")), api.ErrLagging)
}

// TestNothingLost (P3): a deposed node without a commit of its own writes nothing to its file of orphans.
func TestNothingLost(t *testing.T) {
	for _, acts := range [][]api.Act{nil, twoTaken()} {
		b := stand{"", 2, acts}.bench(t)
		b.calm()
		b.all(promotes(1), commits(1, del("a")))
		b.calm()
		b.wantPage(0, replica(2))
		b.wantSections(0)
		if n := len(b.x.disks[0].Durable(api.FileOrphans)); n != 0 {
			t.Errorf("%d bytes were written", n)
		}
		if b.seen["back, lost some: false"] != 1 {
			t.Error("nobody came back")
		}
	}
}

// TestThereAndBack (P3, P6): promotions by turns, each with commits that are lost at the other node: section stands behind section.
func TestThereAndBack(t *testing.T) {
	b := newBench(t, 3)
	for turn := range 9 {
		at := turn % 2
		for n := range 1 + turn%3 {
			b.all(commits(at, put("a", fmt.Sprint(turn)), big()[n]))
		}
		b.want(promotes(1-at), numbered(turn+2))
		b.all(commits(1-at, put("b", fmt.Sprint(turn))))
		b.calm()
		b.wantPage(at, replica(turn+2))
		if n := len(b.now.nodes[at].sections); n != turn/2+1 {
			t.Errorf("%d sections at the node %d", n, at)
		}
	}
}

// TestReplicaReads (P7): what is read at a replica is a first part of the history, and never becomes shorter, whatever its disk does.
func TestReplicaReads(t *testing.T) {
	for fuse := range 14 {
		for kept := range 6 {
			b := newBench(t, 8)
			for n := range 6 {
				b.all(commits(0, put("a", fmt.Sprint(n)), put("b", of(32))))
			}
			b.all(rounds(), fuses(1, fuse))
			last := 0
			for range 5 {
				b.all(rounds())
				if !b.now.nodes[1].up {
					b.all(starts(1, kept, 9*kept))
				}
				if n := len(b.now.nodes[1].log); n < last {
					t.Errorf("the replica had %d commits, it has %d", last, n)
				} else {
					last = n
				}
			}
			b.calm()
			b.want(reads(1, "a"), value("5"))
		}
	}
}

// TestWayBackCutOff (P3, P8): a reconciliation that is cut off at each raw step, started in many ways, and cut off again, comes to the same file of orphans and the same log.
func TestWayBackCutOff(t *testing.T) {
	for name, acts := range map[string][]api.Act{
		"a small one": append(acked(), commits(0, put("c", "3"))),
		"big ones":    append(acked(), commits(0, big()...), flushes(0), commits(0, put("c", "3"), del("a")), commits(0, big()...)),
		"none":        acked(),
		"all":         twoTaken(),
	} {
		t.Run(name, func(t *testing.T) {
			t.Parallel()
			ahead := stand{"", 5, append(acts, promotes(1), commits(1, put("z", "1")))}
			right := ahead.bench(t)
			right.calm()
			steps := right.x.disks[0].Steps()
			if name == "big ones" && steps < 50 || steps < 12 {
				t.Errorf("just %d raw steps", steps)
			}
			for first := range steps {
				for turn, kept := range []int{0, 1, 2, 5, first, 100} {
					b := ahead.bench(t)
					b.all(rounds(), rounds())
					for _, fuse := range []int{first, turn, first / 2} {
						if b.now.nodes[0].up {
							b.all(fuses(0, fuse))
						}
						for range 6 {
							b.do(ticks(1))
							b.do(rounds())
						}
						if !b.now.nodes[0].up {
							b.all(starts(0, kept, turn*13))
						}
					}
					b.calm()
					if !alikeSections(b.now.nodes[0].sections, right.now.nodes[0].sections) || !alikeLogs(b.now.nodes[0].log, right.now.nodes[0].log) {
						b.fail("the node 0 came back as %s, not as %s", short(b.now.nodes[0]), short(right.now.nodes[0]))
					}
				}
			}
		})
	}
}

// TestOldLetters (P6): letters of all epochs that were kept back, doubled and delivered late to both nodes, turned about.
func TestOldLetters(t *testing.T) {
	lower := 0
	for seed := range 40 {
		x := turn(seed*997 + 5)
		b := newBench(t, 2)
		for range 120 {
			switch x.below(8) {
			case 0:
				b.do(promotes(x.below(2)))
			case 1, 2:
				b.do(commits(x.below(2), x.ops()...))
			case 3, 4, 5:
				b.do(ticks(x.below(2)))
			default:
				n := x.letter(b.now)
				b.do(doubles(n))
				b.do(delivers(n))
			}
		}
		lower += b.seen["a lower epoch"]
		b.calm()
	}
	if lower < 50 {
		t.Errorf("just %d letters were of a lower epoch", lower)
	}
}
