package audit_test

import (
	"fmt"
	"reflect"
	"slices"
	"testing"

	"lagleash/api"
	"lagleash/audit"
	"lagleash/disk"
	"lagleash/frame"
	"lagleash/orphan"
	"lagleash/page"
	"lagleash/wal"
	"lagleash/world"
)

// The second telling: what the chapter says, commit by commit, out of what a world tells.

// alikeCommits is what 'the same' means, field by field.
func alikeCommits(a, b api.Commit) bool {
	return a.Epoch == b.Epoch && a.Number == b.Number && slices.Equal(a.Ops, b.Ops)
}

func tellHistory(w *world.World) (int, []api.Commit) {
	zero, _ := w.Page(0)
	one, _ := w.Page(1)
	switch first, second := zero.Role == api.Primary, one.Role == api.Primary; {
	case first && (!second || zero.Epoch >= one.Epoch):
		return 0, w.Log(0)
	case second:
		return 1, w.Log(1)
	}
	return -1, nil
}

// tellFork goes forward: the fork is the last number for which both tell one epoch.
func tellFork(a, b []api.Commit) int {
	fork := 0
	for at := range min(len(a), len(b)) {
		if a[at].Epoch == b[at].Epoch {
			fork = at + 1
		}
	}
	return fork
}

func tellSuffix(w *world.World) []api.Commit {
	node, history := tellHistory(w)
	if node < 0 {
		return nil
	}
	l := w.Log(1 - node)
	return l[tellFork(l, history):]
}

// tellHas: a log has a commit, if its commit of that number is the same.
func tellHas(log []api.Commit, c api.Commit) bool {
	return c.Number >= 1 && c.Number <= len(log) && alikeCommits(log[c.Number-1], c)
}

func tellWhere(w *world.World, c api.Commit) api.Place {
	var p api.Place
	_, history := tellHistory(w)
	p.History = tellHas(history, c)
	for _, x := range tellSuffix(w) {
		p.Suffix = p.Suffix || alikeCommits(x, c)
	}
	for node := range 2 {
		for _, s := range w.Sections(node) {
			for _, x := range s.Commits {
				p.Orphan = p.Orphan || alikeCommits(x, c)
			}
		}
	}
	return p
}

func tellVanished(w *world.World) []api.Commit {
	var l []api.Commit
	for _, c := range w.Answered() {
		if p := tellWhere(w, c); !p.History && !p.Suffix && !p.Orphan {
			l = append(l, c)
		}
	}
	return l
}

func tellBehind(w *world.World, node int) (int, api.Errno) {
	if node != 0 && node != 1 {
		return 0, api.ErrArg
	}
	p, _ := w.Page(node)
	n := 0
	for _, c := range w.Log(node) {
		if p.Role == api.Primary && !tellHas(w.Log(1-node), c) {
			n++
		}
	}
	return n, api.OK
}

func tellAudit(w *world.World) api.Audit {
	var a api.Audit
	a.Node, _ = tellHistory(w)
	a.Answered, a.Vanished = len(w.Answered()), len(tellVanished(w))
	for node := range 2 {
		a.Behind[node], _ = tellBehind(w, node)
		for _, s := range w.Sections(node) {
			for _, c := range s.Commits {
				a.Orphans[node]++
				if tellWhere(w, c).History {
					a.Both++
				}
			}
		}
	}
	return a
}

// compare holds all that is told of a world against the second telling; commits that are asked for beside those that the world knows of may be added.
func compare(t testing.TB, w *world.World, more ...api.Commit) {
	t.Helper()
	node, l := tellHistory(w)
	wantHistory(t, w, node, l...)
	wantSuffix(t, w, tellSuffix(w)...)
	wantVanished(t, w, tellVanished(w)...)
	for node := -2; node <= 3; node++ {
		n, e := tellBehind(w, node)
		if got, is := audit.Behind(w, node); got != n || is != e {
			t.Errorf("P26.4: of the node %d: %d, %d, not %d, %d", node, got, is, n, e)
		}
	}
	wantAudit(t, w, tellAudit(w))
	for _, c := range slices.Concat(w.Log(0), w.Log(1), w.Answered(), more) {
		wantWhere(t, w, tellWhere(w, c), c)
	}
}

// Worlds as no acts make them: files that were written to beside the acts. There commits vanish, and all else that P26.6 rules out is.

// diskOf finds the disk of a node in what is not exported of a world.
func diskOf(t testing.TB, w *world.World, node int) *disk.Disk {
	t.Helper()
	var found []*disk.Disk
	var look func(v reflect.Value)
	look = func(v reflect.Value) {
		switch v.Kind() {
		case reflect.Struct:
			for _, x := range v.Fields() {
				look(x)
			}
		case reflect.Array:
			for i := range v.Len() {
				look(v.Index(i))
			}
		case reflect.Pointer:
			if v.Type() == reflect.TypeFor[*disk.Disk]() {
				found = append(found, (*disk.Disk)(v.UnsafePointer()))
			}
		}
	}
	look(reflect.ValueOf(w).Elem())
	if len(found) != 2 {
		t.Fatalf("%d disks were found", len(found))
	}
	return found[node]
}

// rewrites leaves a file of a node's disk just these bytes, durably.
func rewrites(t testing.TB, w *world.World, node, file int, b []byte) {
	t.Helper()
	d := diskOf(t, w, node)
	for _, e := range []api.Errno{d.Cut(file, 0), d.Write(file, b), d.Sync()} {
		if e != api.OK {
			t.Fatalf("the file %d is refused: %d", file, e)
		}
	}
}

func setLog(t testing.TB, w *world.World, node int, l ...api.Commit) {
	t.Helper()
	d := disk.New()
	x, e := wal.Open(d)
	for _, c := range l {
		if e == api.OK {
			e = x.Append(c)
		}
	}
	if e != api.OK {
		t.Fatalf("the log %s is refused: %d", short(l), e)
	}
	d.Sync()
	rewrites(t, w, node, api.FileLog, d.Durable(api.FileLog))
	if got := w.Log(node); !alike(got, l) {
		t.Fatalf("the log is %s, not %s", short(got), short(l))
	}
}

func setPage(t testing.TB, w *world.World, node int, p api.Page) {
	t.Helper()
	b, e := page.Encode(p)
	if e != api.OK {
		t.Fatalf("the page %+v is refused: %d", p, e)
	}
	b, _ = frame.Append(nil, b)
	rewrites(t, w, node, api.FilePages, b)
	if got, _ := w.Page(node); got != p {
		t.Fatalf("the page is %+v, not %+v", got, p)
	}
}

func setSections(t testing.TB, w *world.World, node int, l ...api.Section) {
	t.Helper()
	var file []byte
	for _, s := range l {
		b, e := orphan.Encode(s)
		if e != api.OK {
			t.Fatalf("the section %s is refused: %d", short(s), e)
		}
		file = append(file, b...)
	}
	rewrites(t, w, node, api.FileOrphans, file)
	if got := w.Sections(node); !reflect.DeepEqual(got, l) && len(l) > 0 {
		t.Fatalf("the sections are %s, not %s", short(got), short(l))
	}
}

func primary(epoch int) api.Page { return api.Page{Epoch: epoch, Role: api.Primary} }
func replica(epoch int) api.Page { return api.Page{Epoch: epoch, Role: api.Replica} }
func heard(epoch int) api.Page {
	return api.Page{Epoch: epoch, Role: api.Deposed, Phase: api.Heard}
}

// P26.1: whose log the history is, by all pairs of pages.
func TestHistoryByPages(t *testing.T) {
	w := stand(t, 2, chapter()...)
	logs := [2][]api.Commit{w.Log(0), w.Log(1)}
	pages := []api.Page{primary(1), primary(2), primary(3), primary(mostNumber), replica(1), replica(3), heard(2), heard(3), {Epoch: 4, Role: api.Primary, Acked: 2}}
	for _, zero := range pages {
		for _, one := range pages {
			setPage(t, w, 0, zero)
			setPage(t, w, 1, one)
			compare(t, w)
			node := -1
			for at, p := range []api.Page{zero, one} {
				// Of two such ones with one epoch the node 0.
				if p.Role == api.Primary && (node < 0 || p.Epoch > zero.Epoch) {
					node = at
				}
			}
			if node >= 0 {
				wantHistory(t, w, node, logs[node]...)
				wantSuffix(t, w, logs[1-node][2])
				continue
			}
			wantHistory(t, w, -1)
			wantSuffix(t, w)
			wantWhere(t, w, nowhere, logs[0]...)
			wantWhere(t, w, nowhere, logs[1]...)
			// Without a history all that was answered is nowhere, in the order in which it was answered.
			wantVanished(t, w, putA(), putB(), putC(), putA9())
			wantAudit(t, w, api.Audit{Node: -1, Answered: 4, Vanished: 4})
		}
	}
}

// P26.3: what was answered and is nowhere has vanished, each by itself, in the order in which it was answered.
func TestVanished(t *testing.T) {
	w := stand(t, 2, parted()...)
	setLog(t, w, 0, putA(), putB())
	wantVanished(t, w, putC())
	wantAudit(t, w, api.Audit{Node: 1, Answered: 4, Vanished: 1, Behind: [2]int{0, 1}})
	setLog(t, w, 1, putA())
	// What the other one has behind the fork is the suffix.
	wantVanished(t, w, putC(), putA9())
	wantWhere(t, w, inSuffix, putB())
	setLog(t, w, 0)
	wantVanished(t, w, putB(), putC(), putA9())
	setLog(t, w, 1)
	wantVanished(t, w, putA(), putB(), putC(), putA9())
	wantAudit(t, w, api.Audit{Node: 1, Answered: 4, Vanished: 4})

	// One of the same epoch and number is not the same.
	setLog(t, w, 1, putA(), with(1, 2, put("b", "3")), putA9())
	wantVanished(t, w, putB(), putC())
	setSections(t, w, 0, holds(2, 2, with(1, 3, del("c"))))
	wantVanished(t, w, putB(), putC())
	setSections(t, w, 0, holds(2, 2, putC()))
	wantVanished(t, w, putB())
	setSections(t, w, 1, holds(5, 1, putB(), putC()))
	wantVanished(t, w)

	// Those of the node 1 ahead of those of the node 0: they were answered so.
	w = stand(t, 2, append(acked(), promotes(1), commits(1, put("x", "1")), commits(0, put("y", "2")), commits(1, put("z", "3")))...)
	setLog(t, w, 0)
	setLog(t, w, 1)
	wantVanished(t, w, putA(), putB(), with(2, 3, put("x", "1")), with(1, 3, put("y", "2")), with(2, 4, put("z", "3")))
}

// P26.5: both are commits in files of orphans that the history has; of each file, of each section.
func TestBoth(t *testing.T) {
	w := stand(t, 2, parted()...)
	setSections(t, w, 0, holds(2, 0, putA()))
	wantAudit(t, w, api.Audit{Node: 1, Answered: 4, Both: 1, Behind: [2]int{1, 1}, Orphans: [2]int{1, 0}})
	wantWhere(t, w, api.Place{History: true, Orphan: true}, putA())
	setSections(t, w, 0, holds(2, 1, putB(), putC()), holds(3, 2, putA9(), with(2, 4, put("a", "10"))))
	wantAudit(t, w, api.Audit{Node: 1, Answered: 4, Both: 2, Behind: [2]int{1, 1}, Orphans: [2]int{4, 0}})
	setSections(t, w, 1, holds(7, 0, putA(), putB(), putC()))
	wantAudit(t, w, api.Audit{Node: 1, Answered: 4, Both: 4, Behind: [2]int{1, 1}, Orphans: [2]int{4, 3}})
	wantWhere(t, w, api.Place{Suffix: true, Orphan: true}, putC())
	// Without a history there are none.
	setPage(t, w, 0, replica(2))
	setPage(t, w, 1, replica(2))
	wantAudit(t, w, api.Audit{Node: -1, Answered: 4, Vanished: 0, Orphans: [2]int{4, 3}})
	wantWhere(t, w, anOrphan, putA(), putB(), putC(), putA9())
}

// P26.2: each section of each file is looked into; also where two commits of one epoch and number are told apart by their ops alone.
func TestOrphansOfAllSections(t *testing.T) {
	w := newWorld(2)
	var all []api.Commit
	for node := range 2 {
		var l []api.Section
		for epoch := 2; epoch < 6; epoch++ {
			// The same epoch and number in all of them.
			c := []api.Commit{with(1, 3, put("k", fmt.Sprint(node, epoch))), with(1, 4, put("k", fmt.Sprint(node, epoch)))}
			all = append(all, c...)
			l = append(l, holds(epoch, 2, c...))
		}
		setSections(t, w, node, l...)
	}
	wantWhere(t, w, anOrphan, all...)
	wantWhere(t, w, nowhere, with(1, 3, put("k", "0 6")), with(1, 3, put("k", "2 2")), with(1, 5, all[0].Ops...))
	wantAudit(t, w, api.Audit{Orphans: [2]int{8, 8}})
	compare(t, w, all...)
}

// P26.4: whether the other log has a commit is told by its commit of that number.
func TestBehindByLogs(t *testing.T) {
	w := newWorld(2)
	a, b, c := with(1, 1, put("a", "1")), with(1, 2, put("b", "1")), with(1, 3, put("c", "1"))
	for _, x := range []struct {
		own, other []api.Commit
		n          int
	}{
		{nil, []api.Commit{a}, 0},
		{[]api.Commit{a, b, c}, nil, 3},
		{[]api.Commit{a, b, c}, []api.Commit{a}, 2},
		{[]api.Commit{a, b, c}, []api.Commit{a, b, c}, 0},
		{[]api.Commit{a, b, c}, []api.Commit{a, with(1, 2, del("b")), c}, 1},
		{[]api.Commit{a, b, c}, []api.Commit{with(1, 1, put("a", "2")), b}, 2},
		{[]api.Commit{a, b, c}, []api.Commit{a, b, with(2, 3, put("c", "1"))}, 1},
		{[]api.Commit{a, b, c}, []api.Commit{a, b, c, with(1, 4, del("c"))}, 0},
	} {
		setLog(t, w, 0, x.own...)
		setLog(t, w, 1, x.other...)
		wantBehind(t, w, x.n, 0)
		compare(t, w)
		// More than the leash is told as it is.
		setPage(t, w, 1, primary(1))
		compare(t, w)
		setPage(t, w, 1, replica(1))
	}
}

// P26.1 to P26.5: pages, logs and sections of all kinds, mixed.
func TestMixedFiles(t *testing.T) {
	var x turn = 11
	seen := map[string]int{}
	for range 400 {
		w := newWorld(1 + x.below(16))
		for range x.below(8) {
			w.Do(commits(x.below(2), x.ops()...))
			w.Do(pick(&x, rounds(), promotes(1), ticks(0)))
		}
		for range 1 + x.below(6) {
			node := x.below(2)
			switch x.below(4) {
			case 0, 1:
				setLog(t, w, node, x.log(w.Log(x.below(2)))...)
			case 2:
				setPage(t, w, node, pick(&x, primary(1+x.below(4)), replica(1+x.below(4)), heard(2+x.below(4))))
			case 3:
				setSections(t, w, node, x.sections(slices.Concat(w.Log(0), w.Log(1), w.Answered()))...)
			}
		}
		compare(t, w, x.bent(w)...)
		a := tellAudit(w)
		seen[fmt.Sprint("node ", a.Node)]++
		for what, n := range map[string]int{"vanished": a.Vanished, "both": a.Both, "behind": a.Behind[0] + a.Behind[1], "orphans": a.Orphans[0] + a.Orphans[1], "suffix": len(tellSuffix(w))} {
			if n > 0 {
				seen[what]++
			}
		}
	}
	for _, what := range []string{"node -1", "node 0", "node 1", "vanished", "both", "behind", "orphans", "suffix"} {
		if seen[what] < 20 {
			t.Errorf("%s: seen %d times alone", what, seen[what])
		}
	}
}

// log answers one that shares some first commits with l.
func (x *turn) log(l []api.Commit) []api.Commit {
	l = slices.Clone(l[:x.below(len(l)+1)])
	epoch := 1
	if len(l) > 0 {
		epoch = l[len(l)-1].Epoch
	}
	for range x.below(5) {
		epoch += x.below(3) / 2
		l = append(l, with(epoch, len(l)+1, put("k", fmt.Sprint(x.below(2)))))
	}
	return l
}

// sections answers some with a commit each, out of l or others.
func (x *turn) sections(l []api.Commit) []api.Section {
	var all []api.Section
	epoch := 2
	for range x.below(4) {
		c := with(1+x.below(2), 1+x.below(5), put("k", fmt.Sprint(x.below(2))))
		if len(l) > 0 && x.below(3) > 0 {
			c = l[x.below(len(l))]
		}
		epoch = max(epoch, c.Epoch) + 1
		all = append(all, holds(epoch, c.Number-1, c))
	}
	return all
}

// bent answers commits like those that the world knows of, each of which is bent somewhere.
func (x *turn) bent(w *world.World) []api.Commit {
	var l []api.Commit
	for _, c := range slices.Concat(w.Log(0), w.Log(1)) {
		switch x.below(4) {
		case 0:
			c.Epoch += x.below(3) - 1
		case 1:
			c.Number += x.below(3) - 1
		case 2:
			c.Ops = x.ops()
		case 3:
			c.Ops = append(slices.Clone(c.Ops), del("k"))
		}
		l = append(l, c)
	}
	return l
}
