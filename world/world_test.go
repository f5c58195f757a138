package world_test

import (
	"bytes"
	"fmt"
	"math"
	"reflect"
	"slices"
	"strings"
	"testing"

	"lagleash/api"
	"lagleash/commit"
	"lagleash/disk"
	"lagleash/letter"
	"lagleash/node"
	"lagleash/orphan"
	"lagleash/page"
	"lagleash/wal"
	"lagleash/world"
)

// The limits, as the document writes them.
const (
	mostNumber = 1048576 // the greatest epoch and number
	mostLeash  = 16
	mostShip   = 4   // commits of a ship
	mostFlight = 512 // letters in flight
	mostRunOps = 1024
)

// The kinds of acts, as the document lists them.
const (
	kindCommit = iota + 1
	kindRead
	kindTick
	kindPromote
	kindFlush
	kindDeliver
	kindTwice
	kindDrop
	kindFuse
	kindPull
	kindStart
	kindRound
)

func put(key, value string) api.Op { return api.Op{Put: true, Key: key, Value: value} }
func del(key string) api.Op        { return api.Op{Key: key} }

func of(count int) string { return strings.Repeat("k", count) }

func with(epoch, number int, ops ...api.Op) api.Commit {
	return api.Commit{Epoch: epoch, Number: number, Ops: ops}
}

// big is a batch of the greatest size there is: its frame takes several raw writes.
func big() []api.Op {
	var l []api.Op
	for i := range 8 {
		l = append(l, put(string(rune('a'+i))+of(15), of(32)))
	}
	return l
}

func nine() []api.Op { return slices.Repeat([]api.Op{del("k")}, 9) }

func primary(epoch, acked int) api.Page {
	return api.Page{Epoch: epoch, Role: api.Primary, Acked: acked}
}
func replica(epoch int) api.Page { return api.Page{Epoch: epoch, Role: api.Replica} }
func heard(epoch int) api.Page   { return api.Page{Epoch: epoch, Role: api.Deposed, Phase: api.Heard} }

func deposed(epoch int, phase api.Phase, fork, base int) api.Page {
	return api.Page{Epoch: epoch, Role: api.Deposed, Phase: phase, Fork: fork, Base: base}
}

func holds(epoch, fork int, l ...api.Commit) api.Section {
	return api.Section{Epoch: epoch, Fork: fork, Commits: l}
}

func sure[T any](x T, e api.Errno) T {
	if e != api.OK {
		panic(fmt.Sprintf("a test asks for what may not be: %d", e))
	}
	return x
}

// sectionBytes is how many bytes sections have in the file of orphans.
func sectionBytes(l ...api.Section) int {
	n := 0
	for _, x := range l {
		n += len(sure(orphan.Encode(x)))
	}
	return n
}

// hello is the letter of a node whose commits have these epochs.
func hello(number, to, epoch int, role api.Role, epochs ...int) api.Letter {
	m := api.Message{Kind: api.Hello, Epoch: epoch, Role: role, End: len(epochs)}
	for i, x := range epochs {
		if i == 0 || x != epochs[i-1] {
			m.Starts = append(m.Starts, api.Start{Epoch: x, First: i + 1})
		}
	}
	return api.Letter{Number: number, To: to, Bytes: sure(letter.Encode(m))}
}

func ship(number, to, epoch, from, prev int, l ...api.Commit) api.Letter {
	m := api.Message{Kind: api.Ship, Epoch: epoch, From: from, Prev: prev, Commits: l}
	return api.Letter{Number: number, To: to, Bytes: sure(letter.Encode(m))}
}

func ack(number, to, epoch, end int) api.Letter {
	m := api.Message{Kind: api.Ack, Epoch: epoch, End: end}
	return api.Letter{Number: number, To: to, Bytes: sure(letter.Encode(m))}
}

// leftBy lists what commits leave, key by key.
func leftBy(l []api.Commit) []api.Op {
	last := map[string]api.Op{}
	for _, c := range l {
		for _, o := range c.Ops {
			last[o.Key] = o
		}
	}
	var ops []api.Op
	for _, o := range last {
		ops = append(ops, o)
	}
	slices.SortFunc(ops, func(a, b api.Op) int { return strings.Compare(a.Key, b.Key) })
	return ops
}

// fold is what is read behind all ops of the commits.
func fold(l []api.Commit) map[string]string {
	read := map[string]string{}
	for _, c := range l {
		for _, o := range c.Ops {
			delete(read, o.Key)
			if o.Put {
				read[o.Key] = o.Value
			}
		}
	}
	return read
}

// short keeps what is told of much readable.
func short(x any) string {
	s := strings.ToValidUTF8(fmt.Sprintf("%+v", x), "?")
	if len(s) > 900 {
		return s[:700] + " .. " + s[len(s)-180:]
	}
	return s
}

// Acts, and what they come to.

func commits(node int, l ...api.Op) api.Act { return api.Act{Kind: kindCommit, Node: node, Ops: l} }
func reads(node int, key string) api.Act    { return api.Act{Kind: kindRead, Node: node, Key: key} }
func ticks(node int) api.Act                { return api.Act{Kind: kindTick, Node: node} }
func promotes(node int) api.Act             { return api.Act{Kind: kindPromote, Node: node} }
func flushes(node int) api.Act              { return api.Act{Kind: kindFlush, Node: node} }
func delivers(n int) api.Act                { return api.Act{Kind: kindDeliver, N: n} }
func doubles(n int) api.Act                 { return api.Act{Kind: kindTwice, N: n} }
func drops(n int) api.Act                   { return api.Act{Kind: kindDrop, N: n} }
func fuses(node, n int) api.Act             { return api.Act{Kind: kindFuse, Node: node, N: n} }
func pulls(node int) api.Act                { return api.Act{Kind: kindPull, Node: node} }
func starts(node, k, t int) api.Act         { return api.Act{Kind: kindStart, Node: node, N: k, T: t} }
func rounds() api.Act                       { return api.Act{Kind: kindRound} }

// hasNode answers whether acts of a kind have a node.
func hasNode(kind int) bool {
	return slices.Contains([]int{kindCommit, kindRead, kindTick, kindPromote, kindFlush, kindFuse, kindPull, kindStart}, kind)
}

// plain lists an act of each kind that has a node, at that one.
func plain(node int) []api.Act {
	return []api.Act{commits(node, put("a", "1")), reads(node, "a"), ticks(node), promotes(node), flushes(node), fuses(node, 3), pulls(node), starts(node, 0, 0)}
}

func refused(e api.Errno) api.Did      { return api.Did{Err: e} }
func numbered(n int) api.Did           { return api.Did{Number: n} }
func sent(l ...int) api.Did            { return api.Did{Sent: l} }
func value(s string) api.Did           { return api.Did{Value: s, There: true} }
func epochOf(c api.Commit) [2]int      { return [2]int{c.Epoch, c.Number} }
func alikeDid(a, b api.Did) bool       { return reflect.DeepEqual(tidyDid(a), tidyDid(b)) }
func alikeTold(a, b told) bool         { return reflect.DeepEqual(a, b) }
func tidyDid(x api.Did) api.Did        { x.Sent = tidy(x.Sent); return x }
func alikeLogs(a, b []api.Commit) bool { return slices.EqualFunc(a, b, commit.Same) }

func alikeSections(a, b []api.Section) bool {
	return slices.EqualFunc(a, b, func(a, b api.Section) bool {
		return a.Epoch == b.Epoch && a.Fork == b.Fork && alikeLogs(a.Commits, b.Commits)
	})
}

func alikeRuns(a, b []api.Run) bool {
	return slices.EqualFunc(a, b, func(a, b api.Run) bool {
		return a.From == b.From && a.Upto == b.Upto && slices.Equal(a.Ops, b.Ops)
	})
}

// tidy answers the list; nil, if it is empty: both are the same.
func tidy[T any](l []T) []T {
	if len(l) == 0 {
		return nil
	}
	return l
}

// told is all that a world tells.
type told struct {
	most     int
	nodes    [2]nodeTold
	answered []api.Commit
	flight   []api.Letter
}

// nodeTold is all that a world tells of a node.
type nodeTold struct {
	up         bool
	page       api.Page
	pageErr    api.Errno
	log        []api.Commit
	sections   []api.Section
	runs       []api.Run
	out, known int
	met        bool
}

func ask(w *world.World) told {
	x := told{most: w.Most(), answered: tidy(w.Answered()), flight: tidy(w.Flight())}
	for at := range x.nodes {
		x.nodes[at] = askOf(w, at)
	}
	return x
}

func askOf(w *world.World, node int) nodeTold {
	n := nodeTold{up: w.Up(node), log: tidy(w.Log(node)), sections: tidy(w.Sections(node)), runs: tidy(w.Runs(node))}
	n.page, n.pageErr = w.Page(node)
	n.out, n.known, n.met = w.Memory(node)
	return n
}

// A second telling: what a world is to do with its disks and nodes, with letters of its own.

type twin struct {
	most     int
	disks    [2]*disk.Disk
	nodes    [2]*node.Node
	letters  []api.Letter
	last     int
	answered []api.Commit
}

func newTwin(most int) *twin {
	x := &twin{most: most}
	for at := range x.nodes {
		x.disks[at] = disk.New()
		x.nodes[at] = sure(node.New(at, most, x.disks[at]))
	}
	return x
}

func (x *twin) post(to int, mail [][]byte) (numbers []int) {
	for _, b := range mail {
		if len(x.letters) < mostFlight {
			x.last++
			x.letters = append(x.letters, api.Letter{Number: x.last, To: to, Bytes: bytes.Clone(b)})
			numbers = append(numbers, x.last)
		}
	}
	return numbers
}

// take answers the letter of a number, which leaves the flight.
func (x *twin) take(number int) (api.Letter, bool) {
	for at, l := range x.letters {
		if l.Number == number {
			x.letters = slices.Delete(x.letters, at, at+1)
			return l, true
		}
	}
	return api.Letter{}, false
}

func (x *twin) do(a api.Act) api.Did {
	if a.Kind < kindCommit || a.Kind > kindRound || hasNode(a.Kind) && a.Node != 0 && a.Node != 1 {
		return refused(api.ErrArg)
	}
	if hasNode(a.Kind) {
		return x.doAt(a, x.disks[a.Node], x.nodes[a.Node])
	}
	switch a.Kind {
	case kindDeliver:
		return x.deliver(a.N)
	case kindDrop:
		if _, there := x.take(a.N); !there {
			return refused(api.ErrMissing)
		}
	case kindTwice:
		at := slices.IndexFunc(x.letters, func(l api.Letter) bool { return l.Number == a.N })
		switch {
		case at < 0:
			return refused(api.ErrMissing)
		case len(x.letters) == mostFlight:
			return refused(api.ErrLong)
		}
		return numbered(x.post(x.letters[at].To, [][]byte{x.letters[at].Bytes})[0])
	case kindRound:
		return x.round()
	}
	return api.Did{}
}

func (x *twin) deliver(number int) (did api.Did) {
	l, there := x.take(number)
	switch {
	case !there:
		return refused(api.ErrMissing)
	case !x.nodes[l.To].Up():
		return api.Did{}
	}
	mail, e := x.nodes[l.To].Receive(l.Bytes)
	return api.Did{Err: e, Sent: x.post(1-l.To, mail)}
}

func (x *twin) round() (did api.Did) {
	for at, n := range x.nodes {
		if n.Up() {
			mail, _ := n.Tick()
			did.Sent = append(did.Sent, x.post(1-at, mail)...)
		}
	}
	for _, l := range slices.Clone(x.letters) {
		did.Sent = append(did.Sent, x.deliver(l.Number).Sent...)
	}
	return did
}

func (x *twin) doAt(a api.Act, d *disk.Disk, n *node.Node) (did api.Did) {
	switch a.Kind {
	case kindCommit:
		did.Number, did.Err = n.Commit(a.Ops...)
		if did.Err == api.OK {
			log := n.Log()
			x.answered = append(x.answered, log[len(log)-1])
		}
	case kindRead:
		did.Value, did.There, did.Err = n.Read(a.Key)
	case kindTick:
		var mail [][]byte
		mail, did.Err = n.Tick()
		did.Sent = x.post(1-a.Node, mail)
	case kindPromote:
		did.Number, did.Err = n.Promote()
	case kindFlush:
		did.Err = n.Flush()
	case kindFuse:
		did.Err = d.Fuse(a.N)
	case kindPull:
		if did.Err = d.Pull(); did.Err == api.OK {
			n.Down()
		}
	case kindStart:
		if did.Err = d.Start(a.N, a.T); did.Err == api.OK {
			did.Err = n.Open()
		}
	}
	return did
}

// ask tells what the world is to tell. Of a node that is up the log is asked of the node itself: nothing of it is pending.
func (x *twin) ask() told {
	all := told{most: x.most, answered: tidy(x.answered), flight: tidy(slices.Clone(x.letters))}
	for at, n := range x.nodes {
		d := x.disks[at]
		one := nodeTold{up: n.Up(), runs: tidy(n.Runs()), out: n.Out()}
		one.known, one.met = n.Known()
		one.page, _, one.pageErr = page.Last(d.Durable(1), at)
		log, _ := wal.Scan(d.Durable(0))
		if n.Up() {
			log = n.Log()
		}
		one.log = tidy(log)
		sections, _ := orphan.Scan(d.Durable(3))
		one.sections = tidy(sections)
		all.nodes[at] = one
	}
	return all
}

// bench is a world, beside it the second telling of it, and a watch: each act is done to both, all that is told is compared, and held against the document's promises.
type bench struct {
	t    *testing.T
	w    *world.World
	x    *twin
	acts []api.Act // all that were done
	now  told
	watch
}

func newBench(t *testing.T, most int) *bench {
	t.Helper()
	w, e := world.New(most)
	if e != api.OK {
		t.Fatalf("New(%d): %d", most, e)
	}
	b := &bench{t: t, w: w, x: newTwin(most)}
	b.watch = newWatch()
	b.compare()
	b.look(api.Act{}, api.Did{}, b.now)
	return b
}

// fail stops a test, and tells which acts brought the world there.
func (b *bench) fail(format string, args ...any) {
	b.t.Helper()
	b.t.Fatalf("%s\nbehind the acts %s", fmt.Sprintf(format, args...), short(b.acts[max(0, len(b.acts)-12):]))
}

// compare: the world tells what it is to tell.
func (b *bench) compare() {
	b.t.Helper()
	right := b.x.ask()
	if b.now = ask(b.w); !alikeTold(b.now, right) {
		b.fail("the world tells\n%s, not\n%s", short(b.now), short(right))
	}
}

// do does an act to both, and answers what both told.
func (b *bench) do(a api.Act) api.Did {
	b.t.Helper()
	ahead := b.now
	got, right := b.w.Do(a), b.x.do(a)
	b.acts = append(b.acts, a)
	if !alikeDid(got, right) {
		b.fail("%s is told %+v, not %+v", short(a), got, right)
	}
	b.compare()
	b.look(a, got, ahead)
	return got
}

// unwatched does an act to both, and compares, but does not hold it against the promises.
func (b *bench) unwatched(a api.Act) {
	b.t.Helper()
	got, right := b.w.Do(a), b.x.do(a)
	if !alikeDid(got, right) {
		b.fail("%s is told %+v, not %+v", short(a), got, right)
	}
	for at := range got.Sent[:cap(got.Sent)] {
		got.Sent[:cap(got.Sent)][at] = 77
	}
	b.compare()
}

// want does an act of which that is to be told.
func (b *bench) want(a api.Act, right api.Did) {
	b.t.Helper()
	if got := b.do(a); !alikeDid(got, right) {
		b.fail("%s is told %+v, not %+v", short(a), got, right)
	}
}

// all does acts that are to be OK.
func (b *bench) all(l ...api.Act) *bench {
	b.t.Helper()
	for _, a := range l {
		if got := b.do(a); got.Err != api.OK {
			b.fail("%s is refused: %d", short(a), got.Err)
		}
	}
	return b
}

// refuses does an act that is to be refused so, and to change nothing.
func (b *bench) refuses(a api.Act, e api.Errno) {
	b.t.Helper()
	ahead := b.now
	b.want(a, refused(e))
	if !alikeTold(b.now, ahead) {
		b.fail("%s was refused, and changed the world from\n%s to\n%s", short(a), short(ahead), short(b.now))
	}
}

// passes does an act that tells nothing, and changes nothing.
func (b *bench) passes(a api.Act) {
	b.t.Helper()
	b.refuses(a, api.OK)
}

// wantNode: all that is told of a node, written out.
func (b *bench) wantNode(at int, right nodeTold) {
	b.t.Helper()
	if got := b.now.nodes[at]; !reflect.DeepEqual(got, right) {
		b.fail("of the node %d is told\n%s, not\n%s", at, short(got), short(right))
	}
}

func (b *bench) wantPage(at int, right api.Page) {
	b.t.Helper()
	if got := b.now.nodes[at].page; got != right {
		b.fail("the page of the node %d is %+v, not %+v", at, got, right)
	}
}

func (b *bench) wantLog(at int, right ...api.Commit) {
	b.t.Helper()
	if got := b.now.nodes[at].log; !alikeLogs(got, right) {
		b.fail("the log of the node %d is %s, not %s", at, short(got), short(right))
	}
}

func (b *bench) wantSections(at int, right ...api.Section) {
	b.t.Helper()
	if got := b.now.nodes[at].sections; !alikeSections(got, right) {
		b.fail("the orphans of the node %d are %s, not %s", at, short(got), short(right))
	}
}

func (b *bench) wantFlight(right ...api.Letter) {
	b.t.Helper()
	if got := b.now.flight; !reflect.DeepEqual(got, tidy(right)) {
		b.fail("in flight are %s, not %s", short(got), short(right))
	}
}

func (b *bench) wantAnswered(right ...api.Commit) {
	b.t.Helper()
	if got := b.now.answered; !alikeLogs(got, right) {
		b.fail("answered were %s, not %s", short(got), short(right))
	}
}

func (b *bench) wantMemory(at, out, known int, met bool) {
	b.t.Helper()
	if n := b.now.nodes[at]; n.out != out || n.known != known || n.met != met {
		b.fail("the memory of the node %d is %d, %d, %v, not %d, %d, %v", at, n.out, n.known, n.met, out, known, met)
	}
}

// stand is where a world stands: its leash, and what was done to it. Some of its acts may have been refused.
type stand struct {
	name  string
	leash int
	acts  []api.Act
}

func (x stand) bench(t *testing.T) *bench {
	t.Helper()
	b := newBench(t, x.leash)
	for at, a := range x.acts {
		if a.Kind == kindTwice && at < len(x.acts)-1 {
			// To look at each of very many letters each time takes long.
			b.w.Do(a)
			b.x.do(a)
			continue
		}
		b.do(a)
	}
	return b
}

// The acts of the chapter's examples, part by part.

func twoTaken() []api.Act { return []api.Act{commits(0, put("a", "1")), commits(0, put("b", "2"))} }
func met() []api.Act      { return append(twoTaken(), ticks(1), delivers(1)) }
func shipped() []api.Act  { return append(met(), ticks(0)) }
func acked() []api.Act    { return append(shipped(), delivers(3), delivers(4)) }

func bothPrimary() []api.Act {
	return append(acked(), commits(0, put("c", "3")), promotes(1), commits(1, put("a", "9")))
}

func oneHeard() []api.Act { return append(bothPrimary(), ticks(1), delivers(5)) }

// phasesBehind are the acts of the node 0's way back, up to that many of its phases.
func phasesBehind(count int) []api.Act {
	return append(oneHeard(), slices.Repeat([]api.Act{ticks(0)}, count)...)
}

// turned is a world whose node 0 came back and is primary again, and whose node 1 has lost its own commit then.
func turned() []api.Act {
	return append(phasesBehind(4), promotes(0), commits(0, put("ab", "7")), rounds(), rounds(), rounds(), rounds(), rounds())
}

func stands() []stand {
	full := shipped()
	for range mostFlight {
		full = append(full, doubles(3))
	}
	return []stand{
		{"new", 2, nil},
		{"two commits", 2, twoTaken()},
		{"met", 2, met()},
		{"shipped", 3, shipped()},
		{"acked", 2, acked()},
		{"flushed", 2, append(acked(), flushes(0), flushes(1), commits(0, big()...), ticks(0))},
		{"both primary", 2, bothPrimary()},
		{"heard", 2, oneHeard()},
		{"heard, without its hello", 2, append(oneHeard(), pulls(0), starts(0, 0, 0))},
		{"forked", 2, phasesBehind(1)},
		{"filed", 2, phasesBehind(2)},
		{"cut", 2, phasesBehind(3)},
		{"back", 2, phasesBehind(4)},
		{"turned", 2, turned()},
		{"node 0 is down", 2, append(shipped(), pulls(0))},
		{"node 1 is down", 2, append(shipped(), pulls(1))},
		{"both are down", 2, append(bothPrimary(), pulls(1), pulls(0))},
		{"down, with a commit pending", 3, append(met(), fuses(0, 1), commits(0, put("c", "4")), ticks(1))},
		{"down, with a big commit pending", 4, append(met(), fuses(0, 5), commits(0, big()...), ticks(1))},
		{"down, with a promotion pending", 2, append(acked(), fuses(1, 1), promotes(1))},
		{"down, with half of its orphans pending", 4, append(acked(), commits(0, big()...), commits(0, big()...), promotes(1), ticks(1), delivers(5), fuses(0, 5), ticks(0), ticks(0))},
		{"with fuses", 2, append(bothPrimary(), ticks(1), ticks(0), fuses(0, 0), fuses(1, 1))},
		{"letters doubled", 2, append(bothPrimary(), ticks(1), doubles(5), ticks(0), doubles(2), doubles(6))},
		{"full", 2, full},
	}
}

// extremes are whole numbers of which one too many or one too few is asked.
func extremes() []int {
	return []int{math.MinInt, math.MinInt + 1, -1 << 31, -2, -1, 0, 1, 2, 3, 11, 12, 13, 14, 15, 16, 17, 1 << 31, math.MaxInt - 1, math.MaxInt}
}

// actsFor lists acts of all kinds for a world: such as may be, and such as may not.
func actsFor(now told) []api.Act {
	l := []api.Act{rounds(), {}, {Kind: -1}, {Kind: 13}, {Kind: math.MaxInt, Node: 1}, {Kind: math.MinInt}}
	for at := range 2 {
		l = append(l, plain(at)...)
		for _, ops := range [][]api.Op{nil, nine(), {del("")}, {del("a"), put("b", "")}, big()} {
			l = append(l, commits(at, ops...))
		}
		l = append(l, reads(at, ""), reads(at, "b"), reads(at, of(17)), fuses(at, -1), fuses(at, 0), fuses(at, 1), fuses(at, math.MaxInt))
		l = append(l, starts(at, -1, 0), starts(at, 0, -1), starts(at, 1, 3), starts(at, 0, 63), starts(at, math.MaxInt, math.MaxInt))
	}
	for _, node := range []int{-1, 2, math.MinInt, math.MaxInt} {
		l = append(l, plain(node)...)
	}
	for _, n := range append(letterNumbers(now), 0, -1, 9999, math.MinInt, math.MaxInt) {
		l = append(l, delivers(n), doubles(n), drops(n))
	}
	return l
}

// letterNumbers lists some that are in flight.
func letterNumbers(now told) []int {
	var l []int
	for at, x := range now.flight {
		if at < 6 || at == len(now.flight)-1 {
			l = append(l, x.Number)
		}
	}
	return l
}

func TestLimits(t *testing.T) {
	for _, c := range []struct {
		name      string
		got, want int
	}{
		{"MaxNumber", api.MaxNumber, mostNumber}, {"MaxLeash", api.MaxLeash, mostLeash}, {"MaxShip", api.MaxShip, mostShip}, {"MaxFlight", api.MaxFlight, mostFlight}, {"MaxRunOps", api.MaxRunOps, mostRunOps},
		{"ActCommit", api.ActCommit, kindCommit}, {"ActRead", api.ActRead, kindRead}, {"ActTick", api.ActTick, kindTick}, {"ActPromote", api.ActPromote, kindPromote}, {"ActFlush", api.ActFlush, kindFlush}, {"ActDeliver", api.ActDeliver, kindDeliver},
		{"ActTwice", api.ActTwice, kindTwice}, {"ActDrop", api.ActDrop, kindDrop}, {"ActFuse", api.ActFuse, kindFuse}, {"ActPull", api.ActPull, kindPull}, {"ActStart", api.ActStart, kindStart}, {"ActRound", api.ActRound, kindRound},
		{"ErrNil", int(api.ErrNil), 1}, {"ErrArg", int(api.ErrArg), 2}, {"ErrLong", int(api.ErrLong), 3}, {"ErrMissing", int(api.ErrMissing), 4}, {"ErrOff", int(api.ErrOff), 6}, {"ErrDown", int(api.ErrDown), 7}, {"ErrLagging", int(api.ErrLagging), 8}, {"ErrDeposed", int(api.ErrDeposed), 9}, {"ErrAlreadyPrimary", int(api.ErrAlreadyPrimary), 10}, {"ErrReplica", int(api.ErrReplica), 11},
	} {
		if c.got != c.want {
			t.Errorf("%s is %d, not %d", c.name, c.got, c.want)
		}
	}
}

// TestExamples: the chapter's table.
func TestExamples(t *testing.T) {
	b := newBench(t, 2)
	b.want(commits(0, put("a", "1")), numbered(1))
	b.want(commits(0, put("b", "2")), numbered(2))
	b.refuses(commits(0, put("c", "3")), api.ErrLagging)
	b.want(ticks(1), sent(1))
	b.want(delivers(1), api.Did{})
	b.want(ticks(0), sent(2, 3))
	b.want(delivers(3), sent(4))
	b.want(delivers(4), api.Did{})
	b.want(commits(0, put("c", "3")), numbered(3))
	b.want(promotes(1), numbered(2))
	b.want(commits(1, put("a", "9")), numbered(3))
	b.want(ticks(1), sent(5))
	b.want(delivers(5), api.Did{})
	if p, e := b.w.Page(0); p != heard(2) || e != api.OK {
		t.Errorf("Page(0) = %+v, %d", p, e)
	}
}

// TestStands: where the worlds of these tests stand is what their names say.
func TestStands(t *testing.T) {
	both := [2]bool{true, true}
	for name, right := range map[string]struct {
		up      [2]bool
		pages   [2]api.Page
		ends    [2]int // of the logs
		lost    [2]int // sections
		pending [2]int // raw steps
		flight  int
	}{
		"new":                                    {both, [2]api.Page{primary(1, 0), replica(1)}, [2]int{0, 0}, [2]int{}, [2]int{}, 0},
		"met":                                    {both, [2]api.Page{primary(1, 0), replica(1)}, [2]int{2, 0}, [2]int{}, [2]int{}, 0},
		"shipped":                                {both, [2]api.Page{primary(1, 0), replica(1)}, [2]int{2, 0}, [2]int{}, [2]int{}, 2},
		"acked":                                  {both, [2]api.Page{primary(1, 0), replica(1)}, [2]int{2, 2}, [2]int{}, [2]int{}, 1},
		"flushed":                                {both, [2]api.Page{primary(1, 2), replica(1)}, [2]int{3, 2}, [2]int{}, [2]int{}, 3},
		"both primary":                           {both, [2]api.Page{primary(1, 0), primary(2, 2)}, [2]int{3, 3}, [2]int{}, [2]int{}, 1},
		"heard, without its hello":               {both, [2]api.Page{heard(2), primary(2, 2)}, [2]int{3, 3}, [2]int{}, [2]int{}, 1},
		"forked":                                 {both, [2]api.Page{deposed(2, api.Forked, 2, 0), primary(2, 2)}, [2]int{3, 3}, [2]int{}, [2]int{}, 2},
		"filed":                                  {both, [2]api.Page{deposed(2, api.Filed, 2, 0), primary(2, 2)}, [2]int{3, 3}, [2]int{1, 0}, [2]int{}, 3},
		"cut":                                    {both, [2]api.Page{deposed(2, api.Cut, 2, 0), primary(2, 2)}, [2]int{2, 3}, [2]int{1, 0}, [2]int{}, 4},
		"back":                                   {both, [2]api.Page{replica(2), primary(2, 2)}, [2]int{2, 3}, [2]int{1, 0}, [2]int{}, 5},
		"turned":                                 {both, [2]api.Page{primary(3, 2), replica(3)}, [2]int{3, 2}, [2]int{1, 1}, [2]int{}, 0},
		"both are down":                          {[2]bool{}, [2]api.Page{primary(1, 0), primary(2, 2)}, [2]int{3, 3}, [2]int{}, [2]int{}, 1},
		"down, with a commit pending":            {[2]bool{false, true}, [2]api.Page{primary(1, 0), replica(1)}, [2]int{2, 0}, [2]int{}, [2]int{1, 0}, 1},
		"down, with a big commit pending":        {[2]bool{false, true}, [2]api.Page{primary(1, 0), replica(1)}, [2]int{2, 0}, [2]int{}, [2]int{5, 0}, 1},
		"down, with a promotion pending":         {[2]bool{true, false}, [2]api.Page{primary(1, 0), replica(1)}, [2]int{2, 2}, [2]int{}, [2]int{0, 1}, 1},
		"down, with half of its orphans pending": {[2]bool{false, true}, [2]api.Page{deposed(2, api.Forked, 2, 0), primary(2, 2)}, [2]int{4, 2}, [2]int{}, [2]int{3, 0}, 2},
		"full":                                   {both, [2]api.Page{primary(1, 0), replica(1)}, [2]int{2, 0}, [2]int{}, [2]int{}, mostFlight},
	} {
		at := slices.IndexFunc(stands(), func(x stand) bool { return x.name == name })
		b := stands()[at].bench(t)
		for i, n := range b.now.nodes {
			if n.up != right.up[i] || n.page != right.pages[i] || len(n.log) != right.ends[i] || len(n.sections) != right.lost[i] || b.x.disks[i].Pending() != right.pending[i] {
				t.Errorf("%s: the node %d is %s, %d are pending", name, i, short(n), b.x.disks[i].Pending())
			}
		}
		if len(b.now.flight) != right.flight {
			t.Errorf("%s: %d letters are in flight", name, len(b.now.flight))
		}
	}
}

// TestEveryAct: each act at each stand, once and once more, with ticks, rounds, pulls and starts behind it.
func TestEveryAct(t *testing.T) {
	for _, x := range stands() {
		for _, a := range actsFor(x.bench(t).now) {
			b := x.bench(t)
			b.do(a)
			b.do(a)
			for _, next := range []api.Act{ticks(0), ticks(1), rounds(), pulls(0), pulls(1), starts(0, 0, 0), starts(1, 2, 5), rounds(), flushes(0), flushes(1)} {
				b.do(next)
			}
			b.calm()
		}
	}
}

// TestEveryTwoActs: one act behind another one; of the second ones each eleventh, by turns.
func TestEveryTwoActs(t *testing.T) {
	if testing.Short() {
		t.Skip("many acts")
	}
	for _, x := range stands() {
		t.Run(x.name, func(t *testing.T) {
			t.Parallel()
			for turn, a := range actsFor(x.bench(t).now) {
				first := x.bench(t)
				first.do(a)
				for at, next := range actsFor(first.now) {
					if (at+turn)%11 > 0 {
						continue
					}
					b := x.bench(t)
					b.do(a)
					b.do(next)
				}
			}
		})
	}
}

// P24.1

func TestNew(t *testing.T) {
	for _, most := range extremes() {
		w, e := world.New(most)
		if most < 1 || most > mostLeash {
			if w != nil || e != api.ErrArg {
				t.Errorf("New(%d) = %v, %d", most, w, e)
			}
			continue
		}
		if w == nil || e != api.OK {
			t.Fatalf("New(%d) = %v, %d", most, w, e)
		}
		right := told{most: most, nodes: [2]nodeTold{{up: true, page: primary(1, 0)}, {up: true, page: replica(1)}}}
		if got := ask(w); !alikeTold(got, right) {
			t.Errorf("a new world tells %s", short(got))
		}
		for at := range right.nodes {
			if got := w.Do(reads(at, "a")); !alikeDid(got, api.Did{}) {
				t.Errorf("a read of a new world is told %+v", got)
			}
		}
	}
}

// TestNewLeash: each leash is that of both nodes.
func TestNewLeash(t *testing.T) {
	for most := 1; most <= mostLeash; most++ {
		for at := range 2 {
			b := newBench(t, most)
			if at == 1 {
				b.want(promotes(1), numbered(2))
			}
			for n := 1; n <= most; n++ {
				b.want(commits(at, put("a", "1")), numbered(n))
			}
			b.refuses(commits(at, put("a", "1")), api.ErrLagging)
		}
	}
}

// P24.2: which acts there are

func TestKinds(t *testing.T) {
	for _, x := range stands() {
		b := x.bench(t)
		for _, kind := range extremes() {
			if kind >= kindCommit && kind <= kindRound {
				continue
			}
			for node := -1; node <= 2; node++ {
				b.refuses(api.Act{Kind: kind, Node: node, N: 1, T: 1, Key: "a", Ops: []api.Op{put("a", "1")}}, api.ErrArg)
			}
		}
	}
}

// TestNodes: a kind with a node is refused ahead of all else, where there is no such node; one without a node does not look at it.
func TestNodes(t *testing.T) {
	for _, x := range stands() {
		b := x.bench(t)
		for _, node := range extremes() {
			if node == 0 || node == 1 {
				continue
			}
			for _, a := range append(plain(node), commits(node), reads(node, ""), fuses(node, -1), starts(node, -1, -1)) {
				b.refuses(a, api.ErrArg)
			}
			first := x.bench(t)
			other := x.bench(t)
			for _, a := range []api.Act{doubles(5), drops(2), delivers(5), rounds()} {
				right := first.do(a)
				a.Node = node
				other.want(a, right)
			}
			if !alikeTold(other.now, first.now) {
				t.Errorf("%s: the node %d is looked at where a kind has none", x.name, node)
			}
		}
	}
}

// filled is an act whose fields that its kind does not have are filled with what may not be.
func filled(a api.Act) api.Act {
	if !hasNode(a.Kind) {
		a.Node = 7
	}
	if !slices.Contains([]int{kindDeliver, kindTwice, kindDrop, kindFuse, kindStart}, a.Kind) {
		a.N = -9
	}
	if a.Kind != kindStart {
		a.T = -9
	}
	if a.Kind != kindRead {
		a.Key = of(20)
	}
	if a.Kind != kindCommit {
		a.Ops = nine()
	}
	return a
}

// TestFieldsThatAKindDoesNotHave: they are not looked at.
func TestFieldsThatAKindDoesNotHave(t *testing.T) {
	for _, x := range stands() {
		for _, a := range actsFor(x.bench(t).now) {
			b, other := x.bench(t), x.bench(t)
			right := other.do(a)
			b.want(filled(a), right)
			if !alikeTold(b.now, other.now) {
				t.Errorf("%s: %s is not %s", x.name, short(filled(a)), short(a))
			}
		}
	}
}

// fieldsOf lists the kinds of acts of which a field may be told.
func fieldsOf(name string) []int {
	return map[string][]int{
		"Number": {kindCommit, kindPromote, kindTwice},
		"Value":  {kindRead},
		"There":  {kindRead},
		"Sent":   {kindTick, kindDeliver, kindRound},
	}[name]
}

// TestWhatIsTold: of each kind nothing but what the table says; beside an error nothing at all.
func TestWhatIsTold(t *testing.T) {
	for _, x := range stands() {
		for _, a := range actsFor(x.bench(t).now) {
			got := x.bench(t).do(a)
			for name, is := range map[string]bool{"Number": got.Number != 0, "Value": got.Value != "", "There": got.There, "Sent": len(got.Sent) > 0} {
				if is && (got.Err != api.OK || !slices.Contains(fieldsOf(name), a.Kind)) {
					t.Errorf("%s: of %s is told %+v", x.name, short(a), got)
				}
			}
			if a.Kind == kindRound && got.Err != api.OK {
				t.Errorf("%s: a round is refused: %d", x.name, got.Err)
			}
		}
	}
}

// P24.2: kind by kind

func TestCommit(t *testing.T) {
	b := newBench(t, 3)
	b.want(commits(0, put("a", "1"), del("b")), numbered(1))
	b.want(commits(0, big()...), numbered(2))
	first, second := with(1, 1, put("a", "1"), del("b")), with(1, 2, big()...)
	b.wantAnswered(first, second)
	b.wantLog(0, first, second)
	b.wantLog(1)
	b.wantMemory(0, 2, 0, false)
	b.refuses(commits(0), api.ErrArg)
	b.refuses(commits(0, nine()...), api.ErrLong)
	b.refuses(commits(0, del("")), api.ErrArg)
	b.refuses(commits(0, put("a", of(33))), api.ErrArg)
	b.refuses(commits(0, del(of(17))), api.ErrArg)
	b.refuses(commits(0, api.Op{Key: "a", Value: "1"}), api.ErrArg)
	b.refuses(commits(1, put("a", "1")), api.ErrReplica)
	b.refuses(commits(1, nine()...), api.ErrLong)
	b.want(commits(0, del("a")), numbered(3))
	b.refuses(commits(0, put("a", "1")), api.ErrLagging)
	b.refuses(commits(0), api.ErrArg)
	b.all(pulls(0), pulls(1))
	for at := range 2 {
		b.refuses(commits(at, put("a", "1")), api.ErrDown)
		b.refuses(commits(at, nine()...), api.ErrDown)
	}
	b.wantAnswered(first, second, with(1, 3, del("a")))
}

// TestCommitAtBoth: each at its own node, with its node's epoch.
func TestCommitAtBoth(t *testing.T) {
	b := stand{"", 2, acked()}.bench(t)
	one, two := with(1, 1, put("a", "1")), with(1, 2, put("b", "2"))
	b.all(promotes(1))
	b.want(commits(1, put("x", "")), numbered(3))
	b.want(commits(0, put("y", "8")), numbered(3))
	b.want(commits(1, put("x", "2"), del("y")), numbered(4))
	b.want(commits(0, del("y")), numbered(4))
	b.refuses(commits(1, del("y")), api.ErrLagging)
	b.refuses(commits(0, del("y")), api.ErrLagging)
	b.wantAnswered(one, two, with(2, 3, put("x", "")), with(1, 3, put("y", "8")), with(2, 4, put("x", "2"), del("y")), with(1, 4, del("y")))
	b.wantLog(0, one, two, with(1, 3, put("y", "8")), with(1, 4, del("y")))
	b.wantLog(1, one, two, with(2, 3, put("x", "")), with(2, 4, put("x", "2"), del("y")))
	b.all(ticks(1), delivers(5))
	b.refuses(commits(0, del("y")), api.ErrDeposed)
	b.refuses(commits(0), api.ErrArg)
}

func TestRead(t *testing.T) {
	b := newBench(t, 2)
	b.all(commits(0, put("a", "1"), put("\x00\xff", "\n "), put(of(16), of(32)), put("e", "")))
	for key, v := range map[string]string{"a": "1", "\x00\xff": "\n ", of(16): of(32), "e": ""} {
		b.want(reads(0, key), value(v))
		b.want(reads(1, key), api.Did{})
	}
	for _, key := range []string{"", "b", "A", of(17), of(1000), "a\x00"} {
		b.passes(reads(0, key))
	}
	b.all(rounds(), rounds(), rounds())
	b.want(reads(1, "a"), value("1"))
	b.all(commits(0, del("a")))
	b.want(reads(0, "a"), api.Did{})
	b.want(reads(1, "a"), value("1"))
	b.all(promotes(1), rounds())
	b.refuses(reads(0, "e"), api.ErrDeposed)
	b.refuses(reads(0, ""), api.ErrDeposed)
	b.want(reads(1, "e"), value(""))
	b.all(pulls(1))
	b.refuses(reads(1, "e"), api.ErrDown)
	b.all(starts(1, 0, 0))
	b.want(reads(1, "e"), value(""))
}

// TestTick: what is posted to whom, in which order, with which numbers.
func TestTick(t *testing.T) {
	b := newBench(t, 4)
	b.want(ticks(0), sent(1))
	b.want(ticks(1), sent(2))
	b.wantFlight(hello(1, 1, 1, api.Primary), hello(2, 0, 1, api.Replica))
	one, two := with(1, 1, put("a", "1")), with(1, 2, big()...)
	b.all(commits(0, one.Ops...), commits(0, two.Ops...), drops(1), delivers(2))
	b.want(ticks(0), sent(3, 4))
	b.want(ticks(1), sent(5))
	b.wantFlight(hello(3, 1, 1, api.Primary, 1, 1), ship(4, 1, 1, 1, 0, one, two), hello(5, 0, 1, api.Replica))
	b.want(delivers(4), sent(6))
	b.all(promotes(1))
	b.want(ticks(1), sent(7))
	b.wantFlight(hello(3, 1, 1, api.Primary, 1, 1), hello(5, 0, 1, api.Replica), ack(6, 0, 1, 2), hello(7, 0, 2, api.Primary, 1, 1))
	b.all(delivers(7), commits(1, del("b")))
	b.want(ticks(0), sent(8))
	b.wantPage(0, deposed(2, api.Forked, 2, 0))
	b.all(pulls(1))
	b.refuses(ticks(1), api.ErrDown)
	b.want(ticks(0), sent(9))
	b.wantFlight(hello(3, 1, 1, api.Primary, 1, 1), hello(5, 0, 1, api.Replica), ack(6, 0, 1, 2), hello(8, 1, 2, api.Deposed, 1, 1), hello(9, 1, 2, api.Deposed, 1, 1))
}

func TestPromote(t *testing.T) {
	b := newBench(t, 2)
	b.refuses(promotes(0), api.ErrAlreadyPrimary)
	b.all(commits(0, del("a")))
	b.want(promotes(1), numbered(2))
	b.wantNode(1, nodeTold{up: true, page: primary(2, 0)})
	b.refuses(promotes(1), api.ErrAlreadyPrimary)
	b.refuses(promotes(0), api.ErrAlreadyPrimary)
	b.all(ticks(1), delivers(1))
	for _, p := range []api.Page{heard(2), deposed(2, api.Forked, 0, 0), deposed(2, api.Filed, 0, 0), deposed(2, api.Cut, 0, 0)} {
		b.wantPage(0, p)
		b.refuses(promotes(0), api.ErrDeposed)
		b.all(ticks(0))
	}
	b.wantPage(0, replica(2))
	b.want(promotes(0), numbered(3))
	b.wantPage(0, primary(3, 0))
	b.all(pulls(0))
	b.refuses(promotes(0), api.ErrDown)
}

func TestFlush(t *testing.T) {
	b := stand{"", 3, acked()}.bench(t)
	one, two := with(1, 1, put("a", "1")), with(1, 2, put("b", "2"))
	right := []api.Run{{From: 1, Upto: 2, Ops: []api.Op{put("a", "1"), put("b", "2")}}}
	b.all(commits(0, del("a")))
	b.want(flushes(0), api.Did{})
	b.wantNode(0, nodeTold{up: true, page: primary(1, 2), log: []api.Commit{one, two, with(1, 3, del("a"))}, runs: right, out: 1, known: 2, met: true})
	b.wantNode(1, nodeTold{up: true, page: replica(1), log: []api.Commit{one, two}})
	b.want(flushes(1), api.Did{})
	b.wantNode(1, nodeTold{up: true, page: replica(1), log: []api.Commit{one, two}, runs: right})
	b.passes(flushes(0))
	b.passes(flushes(1))
	b.all(promotes(1), ticks(1), delivers(5))
	b.refuses(flushes(0), api.ErrDeposed)
	b.all(pulls(0))
	b.refuses(flushes(0), api.ErrDown)
	b.all(flushes(1))
}

// TestFlushLong: a run of ops on more than 1,024 keys is refused, and nothing is changed by that.
func TestFlushLong(t *testing.T) {
	b := newBench(t, 16)
	for n := range mostRunOps/8 + 1 {
		var ops []api.Op
		for at := range 8 {
			ops = append(ops, put(fmt.Sprint("k", n*8+at), "v"))
		}
		b.all(commits(0, ops...))
		for b.now.nodes[0].out == mostLeash {
			b.all(rounds())
		}
	}
	b.calm()
	b.refuses(flushes(0), api.ErrLong)
	b.refuses(flushes(1), api.ErrLong)
}

func TestDeliver(t *testing.T) {
	b := newBench(t, 4)
	one, two := with(1, 1, put("a", "1")), with(1, 2, put("b", "2"))
	b.refuses(delivers(1), api.ErrMissing)
	b.all(ticks(1), delivers(1))
	b.wantMemory(0, 0, 0, true)
	b.refuses(delivers(1), api.ErrMissing)
	b.all(commits(0, one.Ops...), ticks(0), commits(0, two.Ops...), ticks(0))
	for _, n := range []int{math.MinInt, -1, 0, 6, 7, math.MaxInt} {
		b.refuses(delivers(n), api.ErrMissing)
	}
	// The second ship first: the log has no commit yet, but both ships begin with the first one.
	b.want(delivers(5), sent(6))
	b.wantLog(1, one, two)
	b.want(delivers(3), sent(7))
	b.wantLog(1, one, two)
	b.wantFlight(hello(2, 1, 1, api.Primary, 1), hello(4, 1, 1, api.Primary, 1, 1), ack(6, 0, 1, 2), ack(7, 0, 1, 2))
	b.passesButFlight(delivers(4))
	b.passesButFlight(delivers(2))
	b.want(delivers(7), api.Did{})
	b.wantMemory(0, 0, 2, true)
	b.passesButFlight(delivers(6))
	b.wantFlight()
}

// passesButFlight does a delivery that tells nothing and changes nothing, but that the letter is in flight no more.
func (b *bench) passesButFlight(a api.Act) {
	b.t.Helper()
	right := b.now
	right.flight = tidy(slices.DeleteFunc(slices.Clone(b.now.flight), func(l api.Letter) bool { return l.Number == a.N }))
	b.want(a, api.Did{})
	if !alikeTold(b.now, right) {
		b.fail("%s changed the world to\n%s", short(a), short(b.now))
	}
}

// TestDeliverDown: a letter to a node that is down is lost, and nobody is told an error.
func TestDeliverDown(t *testing.T) {
	for at := range 2 {
		b := stand{"", 2, append(shipped(), ticks(1), pulls(at))}.bench(t)
		for _, l := range b.now.flight {
			if l.To == at {
				b.passesButFlight(delivers(l.Number))
				b.refuses(delivers(l.Number), api.ErrMissing)
			}
		}
		b.all(starts(at, 0, 0))
		b.wantLog(1)
	}
}

// TestDeliverOff: what Receive is refused with is told, and the letter is in flight no more.
func TestDeliverOff(t *testing.T) {
	b := stand{"", 2, shipped()}.bench(t)
	b.all(fuses(1, 1))
	b.want(delivers(3), refused(api.ErrOff))
	b.wantFlight(hello(2, 1, 1, api.Primary, 1, 1))
	b.wantNode(1, nodeTold{page: replica(1)})
	b.passesButFlight(delivers(2))
	b.want(starts(1, 0, 7), api.Did{})
	b.wantNode(1, nodeTold{up: true, page: replica(1)})

	b = stand{"", 2, append(bothPrimary(), ticks(1), fuses(0, 0))}.bench(t)
	log := b.now.nodes[0].log
	b.want(delivers(5), refused(api.ErrOff))
	b.wantNode(0, nodeTold{page: primary(1, 0), log: log})
}

// TestLetterTwice: a letter that is delivered twice leaves the node as once, and may be answered twice.
func TestLetterTwice(t *testing.T) {
	b := stand{"", 2, shipped()}.bench(t)
	one, two := with(1, 1, put("a", "1")), with(1, 2, put("b", "2"))
	b.want(doubles(3), numbered(4))
	b.want(doubles(4), numbered(5))
	b.wantFlight(hello(2, 1, 1, api.Primary, 1, 1), ship(3, 1, 1, 1, 0, one, two), ship(4, 1, 1, 1, 0, one, two), ship(5, 1, 1, 1, 0, one, two))
	b.want(delivers(5), sent(6))
	was := b.now.nodes
	b.want(delivers(3), sent(7))
	b.want(delivers(4), sent(8))
	if !reflect.DeepEqual(b.now.nodes, was) {
		t.Errorf("the nodes are %s, not %s", short(b.now.nodes), short(was))
	}
	b.wantFlight(hello(2, 1, 1, api.Primary, 1, 1), ack(6, 0, 1, 2), ack(7, 0, 1, 2), ack(8, 0, 1, 2))
	for _, n := range []int{math.MinInt, -1, 0, 3, 5, 9, math.MaxInt} {
		b.refuses(doubles(n), api.ErrMissing)
	}
}

func TestDrop(t *testing.T) {
	b := stand{"", 2, append(shipped(), ticks(1))}.bench(t)
	for _, n := range []int{math.MinInt, -1, 0, 1, 5, math.MaxInt} {
		b.refuses(drops(n), api.ErrMissing)
	}
	was := b.now.nodes
	b.want(drops(3), api.Did{})
	b.refuses(drops(3), api.ErrMissing)
	b.refuses(delivers(3), api.ErrMissing)
	b.want(drops(4), api.Did{})
	b.wantFlight(hello(2, 1, 1, api.Primary, 1, 1))
	b.want(drops(2), api.Did{})
	b.wantFlight()
	if !reflect.DeepEqual(b.now.nodes, was) {
		t.Errorf("the nodes are %s, not %s", short(b.now.nodes), short(was))
	}
	// The numbers go on.
	b.want(ticks(1), sent(5))
}

// TestFullLink: what the link refuses is lost, and no error: its numbers are given to the next ones.
func TestFullLink(t *testing.T) {
	b := newBench(t, 2)
	b.all(commits(0, put("a", "1")), ticks(1), delivers(1), ticks(0))
	for n := 4; n <= mostFlight+1; n++ {
		b.want(doubles(3), numbered(n))
	}
	b.refuses(doubles(513), api.ErrLong)
	b.refuses(doubles(1), api.ErrMissing)
	b.passes(ticks(0))
	b.passes(ticks(1))
	if len(b.now.flight) != mostFlight {
		t.Fatalf("%d letters are in flight", len(b.now.flight))
	}
	// With room for one letter, of a hello and a ship the hello alone is posted.
	b.all(drops(2))
	b.want(ticks(0), sent(514))
	b.passes(ticks(1))
	// A letter makes room for its answer.
	b.want(delivers(3), sent(515))
	b.passes(ticks(0))
	// Ticks of a round find no room; then there is some for each answer.
	got := b.do(rounds())
	var right []int
	for n := range mostFlight - 2 {
		right = append(right, 516+n)
	}
	if !alikeDid(got, sent(right...)) {
		t.Errorf("a round with a full link is told %s", short(got))
	}
	b.wantMemory(0, 0, 1, true)
}

// TestFullRound: of what a round's ticks tell the first letters are posted, as long as there is room.
func TestFullRound(t *testing.T) {
	for room, right := range [][]int{{}, {514}, {514, 515}, {514, 515, 516}, {514, 515, 516}} {
		b := newBench(t, 2)
		b.all(ticks(1), delivers(1), ticks(1))
		for range mostFlight - 1 {
			b.all(doubles(2))
		}
		for n := range room {
			b.all(drops(2 + n))
		}
		acked := len(right)
		if room >= 2 {
			// The ship that was posted is answered.
			right = append(right, 517-3+acked)
		}
		b.want(rounds(), sent(right...))
	}
}

func TestFuseAct(t *testing.T) {
	for at := range 2 {
		b := newBench(t, 8)
		b.all(promotes(1))
		for _, n := range []int{math.MinInt, -1} {
			b.refuses(fuses(at, n), api.ErrArg)
		}
		for _, n := range []int{0, 1, 2, math.MaxInt} {
			b.passes(fuses(at, n))
		}
		// In the place of the one ahead: just so many raw steps more are done.
		b.passes(fuses(at, 3))
		b.want(commits(at, put("a", "1")), numbered(1))
		b.want(commits(at, put("b", "1")), refused(api.ErrOff))
		b.refuses(fuses(at, 0), api.ErrOff)
		b.refuses(fuses(at, -1), api.ErrOff)
		// Started, it has none.
		b.all(starts(at, 0, 0))
		for n := 2; n <= 5; n++ {
			b.want(commits(at, put("a", "1")), numbered(n))
		}
		b.want(commits(1-at, put("a", "1")), numbered(1))
	}
}

func TestPull(t *testing.T) {
	for at := range 2 {
		b := stand{"", 2, append(acked(), flushes(1))}.bench(t)
		was := b.now
		b.want(pulls(at), api.Did{})
		right := was.nodes[at]
		right.up, right.runs, right.out, right.known, right.met = false, nil, 0, 0, false
		b.wantNode(at, right)
		b.wantNode(1-at, was.nodes[1-at])
		b.refuses(pulls(at), api.ErrOff)
		for _, a := range plain(at) {
			switch a.Kind {
			case kindFuse, kindPull:
				b.refuses(a, api.ErrOff)
			case kindStart:
			default:
				b.refuses(a, api.ErrDown)
			}
		}
		b.want(starts(at, 0, 0), api.Did{})
		// What was in memory alone is gone.
		right = was.nodes[at]
		if at == 0 {
			right.out, right.known, right.met = 2, 0, false
		}
		b.wantNode(at, right)
	}
}

// TestPullMemory: a pull, too, lets go of what a node has in memory alone; of a disk that is started again its page counts.
func TestPullMemory(t *testing.T) {
	b := stand{"", 2, append(acked(), flushes(0), commits(0, del("a")))}.bench(t)
	b.wantMemory(0, 1, 2, true)
	b.all(pulls(0))
	b.wantMemory(0, 0, 0, false)
	b.all(starts(0, 0, 0))
	b.wantMemory(0, 1, 0, false)
	// The hello that a deposed node needs is gone, too.
	b = stand{"", 2, append(oneHeard(), pulls(0), starts(0, 0, 0), ticks(0))}.bench(t)
	b.wantPage(0, heard(2))
	b.all(ticks(1), delivers(7), ticks(0))
	b.wantPage(0, deposed(2, api.Forked, 2, 0))
}

// TestStartOn: a disk that is on is not started.
func TestStartOn(t *testing.T) {
	for _, x := range stands() {
		b := x.bench(t)
		for at, n := range b.now.nodes {
			for _, k := range []int{math.MinInt, -1, 0, 1, math.MaxInt} {
				if n.up {
					b.refuses(starts(at, k, 0), api.ErrArg)
					b.refuses(starts(at, 0, k), api.ErrArg)
				}
			}
		}
	}
}

// TestStart: a commit that was refused stands if all its raw writes do.
func TestStart(t *testing.T) {
	const raw = 7 // raw writes of a big commit
	one := with(1, 1, big()...)
	for kept := range raw + 3 {
		b := newBench(t, 2)
		b.all(fuses(0, raw))
		b.want(commits(0, one.Ops...), refused(api.ErrOff))
		if pending := b.x.disks[0].Pending(); pending != raw {
			t.Fatalf("a big commit has %d raw writes", pending)
		}
		for _, k := range []int{math.MinInt, -1} {
			b.refuses(starts(0, k, 0), api.ErrArg)
			b.refuses(starts(0, 0, k), api.ErrArg)
			b.refuses(starts(0, k, k), api.ErrArg)
		}
		b.wantNode(0, nodeTold{page: primary(1, 0)})
		// A part of a raw write is never a whole one.
		b.want(starts(0, kept, math.MaxInt), api.Did{})
		if kept < raw {
			b.wantNode(0, nodeTold{up: true, page: primary(1, 0)})
			b.want(commits(0, del("a")), numbered(1))
			b.wantAnswered(with(1, 1, del("a")))
			continue
		}
		b.wantNode(0, nodeTold{up: true, page: primary(1, 0), log: []api.Commit{one}, out: 1})
		b.wantAnswered()
		b.want(commits(0, del("a")), numbered(2))
		b.wantAnswered(with(1, 2, del("a")))
	}
}

// TestStartPage: a promotion that was refused may stand all the same.
func TestStartPage(t *testing.T) {
	for kept, p := range []api.Page{replica(1), primary(2, 2), primary(2, 2)} {
		b := stand{"", 2, append(acked(), fuses(1, 1))}.bench(t)
		b.want(promotes(1), refused(api.ErrOff))
		b.wantPage(1, replica(1))
		b.want(starts(1, kept, 6), api.Did{})
		b.wantPage(1, p)
		if p == replica(1) {
			b.want(promotes(1), numbered(2))
		} else {
			b.refuses(promotes(1), api.ErrAlreadyPrimary)
		}
		b.want(commits(1, put("a", "1")), numbered(3))
	}
}

func TestRound(t *testing.T) {
	b := newBench(t, 2)
	one, two := with(1, 1, put("a", "1")), with(1, 2, put("b", "2"))
	b.all(commits(0, one.Ops...), commits(0, two.Ops...))
	b.want(rounds(), sent(1, 2))
	b.wantFlight()
	b.wantMemory(0, 2, 0, true)
	// The ack is posted while letters are delivered: it stays in flight.
	b.want(rounds(), sent(3, 4, 5, 6))
	b.wantFlight(ack(6, 0, 1, 2))
	b.wantLog(1, one, two)
	b.wantMemory(0, 2, 0, true)
	// What was in flight ahead of the round is delivered in it, behind the ticks: these still ship all.
	b.want(rounds(), sent(7, 8, 9, 10))
	b.wantFlight(ack(10, 0, 1, 2))
	b.wantMemory(0, 0, 2, true)
	b.want(rounds(), sent(11, 12, 13, 14))
	b.wantFlight(ack(14, 0, 1, 2))
	b.wantMemory(0, 0, 2, true)
}

// TestRoundOrder: both ticks come ahead of all letters, and these by rising number: who ticks as a primary is deposed only then.
func TestRoundOrder(t *testing.T) {
	b := stand{"", 2, append(acked(), promotes(1))}.bench(t)
	b.wantFlight(hello(2, 1, 1, api.Primary, 1, 1))
	b.want(rounds(), sent(5, 6, 7))
	b.wantPage(0, heard(2))
	b.wantFlight()
	// A ship that is behind a hello of the same epoch: the acks in flight come first, then both ships, the older one first.
	b = newBench(t, 2)
	b.all(commits(0, del("a")), ticks(1), delivers(1), ticks(0), commits(0, del("b")))
	b.want(rounds(), sent(4, 5, 6, 7, 8))
	b.wantFlight(ack(7, 0, 1, 1), ack(8, 0, 1, 2))
	b.want(rounds(), sent(9, 10, 11, 12))
	b.wantMemory(0, 0, 2, true)
}

// TestRoundDown: only those that are up tick, and a letter to one that is down is lost.
func TestRoundDown(t *testing.T) {
	b := stand{"", 2, append(shipped(), pulls(1))}.bench(t)
	b.want(rounds(), sent(4, 5))
	b.wantFlight()
	b.all(starts(1, 0, 0))
	b.wantLog(1)
	b.all(pulls(0))
	b.want(rounds(), sent(6))
	b.wantFlight()
	b.all(starts(0, 0, 0))
	b.wantMemory(0, 2, 0, false)
	b.all(ticks(0), ticks(1), pulls(0), pulls(1))
	b.want(rounds(), api.Did{})
	b.wantFlight()
	b.passes(rounds())
}

// TestRoundOff: where a disk goes off in a round, that is no error; the rest of the round is done.
func TestRoundOff(t *testing.T) {
	// In a tick: the node 0 is down then; the node 1's hello, and what was in flight to the node 0, is lost.
	b := stand{"", 2, append(oneHeard(), fuses(0, 1))}.bench(t)
	b.want(rounds(), sent(6))
	b.wantFlight()
	if b.now.nodes[0].up || !b.now.nodes[1].up {
		t.Errorf("up are %v, %v", b.now.nodes[0].up, b.now.nodes[1].up)
	}
	// In a delivery: the ship's letter is lost, those behind it are delivered all the same.
	b = stand{"", 2, append(shipped(), ticks(1), fuses(1, 0))}.bench(t)
	b.want(rounds(), sent(5, 6, 7))
	b.wantFlight()
	b.wantNode(1, nodeTold{page: replica(1)})
	if !b.now.nodes[0].up {
		t.Errorf("the node 0 is down")
	}
}

// TestBlow: the disk goes off at each raw step of each act; what is told then, what stands, and what is told behind it.
func TestBlow(t *testing.T) {
	blown := map[int]int{}
	for _, x := range stands() {
		for _, a := range actsFor(x.bench(t).now) {
			if a.Kind == kindFuse || a.Kind == kindStart || a.Kind == kindPull {
				continue
			}
			for at := range 2 {
				ahead := x.bench(t)
				ahead.safe()
				steps := ahead.x.disks[at].Steps()
				ahead.do(a)
				for fuse := range ahead.x.disks[at].Steps() - steps {
					x.blow(t, a, at, fuse)
					blown[a.Kind]++
				}
			}
		}
	}
	for _, kind := range []int{kindCommit, kindTick, kindPromote, kindFlush, kindDeliver, kindRound} {
		if blown[kind] < 8 {
			t.Errorf("of acts of the kind %d just %d were cut off", kind, blown[kind])
		}
	}
	for _, kind := range []int{kindRead, kindTwice, kindDrop} {
		if blown[kind] > 0 {
			t.Errorf("acts of the kind %d do raw steps", kind)
		}
	}
}

// blow cuts an act off at a node's raw step, and starts the disk again in some ways.
func (x stand) blow(t *testing.T, a api.Act, at, fuse int) {
	t.Helper()
	for turn, k := range []int{0, 1, 2, fuse, 100} {
		b := x.bench(t)
		b.safe()
		b.all(fuses(at, fuse))
		right := refused(api.ErrOff)
		if a.Kind == kindRound {
			right = b.do(a)
			if right.Err != api.OK {
				b.fail("a round is refused: %d", right.Err)
			}
		} else {
			b.want(a, right)
		}
		if n := b.now.nodes[at]; n.up || n.runs != nil || n.out != 0 || n.met {
			b.fail("the disk went off, the node is %s", short(n))
		}
		b.refuses(commits(at, put("a", "1")), api.ErrDown)
		b.refuses(pulls(at), api.ErrOff)
		b.all(starts(at, k, turn*15))
		b.do(a)
		b.calm()
	}
}

// P24.3

// TestTells: all that is told of worlds that were brought somewhere, written out.
func TestTells(t *testing.T) {
	one, two, lost, kept := with(1, 1, put("a", "1")), with(1, 2, put("b", "2")), with(1, 3, put("c", "3")), with(2, 3, put("a", "9"))
	run := []api.Run{{From: 1, Upto: 2, Ops: []api.Op{put("a", "1"), put("b", "2")}}}
	orphans := []api.Section{holds(2, 2, lost)}
	b := stand{"", 2, append(acked(), flushes(0), flushes(1), commits(0, lost.Ops...), promotes(1), commits(1, kept.Ops...), ticks(1), delivers(5), ticks(0), ticks(0), drops(2))}.bench(t)
	right := told{most: 2, answered: []api.Commit{one, two, lost, kept}, flight: []api.Letter{hello(6, 1, 2, api.Deposed, 1, 1, 1), hello(7, 1, 2, api.Deposed, 1, 1, 1)}}
	right.nodes[0] = nodeTold{up: true, page: deposed(2, api.Filed, 2, 0), log: []api.Commit{one, two, lost}, sections: orphans, runs: run}
	right.nodes[1] = nodeTold{up: true, page: primary(2, 2), log: []api.Commit{one, two, kept}, runs: run, out: 1}
	b.wantTold(right)

	b.all(fuses(0, 1))
	b.want(ticks(0), refused(api.ErrOff))
	// The cut is pending: it is not durable yet.
	right.nodes[0].up, right.nodes[0].runs = false, nil
	b.wantTold(right)

	b.all(starts(0, 1, 0))
	// It is by now; the page that tells of it is not there.
	right.nodes[0].up, right.nodes[0].runs, right.nodes[0].log = true, run, []api.Commit{one, two}
	b.wantTold(right)

	b.all(pulls(1))
	right.nodes[1].up, right.nodes[1].runs, right.nodes[1].out = false, nil, 0
	b.wantTold(right)

	b.all(ticks(0), ticks(0), drops(6), drops(7), starts(1, 0, 0), delivers(9), ticks(1))
	right.flight = []api.Letter{hello(8, 1, 2, api.Deposed, 1, 1), hello(10, 0, 2, api.Primary, 1, 1, 2), ship(11, 0, 2, 3, 1, kept)}
	right.nodes[0].page = replica(2)
	right.nodes[1] = nodeTold{up: true, page: primary(2, 2), log: []api.Commit{one, two, kept}, runs: run, out: 1, known: 2, met: true}
	b.wantTold(right)
}

func (b *bench) wantTold(right told) {
	b.t.Helper()
	if !alikeTold(b.now, right) {
		b.fail("the world tells\n%s, not\n%s", short(b.now), short(right))
	}
}

// TestNoSuchNode: of none all is zero; the page is refused.
func TestNoSuchNode(t *testing.T) {
	for _, x := range stands() {
		b := x.bench(t)
		for _, node := range extremes() {
			if node == 0 || node == 1 {
				continue
			}
			if got := askOf(b.w, node); !reflect.DeepEqual(got, nodeTold{pageErr: api.ErrArg}) {
				t.Errorf("%s: of the node %d is told %s", x.name, node, short(got))
			}
		}
		b.compare()
	}
}

// TestDurable: of a disk that is off what is durable is told; what was pending never is, until it is started.
func TestDurable(t *testing.T) {
	b := stand{"", 4, acked()}.bench(t)
	for _, at := range []int{0, 1} {
		was := b.now.nodes[at]
		acts := [2]api.Act{commits(0, big()...), promotes(1)}
		b.all(fuses(at, 1))
		b.want(acts[at], refused(api.ErrOff))
		was.up, was.out, was.known, was.met = false, 0, 0, false
		b.wantNode(at, was)
		b.all(starts(at, 0, 63))
		b.wantLog(at, was.log...)
		b.wantPage(at, was.page)
	}
}

func TestSafe(t *testing.T) {
	for _, x := range stands() {
		b := x.bench(t)
		was := b.now
		b.safe()
		if !alikeTold(b.now, was) {
			t.Errorf("%s: Safe changed what is told to %s", x.name, short(b.now))
		}
		b.safe()
	}
	// No act of a round has a fuse any more.
	b := stand{"", 2, append(bothPrimary(), fuses(0, 0), fuses(1, 0))}.bench(t)
	b.safe()
	b.all(commits(1, del("a")))
	b.calm()
	b.all(promotes(0))
	// Of a disk that is off nothing is changed, and that of the other one is safe all the same.
	for at := range 2 {
		b = stand{"", 2, append(bothPrimary(), fuses(at, 0), fuses(1-at, 0), pulls(at))}.bench(t)
		b.safe()
		if b.now.nodes[at].up {
			t.Errorf("Safe put the node %d up", at)
		}
		b.all(ticks(1-at), flushes(1-at))
		b.all(starts(at, 0, 0), flushes(at))
		b.calm()
	}
}

// P24.4

// TestAlike: two worlds to which the same was done are the same in all that they tell.
func TestAlike(t *testing.T) {
	for seed := range 40 {
		x := turn(seed * 31337)
		first := newBench(t, 1+x.below(4))
		other := sure(world.New(first.now.most))
		for range 120 {
			a := x.act(first.now, 10)
			if got, right := other.Do(a), first.do(a); !alikeDid(got, right) {
				t.Fatalf("%s is told %+v and %+v", short(a), got, right)
			}
			if got := ask(other); !alikeTold(got, first.now) {
				t.Fatalf("behind %s is told\n%s and\n%s", short(a), short(got), short(first.now))
			}
		}
	}
}

// TestLeftOut: acts that were refused with these errors may be left out.
func TestLeftOut(t *testing.T) {
	left := map[api.Errno]int{api.ErrArg: 0, api.ErrLong: 0, api.ErrMissing: 0, api.ErrDown: 0, api.ErrLagging: 0, api.ErrDeposed: 0, api.ErrAlreadyPrimary: 0, api.ErrReplica: 0}
	for seed := range 60 {
		x := turn(seed*65537 + 11)
		first := newBench(t, 1+x.below(3))
		other := sure(world.New(first.now.most))
		for range 150 {
			a := x.act(first.now, 12)
			right := first.do(a)
			if _, out := left[right.Err]; out {
				left[right.Err]++
				continue
			}
			if got := other.Do(a); !alikeDid(got, right) {
				t.Fatalf("%s is told %+v, where nothing was left out %+v", short(a), got, right)
			}
			if got := ask(other); !alikeTold(got, first.now) {
				t.Fatalf("behind %s is told\n%s, where nothing was left out\n%s", short(a), short(got), short(first.now))
			}
		}
	}
	for e, n := range left {
		if n < 10 {
			t.Errorf("just %d acts were refused with the error %d", n, e)
		}
	}
}

// TestRefusedBurnsNoFuse: an act that was refused so has done no raw step.
func TestRefusedBurnsNoFuse(t *testing.T) {
	for _, x := range stands() {
		for _, a := range actsFor(x.bench(t).now) {
			b := x.bench(t)
			steps := [2]int{b.x.disks[0].Steps(), b.x.disks[1].Steps()}
			switch got := b.do(a); got.Err {
			case api.OK, api.ErrOff:
				continue
			}
			for at, d := range b.x.disks {
				if d.Steps() != steps[at] {
					t.Errorf("%s: %s was refused, and did raw steps", x.name, short(a))
				}
			}
		}
	}
}

// Rule 5

// TestNobodyMade: each call of a world that is nil, and of one that was declared.
func TestNobodyMade(t *testing.T) {
	for name, w := range map[string]*world.World{"nil": nil, "declared": {}, "new": new(world.World)} {
		var acts []api.Act
		for _, kind := range append(extremes(), 4, 5, 6, 7, 8, 9, 10) {
			for node := -1; node <= 2; node++ {
				acts = append(acts, api.Act{Kind: kind, Node: node, N: 1, T: 1, Key: "a", Ops: []api.Op{put("a", "1")}}, api.Act{Kind: kind, Node: node})
			}
		}
		for range 2 {
			for _, a := range acts {
				if got := w.Do(a); !reflect.DeepEqual(got, refused(api.ErrNil)) {
					t.Errorf("%s: %s is told %+v", name, short(a), got)
				}
			}
			w.Safe()
			if w.Most() != 0 || w.Answered() != nil || w.Flight() != nil {
				t.Errorf("%s: it tells something", name)
			}
			for _, node := range extremes() {
				if got := askOf(w, node); !reflect.DeepEqual(got, nodeTold{pageErr: api.ErrNil}) {
					t.Errorf("%s: of the node %d is told %s", name, node, short(got))
				}
			}
		}
	}
}

// TestMethods: a world has just the calls that the chapter lists.
func TestMethods(t *testing.T) {
	var got []string
	kind := reflect.TypeOf(&world.World{})
	for at := range kind.NumMethod() {
		got = append(got, kind.Method(at).Name)
	}
	if right := []string{"Answered", "Do", "Flight", "Log", "Memory", "Most", "Page", "Runs", "Safe", "Sections", "Up"}; !slices.Equal(got, right) {
		t.Errorf("%v, not %v", got, right)
	}
	for at := range kind.Elem().NumField() {
		if f := kind.Elem().Field(at); f.IsExported() {
			t.Errorf("the field %s is exported", f.Name)
		}
	}
}

// What is handed in and handed out.

// mark fills a list of ops with what none of these tests commits.
func mark(l []api.Op) {
	for at := range l {
		l[at] = put("spare", "spare")
	}
}

// TestOpsAreLeftAlone: those of a commit, and the room behind them, taken or refused; nor are they looked at later.
func TestOpsAreLeftAlone(t *testing.T) {
	for _, x := range stands() {
		for at := range 2 {
			for _, ops := range [][]api.Op{{put("a", "1")}, big(), {put("b", "2"), del("a")}, nil, nine(), {del("")}} {
				b := x.bench(t)
				room := make([]api.Op, len(ops)+3)
				mark(room)
				copy(room, ops)
				ahead := slices.Clone(room)
				got := b.w.Do(commits(at, room[:len(ops)]...))
				if right := b.x.do(commits(at, ops...)); !alikeDid(got, right) {
					t.Fatalf("%s: a commit of %s is told %+v, not %+v", x.name, short(ops), got, right)
				}
				if !slices.Equal(room, ahead) {
					t.Errorf("%s: a commit changed its ops to %s", x.name, short(room))
				}
				mark(room)
				b.compare()
				b.safe()
				b.unwatched(rounds())
			}
		}
	}
}

func spoilBytes(b []byte) {
	b = b[:cap(b)]
	for at := range b {
		b[at] = 77
	}
}

// spoilLog changes all of a list of commits, its spare room too.
func spoilLog(l []api.Commit) {
	l = l[:cap(l)]
	for at := range l {
		mark(l[at].Ops[:cap(l[at].Ops)])
		l[at] = with(88, 88, put("spoilt", "spoilt"))
	}
}

func spoilSections(l []api.Section) {
	l = l[:cap(l)]
	for at := range l {
		spoilLog(l[at].Commits)
		l[at] = holds(88, 99)
	}
}

func spoilRuns(l []api.Run) {
	l = l[:cap(l)]
	for at := range l {
		mark(l[at].Ops[:cap(l[at].Ops)])
		l[at] = api.Run{From: 88, Upto: 99, Ops: []api.Op{put("spoilt", "spoilt")}}
	}
}

func spoilFlight(l []api.Letter) {
	l = l[:cap(l)]
	for at := range l {
		spoilBytes(l[at].Bytes)
		l[at] = api.Letter{Number: 88, To: 99, Bytes: []byte("spoilt")}
	}
}

// spoil changes all that was told.
func (x told) spoil() {
	spoilLog(x.answered)
	spoilFlight(x.flight)
	for _, n := range x.nodes {
		spoilLog(n.log)
		spoilSections(n.sections)
		spoilRuns(n.runs)
	}
}

// TestAnswersAreNew: what is handed out may be changed, without a change of the world, or of another answer.
func TestAnswersAreNew(t *testing.T) {
	for _, x := range stands() {
		for at, a := range actsFor(x.bench(t).now) {
			if x.name == "full" && at%9 > 0 {
				continue
			}
			b := x.bench(t)
			first, second := ask(b.w), ask(b.w)
			first.spoil()
			if !alikeTold(second, b.x.ask()) {
				t.Fatalf("%s: two answers share memory", x.name)
			}
			b.compare()
			b.unwatched(a)
			b.unwatched(rounds())
		}
	}
}

// TestListsOfOneAnswerShareNothing: a change of one list that was told, and of the room behind it, is none of another one.
func TestListsOfOneAnswerShareNothing(t *testing.T) {
	acts := append(turned(), flushes(0), commits(0, big()...), commits(0, del("a"), del("b")), ticks(0), ticks(1), ticks(0))
	b := stand{"", 4, acts}.bench(t)
	right := b.x.ask()
	for at := range right.answered {
		l := b.w.Answered()
		mark(l[at].Ops[:cap(l[at].Ops)])
		l[at] = right.answered[at]
		if !alikeLogs(l, right.answered) {
			t.Errorf("an answered commit hangs on the commit %d: %s", at, short(l))
		}
	}
	for at := range right.flight {
		l := b.w.Flight()
		spoilBytes(l[at].Bytes)
		l[at] = right.flight[at]
		if !reflect.DeepEqual(l, right.flight) {
			t.Errorf("a letter hangs on the letter %d: %s", at, short(l))
		}
	}
	for node, n := range right.nodes {
		for at := range n.log {
			l := b.w.Log(node)
			mark(l[at].Ops[:cap(l[at].Ops)])
			l[at] = n.log[at]
			if !alikeLogs(l, n.log) {
				t.Errorf("a commit hangs on the commit %d: %s", at, short(l))
			}
		}
		for at := range n.sections {
			l := b.w.Sections(node)
			spoilLog(l[at].Commits)
			l[at] = n.sections[at]
			if !alikeSections(l, n.sections) {
				t.Errorf("a section hangs on the section %d: %s", at, short(l))
			}
		}
		for at := range n.runs {
			l := b.w.Runs(node)
			mark(l[at].Ops[:cap(l[at].Ops)])
			l[at] = n.runs[at]
			if !alikeRuns(l, n.runs) {
				t.Errorf("a run hangs on the run %d: %s", at, short(l))
			}
		}
	}
	if len(right.answered) < 5 || len(right.flight) < 3 || len(right.nodes[0].sections) != 1 || len(right.nodes[0].runs) != 1 {
		t.Errorf("too little is told: %s", short(right))
	}
}

// TestWorldsAreApart: what is done to one world is nothing to another one.
func TestWorldsAreApart(t *testing.T) {
	var l []*bench
	for _, x := range stands() {
		l = append(l, x.bench(t))
	}
	for at, b := range l {
		acts := actsFor(b.now)
		for i := range 5 {
			b.do(acts[(at*7+i*11)%len(acts)])
		}
		for _, other := range l {
			other.compare()
		}
	}
}
