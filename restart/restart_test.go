package restart_test

import (
	"fmt"
	"math"
	"reflect"
	"slices"
	"strings"
	"testing"

	"lagleash/api"
	"lagleash/commit"
	"lagleash/disk"
	"lagleash/frame"
	"lagleash/orphan"
	"lagleash/page"
	"lagleash/restart"
	"lagleash/run"
	"lagleash/wal"
)

// The limits, as the document writes them.
const (
	most     = 1048576    // the greatest epoch and number
	mostBase = 1073741824 // the greatest Base of a page
	mostKeys = 1024       // of a run
	files    = 4          // of a disk
)

// The files of a disk, as the document numbers them.
const (
	fileLog = iota
	filePages
	fileRuns
	fileOrphans
)

func put(key, value string) api.Op { return api.Op{Put: true, Key: key, Value: value} }
func del(key string) api.Op        { return api.Op{Key: key} }

func of(count int) string { return strings.Repeat("k", count) }

func with(epoch, number int, ops ...api.Op) api.Commit {
	return api.Commit{Epoch: epoch, Number: number, Ops: ops}
}

// one is a commit of put a 1: its frame has 10 bytes, as long as its epoch and its number are small.
func one(epoch, number int) api.Commit { return with(epoch, number, put("a", "1")) }

// big is a commit of the greatest batch there is: its frame takes several raw writes.
func big(epoch, number int) api.Commit {
	var l []api.Op
	for i := range 8 {
		l = append(l, put(string(rune('a'+i))+of(15), of(32)))
	}
	return with(epoch, number, l...)
}

func nine() []api.Op { return slices.Repeat([]api.Op{del("k")}, 9) }

// row lists commits of the epochs, numbered from first on, each of which changes what is read.
func row(first int, epochs ...int) []api.Commit {
	var l []api.Commit
	for i, epoch := range epochs {
		number := first + i
		value := string([]byte{byte('0' + epoch%10), byte('0' + number%10)})
		switch number % 4 {
		case 1:
			l = append(l, with(epoch, number, put("a", value)))
		case 2:
			l = append(l, with(epoch, number, put("b", value), put("a", value+"!"), put("ab", "")))
		case 3:
			l = append(l, with(epoch, number, del("a"), put("\x00\xff", value)))
		default:
			l = append(l, with(epoch, number, append(big(epoch, number).Ops[:7], put("b", value))...))
		}
	}
	return l
}

// wide lists commits of the epoch 1 that have ops on so many keys.
func wide(keys int) []api.Commit {
	var l []api.Commit
	for at := range keys {
		if at%8 == 0 {
			l = append(l, with(1, at/8+1))
		}
		c := &l[at/8]
		c.Ops = append(c.Ops, put(fmt.Sprintf("k%d", at), ""))
	}
	return l
}

func primary(epoch, acked int) api.Page {
	return api.Page{Epoch: epoch, Role: api.Primary, Acked: acked}
}
func replica(epoch int) api.Page { return api.Page{Epoch: epoch, Role: api.Replica} }
func heard(epoch int) api.Page   { return api.Page{Epoch: epoch, Role: api.Deposed, Phase: api.Heard} }

func deposed(epoch int, phase api.Phase, fork, base int) api.Page {
	return api.Page{Epoch: epoch, Role: api.Deposed, Phase: phase, Fork: fork, Base: base}
}

// late lists the phases in which a page has a fork and a base.
func late() []api.Phase { return []api.Phase{api.Forked, api.Filed, api.Cut} }

func holds(epoch, fork int, l ...api.Commit) api.Section {
	return api.Section{Epoch: epoch, Fork: fork, Commits: l}
}

// example is a section of 14 bytes.
func example() api.Section { return holds(2, 1, one(1, 2)) }

// Bytes of files, by the calls of the layers below.

func framed(record []byte) []byte {
	b, e := frame.Append(nil, record)
	if e != api.OK {
		panic("a record that is too long")
	}
	return b
}

func sure[T any](x T, e api.Errno) T {
	if e != api.OK {
		panic(fmt.Sprintf("a test asks for what may not be: %d", e))
	}
	return x
}

func logBytes(l ...api.Commit) []byte {
	var b []byte
	for _, c := range l {
		b = append(b, framed(sure(commit.Encode(c)))...)
	}
	return b
}

func pageBytes(l ...api.Page) []byte {
	var b []byte
	for _, p := range l {
		b = append(b, framed(sure(page.Encode(p)))...)
	}
	return b
}

func runBytes(l ...api.Run) []byte {
	var b []byte
	for _, x := range l {
		b = append(b, framed(sure(run.Encode(x)))...)
	}
	return b
}

func orphanBytes(l ...api.Section) []byte {
	var b []byte
	for _, x := range l {
		b = append(b, sure(orphan.Encode(x))...)
	}
	return b
}

// runsOf lists runs of a log's first commits, each up to one of the numbers.
func runsOf(log []api.Commit, uptos ...int) []api.Run {
	var l []api.Run
	from := 1
	for _, upto := range uptos {
		l = append(l, api.Run{From: from, Upto: upto, Ops: leftBy(log[from-1 : upto])})
		from = upto + 1
	}
	return l
}

// leftBy lists what commits leave, key by key.
func leftBy(l []api.Commit) []api.Op {
	last := map[string]api.Op{}
	for _, c := range l {
		for _, o := range c.Ops {
			last[o.Key] = o
		}
	}
	var ops []api.Op
	for _, o := range last {
		ops = append(ops, o)
	}
	slices.SortFunc(ops, func(a, b api.Op) int { return strings.Compare(a.Key, b.Key) })
	return ops
}

// fold is what is read behind all ops of runs and of commits.
func fold(runs []api.Run, l []api.Commit) map[string]string {
	var all []api.Op
	for _, x := range runs {
		all = append(all, x.Ops...)
	}
	for _, c := range l {
		all = append(all, c.Ops...)
	}
	read := map[string]string{}
	for _, o := range all {
		delete(read, o.Key)
		if o.Put {
			read[o.Key] = o.Value
		}
	}
	return read
}

// act is one call, so that many of them can be done over and over.
type act struct {
	call    string
	page    api.Page
	commits []api.Commit
	number  int // of Shorten and Flush, and an Orphan's base
	section api.Section
}

func set(p api.Page) act                 { return act{call: "Set", page: p} }
func add(l ...api.Commit) act            { return act{call: "Add", commits: l} }
func shorten(to int) act                 { return act{call: "Shorten", number: to} }
func flush(upto int) act                 { return act{call: "Flush", number: upto} }
func base() act                          { return act{call: "Base"} }
func orphaned(at int, x api.Section) act { return act{call: "Orphan", number: at, section: x} }

func (a act) String() string {
	switch a.call {
	case "Set":
		return fmt.Sprintf("Set(%+v)", a.page)
	case "Add":
		return "Add(" + short(a.commits) + ")"
	case "Orphan":
		return fmt.Sprintf("Orphan(%d, %s)", a.number, short(a.section))
	}
	return fmt.Sprintf("%s(%d)", a.call, a.number)
}

// doTo does the call to a state.
func (a act) doTo(s *restart.State) api.Errno {
	switch a.call {
	case "Set":
		return s.Set(a.page)
	case "Add":
		return s.Add(a.commits...)
	case "Shorten":
		return s.Shorten(a.number)
	case "Flush":
		return s.Flush(a.number)
	case "Orphan":
		return s.Orphan(a.number, a.section)
	}
	_, e := s.Base()
	return e
}

// changing lists one call of each kind that is stopped by a disk that is off; each would be OK at the ground state.
func changing() []act {
	return []act{set(primary(2, 2)), add(one(2, 4)), shorten(2), flush(2), orphaned(14, holds(4, 2, row(3, 2)...)), base()}
}

// A second telling: what a state is to be, and a disk to which just those raw steps are done that the document names.

type told struct {
	disk   *disk.Disk
	page   api.Page
	log    []api.Commit
	runs   []api.Run
	broken bool
}

func lastEpoch(l []api.Commit) int {
	epoch := 0
	for _, c := range l {
		epoch = c.Epoch
	}
	return epoch
}

func runsEnd(l []api.Run) int {
	end := 0
	for _, x := range l {
		end = x.Upto
	}
	return end
}

// isSound is the second telling of when a disk is sound; orphans is how many bytes file 3 holds.
func isSound(p api.Page, log []api.Commit, runs, orphans int) bool {
	end, epoch, has := len(log), lastEpoch(log), p.Phase >= api.Forked
	return !slices.Contains([]bool{
		runs > end,
		epoch > p.Epoch,
		epoch == p.Epoch && p.Role == api.Deposed,
		p.Acked > end,
		has && p.Fork < runs,
		has && p.Fork > end,
		p.Phase == api.Cut && p.Fork != end,
		has && p.Base > orphans,
	}, true)
}

// holding answers what file 3 of the disk holds.
func holding(d *disk.Disk) []byte {
	b, _ := d.Read(fileOrphans)
	return b
}

// runsIn lists the runs in a file's bytes, and their good length.
func runsIn(file []byte) ([]api.Run, int) {
	var l []api.Run
	records, _ := frame.Scan(file)
	for _, record := range records {
		x, e := run.Decode(record)
		if e != api.OK || x.From != runsEnd(l)+1 {
			break
		}
		l = append(l, x)
	}
	return l, len(runBytes(l...))
}

// opened is the second telling of Open, of a disk that is there and of a node that there is.
func opened(d *disk.Disk, node int) (*told, api.Errno) {
	if !d.On() {
		return nil, api.ErrOff
	}
	m := &told{disk: d}
	var held [files][]byte
	for file := range files {
		held[file], _ = d.Read(file)
	}
	var good [files]int
	m.log, good[fileLog] = wal.Scan(held[fileLog])
	m.page, good[filePages], _ = page.Last(held[filePages], node)
	m.runs, good[fileRuns] = runsIn(held[fileRuns])
	_, good[fileOrphans] = orphan.Scan(held[fileOrphans])
	for file := range files {
		if good[file] < len(held[file]) && (m.off(d.Cut(file, good[file])) || m.off(d.Sync())) {
			return nil, api.ErrOff
		}
	}
	if !isSound(m.page, m.log, runsEnd(m.runs), good[fileOrphans]) {
		return nil, api.ErrBad
	}
	return m, api.OK
}

// off says whether the disk went off at a raw step.
func (m *told) off(e api.Errno) bool {
	m.broken = e == api.ErrOff
	return m.broken
}

// sound says whether the disk would be sound with these.
func (m *told) sound(p api.Page, log []api.Commit, runs int) bool {
	_, good := orphan.Scan(holding(m.disk))
	return isSound(p, log, runs, good)
}

// do is the second telling of a call.
func (m *told) do(a act) api.Errno {
	if m.broken || !m.disk.On() {
		m.broken = true
		return api.ErrOff
	}
	switch a.call {
	case "Set":
		return m.set(a.page)
	case "Add":
		return m.add(a.commits)
	case "Shorten":
		return m.shorten(a.number)
	case "Flush":
		return m.flush(a.number)
	case "Orphan":
		return m.orphan(a.number, a.section)
	}
	return api.OK
}

func (m *told) set(p api.Page) api.Errno {
	if e := page.Check(p); e != api.OK {
		return e
	}
	if !m.sound(p, m.log, runsEnd(m.runs)) {
		return api.ErrBad
	}
	if m.off(m.disk.Write(filePages, pageBytes(p))) || m.off(m.disk.Sync()) {
		return api.ErrOff
	}
	m.page = p
	return api.OK
}

func (m *told) add(l []api.Commit) api.Errno {
	if f := commit.Follows(lastEpoch(m.log), len(m.log), l); f.Err != api.OK {
		return f.Err
	}
	grown := copiesOf(slices.Concat(m.log, l))
	if !m.sound(m.page, grown, runsEnd(m.runs)) {
		return api.ErrBad
	}
	for _, c := range l {
		if m.off(m.disk.Write(fileLog, logBytes(c))) {
			return api.ErrOff
		}
	}
	if len(l) > 0 && m.off(m.disk.Sync()) {
		return api.ErrOff
	}
	m.log = grown
	return api.OK
}

func (m *told) shorten(to int) api.Errno {
	if to < runsEnd(m.runs) || to > len(m.log) {
		return api.ErrArg
	}
	left := copiesOf(m.log[:to])
	if !m.sound(m.page, left, runsEnd(m.runs)) {
		return api.ErrBad
	}
	if m.off(m.disk.Cut(fileLog, len(logBytes(left...)))) || m.off(m.disk.Sync()) {
		return api.ErrOff
	}
	m.log = left
	return api.OK
}

func (m *told) flush(upto int) api.Errno {
	from := runsEnd(m.runs)
	switch {
	case upto < from || upto > len(m.log):
		return api.ErrArg
	case !m.sound(m.page, m.log, upto):
		return api.ErrBad
	case upto == from:
		return api.OK
	}
	x := api.Run{From: from + 1, Upto: upto, Ops: leftBy(m.log[from:upto])}
	if len(x.Ops) > mostKeys {
		return api.ErrLong
	}
	if m.off(m.disk.Write(fileRuns, runBytes(x))) || m.off(m.disk.Sync()) {
		return api.ErrOff
	}
	m.runs = append(m.runs, x)
	return api.OK
}

func (m *told) orphan(base int, x api.Section) api.Errno {
	if e := orphan.Check(x); e != api.OK {
		return e
	}
	file := holding(m.disk)
	if base < 0 || base > len(file) {
		return api.ErrArg
	}
	l, good := orphan.Scan(file[:base])
	switch {
	case good < base, len(l) > 0 && l[len(l)-1].Epoch >= x.Epoch, m.page.Phase >= api.Forked && base < m.page.Base:
		return api.ErrBad
	case base < len(file) && m.off(m.disk.Cut(fileOrphans, base)):
		return api.ErrOff
	}
	if m.off(m.disk.Write(fileOrphans, orphanBytes(x))) || m.off(m.disk.Sync()) {
		return api.ErrOff
	}
	return api.OK
}

// What is compared, and how.

// short keeps what is told of much readable.
func short(x any) string {
	s := strings.ToValidUTF8(fmt.Sprintf("%v", x), "?")
	if len(s) > 300 {
		return s[:200] + " .. " + s[len(s)-80:]
	}
	return s
}

func copiesOf(l []api.Commit) []api.Commit {
	var other []api.Commit
	for _, c := range l {
		c.Ops = slices.Clone(c.Ops)
		other = append(other, c)
	}
	return other
}

func alikeLogs(a, b []api.Commit) bool { return slices.EqualFunc(a, b, commit.Same) }

func alikeRuns(a, b []api.Run) bool {
	return slices.EqualFunc(a, b, func(a, b api.Run) bool {
		return a.From == b.From && a.Upto == b.Upto && slices.Equal(a.Ops, b.Ops)
	})
}

func want(t *testing.T, what string, got, e api.Errno) {
	t.Helper()
	if got != e {
		t.Errorf("%s: %d, not %d", what, got, e)
	}
}

// must stops a test whose ground is gone.
func must(t *testing.T, what string, got api.Errno) {
	t.Helper()
	if got != api.OK {
		t.Fatalf("%s: %d", what, got)
	}
}

// look is what the calls that change nothing tell of a disk.
type look struct {
	on      bool
	pending int
	steps   int
	held    [files]string
	durable [files]string
}

func (l look) String() string {
	return fmt.Sprintf("on %v, %d pending, %d done, held %q, durable %q", l.on, l.pending, l.steps, l.held, l.durable)
}

func lookAt(d *disk.Disk) look {
	l := look{on: d.On(), pending: d.Pending(), steps: d.Steps()}
	for file := range files {
		b, _ := d.Read(file)
		l.held[file] = string(b)
		l.durable[file] = string(d.Durable(file))
	}
	return l
}

func wantLook(t *testing.T, what string, d *disk.Disk, right look) {
	t.Helper()
	if got := lookAt(d); got != right {
		t.Fatalf("%s: the disk is\n%v, not\n%v", what, got, right)
	}
}

// wantTold: the state tells just this page, log and runs, and what is read of them.
func wantTold(t *testing.T, what string, s *restart.State, p api.Page, log []api.Commit, runs []api.Run) {
	t.Helper()
	if got := s.Page(); got != p {
		t.Fatalf("%s: Page is %+v, not %+v", what, got, p)
	}
	if got, n := s.Log(), s.End(); !alikeLogs(got, log) || n != len(log) {
		t.Fatalf("%s: Log and End are %s, %d, not %s", what, short(got), n, short(log))
	}
	if got := s.Runs(); !alikeRuns(got, runs) {
		t.Fatalf("%s: Runs are %s, not %s", what, short(got), short(runs))
	}
	wantRead(t, what, s, fold(runs, log[min(len(log), runsEnd(runs)):]))
}

// wantRead: Get tells just this, of the keys that the tests put and of others.
func wantRead(t *testing.T, what string, s *restart.State, read map[string]string) {
	t.Helper()
	keys := []string{"", "a", "ab", "abc", "b", "c", "\x00\xff", "k0", of(16), of(17)}
	for key := range read {
		keys = append(keys, key)
	}
	for _, key := range keys {
		value, there := s.Get(key)
		if right, is := read[key]; value != right || there != is {
			t.Fatalf("%s: Get(%q) = %q, %v, not %q, %v", what, key, value, there, right, is)
		}
	}
}

// wantBase: Base answers that.
func wantBase(t *testing.T, what string, s *restart.State, n int, e api.Errno) {
	t.Helper()
	if got, ge := s.Base(); got != n || ge != e {
		t.Fatalf("%s: Base is %d, %d, not %d, %d", what, got, ge, n, e)
	}
}

// bench is a disk with a state, and beside it the second telling of both: each call is done to both, and all that is told is compared.
type bench struct {
	t *testing.T
	d *disk.Disk
	s *restart.State
	m *told
	// twin is the second telling's disk, also where there is no state.
	twin *disk.Disk
}

// contents are the bytes of a disk's files.
type contents [files][]byte

func diskOf(c contents) *disk.Disk {
	d := disk.New()
	for file, b := range c {
		if d.Write(file, b) != api.OK {
			panic("a new disk refuses")
		}
	}
	if d.Pending() > 0 {
		d.Sync()
	}
	return d
}

// benchOf is a bench of a disk that holds these, not opened.
func benchOf(t *testing.T, c contents) *bench {
	t.Helper()
	return &bench{t: t, d: diskOf(c), twin: diskOf(c)}
}

// ready is a bench of a disk that holds these, opened.
func ready(t *testing.T, c contents, node int) *bench {
	t.Helper()
	b := benchOf(t, c)
	must(t, "Open", b.open(node))
	return b
}

// open opens both anew; where that is refused there is no state.
func (b *bench) open(node int) api.Errno {
	b.t.Helper()
	s, e := restart.Open(b.d, node)
	m, right := opened(b.twin, node)
	if e != right || (s == nil) != (e != api.OK) {
		b.t.Fatalf("Open(%d) = %v, %d, not %d", node, s != nil, e, right)
	}
	b.s, b.m = s, m
	b.compare("Open")
	return e
}

// compare: the disks are the same, and the state tells what it is to tell.
func (b *bench) compare(what string) {
	b.t.Helper()
	wantLook(b.t, what, b.d, lookAt(b.twin))
	if b.s == nil {
		return
	}
	wantTold(b.t, what, b.s, b.m.page, b.m.log, b.m.runs)
	switch {
	case b.m.broken:
		wantBase(b.t, what, b.s, 0, api.ErrOff)
	case b.d.On():
		wantBase(b.t, what, b.s, len(holding(b.twin)), api.OK)
		if !b.m.sound(b.m.page, b.m.log, runsEnd(b.m.runs)) {
			b.t.Fatalf("%s: the disk is not sound", what)
		}
	}
}

// do does a call to both, and answers what both answered.
func (b *bench) do(a act) api.Errno {
	b.t.Helper()
	got, right := a.doTo(b.s), b.m.do(a)
	if got != right {
		b.t.Fatalf("%v: %d, not %d", a, got, right)
	}
	b.compare(a.String())
	return got
}

// want does a call that is to answer e.
func (b *bench) want(a act, e api.Errno) {
	b.t.Helper()
	want(b.t, a.String(), b.do(a), e)
}

// all does calls that are to be OK.
func (b *bench) all(l ...act) {
	b.t.Helper()
	for _, a := range l {
		must(b.t, a.String(), b.do(a))
	}
}

func (b *bench) both(change func(d *disk.Disk) api.Errno) {
	b.t.Helper()
	must(b.t, "the disk", change(b.d))
	must(b.t, "the other disk", change(b.twin))
}

func (b *bench) fuse(n int) {
	b.t.Helper()
	b.both(func(d *disk.Disk) api.Errno { return d.Fuse(n) })
}

func (b *bench) pull() {
	b.t.Helper()
	b.both((*disk.Disk).Pull)
}

func (b *bench) start(k, t int) {
	b.t.Helper()
	b.both(func(d *disk.Disk) api.Errno { return d.Start(k, t) })
}

// ground is a disk with a log of three commits, a run of the first one, a page of the epoch 2, a section of orphans.
func ground() contents {
	log := row(1, 1, 1, 2)
	return contents{logBytes(log...), pageBytes(replica(1), primary(2, 1)), runBytes(runsOf(log, 1)...), orphanBytes(example())}
}

// stateOf is a bench with that page, log and runs, and so many sections of orphans of 14 bytes each.
func stateOf(t *testing.T, p api.Page, log []api.Commit, uptos []int, sections int) *bench {
	t.Helper()
	return ready(t, contentsOf(p, log, uptos, sections), 0)
}

func contentsOf(p api.Page, log []api.Commit, uptos []int, sections int) contents {
	var l []api.Section
	for at := range sections {
		l = append(l, holds(at+2, 1, one(1, 2)))
	}
	return contents{logBytes(log...), pageBytes(p), runBytes(runsOf(log, uptos...)...), orphanBytes(l...)}
}

// edges lists numbers that a bound may lie at.
func edges() []int {
	return []int{math.MinInt, math.MinInt + 1, -1 << 32, -most, -2, -1, 0, 1, 2, 3, 4, 5, most - 1, most, most + 1, 1 << 32, math.MaxInt - 1, math.MaxInt}
}

func TestLimits(t *testing.T) {
	for _, c := range []struct {
		name      string
		got, want int
	}{{"MaxNumber", api.MaxNumber, most}, {"MaxRunOps", api.MaxRunOps, mostKeys}, {"MaxFiles", api.MaxFiles, files}, {"FileLog", api.FileLog, fileLog}, {"FilePages", api.FilePages, filePages}, {"FileRuns", api.FileRuns, fileRuns}, {"FileOrphans", api.FileOrphans, fileOrphans}, {"ErrBad", int(api.ErrBad), 5}, {"ErrOff", int(api.ErrOff), 6}} {
		if c.got != c.want {
			t.Errorf("%s is %d, not %d", c.name, c.got, c.want)
		}
	}
}

// TestExamples: the chapter's table.
func TestExamples(t *testing.T) {
	d := disk.New()
	s, e := restart.Open(d, 0)
	must(t, "Open of a new disk", e)
	if s.Page() != primary(1, 0) || s.End() != 0 {
		t.Errorf("a new disk: %+v, %d", s.Page(), s.End())
	}
	must(t, "Add", s.Add(one(1, 1)))
	must(t, "Set", s.Set(primary(1, 1)))
	must(t, "Flush", s.Flush(1))
	if l := s.Runs(); len(l) != 1 || l[0].From != 1 || l[0].Upto != 1 {
		t.Errorf("Runs: %v", l)
	}
	want(t, "Shorten(0)", s.Shorten(0), api.ErrArg)
	s, e = restart.Open(d, 0)
	must(t, "Open of that disk", e)
	if value, there := s.Get("a"); value != "1" || !there {
		t.Errorf("Get a: %q, %v", value, there)
	}
	if s, e := restart.Open(disk.New(), 2); s != nil || e != api.ErrArg {
		t.Errorf("of the node 2: %v, %d", s, e)
	}
	d.Pull()
	if s, e := restart.Open(d, 0); s != nil || e != api.ErrOff {
		t.Errorf("of a disk that is off: %v, %d", s, e)
	}
}

// TestExamplesOfTheWhole: the document's fifth, seventh and eighth examples, as far as they speak of a disk.
func TestExamplesOfTheWhole(t *testing.T) {
	// Cut off behind Forked, with half of the section written.
	b := ready(t, contents{}, 0)
	lost := holds(2, 2, with(1, 3, put("c", "3")))
	b.all(add(with(1, 1, put("a", "1")), with(1, 2, put("b", "2")), lost.Commits[0]), set(heard(2)), set(deposed(2, api.Forked, 2, 0)))
	b.fuse(1)
	b.want(orphaned(0, lost), api.ErrOff)
	b.start(0, 7)
	must(t, "Open", b.open(0))
	if n, _ := b.s.Base(); n != 0 || b.s.End() != 3 || b.s.Page() != deposed(2, api.Forked, 2, 0) {
		t.Errorf("behind half a section: %d bytes, %d commits, %+v", n, b.s.End(), b.s.Page())
	}
	b.all(orphaned(0, lost), set(deposed(2, api.Filed, 2, 0)), shorten(2), set(deposed(2, api.Cut, 2, 0)), set(replica(2)))
	if l, _ := orphan.Scan(b.d.Durable(fileOrphans)); len(l) != 1 || l[0].Epoch != 2 || l[0].Fork != 2 || !alikeLogs(l[0].Commits, lost.Commits) || b.s.End() != 2 {
		t.Errorf("the orphans are %s, the log has %d commits", short(l), b.s.End())
	}

	// A fuse of 1, then a commit: gone with 0, 0, there with 1, 0.
	for k := range 2 {
		b := ready(t, contents{}, 0)
		b.fuse(1)
		b.want(add(one(1, 1)), api.ErrOff)
		b.start(k, 0)
		must(t, "Open", b.open(0))
		if b.s.End() != k {
			t.Errorf("started with %d, 0: %d commits", k, b.s.End())
		}
	}

	// Flushed with one commit acked of two.
	b = ready(t, contents{}, 0)
	b.all(add(row(1, 1, 1)...), set(primary(1, 1)), flush(1))
	if l := b.s.Runs(); len(l) != 1 || l[0].Upto != 1 {
		t.Errorf("Runs: %v", l)
	}
}

// P21.1

// TestOpenRefuses: no disk, then no such node, then a disk that is off, then one that is not sound.
func TestOpenRefuses(t *testing.T) {
	off := disk.New()
	off.Pull()
	bad := diskOf(contents{filePages: pageBytes(primary(1, 1))})
	badAndOff := diskOf(contents{filePages: pageBytes(primary(1, 1))})
	badAndOff.Pull()
	for _, c := range []struct {
		name string
		d    *disk.Disk
		e    api.Errno
	}{{"nil", nil, api.ErrNil}, {"declared", &disk.Disk{}, api.ErrNil}, {"new(Disk)", new(disk.Disk), api.ErrNil}, {"off", off, api.ErrOff}, {"bad and off", badAndOff, api.ErrOff}, {"bad", bad, api.ErrBad}, {"new", disk.New(), api.OK}} {
		for _, node := range append(edges(), 1<<32+1) {
			right := c.e
			if node != 0 && node != 1 && c.e != api.ErrNil {
				right = api.ErrArg
			}
			ahead := lookAt(c.d)
			s, e := restart.Open(c.d, node)
			if e != right || (s != nil) != (e == api.OK) {
				t.Errorf("Open(%s, %d) = %v, %d, not %d", c.name, node, s, e, right)
			}
			wantLook(t, c.name, c.d, ahead)
		}
	}
}

// TestOpenNew: each node begins with its first page, and Open does nothing to the disk.
func TestOpenNew(t *testing.T) {
	for node, first := range []api.Page{primary(1, 0), replica(1)} {
		b := ready(t, contents{}, node)
		if b.s.Page() != first || b.s.End() != 0 || len(b.s.Log()) != 0 || len(b.s.Runs()) != 0 || b.d.Steps() != 0 {
			t.Errorf("the node %d: %+v, %d commits, %d steps", node, b.s.Page(), b.s.End(), b.d.Steps())
		}
		if n, e := b.s.Base(); n != 0 || e != api.OK {
			t.Errorf("the node %d: Base is %d, %d", node, n, e)
		}
	}
	// A page that was written counts, whichever node is opened.
	for node := range 2 {
		b := ready(t, ground(), node)
		if b.s.Page() != primary(2, 1) {
			t.Errorf("the node %d: %+v", node, b.s.Page())
		}
	}
}

// TestOpenGround: all that the disk holds is told, and opening it again changes nothing.
func TestOpenGround(t *testing.T) {
	b := ready(t, ground(), 0)
	steps := b.d.Steps()
	log := row(1, 1, 1, 2)
	for range 3 {
		wantTold(t, "the ground", b.s, primary(2, 1), log, runsOf(log, 1))
		wantBase(t, "the ground", b.s, 14, api.OK)
		must(t, "Open", b.open(0))
	}
	if b.d.Steps() != steps {
		t.Errorf("Open did %d raw steps", b.d.Steps()-steps)
	}
}

// tears lists for each file what may stand behind the ground's good length.
func tears() [files][][]byte {
	return [files][][]byte{
		{logBytes(one(2, 4))[:9], {1}, {128}, {0}, framed([]byte{9}), logBytes(one(2, 5)), logBytes(one(1, 4)), logBytes(one(2, 3)), append([]byte{0}, logBytes(one(2, 4))...), logBytes(big(2, 4))[:300]},
		{pageBytes(primary(3, 1))[:6], {6}, {0}, framed([]byte{3, 2, 7, 0, 0, 0}), append([]byte{0}, pageBytes(primary(3, 1))...), logBytes(one(2, 4))},
		{runBytes(api.Run{From: 2, Upto: 2})[:3], {200}, {0}, runBytes(api.Run{From: 3, Upto: 3}), runBytes(api.Run{From: 1, Upto: 3}), append([]byte{0}, runBytes(api.Run{From: 2, Upto: 2})...)},
		{orphanBytes(holds(3, 1, one(1, 2)))[:13], orphanBytes(holds(3, 1, one(1, 2)))[:4], {3}, {0}, orphanBytes(example()), logBytes(one(2, 4)), append([]byte{0}, orphanBytes(holds(3, 1, one(1, 2)))...)},
	}
}

// TestTornEnds: each file's torn end is cut off and synced, alone and with the others, and nothing else is.
func TestTornEnds(t *testing.T) {
	for file, l := range tears() {
		for _, torn := range l {
			c := ground()
			c[file] = append(c[file], torn...)
			wantTrimmed(t, fmt.Sprintf("file %d behind %v", file, torn), c, 2)
		}
	}
	for which := range 16 {
		c := ground()
		steps := 0
		for file, l := range tears() {
			if which>>file&1 == 1 {
				c[file] = append(c[file], l[0]...)
				steps += 2
			}
		}
		wantTrimmed(t, fmt.Sprintf("the files of %04b", which), c, steps)
	}
	// Without anything good each file is cut to none.
	var c contents
	for file, l := range tears() {
		c[file] = l[0]
	}
	b := ready(t, c, 1)
	for file := range files {
		if len(b.d.Durable(file)) != 0 {
			t.Errorf("file %d still holds %v", file, b.d.Durable(file))
		}
	}
	wantTold(t, "all torn", b.s, replica(1), nil, nil)
}

// wantTrimmed: of such a disk the ground is left, durably, behind so many raw steps.
func wantTrimmed(t *testing.T, what string, c contents, steps int) {
	t.Helper()
	b := benchOf(t, c)
	ahead := b.d.Steps()
	must(t, what, b.open(0))
	if n := b.d.Steps() - ahead; n != steps {
		t.Errorf("%s: %d raw steps, not %d", what, n, steps)
	}
	log := row(1, 1, 1, 2)
	wantTold(t, what, b.s, primary(2, 1), log, runsOf(log, 1))
	for file, right := range ground() {
		held, _ := b.d.Read(file)
		if got := b.d.Durable(file); string(got) != string(right) || string(held) != string(right) {
			t.Errorf("%s: file %d holds %v, durably %v, not %v", what, file, held, got, right)
		}
	}
}

// tornGround is the ground with a torn end of each file.
func tornGround() contents {
	c := ground()
	for file, l := range tears() {
		c[file] = append(c[file], l[0]...)
	}
	return c
}

// TestOpenFuse: a fuse that blows at each raw step of the cutting; then Open again, behind each start.
func TestOpenFuse(t *testing.T) {
	for fuse := range 8 {
		for k := range 3 {
			b := benchOf(t, tornGround())
			b.fuse(fuse)
			if e := b.open(0); e != api.ErrOff || b.s != nil {
				t.Fatalf("a fuse of %d: %d", fuse, e)
			}
			b.start(k, k)
			must(t, "Open behind a start", b.open(0))
			log := row(1, 1, 1, 2)
			wantTold(t, "behind a start", b.s, primary(2, 1), log, runsOf(log, 1))
		}
	}
	b := benchOf(t, tornGround())
	b.fuse(8)
	must(t, "a fuse that is long enough", b.open(0))
	// Where nothing is torn no raw step is done, so that no fuse counts.
	b = benchOf(t, ground())
	b.fuse(0)
	must(t, "a fuse of 0, nothing being torn", b.open(0))
	b.want(add(), api.OK)
	b.want(set(primary(2, 1)), api.ErrOff)
}

// soundness is one disk, and whether it is sound.
type soundness struct {
	why   string
	page  api.Page
	log   []api.Commit
	upto  int // the runs' end
	sound bool
}

// soundnesses lists each way in which a disk is not sound, at its bounds and one beyond; its file 3 holds 14 bytes.
func soundnesses() []soundness {
	log := row(1, 1, 2, 3)
	l := []soundness{
		{"runs' end at the log's", primary(3, 0), log, 3, true},
		{"runs' end behind the log's", primary(3, 0), log, 4, false},
		{"runs without a log", primary(3, 0), nil, 1, false},
		{"a run of the greatest number", replica(3), log, most, false},
		{"a primary's epoch at the log's", primary(3, 0), log, 0, true},
		{"a primary's epoch below the log's", primary(2, 0), log, 0, false},
		{"a replica's epoch at the log's", replica(3), log, 0, true},
		{"a replica's epoch below the log's", replica(2), log, 0, false},
		{"a deposed epoch above the log's", heard(4), log, 0, true},
		{"a deposed epoch at the log's", heard(3), log, 0, false},
		{"a deposed epoch below the log's", heard(2), log, 0, false},
		{"a deposed one without a log", heard(1), nil, 0, true},
		{"Acked at the log's end", primary(3, 3), log, 0, true},
		{"Acked behind the log's end", primary(3, 4), log, 0, false},
		{"Acked without a log", primary(3, 1), nil, 0, false},
		{"the greatest Acked", primary(3, most), log, 0, false},
	}
	for _, phase := range late() {
		cut := phase == api.Cut
		for _, c := range []struct {
			fork, upto int
			sound      bool
		}{{0, 0, !cut}, {0, 1, false}, {1, 1, !cut}, {1, 2, false}, {2, 1, !cut}, {2, 2, !cut}, {3, 3, true}, {3, 0, true}, {4, 0, false}, {4, 4, false}, {4, 3, false}, {most, 0, false}} {
			l = append(l, soundness{fmt.Sprintf("the phase %d, the fork %d, runs up to %d", phase, c.fork, c.upto), deposed(4, phase, c.fork, 0), log, c.upto, c.sound})
		}
		for base, sound := range map[int]bool{0: true, 1: true, 13: true, 14: true, 15: false, 28: false, mostBase: false} {
			l = append(l, soundness{fmt.Sprintf("the phase %d, the base %d", phase, base), deposed(4, phase, 3, base), log, 1, sound})
		}
		for epoch, sound := range map[int]bool{1: false, 2: false, 3: false, 4: true, 5: true, most: true} {
			l = append(l, soundness{fmt.Sprintf("the phase %d, the epoch %d", phase, epoch), deposed(epoch, phase, 3, 0), log, 1, sound})
		}
		l = append(l, soundness{fmt.Sprintf("the phase %d without a log", phase), deposed(1, phase, 0, 0), nil, 0, true})
	}
	return l
}

func (x soundness) contents() contents {
	var runs []api.Run
	if x.upto > 0 {
		runs = []api.Run{{From: 1, Upto: x.upto, Ops: leftBy(x.log[:min(x.upto, len(x.log))])}}
	}
	return contents{logBytes(x.log...), pageBytes(x.page), runBytes(runs...), orphanBytes(example())}
}

func (x soundness) answer() api.Errno {
	if x.sound {
		return api.OK
	}
	return api.ErrBad
}

// TestOpenSound: ErrBad of a disk that is not sound, which is left as it was.
func TestOpenSound(t *testing.T) {
	for _, x := range soundnesses() {
		b := benchOf(t, x.contents())
		steps := b.d.Steps()
		want(t, x.why, b.open(0), x.answer())
		if b.d.Steps() != steps {
			t.Errorf("%s: raw steps were done", x.why)
		}
	}
}

// TestOpenSoundBehindCutting: what is torn counts for nothing, and is cut off also of a disk that is not sound.
func TestOpenSoundBehindCutting(t *testing.T) {
	log := row(1, 1, 2, 3)
	short := deposed(4, api.Forked, 3, 15)
	for _, c := range []struct {
		why string
		c   contents
		e   api.Errno
	}{
		{"a base in what is torn", contents{logBytes(log...), pageBytes(short), nil, append(orphanBytes(example()), 3, 3, 1)}, api.ErrBad},
		{"an acked commit that is torn", contents{logBytes(log...)[:len(logBytes(log...))-1], pageBytes(primary(3, 3)), nil, nil}, api.ErrBad},
		{"a torn run behind the log", contents{logBytes(log...), pageBytes(primary(3, 3)), runBytes(api.Run{From: 1, Upto: 4})[:3], nil}, api.OK},
		{"a run behind the log, and torn", contents{logBytes(log...), pageBytes(primary(3, 3)), append(runBytes(api.Run{From: 1, Upto: 4}), 3), nil}, api.ErrBad},
		{"a torn page that would be right", contents{logBytes(log...), append(pageBytes(primary(2, 2)), pageBytes(primary(3, 3))[:6]...), nil, nil}, api.ErrBad},
		{"a torn page that would be wrong", contents{logBytes(log...), append(pageBytes(primary(3, 3)), pageBytes(primary(2, 2))[:6]...), nil, nil}, api.OK},
		{"a torn commit of an epoch above the page's", contents{append(logBytes(log...), logBytes(one(4, 4))[:9]...), pageBytes(primary(3, 3)), nil, nil}, api.OK},
	} {
		b := benchOf(t, c.c)
		steps := b.d.Steps()
		want(t, c.why, b.open(0), c.e)
		if n := b.d.Steps() - steps; n != 2 {
			t.Errorf("%s: %d raw steps", c.why, n)
		}
		steps = b.d.Steps()
		want(t, c.why+", again", b.open(0), c.e)
		if n := b.d.Steps() - steps; n != 0 {
			t.Errorf("%s, again: %d raw steps", c.why, n)
		}
		// The disk going off at the cutting counts ahead of what is not sound.
		for fuse := range 2 {
			b := benchOf(t, c.c)
			b.fuse(fuse)
			want(t, c.why+", with a fuse", b.open(0), api.ErrOff)
		}
	}
}

// TestSoundGrid: all disks of a few commits, runs, phases, forks and bases, held against the second telling.
func TestSoundGrid(t *testing.T) {
	seen := map[api.Errno]int{}
	for _, log := range [][]api.Commit{nil, row(1, 1), row(1, 1, 3), row(1, 2, 2, 2)} {
		for upto := range len(log) + 2 {
			for epoch := range 4 {
				for _, p := range pagesOf(epoch + 1) {
					x := soundness{page: p, log: log, upto: upto}
					seen[benchOf(t, x.contents()).open(0)]++
				}
			}
		}
	}
	if seen[api.OK] < 100 || seen[api.ErrBad] < 100 {
		t.Errorf("%v", seen)
	}
}

// pagesOf lists pages of an epoch, at the bounds of small logs and of a file of 14 bytes.
func pagesOf(epoch int) []api.Page {
	l := []api.Page{replica(epoch), heard(epoch)}
	for n := range 5 {
		l = append(l, primary(epoch, n))
		for _, phase := range late() {
			for _, base := range []int{0, 13, 14, 15} {
				l = append(l, deposed(epoch, phase, n, base))
			}
		}
	}
	return l
}

// P21.2

// TestSet: a page that is set is told, is durable behind one write and one sync, and is there behind Open.
func TestSet(t *testing.T) {
	b := ready(t, ground(), 0)
	for _, p := range []api.Page{primary(2, 3), replica(2), replica(most), primary(most, 0), heard(3), deposed(3, api.Forked, 1, 0), deposed(3, api.Forked, 3, 14), deposed(3, api.Filed, 1, 14), deposed(3, api.Cut, 3, 7), heard(most), replica(3), primary(2, 3), primary(2, 3)} {
		steps, durable := b.d.Steps(), b.d.Durable(filePages)
		b.want(set(p), api.OK)
		if b.s.Page() != p || b.d.Steps() != steps+2 || b.d.Pending() != 0 || string(b.d.Durable(filePages)) != string(durable)+string(pageBytes(p)) {
			t.Errorf("Set(%+v): %+v, %d raw steps, %d pending", p, b.s.Page(), b.d.Steps()-steps, b.d.Pending())
		}
		for node := range 2 {
			s, e := restart.Open(b.d, node)
			must(t, "Open", e)
			if s.Page() != p {
				t.Errorf("behind Open: %+v, not %+v", s.Page(), p)
			}
		}
	}
	b.pull()
	b.start(0, 0)
	must(t, "Open", b.open(1))
	if b.s.Page() != primary(2, 3) {
		t.Errorf("behind a start: %+v", b.s.Page())
	}
}

// wrongPages lists pages that may not be.
func wrongPages() []api.Page {
	l := []api.Page{{}, {Epoch: 3}, {Epoch: 3, Role: 4}, {Epoch: 3, Role: 255}, {Epoch: 3, Role: api.Replica, Acked: 1}, {Epoch: 3, Role: api.Primary, Phase: api.Heard}, {Epoch: 3, Role: api.Primary, Fork: 1}, {Epoch: 3, Role: api.Replica, Base: 1}, {Epoch: 3, Role: api.Deposed}, {Epoch: 3, Role: api.Deposed, Phase: 5}, {Epoch: 3, Role: api.Deposed, Phase: api.Heard, Fork: 1}, {Epoch: 3, Role: api.Deposed, Phase: api.Heard, Base: 1}, {Epoch: 3, Role: api.Deposed, Phase: api.Forked, Acked: 1, Fork: 1}}
	for _, n := range edges() {
		if n < 1 || n > most {
			l = append(l, replica(n), primary(n, 0), heard(n), deposed(n, api.Cut, 3, 0))
		}
		if n < 0 || n > most {
			l = append(l, primary(3, n), deposed(3, api.Forked, n, 0), deposed(3, api.Cut, n, 0))
		}
		if n < 0 || n > mostBase {
			l = append(l, deposed(3, api.Filed, 3, n))
		}
	}
	return append(l, deposed(3, api.Filed, 3, mostBase+1))
}

// TestSetRefuses: page.Check's error, and ErrBad of what would not be sound; nothing changes by that.
func TestSetRefuses(t *testing.T) {
	b := ready(t, ground(), 0)
	for _, p := range wrongPages() {
		b.want(set(p), api.ErrArg)
	}
	for _, x := range soundnesses() {
		if x.upto > len(x.log) {
			continue // no state has such a disk
		}
		first := x
		first.page = replica(most)
		b := ready(t, first.contents(), 0)
		b.want(set(x.page), x.answer())
		if got := b.s.Page() == x.page; got != x.sound {
			t.Errorf("%s: the page is %+v", x.why, b.s.Page())
		}
	}
}

// TestSetFuse: a fuse that blows at each raw step of Set, and each start behind it.
func TestSetFuse(t *testing.T) {
	for fuse := range 3 {
		for k := range 2 {
			for _, bytes := range []int{0, 1, 6, 7} {
				b := ready(t, ground(), 0)
				b.fuse(fuse)
				e := b.do(set(heard(3)))
				if (e == api.OK) != (fuse == 2) {
					t.Errorf("a fuse of %d: %d", fuse, e)
				}
				if e == api.OK {
					b.pull()
				}
				b.start(k, bytes)
				must(t, "Open", b.open(0))
				if right := fuse == 2 || fuse == 1 && k == 1; (b.s.Page() == heard(3)) != right || !right && b.s.Page() != primary(2, 1) {
					t.Errorf("a fuse of %d, %d, %d: %+v", fuse, k, bytes, b.s.Page())
				}
			}
		}
	}
}

// P21.3

// TestAdd: of none, of one, of many.
func TestAdd(t *testing.T) {
	b := ready(t, ground(), 0)
	log := row(1, 1, 1, 2, 2, 2, 2, 2, 2)
	steps := b.d.Steps()
	b.all(add(), add([]api.Commit{}...))
	if b.d.Steps() != steps {
		t.Errorf("Add of none did %d raw steps", b.d.Steps()-steps)
	}
	b.all(add(log[3]))
	if n := b.d.Steps() - steps; n != (len(logBytes(log[3]))+63)/64+1 {
		t.Errorf("Add of one did %d raw steps", n)
	}
	steps = b.d.Steps()
	b.all(add(log[4:7]...))
	if n := b.d.Steps() - steps; n != 4 || b.d.Pending() != 0 {
		t.Errorf("Add of three did %d raw steps, %d are pending", n, b.d.Pending())
	}
	b.all(add(log[7]))
	wantTold(t, "behind Add", b.s, primary(2, 1), log, runsOf(log, 1))
	must(t, "Open", b.open(0))
	wantTold(t, "behind Open", b.s, primary(2, 1), log, runsOf(log, 1))
	if string(b.d.Durable(fileLog)) != string(logBytes(log...)) {
		t.Errorf("file 0 is not the log")
	}
}

// TestAddRefuses: each fault of commit.Follows behind the log.
func TestAddRefuses(t *testing.T) {
	b := ready(t, ground(), 0)
	for _, c := range []struct {
		l []api.Commit
		e api.Errno
	}{
		{[]api.Commit{{}}, api.ErrArg},
		{[]api.Commit{one(0, 4)}, api.ErrArg},
		{[]api.Commit{one(-1, 4)}, api.ErrArg},
		{[]api.Commit{one(most+1, 4)}, api.ErrArg},
		{[]api.Commit{one(math.MaxInt, 4)}, api.ErrArg},
		{[]api.Commit{one(2, 0)}, api.ErrArg},
		{[]api.Commit{one(2, -1)}, api.ErrArg},
		{[]api.Commit{one(2, most+1)}, api.ErrArg},
		{[]api.Commit{one(2, math.MinInt)}, api.ErrArg},
		{[]api.Commit{with(2, 4)}, api.ErrArg},
		{[]api.Commit{with(2, 4, nine()...)}, api.ErrLong},
		{[]api.Commit{with(2, 4, del(""))}, api.ErrArg},
		{[]api.Commit{with(2, 4, del(of(17)))}, api.ErrArg},
		{[]api.Commit{with(2, 4, put("a", of(33)))}, api.ErrArg},
		{[]api.Commit{with(2, 4, api.Op{Key: "a", Value: "1"})}, api.ErrArg},
		{[]api.Commit{one(2, 3)}, api.ErrOrder},
		{[]api.Commit{one(2, 5)}, api.ErrOrder},
		{[]api.Commit{one(2, 1)}, api.ErrOrder},
		{[]api.Commit{one(1, 4)}, api.ErrOrder},
		{[]api.Commit{one(2, most)}, api.ErrOrder},
		{[]api.Commit{one(2, 4), one(2, 4)}, api.ErrOrder},
		{[]api.Commit{one(2, 4), one(2, 6)}, api.ErrOrder},
		{[]api.Commit{one(2, 4), one(1, 5)}, api.ErrOrder},
		{[]api.Commit{one(2, 4), with(2, 5)}, api.ErrArg},
		{[]api.Commit{one(2, 4), with(2, 5, nine()...)}, api.ErrLong},
		// The first place counts, and there what may not be ahead of the order.
		{[]api.Commit{one(2, 5), with(2, 6)}, api.ErrOrder},
		{[]api.Commit{with(2, 4, nine()...), one(2, 6)}, api.ErrLong},
		{[]api.Commit{with(1, 7, nine()...)}, api.ErrLong},
		{[]api.Commit{with(1, 7)}, api.ErrArg},
		// And all of it ahead of what would not be sound.
		{[]api.Commit{one(3, 5)}, api.ErrOrder},
		{[]api.Commit{one(3, 4), one(2, 5)}, api.ErrOrder},
		{[]api.Commit{one(3, 4), with(3, 5)}, api.ErrArg},
		{[]api.Commit{with(3, 4, nine()...)}, api.ErrLong},
		{[]api.Commit{one(3, 4)}, api.ErrBad},
		{[]api.Commit{one(most, 4)}, api.ErrBad},
		{[]api.Commit{one(2, 4), one(3, 5)}, api.ErrBad},
		{[]api.Commit{one(3, 4), one(3, 5)}, api.ErrBad},
		{[]api.Commit{one(2, 4), one(2, 5)}, api.OK},
	} {
		b.want(add(c.l...), c.e)
	}
	// Of an empty log the number 1 is next, of any epoch.
	b = ready(t, contents{filePages: pageBytes(primary(most, 0))}, 0)
	b.want(add(one(most, 2)), api.ErrOrder)
	b.want(add(one(most, 1)), api.OK)
	b.want(add(one(most-1, 2)), api.ErrOrder)
}

// TestAddSound: the last epoch may not come up to a deposed page's, nor go above any page's; in the phase Cut nothing is added.
func TestAddSound(t *testing.T) {
	log := row(1, 1, 1)
	for _, c := range []struct {
		page  api.Page
		epoch int
		e     api.Errno
	}{
		{primary(2, 0), 1, api.OK}, {primary(2, 0), 2, api.OK}, {primary(2, 0), 3, api.ErrBad},
		{replica(2), 2, api.OK}, {replica(2), 3, api.ErrBad},
		{heard(3), 2, api.OK}, {heard(3), 3, api.ErrBad}, {heard(3), 4, api.ErrBad},
		{deposed(3, api.Forked, 1, 0), 2, api.OK}, {deposed(3, api.Forked, 1, 0), 3, api.ErrBad}, {deposed(3, api.Forked, 2, 0), 1, api.OK},
		{deposed(3, api.Filed, 1, 14), 2, api.OK}, {deposed(3, api.Filed, 1, 14), 3, api.ErrBad}, {deposed(3, api.Filed, 2, 14), 1, api.OK},
		{deposed(3, api.Cut, 2, 0), 1, api.ErrBad}, {deposed(3, api.Cut, 2, 0), 2, api.ErrBad}, {deposed(3, api.Cut, 2, 0), 3, api.ErrBad},
	} {
		b := stateOf(t, c.page, log, []int{1}, 1)
		b.want(add(), api.OK)
		b.want(add(one(c.epoch, 3)), c.e)
		b = stateOf(t, c.page, log, []int{1}, 1)
		b.want(add(one(1, 3), one(c.epoch, 4)), c.e)
	}
}

// TestAddFuse: a fuse that blows at each raw step of Add: behind it some first commits are there, or all.
func TestAddFuse(t *testing.T) {
	l := []api.Commit{one(2, 4), big(2, 5), one(2, 6)}
	steps := 1 + (len(logBytes(l[1]))+63)/64 + 1 + 1
	for fuse := range steps + 1 {
		for k := range fuse + 1 {
			for _, bytes := range []int{0, 5, 100} {
				b := ready(t, ground(), 0)
				b.fuse(fuse)
				b.want(add(l...), map[bool]api.Errno{true: api.OK, false: api.ErrOff}[fuse == steps])
				right := 3
				if fuse == steps {
					right = 6
					b.pull()
				}
				if b.s.End() != right {
					t.Errorf("a fuse of %d: End is %d", fuse, b.s.End())
				}
				b.start(k, bytes)
				must(t, "Open", b.open(0))
				log := slices.Concat(row(1, 1, 1, 2), l)[:b.s.End()]
				if right == 6 && b.s.End() != 6 || b.s.End() < 3 {
					t.Errorf("a fuse of %d, %d, %d: End is %d", fuse, k, bytes, b.s.End())
				}
				wantTold(t, "behind a start", b.s, primary(2, 1), log, runsOf(log, 1))
				wantRead(t, "behind a start", b.s, fold(nil, log))
			}
		}
	}
}

// TestShorten: from the runs' end to the log's end, also to that; one cut and one sync.
func TestShorten(t *testing.T) {
	for _, to := range edges() {
		b := ready(t, ground(), 0)
		if to < 1 || to > 3 {
			b.want(shorten(to), api.ErrArg)
			continue
		}
		steps := b.d.Steps()
		b.want(shorten(to), api.OK)
		if n := b.d.Steps() - steps; n != 2 || b.d.Pending() != 0 {
			t.Errorf("Shorten(%d) did %d raw steps, %d are pending", to, n, b.d.Pending())
		}
		log := row(1, 1, 1, 2)[:to]
		for range 2 {
			wantTold(t, fmt.Sprintf("Shorten(%d)", to), b.s, primary(2, 1), log, runsOf(log, 1))
			must(t, "Open", b.open(0))
		}
		// What is added then follows what is left.
		b.want(add(one(2, to+2)), api.ErrOrder)
		b.want(add(one(1, to+1)), map[bool]api.Errno{true: api.OK, false: api.ErrOrder}[to < 3])
		b.want(add(one(2, b.s.End()+1)), api.OK)
	}
	// Of a log without runs all may go, and of no log nothing.
	b := stateOf(t, primary(2, 0), row(1, 1, 2), nil, 0)
	b.all(shorten(0), shorten(0), add(one(1, 1)))
	b.want(shorten(2), api.ErrArg)
	b.want(shorten(-1), api.ErrArg)
}

// TestShortenSound: not below Acked, nor below the fork; in the phase Cut not at all.
func TestShortenSound(t *testing.T) {
	log := row(1, 1, 1, 2)
	for _, c := range []struct {
		page api.Page
		to   int
		e    api.Errno
	}{
		{primary(2, 2), 3, api.OK}, {primary(2, 2), 2, api.OK}, {primary(2, 2), 1, api.ErrBad}, {primary(2, 2), 0, api.ErrArg}, {primary(2, 3), 2, api.ErrBad},
		{replica(2), 1, api.OK}, {heard(3), 1, api.OK},
		{deposed(3, api.Forked, 2, 0), 3, api.OK}, {deposed(3, api.Forked, 2, 0), 2, api.OK}, {deposed(3, api.Forked, 2, 0), 1, api.ErrBad}, {deposed(3, api.Forked, 2, 0), 0, api.ErrArg},
		{deposed(3, api.Filed, 2, 0), 3, api.OK}, {deposed(3, api.Filed, 2, 0), 2, api.OK}, {deposed(3, api.Filed, 2, 0), 1, api.ErrBad}, {deposed(3, api.Filed, 2, 0), 4, api.ErrArg},
		{deposed(3, api.Cut, 3, 0), 3, api.OK}, {deposed(3, api.Cut, 3, 0), 2, api.ErrBad}, {deposed(3, api.Cut, 3, 0), 1, api.ErrBad}, {deposed(3, api.Cut, 3, 0), 4, api.ErrArg},
	} {
		stateOf(t, c.page, log, []int{1}, 1).want(shorten(c.to), c.e)
	}
}

// TestShortenFuse: a fuse that blows at each raw step: till then, and at a broken state still, the whole log is told.
func TestShortenFuse(t *testing.T) {
	log := row(1, 1, 1, 2)
	for to := 1; to <= 3; to++ {
		for fuse := range 3 {
			for k := range 2 {
				b := ready(t, ground(), 0)
				b.fuse(fuse)
				b.want(shorten(to), map[bool]api.Errno{true: api.OK, false: api.ErrOff}[fuse == 2])
				right := 3
				if fuse == 2 {
					right = to
					b.pull()
				}
				wantTold(t, "ahead of a start", b.s, primary(2, 1), log[:right], runsOf(log, 1))
				b.start(k, 1)
				must(t, "Open", b.open(0))
				if fuse > 0 && k == 1 {
					right = to
				}
				wantTold(t, "behind a start", b.s, primary(2, 1), log[:right], runsOf(log, 1))
			}
		}
	}
}

// TestFlush: from the runs' end, of which nothing is done, to the log's end.
func TestFlush(t *testing.T) {
	log := row(1, 1, 1, 2)
	for _, upto := range edges() {
		b := ready(t, ground(), 0)
		if upto < 1 || upto > 3 {
			b.want(flush(upto), api.ErrArg)
			continue
		}
		steps := b.d.Steps()
		b.want(flush(upto), api.OK)
		uptos, done := []int{1, upto}, 2
		if upto == 1 {
			uptos, done = []int{1}, 0
		}
		if n := b.d.Steps() - steps; n != done || b.d.Pending() != 0 {
			t.Errorf("Flush(%d) did %d raw steps, %d are pending", upto, n, b.d.Pending())
		}
		for range 2 {
			wantTold(t, fmt.Sprintf("Flush(%d)", upto), b.s, primary(2, 1), log, runsOf(log, uptos...))
			wantRead(t, fmt.Sprintf("Flush(%d)", upto), b.s, fold(nil, log))
			must(t, "Open", b.open(0))
		}
		b.want(flush(upto-1), api.ErrArg)
		b.want(shorten(upto-1), api.ErrArg)
		b.want(flush(upto), api.OK)
	}
	b := ready(t, contents{}, 0)
	b.want(flush(0), api.OK)
	b.want(flush(1), api.ErrArg)
}

// TestFlushSound: the runs' end may come up to the fork, not beyond.
func TestFlushSound(t *testing.T) {
	log := row(1, 1, 1, 2)
	for _, c := range []struct {
		page api.Page
		upto int
		e    api.Errno
	}{
		{primary(2, 0), 3, api.OK}, {replica(2), 3, api.OK}, {heard(3), 3, api.OK},
		{deposed(3, api.Forked, 2, 0), 1, api.OK}, {deposed(3, api.Forked, 2, 0), 2, api.OK}, {deposed(3, api.Forked, 2, 0), 3, api.ErrBad}, {deposed(3, api.Forked, 2, 0), 4, api.ErrArg}, {deposed(3, api.Forked, 2, 0), 0, api.ErrArg},
		{deposed(3, api.Filed, 2, 0), 1, api.OK}, {deposed(3, api.Filed, 2, 0), 2, api.OK}, {deposed(3, api.Filed, 2, 0), 3, api.ErrBad}, {deposed(3, api.Filed, 1, 0), 2, api.ErrBad},
		{deposed(3, api.Cut, 3, 0), 3, api.OK}, {deposed(3, api.Cut, 3, 0), 2, api.OK},
	} {
		stateOf(t, c.page, log, []int{1}, 1).want(flush(c.upto), c.e)
	}
}

// TestFlushLong: store.Flush's ErrLong, ahead of which comes what would not be sound.
func TestFlushLong(t *testing.T) {
	log := wide(mostKeys + 1)
	b := stateOf(t, primary(1, 0), log, nil, 0)
	steps := b.d.Steps()
	b.want(flush(len(log)), api.ErrLong)
	if b.d.Steps() != steps {
		t.Errorf("raw steps were done")
	}
	b.want(set(deposed(2, api.Forked, len(log)-1, 0)), api.OK)
	b.want(flush(len(log)), api.ErrBad)
	b.want(flush(len(log)-1), api.OK)
	b.want(set(replica(2)), api.OK)
	b.want(flush(len(log)), api.OK)
}

// TestFlushFuse: a fuse that blows at each raw step: behind it the run is there or not, and what is read is the same.
func TestFlushFuse(t *testing.T) {
	log := slices.Concat(row(1, 1, 1, 2), []api.Commit{big(2, 4)})
	size := len(runBytes(api.Run{From: 2, Upto: 4, Ops: leftBy(log[1:])}))
	steps := (size+63)/64 + 1
	for fuse := range steps + 1 {
		for k := range fuse + 1 {
			b := ready(t, ground(), 0)
			b.all(add(log[3]))
			b.fuse(fuse)
			b.want(flush(4), map[bool]api.Errno{true: api.OK, false: api.ErrOff}[fuse == steps])
			uptos := []int{1}
			if fuse == steps {
				uptos = []int{1, 4}
				b.pull()
			}
			wantTold(t, "ahead of a start", b.s, primary(2, 1), log, runsOf(log, uptos...))
			b.start(k, 60)
			must(t, "Open", b.open(0))
			if fuse >= steps-1 && k >= steps-1 {
				uptos = []int{1, 4}
			}
			wantTold(t, "behind a start", b.s, primary(2, 1), log, runsOf(log, uptos...))
			wantRead(t, "behind a start", b.s, fold(nil, log))
		}
	}
}

// P21.4

// TestReads: Log, End, Get, Runs and Base tell what there is, and do nothing to the disk.
func TestReads(t *testing.T) {
	log := row(1, 1, 1, 2, 2)
	b := stateOf(t, primary(2, 2), log, []int{1, 2}, 2)
	ahead := lookAt(b.d)
	for range 2 {
		wantTold(t, "reads", b.s, primary(2, 2), log, runsOf(log, 1, 2))
		wantBase(t, "reads", b.s, 28, api.OK)
	}
	wantLook(t, "reads", b.d, ahead)
	// Page, Log, End, Get and Runs don't ask whether the disk is on, and break nothing.
	b.pull()
	wantTold(t, "off", b.s, primary(2, 2), log, runsOf(log, 1, 2))
	b.start(0, 0)
	b.want(add(one(2, 5)), api.OK)
	b.want(set(primary(2, 5)), api.OK)
}

// TestGetBesideRuns: the runs tell of the first commits, the log of the others.
func TestGetBesideRuns(t *testing.T) {
	// These runs tell otherwise than the log: so it is seen which of them is asked.
	log := []api.Commit{with(1, 1, put("a", "log"), put("b", "log"), put("c", "log")), with(1, 2, put("b", "rest"), del("ab"))}
	x := api.Run{From: 1, Upto: 1, Ops: []api.Op{put("a", "run"), put("ab", "run"), put("b", "run"), del("c")}}
	b := ready(t, contents{fileLog: logBytes(log...), fileRuns: runBytes(x)}, 0)
	for key, right := range map[string]string{"a": "run", "b": "rest", "ab": "", "c": "", "d": ""} {
		if value, there := b.s.Get(key); value != right || there != (right != "") {
			t.Errorf("Get(%s) = %q, %v", key, value, there)
		}
	}
	b.all(shorten(1))
	if value, there := b.s.Get("b"); value != "run" || !there {
		t.Errorf("behind Shorten Get(b) = %q, %v", value, there)
	}
}

// TestOrphan: a section is written behind a base, in the place of what stood there, and is durable.
func TestOrphan(t *testing.T) {
	x := func(epoch int) api.Section { return holds(epoch, 1, one(1, 2)) }
	b := ready(t, contents{}, 0)
	for _, c := range []struct {
		base  int
		x     api.Section
		right []api.Section
		steps int
	}{
		{0, x(2), []api.Section{x(2)}, 2},
		{14, x(3), []api.Section{x(2), x(3)}, 2},
		{14, x(9), []api.Section{x(2), x(9)}, 3},
		{14, x(9), []api.Section{x(2), x(9)}, 3},
		{28, x(10), []api.Section{x(2), x(9), x(10)}, 2},
		{14, x(4), []api.Section{x(2), x(4)}, 3},
		{0, x(most), []api.Section{x(most)}, 3},
		{0, holds(5, 0, row(1, 1, 1, 2, 4)...), []api.Section{holds(5, 0, row(1, 1, 1, 2, 4)...)}, 0},
	} {
		steps := b.d.Steps()
		b.want(orphaned(c.base, c.x), api.OK)
		if n := b.d.Steps() - steps; c.steps != 0 && n != c.steps || b.d.Pending() != 0 {
			t.Errorf("Orphan(%d, %s) did %d raw steps, %d are pending", c.base, short(c.x), n, b.d.Pending())
		}
		if got := b.d.Durable(fileOrphans); string(got) != string(orphanBytes(c.right...)) {
			t.Errorf("Orphan(%d, %s): the file is %v", c.base, short(c.x), got)
		}
		wantBase(t, "Orphan", b.s, len(orphanBytes(c.right...)), api.OK)
		must(t, "Open", b.open(0))
	}
}

// wrongSections lists sections that may not be, with orphan.Check's error.
func wrongSections() map[api.Errno][]api.Section {
	return map[api.Errno][]api.Section{
		api.ErrArg: {
			{}, holds(4, 1), holds(0, 1, one(1, 2)), holds(-1, 1, one(1, 2)), holds(most+1, 1, one(1, 2)), holds(math.MaxInt, 1, one(1, 2)), holds(math.MinInt, 1, one(1, 2)),
			holds(4, -1, one(1, 1)), holds(4, math.MinInt, one(1, 1)), holds(4, 1, with(1, 2)), holds(4, 1, one(0, 2)), holds(4, 1, with(1, 2, del(""))), holds(4, most, one(1, most+1)),
		},
		api.ErrLong:  {holds(4, 1, with(1, 2, nine()...))},
		api.ErrOrder: {holds(4, 1, one(1, 1)), holds(4, 1, one(1, 3)), holds(4, 2, one(1, 2)), holds(4, 1, one(2, 2), one(1, 3)), holds(4, 1, one(4, 2)), holds(4, 1, one(5, 2)), holds(4, math.MaxInt, one(1, 1)), holds(4, 1, one(1, 2), one(4, 3))},
	}
}

// TestOrphanRefuses: orphan.Check's error, then the base, then what stands ahead of it and the page.
func TestOrphanRefuses(t *testing.T) {
	b := stateOf(t, primary(2, 0), row(1, 1), nil, 3) // sections of the epochs 2, 3 and 4, 14 bytes each
	for e, l := range wrongSections() {
		for _, x := range l {
			for _, at := range []int{42, 41, -1, 43, 0, math.MaxInt} {
				b.want(orphaned(at, x), e)
			}
		}
	}
	for _, at := range edges() {
		if at < 0 || at > 42 {
			b.want(orphaned(at, holds(5, 1, one(1, 2))), api.ErrArg)
			b.want(orphaned(at, holds(2, 1, one(1, 2))), api.ErrArg)
		}
	}
	b.want(orphaned(43, holds(5, 1, one(1, 2))), api.ErrArg)
	for at := range 43 {
		for epoch := 2; epoch < 7; epoch++ {
			right := api.ErrBad
			if at%14 == 0 && epoch > at/14+1 {
				right = api.OK
			}
			b := stateOf(t, primary(2, 0), row(1, 1), nil, 3)
			b.want(orphaned(at, holds(epoch, 1, one(1, 2))), right)
		}
	}
}

// TestOrphanPhase: in the late phases nothing ahead of the page's base is cut off.
func TestOrphanPhase(t *testing.T) {
	x := holds(6, 1, one(1, 2))
	for _, phase := range late() {
		for _, own := range []int{0, 1, 13, 14, 15, 27, 28, 29, 42} {
			for at := 0; at <= 42; at += 14 {
				right := api.OK
				if at < own {
					right = api.ErrBad
				}
				b := stateOf(t, deposed(9, phase, 1, own), row(1, 1), nil, 3)
				b.want(orphaned(at, x), right)
				must(t, "Open", b.open(0))
			}
		}
	}
	// In the others there is no base: all may be cut off.
	for _, p := range []api.Page{primary(9, 1), replica(9), heard(9)} {
		stateOf(t, p, row(1, 1), nil, 3).want(orphaned(0, x), api.OK)
	}
	// A base that is out of its bounds, and one that is below the page's.
	b := stateOf(t, deposed(9, api.Filed, 1, 42), row(1, 1), nil, 3)
	b.want(orphaned(-1, x), api.ErrArg)
	b.want(orphaned(43, x), api.ErrArg)
}

// TestOrphanFuse: a fuse that blows at each raw step; behind each start the section is written anew, and the file is the same.
func TestOrphanFuse(t *testing.T) {
	x := holds(5, 2, row(3, 2, 2)...)
	write := (len(orphanBytes(x)) + 63) / 64
	for _, cut := range []int{0, 1} {
		steps := cut + write + 1
		for fuse := range steps + 1 {
			for k := range fuse + 1 {
				b := stateOf(t, deposed(5, api.Forked, 2, 14), row(1, 1, 1, 2, 2), []int{1}, 1+cut)
				b.fuse(fuse)
				b.want(orphaned(14, x), map[bool]api.Errno{true: api.OK, false: api.ErrOff}[fuse == steps])
				if fuse == steps {
					b.pull()
				}
				b.start(k, 9)
				must(t, "Open", b.open(0))
				b.all(orphaned(14, x))
				if got := b.d.Durable(fileOrphans); string(got) != string(orphanBytes(example(), x)) {
					t.Errorf("a fuse of %d, %d: the file is %v", fuse, k, got)
				}
			}
		}
	}
}

// TestFileByOthers: file 3 is read when it is asked for; what is torn in it is no base of a page.
func TestFileByOthers(t *testing.T) {
	b := stateOf(t, heard(5), row(1, 1, 1), nil, 1)
	b.both(func(d *disk.Disk) api.Errno { return orphan.Write(d, 14, holds(3, 1, one(1, 2))) })
	wantBase(t, "a section by others", b.s, 28, api.OK)
	b.want(set(deposed(5, api.Forked, 1, 28)), api.OK)
	b.both(func(d *disk.Disk) api.Errno { return d.Write(fileOrphans, []byte{3, 4}) })
	b.both((*disk.Disk).Sync)
	wantBase(t, "torn bytes by others", b.s, 30, api.OK)
	b.want(set(deposed(5, api.Forked, 1, 29)), api.ErrBad)
	b.want(orphaned(30, holds(5, 1, one(1, 2))), api.ErrBad)
	b.want(orphaned(28, holds(5, 1, one(1, 2))), api.OK)
	must(t, "Open", b.open(0))
}

// P21.5

// TestOff: a disk that was pulled: each call answers ErrOff, ahead of all other errors, and does so from then on.
func TestOff(t *testing.T) {
	var wrong []act
	for _, p := range wrongPages() {
		wrong = append(wrong, set(p))
	}
	for _, l := range wrongSections() {
		for _, x := range l {
			wrong = append(wrong, orphaned(14, x))
		}
	}
	for _, n := range edges() {
		wrong = append(wrong, shorten(n), flush(n), orphaned(n, example()), orphaned(n, holds(5, 1, one(1, 2))))
	}
	wrong = append(wrong, set(primary(1, 1)), set(primary(2, 4)), add(), add(with(2, 4)), add(one(2, 5)), add(one(3, 4)))
	for _, first := range append(changing(), wrong...) {
		b := ready(t, ground(), 0)
		b.pull()
		b.want(first, api.ErrOff)
		b.start(0, 0)
		for _, a := range append(changing(), first, add()) {
			b.want(a, api.ErrOff)
		}
		must(t, "Open", b.open(0))
		b.want(add(one(2, 4)), api.OK)
	}
}

// TestBroken: each call during which the disk goes off, at each raw step; then each call answers ErrOff, whatever is done to the disk, and the state tells what it told.
func TestBroken(t *testing.T) {
	log := row(1, 1, 1, 2)
	for _, first := range changing()[:5] {
		for fuse := 0; ; fuse++ {
			b := ready(t, ground(), 0)
			b.fuse(fuse)
			if b.do(first) == api.OK {
				if fuse == 0 {
					t.Errorf("%v did no raw step", first)
				}
				break
			}
			pending := b.d.Pending()
			for k := range pending + 1 {
				b := ready(t, ground(), 0)
				b.fuse(fuse)
				b.want(first, api.ErrOff)
				wantTold(t, "broken, off", b.s, primary(2, 1), log, runsOf(log, 1))
				b.want(first, api.ErrOff)
				b.start(k, 3)
				ahead := lookAt(b.d)
				for _, a := range append(changing(), first) {
					b.want(a, api.ErrOff)
					wantTold(t, "broken, on", b.s, primary(2, 1), log, runsOf(log, 1))
				}
				wantLook(t, "broken", b.d, ahead)
				must(t, "Open", b.open(0))
			}
		}
	}
}

// TestUnnoticed: a disk that was off while no call was done breaks nothing.
func TestUnnoticed(t *testing.T) {
	for _, a := range changing() {
		b := ready(t, ground(), 0)
		b.pull()
		b.start(0, 0)
		b.want(a, api.OK)
	}
}

// TestGround: the calls of the other tests are OK at the ground, each alone.
func TestGround(t *testing.T) {
	for _, a := range changing() {
		ready(t, ground(), 0).want(a, api.OK)
	}
}

// P21.6

// turn is a row of numbers that look like chance, and are the same each time.
type turn uint64

func (x *turn) below(n int) int {
	*x = *x*6364136223846793005 + 1442695040888963407
	return int(uint64(*x) >> 33 % uint64(n))
}

func pick[T any](x *turn, l ...T) T { return l[x.below(len(l))] }

// act answers a call that fits a state more often than not.
func (x *turn) act(m *told) act {
	end, runs, held := len(m.log), runsEnd(m.runs), len(holding(m.disk))
	between := func() int { return max(0, runs-1) + x.below(end-max(0, runs-1)+2) }
	switch x.below(12) {
	case 0, 1, 2, 3:
		return add(x.commits(m)...)
	case 4, 5, 6, 7:
		return set(x.page(m, between, held))
	case 8:
		return shorten(between())
	case 9:
		return flush(between())
	case 10:
		return base()
	}
	return orphaned(pick(x, 0, held, held, m.page.Base, 14, held+1), x.section(m, between()))
}

func (x *turn) commits(m *told) []api.Commit {
	var l []api.Commit
	epoch := max(1, lastEpoch(m.log))
	if m.page.Epoch > epoch && x.below(3) == 0 {
		epoch++
	}
	if x.below(20) == 0 {
		epoch = max(1, epoch-1)
	}
	for at := range x.below(4) {
		number := len(m.log) + 1 + at + x.below(40)/39
		l = append(l, row(number, epoch)...)
		epoch += x.below(12) / 11
	}
	return l
}

func (x *turn) page(m *told, between func() int, held int) api.Page {
	epoch := max(1, m.page.Epoch+pick(x, 0, 0, 0, 1, 1, 2, -1))
	switch x.below(6) {
	case 0, 1:
		return primary(epoch, x.below(len(m.log)+2))
	case 2:
		return replica(epoch)
	case 3:
		return heard(epoch)
	}
	phase := pick(x, late()...)
	fork := between()
	if phase == api.Cut {
		fork = pick(x, len(m.log), len(m.log), fork)
	}
	return deposed(epoch, phase, fork, pick(x, 0, held, held, held+1, 14))
}

func (x *turn) section(m *told, fork int) api.Section {
	fork = min(fork, max(0, len(m.log)-1))
	s := api.Section{Epoch: max(2, m.page.Epoch+x.below(4)), Fork: fork, Commits: m.log[min(fork, len(m.log)):]}
	if len(s.Commits) == 0 || x.below(4) == 0 {
		s.Commits = row(fork+1, 1, 1)
	}
	return s
}

// moment is what a state is ahead of a call, and that call.
type moment struct {
	page api.Page
	log  []api.Commit
	act  act
}

// script lists calls that look like chance, each with what is told ahead of it, and how many raw steps they do in all.
func script(t *testing.T, seed turn, c contents, node, calls int) ([]moment, int) {
	t.Helper()
	d := diskOf(c)
	m, e := opened(d, node)
	must(t, "the second telling", e)
	ahead := d.Steps()
	var l []moment
	for range calls {
		a := seed.act(m)
		l = append(l, moment{m.page, m.log, a})
		m.do(a)
	}
	return append(l, moment{page: m.page, log: m.log}), d.Steps() - ahead
}

// replay does the calls with a fuse, and answers the disk, which is off then, and how far they came.
func replay(t *testing.T, l []moment, c contents, node, fuse int) (*disk.Disk, moment) {
	t.Helper()
	d := diskOf(c)
	s, e := restart.Open(d, node)
	must(t, "Open", e)
	d.Fuse(fuse)
	for _, x := range l[:len(l)-1] {
		if x.act.doTo(s) == api.ErrOff {
			return d, x
		}
	}
	d.Pull()
	return d, l[len(l)-1]
}

// wantAllowed: Open of the disk is OK, and tells what is allowed where it went off at that moment.
func wantAllowed(t *testing.T, what string, d *disk.Disk, node int, x moment) {
	t.Helper()
	s, e := restart.Open(d, node)
	must(t, what+": Open", e)
	if p := s.Page(); p != x.page && (x.act.call != "Set" || p != x.act.page) {
		t.Fatalf("%s: the page is %+v, not %+v, at %v", what, p, x.page, x.act)
	}
	log := s.Log()
	right := [][]api.Commit{x.log}
	switch x.act.call {
	case "Add":
		for at := range x.act.commits {
			right = append(right, slices.Concat(x.log, x.act.commits[:at+1]))
		}
	case "Shorten":
		right = append(right, x.log[:x.act.number])
	}
	if !slices.ContainsFunc(right, func(l []api.Commit) bool { return alikeLogs(l, log) }) {
		t.Fatalf("%s: the log is %s, not %s, at %v", what, short(log), short(x.log), x.act)
	}
	wantRead(t, what, s, fold(nil, log))
}

// TestPowerCuts: many calls, mixed, the disk going off at each raw step, and started with each number of steps kept and some bytes of the next.
func TestPowerCuts(t *testing.T) {
	cuts := map[string]int{}
	for seed := range 16 {
		node, c := seed%2, contents{}
		if seed%4 > 1 {
			c = ground()
		}
		l, steps := script(t, turn(seed), c, node, 12)
		for fuse := range steps + 1 {
			d, _ := replay(t, l, c, node, fuse)
			for k := range d.Pending() + 1 {
				for _, bytes := range []int{0, 1, 30, 63} {
					d, x := replay(t, l, c, node, fuse)
					cuts[x.act.call]++
					d.Start(k, bytes)
					wantAllowed(t, fmt.Sprintf("seed %d, a fuse of %d, %d, %d", seed, fuse, k, bytes), d, node, x)
				}
			}
		}
	}
	for _, call := range []string{"Set", "Add", "Shorten", "Flush", "Orphan", ""} {
		if cuts[call] < 20 {
			t.Errorf("too few cuts at %q: %v", call, cuts)
		}
	}
}

// TestMixed: many calls, mixed, with fuses, pulls and starts in between; behind each start Open is OK.
func TestMixed(t *testing.T) {
	seen := map[string]int{}
	for seed := range 150 {
		x := turn(seed * 7919)
		b := ready(t, contents{}, seed%2)
		for range 60 {
			x.happen(b, seed%2, seen)
		}
	}
	for _, name := range []string{"Set 0", "Set 5", "Set 6", "Add 0", "Add 5", "Add 6", "Add 15", "Shorten 0", "Shorten 2", "Shorten 5", "Shorten 6", "Flush 0", "Flush 2", "Flush 5", "Flush 6", "Orphan 0", "Orphan 2", "Orphan 5", "Orphan 6", "Orphan 15", "Base 0", "Base 6"} {
		if seen[name] < 5 {
			t.Errorf("too few of %s: %v", name, seen)
		}
	}
}

// happen lets something happen to a disk and its state.
func (x *turn) happen(b *bench, node int, seen map[string]int) {
	b.t.Helper()
	switch {
	case !b.d.On():
		b.start(x.below(6), x.below(64))
		if x.below(3) > 0 {
			break
		}
		fallthrough
	case b.m.broken && x.below(2) == 0, x.below(20) == 0:
		x.reopen(b, node)
	case x.below(12) == 0:
		b.pull()
	case x.below(8) == 0:
		b.fuse(x.below(5))
	}
	a := x.act(b.m)
	seen[fmt.Sprintf("%s %d", a.call, b.do(a))]++
}

// reopen opens a disk that is on; a fuse may blow at that, but not twice.
func (x *turn) reopen(b *bench, node int) {
	b.t.Helper()
	if b.open(node) == api.ErrOff {
		b.start(x.below(3), x.below(64))
		must(b.t, "Open", b.open(node))
	}
	if b.s == nil {
		b.t.Fatal("Open behind a state")
	}
}

// TestGrid: states of a few commits, runs, phases and bases, and each call at the bounds of each, held against the second telling.
func TestGrid(t *testing.T) {
	seen := map[string]int{}
	logs := [][]api.Commit{nil, row(1, 1), row(1, 1, 2, 2)}
	for _, log := range logs {
		for upto := range len(log) + 1 {
			for _, p := range slices.Concat(pagesOf(2), pagesOf(3)) {
				x := soundness{page: p, log: log, upto: upto}
				for _, a := range gridActs(log) {
					b := benchOf(t, x.contents())
					if b.open(0) != api.OK {
						break
					}
					seen[fmt.Sprintf("%s %d", a.call, b.do(a))]++
				}
			}
		}
	}
	for _, name := range []string{"Set 0", "Set 5", "Add 0", "Add 5", "Add 15", "Shorten 0", "Shorten 2", "Shorten 5", "Flush 0", "Flush 2", "Flush 5", "Orphan 0", "Orphan 2", "Orphan 5"} {
		if seen[name] < 20 {
			t.Errorf("too few of %s: %v", name, seen)
		}
	}
}

func gridActs(log []api.Commit) []act {
	end := len(log)
	l := []act{add(), add(one(max(1, lastEpoch(log)), end+1)), add(one(2, end+1), one(2, end+2)), add(one(3, end+1)), add(one(3, end+2))}
	for n := -1; n <= end+1; n++ {
		l = append(l, shorten(n), flush(n))
	}
	for _, at := range []int{0, 13, 14, 15} {
		l = append(l, orphaned(at, holds(2, 1, one(1, 2))), orphaned(at, holds(3, 1, one(1, 2))))
	}
	for _, p := range []api.Page{primary(2, end), primary(2, end+1), replica(1), heard(2), heard(3), deposed(3, api.Forked, end, 14), deposed(3, api.Filed, 1, 15), deposed(3, api.Cut, 1, 14)} {
		l = append(l, set(p))
	}
	return l
}

// TestSecondState: a state goes on where the one ahead of it left off, also one of the other node.
func TestSecondState(t *testing.T) {
	b := ready(t, contents{}, 1)
	for round := range 20 {
		n := b.s.End()
		b.all(add(row(n+1, 1+round, 1+round)...), set(primary(2+round, n+1)), flush(n+1))
		must(t, "Open", b.open(round%2))
	}
	if b.s.End() != 40 || b.s.Page() != primary(21, 39) || len(b.s.Runs()) != 20 {
		t.Errorf("%d commits, %+v, %d runs", b.s.End(), b.s.Page(), len(b.s.Runs()))
	}
}

// TestGreatest: a log of the greatest number of commits there is.
func TestGreatest(t *testing.T) {
	if testing.Short() {
		t.Skip("a great log")
	}
	var file []byte
	for at := range most - 1 {
		file = append(file, framed(sure(commit.Encode(one(1, at+1))))...)
	}
	d := diskOf(contents{fileLog: file})
	s, e := restart.Open(d, 0)
	must(t, "Open", e)
	want(t, "Set of an Acked behind the end", s.Set(primary(most, most)), api.ErrBad)
	must(t, "Add", s.Add(one(1, most)))
	want(t, "Add of one more", s.Add(one(1, most+1)), api.ErrArg)
	want(t, "Add of the last once more", s.Add(one(1, most)), api.ErrOrder)
	must(t, "Set", s.Set(primary(most, most)))
	want(t, "Shorten below Acked", s.Shorten(most-1), api.ErrBad)
	must(t, "Set", s.Set(deposed(most, api.Cut, most, 0)))
	must(t, "Flush", s.Flush(most))
	want(t, "Shorten below the runs", s.Shorten(most-1), api.ErrArg)
	must(t, "Shorten", s.Shorten(most))
	if s.End() != most || len(s.Log()) != most {
		t.Errorf("End is %d", s.End())
	}
}

// Rule 5

// TestNobodyMade: each call of a state that is nil, and of one that was declared.
func TestNobodyMade(t *testing.T) {
	for name, s := range map[string]*restart.State{"nil": nil, "declared": {}, "new": new(restart.State)} {
		acts := append(changing(), add(), add(with(0, 0)), set(api.Page{}), orphaned(-1, api.Section{}))
		for _, n := range edges() {
			acts = append(acts, shorten(n), flush(n), orphaned(n, example()))
		}
		for _, a := range acts {
			want(t, name+": "+a.String(), a.doTo(s), api.ErrNil)
		}
		if n, e := s.Base(); n != 0 || e != api.ErrNil {
			t.Errorf("%s: Base is %d, %d", name, n, e)
		}
		wantTold(t, name, s, api.Page{}, nil, nil)
	}
}

// TestMethods: a state has just the calls that the chapter lists: none of those of what it is made of.
func TestMethods(t *testing.T) {
	var got []string
	kind := reflect.TypeOf(&restart.State{})
	for at := range kind.NumMethod() {
		got = append(got, kind.Method(at).Name)
	}
	if right := []string{"Add", "Base", "End", "Flush", "Get", "Log", "Orphan", "Page", "Runs", "Set", "Shorten"}; !slices.Equal(got, right) {
		t.Errorf("%v, not %v", got, right)
	}
	for at := range kind.Elem().NumField() {
		if f := kind.Elem().Field(at); f.IsExported() {
			t.Errorf("the field %s is exported", f.Name)
		}
	}
}

// What is handed in and handed out.

// roomy answers the commits in a list that has spare room, as have their ops; the room is marked.
func roomy(l []api.Commit) []api.Commit {
	out := make([]api.Commit, len(l), len(l)+2)
	for at, c := range l {
		ops := make([]api.Op, len(c.Ops), len(c.Ops)+2)
		copy(ops, c.Ops)
		mark(ops[len(ops):cap(ops)])
		out[at] = with(c.Epoch, c.Number, ops...)
	}
	for at := len(l); at < cap(out); at++ {
		out[:cap(out)][at] = with(77, 77, put("spare", "spare"))
	}
	return out
}

func mark(l []api.Op) {
	for at := range l {
		l[at] = put("spare", "spare")
	}
}

// whole answers a list with its spare room, the ops' too, in memory of its own.
func whole(l []api.Commit) []api.Commit {
	out := slices.Clone(l[:cap(l)])
	for at, c := range out {
		out[at].Ops = slices.Clone(c.Ops[:cap(c.Ops)])
	}
	return out
}

// spoil changes all of a list, its spare room too.
func spoil(l []api.Commit) {
	l = l[:cap(l)]
	for at := range l {
		mark(l[at].Ops[:cap(l[at].Ops)])
		l[at] = with(88, 88, put("spoilt", "spoilt"))
	}
}

// TestHandedIn: what is handed in is left as it was, and not looked at later, where a call is OK and where it is not.
func TestHandedIn(t *testing.T) {
	for _, fuse := range []int{0, 1, 2, 3, 100} {
		for _, first := range []int{4, 5} {
			b := ready(t, ground(), 0)
			b.fuse(fuse)
			l := roomy(row(first, 2, 2, 2))
			ahead := whole(l)
			b.do(add(l...))
			if !alikeLogs(whole(l), ahead) {
				t.Errorf("a fuse of %d: Add changed what it was handed: %s", fuse, short(l))
			}
			spoil(l)
			b.compare("behind the caller's changes")
		}
		b := ready(t, ground(), 0)
		b.fuse(fuse)
		x := holds(3, 1, roomy(row(2, 1, 2, 2))...)
		ahead := whole(x.Commits)
		b.do(orphaned(14, x))
		if x.Epoch != 3 || x.Fork != 1 || !alikeLogs(whole(x.Commits), ahead) {
			t.Errorf("a fuse of %d: Orphan changed what it was handed: %s", fuse, short(x))
		}
		spoil(x.Commits)
		b.compare("behind the caller's changes")
	}
}

// TestHandedOut: what is handed out may be changed, without changing the state or another answer.
func TestHandedOut(t *testing.T) {
	b := ready(t, ground(), 0)
	b.all(flush(2), add(row(4, 2, 2)...))
	wantOwn(t, b)
	b.all(shorten(4))
	wantOwn(t, b)
	// Also at a broken state, whose log the wal knows no more.
	b.fuse(1)
	b.want(shorten(2), api.ErrOff)
	wantOwn(t, b)
	b.start(1, 0)
	wantOwn(t, b)
}

// wantOwn: two answers of one call share nothing with each other, nor with the state.
func wantOwn(t *testing.T, b *bench) {
	t.Helper()
	l, other := b.s.Log(), b.s.Log()
	runs, others := b.s.Runs(), b.s.Runs()
	spoil(l)
	for _, x := range runs[:cap(runs)] {
		mark(x.Ops[:cap(x.Ops)])
	}
	for at := range runs {
		runs[at] = api.Run{From: 88}
	}
	if !alikeLogs(other, b.m.log) || !alikeRuns(others, b.m.runs) {
		t.Errorf("two answers share memory: %s, %s", short(other), short(others))
	}
	b.compare("behind changes of what was handed out")
}

// FuzzCalls: calls out of bytes, held against the second telling.
func FuzzCalls(f *testing.F) {
	for seed := range 8 {
		f.Add(uint64(seed), uint8(20), uint8(seed), []byte{})
	}
	f.Add(uint64(3), uint8(5), uint8(1), logBytes(row(1, 1, 1)...))
	f.Add(uint64(4), uint8(5), uint8(5), pageBytes(primary(1, 0), heard(2)))
	f.Add(uint64(5), uint8(5), uint8(10), runBytes(api.Run{From: 1, Upto: 1}))
	f.Add(uint64(6), uint8(5), uint8(15), orphanBytes(example()))
	f.Fuzz(func(t *testing.T, seed uint64, calls, where uint8, torn []byte) {
		c := ground()
		if where>>4&1 == 1 {
			c = contents{}
		}
		file := int(where >> 2 & 3)
		c[file] = append(c[file], torn...)
		node := int(where & 1)
		b := benchOf(t, c)
		if b.open(node) != api.OK {
			return
		}
		x := turn(seed)
		for range calls {
			x.happen(b, node, map[string]int{})
		}
	})
}
