package reconcile_test

import (
	"fmt"
	"math"
	"slices"
	"strings"
	"testing"

	"lagleash/api"
	"lagleash/commit"
	"lagleash/disk"
	"lagleash/frame"
	"lagleash/letter"
	"lagleash/orphan"
	"lagleash/page"
	"lagleash/reconcile"
	"lagleash/restart"
	"lagleash/run"
	"lagleash/wal"
)

// The limits, as the document writes them.
const (
	most     = 1048576    // the greatest epoch and number
	mostBase = 1073741824 // the greatest Base of a page
	files    = 4          // of a disk
)

// The files of a disk, as the document numbers them.
const (
	fileLog = iota
	filePages
	fileRuns
	fileOrphans
)

func put(key, value string) api.Op { return api.Op{Put: true, Key: key, Value: value} }
func del(key string) api.Op        { return api.Op{Key: key} }

func of(count int) string { return strings.Repeat("k", count) }

func with(epoch, number int, ops ...api.Op) api.Commit {
	return api.Commit{Epoch: epoch, Number: number, Ops: ops}
}

// one is a commit of put a 1: its frame has 10 bytes, as long as its epoch and its number are small.
func one(epoch, number int) api.Commit { return with(epoch, number, put("a", "1")) }

// big is a batch of the greatest size there is: its frame takes several raw writes.
func big() []api.Op {
	var l []api.Op
	for i := range 8 {
		l = append(l, put(string(rune('a'+i))+of(15), of(32)))
	}
	return l
}

// row lists commits of the epochs, numbered from first on, each of which changes what is read.
func row(first int, epochs ...int) []api.Commit {
	var l []api.Commit
	for i, epoch := range epochs {
		number := first + i
		value := string([]byte{byte('0' + epoch%10), byte('0' + number%10)})
		switch number % 4 {
		case 1:
			l = append(l, with(epoch, number, put("a", value)))
		case 2:
			l = append(l, with(epoch, number, put("b", value), put("a", value+"!"), put("ab", "")))
		case 3:
			l = append(l, with(epoch, number, del("a"), put("\x00\xff", value)))
		default:
			l = append(l, with(epoch, number, append(big()[:7], put("b", value))...))
		}
	}
	return l
}

func primary(epoch, acked int) api.Page {
	return api.Page{Epoch: epoch, Role: api.Primary, Acked: acked}
}
func replica(epoch int) api.Page { return api.Page{Epoch: epoch, Role: api.Replica} }
func heard(epoch int) api.Page   { return api.Page{Epoch: epoch, Role: api.Deposed, Phase: api.Heard} }

func deposed(epoch int, phase api.Phase, fork, base int) api.Page {
	return api.Page{Epoch: epoch, Role: api.Deposed, Phase: phase, Fork: fork, Base: base}
}

// late lists the phases in which a page has a fork and a base.
func late() []api.Phase { return []api.Phase{api.Forked, api.Filed, api.Cut} }

func holds(epoch, fork int, l ...api.Commit) api.Section {
	return api.Section{Epoch: epoch, Fork: fork, Commits: l}
}

// starting lists starts, each written (epoch, first), as the document does.
func starting(pairs ...[2]int) []api.Start {
	var l []api.Start
	for _, x := range pairs {
		l = append(l, api.Start{Epoch: x[0], First: x[1]})
	}
	return l
}

// hello is one of a primary.
func hello(epoch, end int, l ...[2]int) api.Message {
	return api.Message{Kind: api.Hello, Epoch: epoch, Role: api.Primary, End: end, Starts: starting(l...)}
}

// helloOf is the hello of a primary whose commits have these epochs.
func helloOf(epoch int, epochs ...int) api.Message {
	var l [][2]int
	for i, x := range epochs {
		if i == 0 || x != epochs[i-1] {
			l = append(l, [2]int{x, i + 1})
		}
	}
	return hello(epoch, len(epochs), l...)
}

// theHello is that of the chapter's examples.
func theHello() api.Message { return hello(2, 4, [2]int{1, 1}, [2]int{2, 3}) }

// Bytes of files, by the calls of the layers below.

func sure[T any](x T, e api.Errno) T {
	if e != api.OK {
		panic(fmt.Sprintf("a test asks for what may not be: %d", e))
	}
	return x
}

func framed(record []byte) []byte { return sure(frame.Append(nil, record)) }

func logBytes(l ...api.Commit) []byte {
	var b []byte
	for _, c := range l {
		b = append(b, framed(sure(commit.Encode(c)))...)
	}
	return b
}

func pageBytes(l ...api.Page) []byte {
	var b []byte
	for _, p := range l {
		b = append(b, framed(sure(page.Encode(p)))...)
	}
	return b
}

func runBytes(l ...api.Run) []byte {
	var b []byte
	for _, x := range l {
		b = append(b, framed(sure(run.Encode(x)))...)
	}
	return b
}

func orphanBytes(l ...api.Section) []byte {
	var b []byte
	for _, x := range l {
		b = append(b, sure(orphan.Encode(x))...)
	}
	return b
}

// runsOf lists runs of a log's first commits, each up to one of the numbers.
func runsOf(log []api.Commit, uptos ...int) []api.Run {
	var l []api.Run
	from := 1
	for _, upto := range uptos {
		l = append(l, api.Run{From: from, Upto: upto, Ops: leftBy(log[from-1 : upto])})
		from = upto + 1
	}
	return l
}

// leftBy lists what commits leave, key by key.
func leftBy(l []api.Commit) []api.Op {
	last := map[string]api.Op{}
	for _, c := range l {
		for _, o := range c.Ops {
			last[o.Key] = o
		}
	}
	var ops []api.Op
	for _, o := range last {
		ops = append(ops, o)
	}
	slices.SortFunc(ops, func(a, b api.Op) int { return strings.Compare(a.Key, b.Key) })
	return ops
}

// fold is what is read behind all ops of the commits.
func fold(l []api.Commit) map[string]string {
	read := map[string]string{}
	for _, c := range l {
		for _, o := range c.Ops {
			delete(read, o.Key)
			if o.Put {
				read[o.Key] = o.Value
			}
		}
	}
	return read
}

func runsEnd(l []api.Run) int {
	end := 0
	for _, x := range l {
		end = x.Upto
	}
	return end
}

// A second telling: what a state is to be, and a disk to which just those raw steps are done that the document names.

type told struct {
	disk   *disk.Disk
	page   api.Page
	log    []api.Commit
	runs   []api.Run
	broken bool
}

// fits is the second telling of a hello that fits.
func fits(p api.Page, m api.Message) bool {
	return p.Role == api.Deposed && m.Kind == api.Hello && letter.Check(m) == api.OK && m.Epoch == p.Epoch && m.Role == api.Primary
}

// forkOf is the second telling of the fork: number by number.
func forkOf(log []api.Commit, m api.Message) int {
	fork, epoch := 0, 0
	for n := 1; n <= min(len(log), m.End); n++ {
		for _, s := range m.Starts {
			if s.First == n {
				epoch = s.Epoch
			}
		}
		if log[n-1].Epoch == epoch {
			fork = n
		}
	}
	return fork
}

// holding answers what file 3 of the disk holds.
func holding(d *disk.Disk) []byte {
	b, _ := d.Read(fileOrphans)
	return b
}

// runsIn lists the runs in a file's bytes, and their good length.
func runsIn(file []byte) ([]api.Run, int) {
	var l []api.Run
	records, _ := frame.Scan(file)
	for _, record := range records {
		x, e := run.Decode(record)
		if e != api.OK || x.From != runsEnd(l)+1 {
			break
		}
		l = append(l, x)
	}
	return l, len(runBytes(l...))
}

// opened is the second telling of restart.Open, of a disk that is sound.
func opened(d *disk.Disk) (*told, api.Errno) {
	if !d.On() {
		return nil, api.ErrOff
	}
	m := &told{disk: d}
	var held [files][]byte
	for file := range files {
		held[file], _ = d.Read(file)
	}
	var good [files]int
	m.log, good[fileLog] = wal.Scan(held[fileLog])
	m.page, good[filePages], _ = page.Last(held[filePages], 0)
	m.runs, good[fileRuns] = runsIn(held[fileRuns])
	_, good[fileOrphans] = orphan.Scan(held[fileOrphans])
	for file := range files {
		if good[file] < len(held[file]) && (m.off(d.Cut(file, good[file])) || m.off(d.Sync())) {
			return nil, api.ErrOff
		}
	}
	return m, api.OK
}

// off says whether the disk went off at a raw step.
func (m *told) off(e api.Errno) bool {
	m.broken = e == api.ErrOff
	return m.broken
}

// step is the second telling of Step.
func (m *told) step(hello api.Message) (api.Page, api.Errno) {
	p := m.page
	switch {
	case p.Role != api.Deposed:
		return api.Page{}, api.ErrArg
	case p.Phase == api.Heard && !fits(p, hello):
		return api.Page{}, api.ErrMissing
	case m.broken || !m.disk.On():
		m.broken = true
		return api.Page{}, api.ErrOff
	}
	switch p.Phase {
	case api.Heard:
		fork := forkOf(m.log, hello)
		if fork < runsEnd(m.runs) {
			return api.Page{}, api.ErrBad
		}
		return m.set(deposed(p.Epoch, api.Forked, fork, len(holding(m.disk))))
	case api.Forked:
		if e := m.orphan(); e != api.OK {
			return api.Page{}, e
		}
		return m.set(deposed(p.Epoch, api.Filed, p.Fork, p.Base))
	case api.Filed:
		left := m.log[:p.Fork]
		if m.off(m.disk.Cut(fileLog, len(logBytes(left...)))) || m.off(m.disk.Sync()) {
			return api.Page{}, api.ErrOff
		}
		m.log = left
		return m.set(deposed(p.Epoch, api.Cut, p.Fork, p.Base))
	}
	return m.set(replica(p.Epoch))
}

// orphan is the second telling of what is done to file 3.
func (m *told) orphan() api.Errno {
	p := m.page
	if len(m.log) == p.Fork {
		return api.OK
	}
	file := holding(m.disk)
	for _, x := range scanned(file[:p.Base]) {
		if x.Epoch >= p.Epoch {
			return api.ErrBad
		}
	}
	if p.Base < len(file) && m.off(m.disk.Cut(fileOrphans, p.Base)) {
		return api.ErrOff
	}
	if m.off(m.disk.Write(fileOrphans, orphanBytes(holds(p.Epoch, p.Fork, m.log[p.Fork:]...)))) || m.off(m.disk.Sync()) {
		return api.ErrOff
	}
	return api.OK
}

func scanned(file []byte) []api.Section {
	l, _ := orphan.Scan(file)
	return l
}

// set is the second telling of a page that is set.
func (m *told) set(p api.Page) (api.Page, api.Errno) {
	if m.off(m.disk.Write(filePages, pageBytes(p))) || m.off(m.disk.Sync()) {
		return api.Page{}, api.ErrOff
	}
	m.page = p
	return p, api.OK
}

// What is compared, and how.

// short keeps what is told of much readable.
func short(x any) string {
	s := strings.ToValidUTF8(fmt.Sprintf("%v", x), "?")
	if len(s) > 300 {
		return s[:200] + " .. " + s[len(s)-80:]
	}
	return s
}

func alikeLogs(a, b []api.Commit) bool { return slices.EqualFunc(a, b, commit.Same) }

func alikeRuns(a, b []api.Run) bool {
	return slices.EqualFunc(a, b, func(a, b api.Run) bool {
		return a.From == b.From && a.Upto == b.Upto && slices.Equal(a.Ops, b.Ops)
	})
}

func alikeSections(a, b api.Section) bool {
	return a.Epoch == b.Epoch && a.Fork == b.Fork && alikeLogs(a.Commits, b.Commits)
}

// must stops a test whose ground is gone.
func must(t *testing.T, what string, got api.Errno) {
	t.Helper()
	if got != api.OK {
		t.Fatalf("%s: %d", what, got)
	}
}

// wantStep: Step answers that page, or a zero one beside that error.
func wantStep(t *testing.T, what string, s *restart.State, hello api.Message, p api.Page, e api.Errno) {
	t.Helper()
	if got, ge := reconcile.Step(s, hello); got != p || ge != e {
		t.Fatalf("%s: Step = %+v, %d, not %+v, %d", what, got, ge, p, e)
	}
}

func wantLeft(t *testing.T, p api.Page, n int, e api.Errno) {
	t.Helper()
	if got, ge := reconcile.Left(p); got != n || ge != e {
		t.Errorf("Left(%+v) = %d, %d, not %d, %d", p, got, ge, n, e)
	}
}

func wantFits(t *testing.T, why string, p api.Page, m api.Message, right bool) {
	t.Helper()
	if got := reconcile.Fits(p, m); got != right {
		t.Errorf("%s: Fits(%+v, %s) = %v", why, p, short(m), got)
	}
}

// wantLost: Lost answers that section; none, or an error, are answered beside a zero one.
func wantLost(t *testing.T, what string, log []api.Commit, p api.Page, x api.Section, some bool, e api.Errno) {
	t.Helper()
	got, is, ge := reconcile.Lost(log, p)
	if !alikeSections(got, x) || is != some || ge != e {
		t.Errorf("%s: Lost(%s, %+v) = %s, %v, %d, not %s, %v, %d", what, short(log), p, short(got), is, ge, short(x), some, e)
	}
}

// look is what the calls that change nothing tell of a disk.
type look struct {
	on      bool
	pending int
	steps   int
	held    [files]string
	durable [files]string
}

func (l look) String() string {
	return fmt.Sprintf("on %v, %d pending, %d done, held %q, durable %q", l.on, l.pending, l.steps, l.held, l.durable)
}

func lookAt(d *disk.Disk) look {
	l := look{on: d.On(), pending: d.Pending(), steps: d.Steps()}
	for file := range files {
		b, _ := d.Read(file)
		l.held[file] = string(b)
		l.durable[file] = string(d.Durable(file))
	}
	return l
}

func wantLook(t *testing.T, what string, d *disk.Disk, right look) {
	t.Helper()
	if got := lookAt(d); got != right {
		t.Fatalf("%s: the disk is\n%v, not\n%v", what, got, right)
	}
}

// wantTold: the state tells just this page, log and runs, and what is read of them.
func wantTold(t *testing.T, what string, s *restart.State, p api.Page, log []api.Commit, runs []api.Run) {
	t.Helper()
	if got := s.Page(); got != p {
		t.Fatalf("%s: Page is %+v, not %+v", what, got, p)
	}
	if got, n := s.Log(), s.End(); !alikeLogs(got, log) || n != len(log) {
		t.Fatalf("%s: Log and End are %s, %d, not %s", what, short(got), n, short(log))
	}
	if got := s.Runs(); !alikeRuns(got, runs) {
		t.Fatalf("%s: Runs are %s, not %s", what, short(got), short(runs))
	}
	read := fold(log)
	keys := []string{"", "a", "ab", "b", "\x00\xff"}
	for key := range read {
		keys = append(keys, key)
	}
	for _, key := range keys {
		value, there := s.Get(key)
		if right, is := read[key]; value != right || there != is {
			t.Fatalf("%s: Get(%q) = %q, %v, not %q, %v", what, key, value, there, right, is)
		}
	}
}

// contents are the bytes of a disk's files.
type contents [files][]byte

func diskOf(c contents) *disk.Disk {
	d := disk.New()
	for file, b := range c {
		if d.Write(file, b) != api.OK {
			panic("a new disk refuses")
		}
	}
	if d.Pending() > 0 {
		d.Sync()
	}
	return d
}

// bench is a disk with a state, and beside it the second telling of both: each step is done to both, and all that is told is compared.
type bench struct {
	t *testing.T
	d *disk.Disk
	s *restart.State
	m *told
	// twin is the second telling's disk, also where there is no state.
	twin *disk.Disk
}

// benchOf is a bench of a disk that holds these, opened.
func benchOf(t *testing.T, c contents) *bench {
	t.Helper()
	b := &bench{t: t, d: diskOf(c), twin: diskOf(c)}
	must(t, "Open", b.open())
	return b
}

// open opens both anew.
func (b *bench) open() api.Errno {
	b.t.Helper()
	s, e := restart.Open(b.d, 0)
	m, right := opened(b.twin)
	if e != right {
		b.t.Fatalf("Open = %d, not %d", e, right)
	}
	b.s, b.m = s, m
	b.compare("Open")
	return e
}

// compare: the disks are the same, and the state tells what it is to tell.
func (b *bench) compare(what string) {
	b.t.Helper()
	wantLook(b.t, what, b.d, lookAt(b.twin))
	if b.s != nil {
		wantTold(b.t, what, b.s, b.m.page, b.m.log, b.m.runs)
	}
}

// step does a step to both, and answers what both answered.
func (b *bench) step(hello api.Message) (api.Page, api.Errno) {
	b.t.Helper()
	what := fmt.Sprintf("Step(%s) of %+v", short(hello), b.m.page)
	p, e := reconcile.Step(b.s, hello)
	right, re := b.m.step(hello)
	if p != right || e != re {
		b.t.Fatalf("%s = %+v, %d, not %+v, %d", what, p, e, right, re)
	}
	b.compare(what)
	return p, e
}

// want does a step that is to answer that.
func (b *bench) want(hello api.Message, p api.Page, e api.Errno) {
	b.t.Helper()
	if got, ge := b.step(hello); got != p || ge != e {
		b.t.Fatalf("Step(%s) = %+v, %d, not %+v, %d", short(hello), got, ge, p, e)
	}
}

// refuses does a step that is to be refused so, and to change nothing.
func (b *bench) refuses(hello api.Message, e api.Errno) {
	b.t.Helper()
	ahead := lookAt(b.d)
	b.want(hello, api.Page{}, e)
	wantLook(b.t, "a refused step", b.d, ahead)
}

// hear sets the page of a node that hears of that epoch.
func (b *bench) hear(epoch int) api.Errno {
	b.t.Helper()
	e := b.s.Set(heard(epoch))
	if b.m.broken || !b.twin.On() {
		b.m.broken = true
	} else {
		b.m.set(heard(epoch))
	}
	b.compare("Set")
	return e
}

func (b *bench) both(change func(d *disk.Disk) api.Errno) {
	b.t.Helper()
	must(b.t, "the disk", change(b.d))
	must(b.t, "the other disk", change(b.twin))
}

func (b *bench) fuse(n int) {
	b.t.Helper()
	b.both(func(d *disk.Disk) api.Errno { return d.Fuse(n) })
}

func (b *bench) safe() {
	b.t.Helper()
	b.both((*disk.Disk).Safe)
}

func (b *bench) pull() {
	b.t.Helper()
	b.both((*disk.Disk).Pull)
}

func (b *bench) start(k, t int) {
	b.t.Helper()
	b.both(func(d *disk.Disk) api.Errno { return d.Start(k, t) })
}

// way is a reconciliation: what a deposed node has when it begins, the hello that it goes by, and the fork, found by hand.
type way struct {
	name  string
	epoch int // into which it is deposed
	log   []api.Commit
	uptos []int         // of its runs
	filed []api.Section // in its file of orphans already
	hello api.Message
	fork  int
}

// earlier lists sections of reconciliations that are done.
func earlier() []api.Section {
	return []api.Section{holds(2, 1, one(1, 2)), holds(3, 2, row(3, 1, 2)...)}
}

func ways() []way {
	return []way{
		{"the example", 2, row(1, 1, 1, 1), nil, nil, theHello(), 2},
		{"nothing lost", 2, row(1, 1, 1), nil, nil, theHello(), 2},
		{"nothing lost, a shorter log", 2, row(1, 1), nil, earlier()[:0], theHello(), 1},
		{"nothing lost, orphans and runs", 4, row(1, 1, 2), []int{1, 2}, earlier(), helloOf(4, 1, 2, 4), 2},
		{"all lost, the other one has no log", 2, row(1, 1, 1), nil, nil, hello(2, 0), 0},
		{"all lost, other epochs", 4, row(1, 1, 3), nil, earlier(), helloOf(4, 2, 4), 0},
		{"no log", 2, nil, nil, nil, theHello(), 0},
		{"neither has a log", 7, nil, nil, nil, hello(7, 0), 0},
		{"several epochs", 5, row(1, 1, 1, 2, 2, 3, 3), []int{2}, earlier(), helloOf(5, 1, 1, 2, 4, 4, 4), 3},
		{"the other one is shorter", 2, row(1, 1, 1, 1, 1), []int{1}, nil, helloOf(2, 1, 1), 2},
		{"the runs' end at the fork", 2, row(1, 1, 1, 1, 1, 1), []int{1, 3}, nil, helloOf(2, 1, 1, 1, 2, 2), 3},
		{"much is lost", 9, row(1, 1, 1, 1, 1, 1, 1, 1, 8, 8), []int{1}, earlier(), helloOf(9, 1, 1, 9), 2},
		{"an epoch that the other one has later", 4, row(1, 1, 2, 2), nil, nil, helloOf(4, 1, 1, 2), 3},
		{"the greatest epoch", most, row(1, 1, most-1), nil, nil, helloOf(most, 1, most), 1},
	}
}

func (w way) runs() []api.Run { return runsOf(w.log, w.uptos...) }

// contents are a disk's whose node has just been deposed.
func (w way) contents() contents {
	return contents{logBytes(w.log...), pageBytes(replica(1), heard(w.epoch)), runBytes(w.runs()...), orphanBytes(w.filed...)}
}

func (w way) base() int { return len(orphanBytes(w.filed...)) }

// lost is the section that is written: of no commits, if none is lost.
func (w way) lost() api.Section { return holds(w.epoch, w.fork, w.log[w.fork:]...) }

// record is what file 3 holds at the end.
func (w way) record() []byte {
	b := orphanBytes(w.filed...)
	if w.fork < len(w.log) {
		b = append(b, orphanBytes(w.lost())...)
	}
	return b
}

// pages lists the page at which it begins, and those behind each step.
func (w way) pages() []api.Page {
	l := []api.Page{heard(w.epoch)}
	for _, phase := range late() {
		l = append(l, deposed(w.epoch, phase, w.fork, w.base()))
	}
	return append(l, replica(w.epoch))
}

// at is a bench of a node that is so many steps on its way.
func (w way) at(t *testing.T, steps int) *bench {
	t.Helper()
	b := benchOf(t, w.contents())
	for i := range steps {
		b.want(w.hello, w.pages()[i+1], api.OK)
	}
	return b
}

// messages lists messages of all kinds, that may be and that may not.
func messages() []api.Message {
	return []api.Message{
		{}, theHello(), hello(3, 4, [2]int{1, 1}, [2]int{2, 3}), hello(2, 0), hello(2, 3), hello(0, 0), hello(most+1, 0),
		{Kind: api.Hello, Epoch: 2, Role: api.Replica, End: 2, Starts: starting([2]int{1, 1})},
		{Kind: api.Hello, Epoch: 2, Role: api.Deposed},
		{Kind: api.Ship, Epoch: 2, From: 1, Commits: row(1, 1, 2)},
		{Kind: api.Ship, Epoch: 2, From: 0},
		{Kind: api.Ack, Epoch: 2, End: 2}, {Kind: api.Ack, Epoch: 2, End: -1},
		{Kind: -1, Epoch: 2}, {Kind: 4, Epoch: 2, Role: api.Primary}, {Kind: math.MaxInt, Epoch: math.MinInt, End: math.MaxInt},
	}
}

func TestLimits(t *testing.T) {
	for _, c := range []struct {
		name      string
		got, want int
	}{{"MaxNumber", api.MaxNumber, most}, {"MaxFiles", api.MaxFiles, files}, {"RPhases", api.RPhases, 5}, {"FileLog", api.FileLog, fileLog}, {"FilePages", api.FilePages, filePages}, {"FileRuns", api.FileRuns, fileRuns}, {"FileOrphans", api.FileOrphans, fileOrphans}, {"ErrNil", int(api.ErrNil), 1}, {"ErrArg", int(api.ErrArg), 2}, {"ErrMissing", int(api.ErrMissing), 4}, {"ErrBad", int(api.ErrBad), 5}, {"ErrOff", int(api.ErrOff), 6}} {
		if c.got != c.want {
			t.Errorf("%s is %d, not %d", c.name, c.got, c.want)
		}
	}
}

// TestWays: what the ways of these tests say of themselves is so.
func TestWays(t *testing.T) {
	for _, w := range ways() {
		if got := forkOf(w.log, w.hello); got != w.fork {
			t.Errorf("%s: the fork is %d, not %d", w.name, got, w.fork)
		}
		if !fits(heard(w.epoch), w.hello) {
			t.Errorf("%s: the hello does not fit", w.name)
		}
	}
}

// TestExamples: the chapter's table.
func TestExamples(t *testing.T) {
	d := disk.New()
	s, e := restart.Open(d, 0)
	must(t, "Open", e)
	must(t, "Add", s.Add(one(1, 1), one(1, 2), one(1, 3)))
	must(t, "Set", s.Set(heard(2)))
	wantStep(t, "of a Heard one with an ack", s, api.Message{Kind: api.Ack, Epoch: 2, End: 2}, api.Page{}, api.ErrMissing)
	for _, p := range []api.Page{deposed(2, api.Forked, 2, 0), deposed(2, api.Filed, 2, 0), deposed(2, api.Cut, 2, 0), replica(2)} {
		wantStep(t, "the example", s, theHello(), p, api.OK)
	}
	l, good := orphan.Scan(d.Durable(fileOrphans))
	if len(l) != 1 || !alikeSections(l[0], holds(2, 2, one(1, 3))) || good != len(d.Durable(fileOrphans)) {
		t.Errorf("the file of orphans: %s", short(l))
	}
	if s.End() != 2 || !alikeLogs(s.Log(), []api.Commit{one(1, 1), one(1, 2)}) {
		t.Errorf("the log: %s", short(s.Log()))
	}
	wantStep(t, "once more", s, theHello(), api.Page{}, api.ErrArg)
	wantLeft(t, primary(1, 0), 5, api.OK)
	wantLeft(t, primary(1, 8), 5, api.OK)
	wantLeft(t, deposed(2, api.Cut, 2, 0), 1, api.OK)
}

// TestExamplesOfTheWhole: the document's fourth and fifth examples.
func TestExamplesOfTheWhole(t *testing.T) {
	log := []api.Commit{with(1, 1, put("a", "1")), with(1, 2, put("b", "2")), with(1, 3, put("c", "3"))}
	w := way{"W", 2, log, nil, nil, hello(2, 3, [2]int{1, 1}, [2]int{2, 3}), 2}
	b := w.at(t, 4)
	if l := scanned(b.d.Durable(fileOrphans)); len(l) != 1 || !alikeSections(l[0], holds(2, 2, with(1, 3, put("c", "3")))) || b.s.End() != 2 {
		t.Errorf("the orphans are %s, the log has %d commits", short(l), b.s.End())
	}
	// Cut off behind Forked, with half of the section written.
	b = w.at(t, 1)
	b.fuse(1)
	b.refusedOff(w.hello)
	b.start(0, 7)
	must(t, "Open", b.open())
	if n, e := b.s.Base(); n != 0 || e != api.OK || b.s.End() != 3 {
		t.Errorf("behind half a section: %d bytes, %d, %d commits", n, e, b.s.End())
	}
	for i, end := range []int{3, 2, 2} {
		b.want(api.Message{}, w.pages()[i+2], api.OK)
		if b.s.End() != end {
			t.Errorf("%+v: %d commits", b.s.Page(), b.s.End())
		}
	}
	w.done(t, "cut off behind Forked", b)
}

// refusedOff does a step in which the disk goes off, or is off.
func (b *bench) refusedOff(hello api.Message) {
	b.t.Helper()
	b.want(hello, api.Page{}, api.ErrOff)
}

// done: the node is a replica, its log is cut at the fork, the others are in file 3, the runs are what they were, all of it durably (P22.5).
func (w way) done(t *testing.T, what string, b *bench) {
	t.Helper()
	what = w.name + ", " + what
	wantTold(t, what, b.s, replica(w.epoch), w.log[:w.fork], w.runs())
	if n := b.d.Pending(); n > 0 {
		t.Fatalf("%s: %d raw steps are pending", what, n)
	}
	for file, right := range map[int][]byte{fileLog: logBytes(w.log[:w.fork]...), fileRuns: runBytes(w.runs()...), fileOrphans: w.record()} {
		if got := b.d.Durable(file); string(got) != string(right) {
			t.Fatalf("%s: file %d is %v, not %v", what, file, got, right)
		}
	}
}

// P22.1

// TestNoState: ahead of all else, also of a state that was declared.
func TestNoState(t *testing.T) {
	for name, s := range map[string]*restart.State{"nil": nil, "declared": {}, "new": new(restart.State)} {
		for _, m := range messages() {
			wantStep(t, name, s, m, api.Page{}, api.ErrNil)
		}
	}
	// One that was refused is none.
	s, _ := restart.Open(disk.New(), 2)
	wantStep(t, "of the node 2", s, theHello(), api.Page{}, api.ErrNil)
}

// notDeposed lists disks of a primary and of a replica, whose log would be another one behind a reconciliation.
func notDeposed() []contents {
	log := logBytes(row(1, 1, 1, 1)...)
	var l []contents
	for _, p := range []api.Page{primary(1, 0), primary(2, 3), primary(2, 0), primary(most, 1), replica(1), replica(2), replica(most)} {
		l = append(l, contents{fileLog: log, filePages: pageBytes(p)}, contents{fileLog: log, filePages: pageBytes(heard(2), p)})
	}
	return append(l, contents{})
}

// TestNotDeposed: a primary and a replica have no phase, whatever the message is.
func TestNotDeposed(t *testing.T) {
	for _, c := range notDeposed() {
		b := benchOf(t, c)
		for _, m := range append(messages(), helloOf(most, 1, 2)) {
			b.refuses(m, api.ErrArg)
		}
	}
}

// unfit is a message that does not fit a node of the epoch 3, and why.
type unfit struct {
	why     string
	message api.Message
}

// unfits lists messages that do not fit a node that is deposed into the epoch 3, each for one reason alone.
func unfits() []unfit {
	change := func(f func(m *api.Message)) api.Message {
		m := hello(3, 4, [2]int{1, 1}, [2]int{2, 3})
		f(&m)
		return m
	}
	return []unfit{
		{"a lower epoch", change(func(m *api.Message) { m.Epoch = 2 })},
		{"a higher epoch", change(func(m *api.Message) { m.Epoch = 4 })},
		{"the greatest epoch", change(func(m *api.Message) { m.Epoch = most })},
		{"of a replica", change(func(m *api.Message) { m.Role = api.Replica })},
		{"of a deposed one", change(func(m *api.Message) { m.Role = api.Deposed })},
		{"no role", change(func(m *api.Message) { m.Role = 0 })},
		{"a role that is none", change(func(m *api.Message) { m.Role = 4 })},
		{"an end without starts", change(func(m *api.Message) { m.Starts = nil })},
		{"starts without an end", change(func(m *api.Message) { m.End = 0 })},
		{"an end below 0", change(func(m *api.Message) { m.End, m.Starts = -1, nil })},
		{"an end that is too great", change(func(m *api.Message) { m.End = most + 1 })},
		{"a start behind the end", change(func(m *api.Message) { m.End = 2 })},
		{"a first start behind 1", change(func(m *api.Message) { m.Starts[0].First = 2 })},
		{"epochs that do not rise", change(func(m *api.Message) { m.Starts[0].Epoch = 2 })},
		{"firsts that do not rise", change(func(m *api.Message) { m.Starts[1].First = 1 })},
		{"an epoch 0", change(func(m *api.Message) { m.Starts[0].Epoch = 0 })},
		{"a start of a higher epoch", change(func(m *api.Message) { m.Starts[1].Epoch = 4 })},
		{"a From", change(func(m *api.Message) { m.From = 1 })},
		{"a Prev", change(func(m *api.Message) { m.Prev = 1 })},
		{"a commit", change(func(m *api.Message) { m.Commits = row(1, 1) })},
		{"no kind", change(func(m *api.Message) { m.Kind = 0 })},
		{"a ship's kind", change(func(m *api.Message) { m.Kind = api.Ship })},
		{"an ack's kind", change(func(m *api.Message) { m.Kind = api.Ack })},
		{"a kind that is none", change(func(m *api.Message) { m.Kind = 4 })},
		{"a ship", api.Message{Kind: api.Ship, Epoch: 3, From: 1, Commits: row(1, 1, 2)}},
		{"a ship of none", api.Message{Kind: api.Ship, Epoch: 3, From: 4, Prev: 2}},
		{"a ship of a primary", api.Message{Kind: api.Ship, Epoch: 3, Role: api.Primary, From: 4, Prev: 2}},
		{"an ack", api.Message{Kind: api.Ack, Epoch: 3, End: 2}},
		{"an ack of a primary", api.Message{Kind: api.Ack, Epoch: 3, Role: api.Primary, End: 2}},
		{"nothing", api.Message{}},
		{"nothing of the epoch", api.Message{Epoch: 3}},
	}
}

// TestHeardWithoutAHelloThatFits: nothing is done, and one that fits is as good as ahead.
func TestHeardWithoutAHelloThatFits(t *testing.T) {
	w := way{"", 3, row(1, 1, 1, 1), nil, nil, hello(3, 4, [2]int{1, 1}, [2]int{2, 3}), 2}
	b := w.at(t, 0)
	for _, x := range unfits() {
		b.refuses(x.message, api.ErrMissing)
	}
	b.want(w.hello, w.pages()[1], api.OK)
	// Without a log it needs a hello, too.
	b = way{epoch: 3}.at(t, 0)
	for _, x := range unfits() {
		b.refuses(x.message, api.ErrMissing)
	}
}

// TestHellosThatFit: all that a primary of the epoch may tell of its log.
func TestHellosThatFit(t *testing.T) {
	log := row(1, 1, 1, 2)
	for _, c := range []struct {
		hello api.Message
		fork  int
	}{{hello(3, 0), 0}, {helloOf(3, 1), 1}, {helloOf(3, 2), 0}, {helloOf(3, 3), 0}, {helloOf(3, 1, 1), 2}, {helloOf(3, 1, 2), 1}, {helloOf(3, 1, 1, 1), 2}, {helloOf(3, 1, 1, 2), 3}, {helloOf(3, 1, 1, 2, 2, 3), 3}, {helloOf(3, 1, 2, 2), 3}, {helloOf(3, 1, 1, 3), 2}, {hello(3, most, [2]int{1, 1}), 2}, {hello(3, most, [2]int{1, 1}, [2]int{2, 3}, [2]int{3, most}), 3}, {hello(3, most, [2]int{3, 1}), 0}} {
		w := way{"", 3, log, nil, nil, c.hello, c.fork}
		b := w.at(t, 4)
		w.done(t, short(c.hello), b)
	}
}

// TestOtherPhasesLookAtNoMessage: behind Heard each message does, none too.
func TestOtherPhasesLookAtNoMessage(t *testing.T) {
	for _, w := range ways() {
		for steps := 1; steps <= 3; steps++ {
			for _, m := range messages() {
				b := w.at(t, steps)
				b.want(m, w.pages()[steps+1], api.OK)
			}
		}
	}
	// Not even one that tells another fork.
	w := ways()[0]
	b := w.at(t, 1)
	for _, p := range w.pages()[2:] {
		b.want(hello(2, 0), p, api.OK)
	}
	w.done(t, "with other hellos", b)
}

// TestAForkBelowTheRunsEnd: nothing is done, however often it is asked for; at a fork that is not below it is.
func TestAForkBelowTheRunsEnd(t *testing.T) {
	log := row(1, 1, 1, 1, 1)
	for upto := 1; upto <= 4; upto++ {
		for fork := range 5 {
			m := helloOf(2, slices.Repeat([]int{1}, fork)...)
			w := way{"", 2, log, []int{upto}, earlier()[:0], m, fork}
			if fork >= upto {
				w.done(t, "a fork at the runs' end or behind it", w.at(t, 4))
				continue
			}
			b := w.at(t, 0)
			for range 3 {
				b.refuses(m, api.ErrBad)
			}
			b.refuses(api.Message{}, api.ErrMissing)
			b.want(helloOf(2, 1, 1, 1, 1), deposed(2, api.Forked, 4, 0), api.OK)
		}
	}
}

// TestEachPhase: the page behind each one, what the files hold then, and how many raw steps it took.
func TestEachPhase(t *testing.T) {
	for _, w := range ways() {
		b := w.at(t, 0)
		log, pages := logBytes(w.log...), pageBytes(replica(1), heard(w.epoch))
		// A page is a raw write and a sync.
		section := 0
		if w.fork < len(w.log) {
			section = (len(orphanBytes(w.lost()))+63)/64 + 1
		}
		for i, raw := range []int{2, section + 2, 4, 2} {
			ahead := b.d.Steps()
			next := w.pages()[i+1]
			b.want(w.hello, next, api.OK)
			pages = append(pages, pageBytes(next)...)
			orphans := w.record()
			if next.Phase == api.Forked {
				orphans = orphanBytes(w.filed...)
			}
			if i == 2 {
				log = logBytes(w.log[:w.fork]...)
			}
			for file, right := range (contents{log, pages, runBytes(w.runs()...), orphans}) {
				held, e := b.d.Read(file)
				if got := b.d.Durable(file); string(got) != string(right) || string(held) != string(right) || e != api.OK {
					t.Errorf("%s, behind %+v: file %d holds %v, durably %v, not %v", w.name, next, file, held, got, right)
				}
			}
			if n := b.d.Steps() - ahead; n != raw {
				t.Errorf("%s: %d raw steps to %+v, not %d", w.name, n, next, raw)
			}
		}
		w.done(t, "each phase", b)
		b.refuses(w.hello, api.ErrArg)
	}
}

// TestALogThatEndsAtTheFork: no section is written, nor is one that is there touched.
func TestALogThatEndsAtTheFork(t *testing.T) {
	for _, filed := range [][]api.Section{nil, earlier()} {
		for end := range 5 {
			epochs := slices.Repeat([]int{1}, end)
			w := way{"", 4, row(1, epochs...), nil, filed, helloOf(4, append(epochs, 4, 4)...), end}
			b := w.at(t, 1)
			b.both(func(d *disk.Disk) api.Errno { return d.Fuse(2) })
			b.want(w.hello, w.pages()[2], api.OK)
			b.safe()
			b.want(w.hello, w.pages()[3], api.OK)
			b.want(w.hello, w.pages()[4], api.OK)
			if w.done(t, "nothing is lost", b); len(b.d.Durable(fileOrphans)) != w.base() {
				t.Errorf("file 3 has %d bytes", len(b.d.Durable(fileOrphans)))
			}
		}
	}
}

// TestASectionThatRestartRefuses: one of an epoch as high stands in file 3 already; where there is nothing to write it does not matter.
func TestASectionThatRestartRefuses(t *testing.T) {
	for _, epoch := range []int{3, 4, 5, 6, most} {
		w := way{"", 5, row(1, 1, 1, 1), nil, []api.Section{holds(epoch, 0, one(1, 1))}, helloOf(5, 1, 1, 5), 2}
		if epoch < 5 {
			w.done(t, "a lower epoch", w.at(t, 4))
			continue
		}
		b := w.at(t, 1)
		for range 3 {
			b.refuses(w.hello, api.ErrBad)
		}
		w.log = w.log[:2]
		w.done(t, "nothing is lost", w.at(t, 4))
	}
}

// TestAFileThatOthersCut: where file 3 is shorter than the page's Base a section has no place.
func TestAFileThatOthersCut(t *testing.T) {
	w := way{"", 4, row(1, 1, 1, 1), nil, earlier(), helloOf(4, 1, 4), 1}
	for _, log := range [][]api.Commit{w.log, w.log[:1]} {
		w.log = log
		for _, length := range []int{0, 1, w.base() - 1} {
			b := w.at(t, 1)
			b.both(func(d *disk.Disk) api.Errno { return d.Cut(fileOrphans, length) })
			ahead := lookAt(b.d)
			wantStep(t, "cut", b.s, w.hello, api.Page{}, api.ErrBad)
			wantLook(t, "cut", b.d, ahead)
			wantTold(t, "cut", b.s, w.pages()[1], w.log, nil)
		}
	}
	// Bytes that are no section, behind the sections.
	b := w.at(t, 0)
	b.both(func(d *disk.Disk) api.Errno { return d.Write(fileOrphans, []byte{3, 4}) })
	ahead := lookAt(b.d)
	wantStep(t, "torn", b.s, w.hello, api.Page{}, api.ErrBad)
	wantLook(t, "torn", b.d, ahead)
	wantTold(t, "torn", b.s, heard(4), w.log, nil)
}

// TestCommitsThatCameLater: what is written, and cut off, is what the log has then.
func TestCommitsThatCameLater(t *testing.T) {
	w := way{"", 3, row(1, 1, 1), nil, nil, helloOf(3, 1, 3), 1}
	b := w.at(t, 1)
	more := row(3, 2, 2)
	must(t, "Add", b.s.Add(more...))
	w.log = slices.Concat(w.log, more)
	for _, p := range w.pages()[2:] {
		wantStep(t, "behind Add", b.s, api.Message{}, p, api.OK)
	}
	w.done(t, "behind Add", b)
}

// TestEachRawStep: a fuse that blows at each raw step of each phase; what stands behind each start; and Step again.
func TestEachRawStep(t *testing.T) {
	for _, w := range ways() {
		for steps := range 4 {
			fuse := 0
			for ; ; fuse++ {
				b := w.at(t, steps)
				b.fuse(fuse)
				if _, e := b.step(w.hello); e == api.OK {
					break
				}
				for k := range b.d.Pending() + 1 {
					for _, bytes := range []int{0, 1, 5, 63} {
						w.brokenOff(t, steps, fuse, k, bytes)
					}
				}
			}
			if least := []int{2, 2, 4, 2}[steps]; fuse < least {
				t.Errorf("%s, step %d: %d raw steps, not %d or more", w.name, steps, fuse, least)
			}
		}
	}
}

// brokenOff lets a fuse blow behind so many steps, starts the disk, and goes on behind Open.
func (w way) brokenOff(t *testing.T, steps, fuse, k, bytes int) {
	t.Helper()
	what := fmt.Sprintf("%d steps, a fuse of %d, %d and %d kept", steps, fuse, k, bytes)
	b := w.at(t, steps)
	b.fuse(fuse)
	b.refusedOff(w.hello)
	// The state is broken: it stays so.
	b.refusedOff(w.hello)
	b.start(k, bytes)
	b.refusedOff(w.hello)
	must(t, what, b.open())
	w.onTheWay(t, what, b)
	if p := b.s.Page(); p != w.pages()[steps] && p != w.pages()[steps+1] {
		t.Fatalf("%s, %s: %+v", w.name, what, p)
	}
	w.finish(t, b)
	w.done(t, what, b)
}

// finish does the steps that are left.
func (w way) finish(t *testing.T, b *bench) {
	t.Helper()
	l := w.pages()
	at := slices.Index(l, b.s.Page())
	for _, p := range l[at+1:] {
		b.want(w.hello, p, api.OK)
	}
}

// onTheWay: what a node is, opened anew at whatever raw step (P22.4).
func (w way) onTheWay(t *testing.T, what string, b *bench) {
	t.Helper()
	what = w.name + ", " + what
	p, log, orphans := b.s.Page(), b.s.Log(), string(b.d.Durable(fileOrphans))
	at := slices.Index(w.pages(), p)
	if at < 0 {
		t.Fatalf("%s: the page is %+v", what, p)
	}
	// Ahead of Filed the log is what it was, behind it it is cut, in between it may be.
	isWhole, isCut := alikeLogs(log, w.log), alikeLogs(log, w.log[:w.fork])
	if at < 2 && !isWhole || at == 2 && !isWhole && !isCut || at > 2 && !isCut {
		t.Fatalf("%s: at %+v the log is %s", what, p, short(log))
	}
	// Ahead of Forked nothing is written, behind it all of it is there, in between it may be.
	none, all := orphans == string(orphanBytes(w.filed...)), orphans == string(w.record())
	if at == 0 && !none || at == 1 && !none && !all || at > 1 && !all {
		t.Fatalf("%s: at %+v file 3 holds %q", what, p, orphans)
	}
	if got := b.s.Runs(); !alikeRuns(got, w.runs()) {
		t.Fatalf("%s: Runs are %s", what, short(got))
	}
}

// TestADiskThatIsOff: ErrOff in each phase, and the state is broken then, even if the disk is on again.
func TestADiskThatIsOff(t *testing.T) {
	for _, w := range ways() {
		for steps := range 4 {
			b := w.at(t, steps)
			b.pull()
			ahead := lookAt(b.d)
			b.refusedOff(w.hello)
			b.refusedOff(w.hello)
			wantLook(t, "off", b.d, ahead)
			b.start(0, 0)
			b.refusedOff(w.hello)
			must(t, "Open", b.open())
			w.finish(t, b)
			w.done(t, "behind a disk that was off", b)
		}
	}
}

// TestOffUnnoticed: a disk that was off while nothing was asked breaks nothing.
func TestOffUnnoticed(t *testing.T) {
	for _, w := range ways() {
		b := w.at(t, 0)
		for _, p := range w.pages()[1:] {
			b.pull()
			b.start(0, 0)
			b.want(w.hello, p, api.OK)
		}
		w.done(t, "pulled between the steps", b)
	}
}

// TestWhichErrorCounts: where two hold it is the first one that the chapter names; what needs no disk does not break a state.
func TestWhichErrorCounts(t *testing.T) {
	// Not deposed, no hello that fits, the disk is off.
	for _, c := range notDeposed() {
		b := benchOf(t, c)
		b.pull()
		for _, m := range messages() {
			b.refuses(m, api.ErrArg)
		}
		b.start(0, 0)
		must(t, "Set behind ErrArg", b.s.Set(heard(most)))
	}
	// Heard, no hello that fits, a fork below the runs' end, the disk is off.
	w := way{"", 3, row(1, 1, 1, 1), []int{3}, nil, hello(3, 4, [2]int{1, 1}, [2]int{2, 3}), 2}
	b := w.at(t, 0)
	for _, x := range unfits() {
		b.refuses(x.message, api.ErrMissing)
	}
	b.pull()
	for _, x := range unfits() {
		b.refuses(x.message, api.ErrMissing)
	}
	b.start(0, 0)
	b.refuses(w.hello, api.ErrBad)
	// A fuse of 0 is no disk that is off: no raw step is done ahead of ErrBad.
	b.fuse(0)
	b.refuses(w.hello, api.ErrBad)
	b.refuses(w.hello, api.ErrBad)
	// Restart looks at nothing, if the disk is off.
	b.pull()
	b.refuses(w.hello, api.ErrOff)
	b.refuses(api.Message{}, api.ErrMissing)
	b.start(0, 0)
	b.refuses(w.hello, api.ErrOff)
	b.refuses(api.Message{}, api.ErrMissing)
	// A section that is refused, and a disk that is off.
	w = way{"", 5, row(1, 1, 1, 1), nil, []api.Section{holds(5, 0, one(1, 1))}, helloOf(5, 1, 1, 5), 2}
	b = w.at(t, 1)
	b.fuse(0)
	b.refuses(api.Message{}, api.ErrBad)
	b.pull()
	b.refuses(api.Message{}, api.ErrOff)
	b.start(0, 0)
	b.refuses(api.Message{}, api.ErrOff)
}

// TestABrokenStateThatIsDone: its page was set, so that it has no phase.
func TestABrokenStateThatIsDone(t *testing.T) {
	w := ways()[0]
	b := w.at(t, 4)
	b.pull()
	if e := b.s.Set(heard(3)); e != api.ErrOff {
		t.Fatalf("Set: %d", e)
	}
	b.m.broken = true
	b.refuses(w.hello, api.ErrArg)
	b.start(0, 0)
	b.refuses(w.hello, api.ErrArg)
}

// P22.2

// badPages lists pages that may not be.
func badPages() []api.Page {
	return []api.Page{
		{}, {Epoch: 1}, {Role: api.Primary}, {Epoch: 1, Role: 4}, {Epoch: -1, Role: api.Replica}, {Epoch: most + 1, Role: api.Replica},
		primary(1, -1), primary(1, most+1), primary(0, 0), {Epoch: 1, Role: api.Primary, Phase: api.Heard}, {Epoch: 1, Role: api.Primary, Fork: 1}, {Epoch: 1, Role: api.Primary, Base: 1},
		{Epoch: 1, Role: api.Replica, Acked: 1}, {Epoch: 1, Role: api.Replica, Phase: api.Forked}, {Epoch: 1, Role: api.Replica, Phase: api.Cut},
		{Epoch: 2, Role: api.Deposed}, {Epoch: 2, Role: api.Deposed, Phase: 5}, {Epoch: 2, Role: api.Deposed, Phase: 255}, heard(0), heard(most + 1), heard(math.MinInt), heard(math.MaxInt),
		{Epoch: 2, Role: api.Deposed, Phase: api.Heard, Fork: 1}, {Epoch: 2, Role: api.Deposed, Phase: api.Heard, Base: 1}, {Epoch: 2, Role: api.Deposed, Phase: api.Heard, Acked: 1},
		deposed(2, api.Forked, -1, 0), deposed(2, api.Forked, most+1, 0), deposed(2, api.Forked, 0, -1), deposed(2, api.Forked, 0, mostBase+1), deposed(0, api.Forked, 0, 0), deposed(most+1, api.Forked, 0, 0), deposed(2, api.Forked, math.MinInt, math.MaxInt),
		{Epoch: 2, Role: api.Deposed, Acked: 1, Phase: api.Forked}, deposed(2, api.Filed, -1, 0), deposed(2, api.Cut, 0, -1),
	}
}

func TestLeft(t *testing.T) {
	for _, epoch := range []int{1, 2, 3, most} {
		wantLeft(t, replica(epoch), 0, api.OK)
		for _, acked := range []int{0, 1, 7, most} {
			wantLeft(t, primary(epoch, acked), 5, api.OK)
		}
		wantLeft(t, heard(epoch), 4, api.OK)
		for _, fork := range []int{0, 1, most} {
			for _, base := range []int{0, 14, mostBase} {
				wantLeft(t, deposed(epoch, api.Forked, fork, base), 3, api.OK)
				wantLeft(t, deposed(epoch, api.Filed, fork, base), 2, api.OK)
				wantLeft(t, deposed(epoch, api.Cut, fork, base), 1, api.OK)
			}
		}
	}
	for _, p := range badPages() {
		if page.Check(p) != api.ErrArg {
			t.Errorf("%+v may be", p)
		}
		wantLeft(t, p, 0, api.ErrArg)
	}
}

// TestLeftIsWhatIsLeft: so many steps lead to a replica's page.
func TestLeftIsWhatIsLeft(t *testing.T) {
	for _, w := range ways() {
		b := w.at(t, 0)
		for left := 4; left >= 0; left-- {
			wantLeft(t, b.s.Page(), left, api.OK)
			if left > 0 {
				b.want(w.hello, w.pages()[5-left], api.OK)
			}
		}
	}
}

// deposedPages lists a page of each phase.
func deposedPages(epoch int) []api.Page {
	l := []api.Page{heard(epoch)}
	for _, phase := range late() {
		l = append(l, deposed(epoch, phase, 1, 14), deposed(epoch, phase, most, mostBase))
	}
	return l
}

func TestFits(t *testing.T) {
	good := []api.Message{hello(3, 4, [2]int{1, 1}, [2]int{2, 3}), hello(3, 0), hello(3, most, [2]int{1, 1}), helloOf(3, 1, 2, 3), helloOf(3, 3)}
	for _, p := range deposedPages(3) {
		for _, m := range good {
			wantFits(t, "fits", p, m, true)
		}
		for _, x := range unfits() {
			wantFits(t, x.why, p, x.message, false)
		}
	}
	// Pages that are not Deposed, and those of other epochs.
	for _, p := range slices.Concat([]api.Page{{}, {Epoch: 3}, {Epoch: 3, Role: 4}, {Epoch: 3, Phase: api.Heard}, primary(3, 0), primary(3, 4), replica(3), {Epoch: 3, Role: api.Replica, Phase: api.Heard}, {Epoch: 3, Role: api.Primary, Phase: api.Heard}}, deposedPages(2), deposedPages(4), deposedPages(1), deposedPages(most)) {
		for _, m := range good {
			wantFits(t, "another page", p, m, false)
		}
	}
	for _, epoch := range []int{1, 2, most - 1, most} {
		for _, other := range []int{1, 2, most - 1, most} {
			wantFits(t, "epochs", heard(epoch), hello(other, 0), epoch == other)
		}
	}
	// No message of an epoch that may not be fits, also if the page has it.
	for _, epoch := range []int{math.MinInt, -1, 0, most + 1, math.MaxInt} {
		wantFits(t, "no epoch", heard(epoch), hello(epoch, 0), false)
	}
}

// TestFitsAsStepTellsIt: a hello fits a Heard page just if Step takes it.
func TestFitsAsStepTellsIt(t *testing.T) {
	for _, m := range append(messages(), unfits()[0].message) {
		b := way{epoch: 2, log: row(1, 1, 1)}.at(t, 0)
		_, e := b.step(m)
		if want := reconcile.Fits(heard(2), m); (e == api.OK) != want || (e == api.ErrMissing) == want {
			t.Errorf("%s fits: %v, Step: %d", short(m), want, e)
		}
	}
}

// P22.3

// badLog is a list that is no log, and why it is none.
type badLog struct {
	why string
	log []api.Commit
	e   api.Errno
}

func nine() []api.Op { return slices.Repeat([]api.Op{del("k")}, 9) }

// badLogs lists each fault of commit.Follows, at each place.
func badLogs() []badLog {
	var l []badLog
	for at := range 3 {
		change := func(why string, e api.Errno, f func(c *api.Commit)) {
			log := row(1, 2, 2, 2)
			f(&log[at])
			l = append(l, badLog{fmt.Sprintf("%s at %d", why, at), log, e})
		}
		change("an epoch 0", api.ErrArg, func(c *api.Commit) { c.Epoch = 0 })
		change("an epoch below 0", api.ErrArg, func(c *api.Commit) { c.Epoch = math.MinInt })
		change("an epoch that is too great", api.ErrArg, func(c *api.Commit) { c.Epoch = most + 1 })
		change("a number 0", api.ErrArg, func(c *api.Commit) { c.Number = 0 })
		change("a number that is too great", api.ErrArg, func(c *api.Commit) { c.Number = most + 1 })
		change("no ops", api.ErrArg, func(c *api.Commit) { c.Ops = nil })
		change("nine ops", api.ErrLong, func(c *api.Commit) { c.Ops = nine() })
		change("no key", api.ErrArg, func(c *api.Commit) { c.Ops = []api.Op{del("")} })
		change("a key of 17 bytes", api.ErrArg, func(c *api.Commit) { c.Ops = []api.Op{del(of(17))} })
		change("a value of 33 bytes", api.ErrArg, func(c *api.Commit) { c.Ops = []api.Op{put("a", of(33))} })
		change("a number that does not follow", api.ErrOrder, func(c *api.Commit) { c.Number += 4 })
	}
	return append(l,
		badLog{"the first one lacks", row(2, 1, 1), api.ErrOrder},
		badLog{"one lacks", slices.Concat(row(1, 1), row(3, 1)), api.ErrOrder},
		badLog{"an epoch falls", row(1, 2, 1), api.ErrOrder},
		badLog{"the same number twice", slices.Concat(row(1, 1), row(1, 1)), api.ErrOrder},
		badLog{"the first fault counts", []api.Commit{with(1, 2, put("a", "1")), with(0, 0)}, api.ErrOrder},
		badLog{"of one commit, too", []api.Commit{with(0, 2, nine()...)}, api.ErrArg},
		badLog{"nine ops of a number that does not follow", []api.Commit{with(1, 2, nine()...)}, api.ErrLong})
}

func TestLost(t *testing.T) {
	for _, w := range ways() {
		p := w.pages()[1]
		if w.fork == len(w.log) {
			wantLost(t, w.name, w.log, p, api.Section{}, false, api.OK)
			continue
		}
		wantLost(t, w.name, w.log, p, w.lost(), true, api.OK)
	}
	// Each fork of a log: above its end, at it, below it, 0. The Base does not matter.
	log := row(1, 1, 1, 2, 2, 5)
	for end := range len(log) + 1 {
		for _, fork := range []int{0, 1, 2, 3, 4, 5, 6, most - 1, most} {
			for _, base := range []int{0, 1, 14, mostBase} {
				p := deposed(6, api.Forked, fork, base)
				switch l := log[:end]; {
				case fork > end:
					wantLost(t, "above the end", l, p, api.Section{}, false, api.ErrArg)
				case fork == end:
					wantLost(t, "at the end", l, p, api.Section{}, false, api.OK)
				default:
					wantLost(t, "below the end", l, p, holds(6, fork, l[fork:]...), true, api.OK)
				}
			}
		}
	}
	// It is told as it is, also if no file of orphans would take it.
	for _, epoch := range []int{1, 4, 5, most} {
		wantLost(t, "an epoch", log, deposed(epoch, api.Forked, 4, 0), holds(epoch, 4, log[4]), true, api.OK)
	}
}

func TestLostOfNoLog(t *testing.T) {
	for _, x := range badLogs() {
		if f := commit.Follows(0, 0, x.log); f.Err != x.e {
			t.Errorf("%s: %d, not %d", x.why, f.Err, x.e)
		}
		for fork := range 4 {
			wantLost(t, x.why, x.log, deposed(6, api.Forked, fork, 0), api.Section{}, false, x.e)
		}
		// Ahead of a page that may not be, or is not Forked, or whose fork is too great.
		for _, p := range append(badPages(), heard(6), primary(6, 0), replica(6), deposed(6, api.Filed, 1, 0), deposed(6, api.Cut, 1, 0), deposed(6, api.Forked, most, 0)) {
			wantLost(t, x.why, x.log, p, api.Section{}, false, x.e)
		}
	}
}

func TestLostOfOtherPages(t *testing.T) {
	for _, log := range [][]api.Commit{nil, {}, row(1, 1), row(1, 1, 1, 2)} {
		for _, p := range badPages() {
			wantLost(t, "a page that may not be", log, p, api.Section{}, false, api.ErrArg)
		}
		for _, p := range []api.Page{heard(6), primary(6, 0), primary(6, 1), replica(6), deposed(6, api.Filed, 0, 0), deposed(6, api.Filed, 1, 0), deposed(6, api.Cut, 0, 0), deposed(6, api.Cut, 1, 0), deposed(6, api.Cut, 3, 0)} {
			wantLost(t, "a page that is not Forked", log, p, api.Section{}, false, api.ErrArg)
		}
	}
}

// TestLostIsWhatIsWritten: behind the phase file 3 ends with it.
func TestLostIsWhatIsWritten(t *testing.T) {
	for _, w := range ways() {
		b := w.at(t, 1)
		x, some, e := reconcile.Lost(b.s.Log(), b.s.Page())
		must(t, w.name, e)
		b.want(w.hello, w.pages()[2], api.OK)
		got := b.d.Durable(fileOrphans)[w.base():]
		if some && string(got) != string(orphanBytes(x)) || !some && len(got) > 0 {
			t.Errorf("%s: file 3 got %v of %s", w.name, got, short(x))
		}
	}
}

// TestTheGreatestLog: the fork at its end, and one ahead of it.
func TestTheGreatestLog(t *testing.T) {
	if testing.Short() {
		t.Skip("a great log")
	}
	ops := []api.Op{put("a", "1")}
	log := make([]api.Commit, 0, most+1)
	for at := range most {
		log = append(log, with(1, at+1, ops...))
	}
	wantLost(t, "at the end", log, deposed(2, api.Forked, most, 0), api.Section{}, false, api.OK)
	wantLost(t, "ahead of it", log, deposed(2, api.Forked, most-1, 0), holds(2, most-1, log[most-1]), true, api.OK)
	wantLost(t, "one too many", append(log, with(1, most+1, ops...)), deposed(2, api.Forked, most, 0), api.Section{}, false, api.ErrArg)
	log = log[:most-1]
	wantLost(t, "behind the end", log, deposed(2, api.Forked, most, 0), api.Section{}, false, api.ErrArg)
}

// TestALongLog: many commits, most of which are lost.
func TestALongLog(t *testing.T) {
	log := row(1, slices.Repeat([]int{1}, 600)...)
	w := way{"600 commits", 2, log, []int{20, 40}, nil, hello(2, 100, [2]int{1, 1}, [2]int{2, 51}), 50}
	b := w.at(t, 4)
	w.done(t, "all at once", b)
	for _, fuse := range []int{0, 1, 2, 100, 500} {
		b := w.at(t, 1)
		b.fuse(fuse)
		b.refusedOff(w.hello)
		b.start(fuse, 9)
		must(t, "Open", b.open())
		w.onTheWay(t, "cut off", b)
		w.finish(t, b)
		w.done(t, "cut off", b)
	}
}

// P22.4

// TestCutOffTwice: at each two raw steps, the disk started with some steps and bytes kept.
func TestCutOffTwice(t *testing.T) {
	all := ways()
	for _, w := range []way{all[0], all[1], all[8], all[10]} {
		steps := w.rawSteps(t)
		for first := range steps {
			for second := range steps - first + 6 {
				for k := range 4 {
					b := w.at(t, 0)
					for _, fuse := range []int{first, second} {
						b.fuse(fuse)
						w.goOn(t, b, k, 5)
					}
					b.safe()
					w.finish(t, b)
					w.done(t, fmt.Sprintf("cut off behind %d and %d, %d kept", first, second, k), b)
				}
			}
		}
	}
}

// rawSteps answers how many raw steps the whole way takes.
func (w way) rawSteps(t *testing.T) int {
	t.Helper()
	b := w.at(t, 0)
	ahead := b.d.Steps()
	w.finish(t, b)
	return b.d.Steps() - ahead
}

// goOn does steps until it is done, or the disk has gone off and was started, and opened: also there a fuse may blow, but no more than once.
func (w way) goOn(t *testing.T, b *bench, k, bytes int) {
	t.Helper()
	for b.s.Page().Role == api.Deposed {
		ahead := slices.Index(w.pages(), b.s.Page())
		_, e := b.step(w.hello)
		if e == api.OK {
			continue
		}
		if e != api.ErrOff {
			t.Fatalf("%s: Step: %d", w.name, e)
		}
		b.start(k, bytes)
		must(t, "Open", b.open())
		w.onTheWay(t, "cut off", b)
		if at := slices.Index(w.pages(), b.s.Page()); at < ahead || at > ahead+1 {
			t.Fatalf("%s: from %+v on it came to %+v", w.name, w.pages()[ahead], b.s.Page())
		}
		return
	}
}

// TestCutOffOften: with the same short fuse over and over, and each number of steps kept.
func TestCutOffOften(t *testing.T) {
	for _, w := range ways() {
		for fuse := range 8 {
			for k := range 6 {
				b := w.at(t, 0)
				for round := range 12 {
					b.fuse(fuse)
					w.goOn(t, b, k, 7*round)
				}
				b.safe()
				w.finish(t, b)
				w.done(t, fmt.Sprintf("cut off by a fuse of %d, %d kept", fuse, k), b)
			}
		}
	}
}

// turn is a row of numbers that look like chance, and are the same each time.
type turn uint64

func (x *turn) below(n int) int {
	*x = *x*6364136223846793005 + 1442695040888963407
	return int(uint64(*x) >> 33 % uint64(n))
}

func pick[T any](x *turn, l ...T) T { return l[x.below(len(l))] }

// TestCutOffByChance: fuses of all lengths, also while the disk is opened, and pulls.
func TestCutOffByChance(t *testing.T) {
	for _, w := range ways() {
		for seed := range 40 {
			x := turn(seed)
			b := w.at(t, 0)
			for range 30 {
				x.trouble(b)
				if b.s.Page().Role == api.Deposed {
					b.step(pick(&x, w.hello, w.hello, hello(w.epoch+1, 0), api.Message{}))
				}
				if !b.d.On() {
					x.restart(t, b, w)
				}
			}
			b.safe()
			w.finish(t, b)
			w.done(t, "by chance", b)
		}
	}
}

// trouble pulls a disk, or gives it a fuse; or not.
func (x *turn) trouble(b *bench) {
	b.t.Helper()
	switch x.below(6) {
	case 0:
		b.pull()
	case 1, 2, 3:
		b.fuse(x.below(8))
	}
}

// restart starts a disk and opens it, until it is opened.
func (x *turn) restart(t *testing.T, b *bench, w way) {
	t.Helper()
	b.start(x.below(8), x.below(64))
	b.fuse(x.below(3))
	if b.open() == api.ErrOff {
		b.start(x.below(3), x.below(64))
		must(t, "Open", b.open())
	}
	w.onTheWay(t, "by chance", b)
}

// TestHeardAnew: a higher epoch is heard of on the way; the reconciliation begins anew, with what is left of the log.
func TestHeardAnew(t *testing.T) {
	for _, w := range ways() {
		if w.epoch > 9 {
			continue
		}
		for steps := range 5 {
			b := w.at(t, steps)
			log, filed := b.s.Log(), scanned(b.d.Durable(fileOrphans))
			must(t, "Set", b.hear(10))
			b.refuses(w.hello, api.ErrMissing)
			fork := max(min(1, len(log)), runsEnd(b.m.runs))
			epochs := slices.Repeat([]int{1}, fork)
			for at := range fork {
				epochs[at] = log[at].Epoch
			}
			again := way{w.name, 10, log, w.uptos, filed, helloOf(10, append(epochs, 10)...), fork}
			again.finish(t, b)
			again.done(t, fmt.Sprintf("heard anew behind %d steps", steps), b)
		}
	}
}

// TestDeposedOverAndOver: sections of a node that was deposed again and again stand one behind the other.
func TestDeposedOverAndOver(t *testing.T) {
	b := benchOf(t, contents{})
	var filed []api.Section
	var log []api.Commit
	for epoch := 2; epoch < 20; epoch++ {
		more := row(len(log)+1, epoch-1, epoch-1, epoch-1)
		must(t, "Add", b.s.Add(more...))
		log = slices.Concat(log, more)
		must(t, "Set", b.s.Set(heard(epoch)))
		fork := len(log) - epoch%4
		w := way{"over and over", epoch, log, nil, filed, hello(epoch, fork), fork}
		w.hello.Starts = startsOf(log[:fork])
		for _, p := range w.pages()[1:] {
			wantStep(t, w.name, b.s, w.hello, p, api.OK)
		}
		w.done(t, "again", b)
		if fork < len(log) {
			filed = append(filed, w.lost())
		}
		log = log[:fork]
	}
	if len(filed) < 12 {
		t.Errorf("%d sections", len(filed))
	}
}

func startsOf(log []api.Commit) []api.Start {
	var l []api.Start
	for _, c := range log {
		if len(l) == 0 || l[len(l)-1].Epoch != c.Epoch {
			l = append(l, api.Start{Epoch: c.Epoch, First: c.Number})
		}
	}
	return l
}

// P22.5

// epochRows lists all rows of epochs up to a length that never fall.
func epochRows(length, greatest int) [][]int {
	l := [][]int{nil}
	for at := 0; at < len(l); at++ {
		if len(l[at]) == length {
			continue
		}
		least := 1
		for _, epoch := range l[at] {
			least = epoch
		}
		for epoch := least; epoch <= greatest; epoch++ {
			l = append(l, append(slices.Clone(l[at]), epoch))
		}
	}
	return l
}

// TestEveryShortLog: all logs and hellos of a few commits and epochs, with each end of the runs.
func TestEveryShortLog(t *testing.T) {
	refused, lost, kept := 0, 0, 0
	for _, epochs := range epochRows(3, 3) {
		log := row(1, epochs...)
		for _, others := range epochRows(4, 4) {
			m := helloOf(4, others...)
			fork := forkOf(log, m)
			for upto := range len(log) + 1 {
				w := way{fmt.Sprintf("%v, %v", epochs, others), 4, log, nil, earlier()[:upto%3], m, fork}
				if upto > 0 {
					w.uptos = []int{upto}
				}
				if fork < upto {
					w.at(t, 0).refuses(m, api.ErrBad)
					refused++
					continue
				}
				w.done(t, "every short log", w.at(t, 4))
				if fork < len(log) {
					lost++
				} else {
					kept++
				}
			}
		}
	}
	if min(refused, lost, kept) < 100 {
		t.Errorf("too few: %d refused, %d with orphans, %d without", refused, lost, kept)
	}
}

// TestMixed: many steps with messages of all kinds, fuses, pulls, starts, higher epochs in between, all held against the second telling.
func TestMixed(t *testing.T) {
	seen := map[string]int{}
	for seed := range 120 {
		x := turn(seed * 7919)
		b := benchOf(t, x.way().contents())
		for range 60 {
			x.happen(b, seen)
		}
	}
	for _, name := range []string{"1 0", "1 4", "1 5", "1 6", "2 0", "2 6", "3 0", "3 6", "4 0", "4 6", "0 2"} {
		if seen[name] < 5 {
			t.Errorf("too few of %q: %v", name, seen)
		}
	}
}

// way answers one that begins with any log and runs.
func (x *turn) way() way {
	rows := epochRows(4, 3)
	w := way{epoch: 4 + x.below(2), log: row(1, rows[x.below(len(rows))]...), filed: earlier()[:x.below(3)]}
	if n := x.below(len(w.log) + 1); n > 0 && x.below(2) == 0 {
		w.uptos = []int{n}
	}
	return w
}

// message answers one that fits the node more often than not.
func (x *turn) message(b *bench) api.Message {
	if x.below(4) == 0 {
		return pick(x, messages()...)
	}
	epoch := max(1, b.m.page.Epoch+pick(x, 0, 0, 0, 0, 1, -1))
	epochs := []int{}
	for _, c := range b.m.log[:x.below(len(b.m.log)+1)] {
		epochs = append(epochs, min(epoch, c.Epoch))
	}
	for range x.below(3) {
		epochs = append(epochs, epoch)
	}
	return helloOf(epoch, epochs...)
}

// happen lets something happen to a disk and its state.
func (x *turn) happen(b *bench, seen map[string]int) {
	b.t.Helper()
	switch {
	case !b.d.On():
		b.start(x.below(6), x.below(64))
		if x.below(3) == 0 {
			break
		}
		must(b.t, "Open", b.open())
	case b.m.broken && x.below(2) == 0:
		b.safe()
		must(b.t, "Open", b.open())
	case x.below(12) == 0:
		b.pull()
	case x.below(6) == 0:
		b.fuse(x.below(5))
	case x.below(8) == 0 && b.m.page.Epoch < 30:
		b.hear(b.m.page.Epoch + 1 + x.below(2))
	}
	m := x.message(b)
	phase := b.m.page.Phase
	_, e := b.step(m)
	seen[fmt.Sprintf("%d %d", phase, e)]++
}

// FuzzSteps: what happens out of numbers, held against the second telling.
func FuzzSteps(f *testing.F) {
	for seed := range 8 {
		f.Add(uint64(seed), uint8(20))
	}
	f.Fuzz(func(t *testing.T, seed uint64, count uint8) {
		x := turn(seed)
		b := benchOf(t, x.way().contents())
		for range count {
			x.happen(b, map[string]int{})
		}
	})
}

// FuzzMessages: any message, with any page.
func FuzzMessages(f *testing.F) {
	f.Add([]byte{1, 2, 1, 4, 2, 1, 1, 2, 3}, 2, uint8(3), uint8(1), 0, 0)
	f.Add([]byte{3, 2, 7}, 1, uint8(1), uint8(0), 3, 0)
	f.Add([]byte{1, 3, 1, 0, 0}, 3, uint8(3), uint8(2), 1, 14)
	f.Fuzz(func(t *testing.T, b []byte, epoch int, role, phase uint8, number, base int) {
		p := api.Page{Epoch: epoch, Role: api.Role(role), Phase: api.Phase(phase), Fork: number, Base: base}
		m, _ := letter.Decode(b)
		wantFits(t, "any", p, m, fits(p, m))
		n, e := reconcile.Left(p)
		if e != page.Check(p) || e != api.OK && n != 0 || n < 0 || n > 5 {
			t.Errorf("Left(%+v) = %d, %d", p, n, e)
		}
		log := row(1, 1, 1, 2)
		switch {
		case e != api.OK || p.Phase != api.Forked || p.Fork > 3:
			wantLost(t, "any", log, p, api.Section{}, false, api.ErrArg)
		case p.Fork == 3:
			wantLost(t, "any", log, p, api.Section{}, false, api.OK)
		default:
			wantLost(t, "any", log, p, holds(epoch, p.Fork, log[p.Fork:]...), true, api.OK)
		}
	})
}

// What is handed in and handed out.

// roomy answers the commits in a list that has spare room, as have their ops; the room is marked.
func roomy(l []api.Commit) []api.Commit {
	out := make([]api.Commit, len(l), len(l)+2)
	for at, c := range l {
		ops := make([]api.Op, len(c.Ops), len(c.Ops)+2)
		copy(ops, c.Ops)
		mark(ops[len(ops):cap(ops)])
		out[at] = with(c.Epoch, c.Number, ops...)
	}
	for at := len(l); at < cap(out); at++ {
		out[:cap(out)][at] = with(77, 77, put("spare", "spare"))
	}
	return out
}

func mark(l []api.Op) {
	for at := range l {
		l[at] = put("spare", "spare")
	}
}

// whole answers a list with its spare room, the ops' too, in memory of its own.
func whole(l []api.Commit) []api.Commit {
	out := slices.Clone(l[:cap(l)])
	for at, c := range out {
		out[at].Ops = slices.Clone(c.Ops[:cap(c.Ops)])
	}
	return out
}

// spoil changes all of a list, its spare room too.
func spoil(l []api.Commit) {
	l = l[:cap(l)]
	for at := range l {
		mark(l[at].Ops[:cap(l[at].Ops)])
		l[at] = with(88, 88, put("spoilt", "spoilt"))
	}
}

// roomyStarts answers starts with spare room that is marked.
func roomyStarts(l []api.Start) []api.Start {
	out := append(make([]api.Start, 0, len(l)+2), l...)
	for at := len(l); at < cap(out); at++ {
		out[:cap(out)][at] = api.Start{Epoch: 77, First: 77}
	}
	return out
}

// TestAHelloIsLeftAlone: in each phase, refused or not; nor is it looked at later.
func TestAHelloIsLeftAlone(t *testing.T) {
	for _, w := range ways() {
		for steps := range 5 {
			for _, fuse := range []int{0, 1, 100} {
				b := w.at(t, steps)
				b.fuse(fuse)
				m := w.hello
				m.Starts = roomyStarts(m.Starts)
				ahead := slices.Clone(m.Starts[:cap(m.Starts)])
				b.step(m)
				if !slices.Equal(m.Starts[:cap(m.Starts)], ahead) || len(m.Starts) != len(w.hello.Starts) {
					t.Errorf("%s: Step changed the hello: %v", w.name, m.Starts[:cap(m.Starts)])
				}
				for at := range m.Starts[:cap(m.Starts)] {
					m.Starts[:cap(m.Starts)][at] = api.Start{Epoch: 88, First: 88}
				}
				b.compare("behind the caller's changes")
				if b.d.On() && steps < 4 {
					b.safe()
					w.finish(t, b)
					w.done(t, "behind the caller's changes", b)
				}
			}
		}
		m := w.hello
		m.Starts = roomyStarts(m.Starts)
		ahead := slices.Clone(m.Starts[:cap(m.Starts)])
		wantFits(t, w.name, heard(w.epoch), m, true)
		if !slices.Equal(m.Starts[:cap(m.Starts)], ahead) {
			t.Errorf("%s: Fits changed the hello: %v", w.name, m.Starts[:cap(m.Starts)])
		}
	}
}

// TestAShipIsLeftAlone: one that does not fit, too.
func TestAShipIsLeftAlone(t *testing.T) {
	for steps := range 5 {
		b := ways()[0].at(t, steps)
		l := roomy(row(1, 1, 2))
		ahead := whole(l)
		m := api.Message{Kind: api.Ship, Epoch: 2, From: 1, Commits: l}
		b.step(m)
		wantFits(t, "a ship", heard(2), m, false)
		if !alikeLogs(whole(l), ahead) {
			t.Errorf("a ship was changed: %s", short(whole(l)))
		}
	}
}

// TestALogIsLeftAlone: Lost changes nothing of what it is handed, and what it answers is new memory.
func TestALogIsLeftAlone(t *testing.T) {
	for _, w := range ways() {
		l := roomy(w.log)
		ahead := whole(l)
		x, some, e := reconcile.Lost(l, w.pages()[1])
		y, _, _ := reconcile.Lost(l, w.pages()[1])
		must(t, w.name, e)
		if !alikeLogs(whole(l), ahead) {
			t.Errorf("%s: Lost changed the log: %s", w.name, short(whole(l)))
		}
		for _, c := range x.Commits[:cap(x.Commits)][len(x.Commits):] {
			if c.Epoch == 77 {
				t.Errorf("%s: Lost answered the log's spare room", w.name)
			}
		}
		for _, c := range x.Commits {
			if slices.Contains(c.Ops[:cap(c.Ops)], put("spare", "spare")) {
				t.Errorf("%s: Lost answered the ops' spare room", w.name)
			}
		}
		if !some {
			continue
		}
		// A change of the log is none of the answer; one of an answer none of the log, nor of the other answer.
		spoil(l)
		if !alikeSections(x, w.lost()) {
			t.Errorf("%s: the answer hangs on the log: %s", w.name, short(x))
		}
		spoil(x.Commits)
		if !alikeSections(y, w.lost()) {
			t.Errorf("%s: two answers share memory: %s", w.name, short(y))
		}
		if l[0].Epoch != 88 || l[0].Ops[0] != put("spoilt", "spoilt") {
			t.Errorf("%s: the log hangs on the answer: %s", w.name, short(l))
		}
	}
}

// TestListsOfOneAnswerShareNothing: a change of one commit's ops, and of the room behind them, is none of another one's.
func TestListsOfOneAnswerShareNothing(t *testing.T) {
	ops := big()
	log := []api.Commit{with(1, 1, ops[:2]...), with(1, 2, ops[:3]...), with(1, 3, ops[1:4]...)}
	right := []api.Commit{with(1, 1, big()[:2]...), with(1, 2, big()[:3]...), with(1, 3, big()[1:4]...)}
	for at := range log {
		x, _, e := reconcile.Lost(log, deposed(2, api.Forked, 0, 0))
		must(t, "Lost", e)
		mark(x.Commits[at].Ops[:cap(x.Commits[at].Ops)])
		for i, c := range x.Commits {
			if i != at && !commit.Same(c, right[i]) {
				t.Errorf("%d hangs on %d: %s", i, at, short(c))
			}
		}
		if !alikeLogs(log, right) {
			t.Errorf("the log hangs on the answer: %s", short(log))
		}
	}
}

// TestZeroBesideAnError: each call, whatever is refused.
func TestZeroBesideAnError(t *testing.T) {
	for _, w := range ways() {
		for steps := range 5 {
			b := w.at(t, steps)
			b.pull()
			if p, e := reconcile.Step(b.s, w.hello); e == api.OK || p != (api.Page{}) {
				t.Errorf("%s: Step = %+v, %d", w.name, p, e)
			}
		}
	}
	for _, p := range badPages() {
		if n, e := reconcile.Left(p); n != 0 || e != api.ErrArg {
			t.Errorf("Left = %d, %d", n, e)
		}
		for _, log := range [][]api.Commit{row(1, 1, 1), row(2, 1)} {
			if x, some, e := reconcile.Lost(log, p); e == api.OK || some || x.Epoch != 0 || x.Fork != 0 || x.Commits != nil {
				t.Errorf("Lost = %s, %v, %d", short(x), some, e)
			}
		}
	}
	if x, some, e := reconcile.Lost(row(1, 1), deposed(2, api.Forked, 1, 0)); e != api.OK || some || x.Epoch != 0 || x.Fork != 0 || x.Commits != nil {
		t.Errorf("Lost of none = %s, %v, %d", short(x), some, e)
	}
}

// TestStatesAreApart: a step of one is none of another one.
func TestStatesAreApart(t *testing.T) {
	w := ways()[0]
	l := []*bench{w.at(t, 0), w.at(t, 1), w.at(t, 2), w.at(t, 3)}
	for at, b := range l {
		b.want(w.hello, w.pages()[at+1], api.OK)
		for _, other := range l {
			other.compare("beside a step")
		}
	}
}
