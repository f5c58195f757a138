package node_test

import (
	"bytes"
	"fmt"
	"math"
	"reflect"
	"slices"
	"strings"
	"testing"

	"lagleash/api"
	"lagleash/batch"
	"lagleash/commit"
	"lagleash/disk"
	"lagleash/frame"
	"lagleash/letter"
	"lagleash/node"
	"lagleash/orphan"
	"lagleash/page"
	"lagleash/run"
	"lagleash/wal"
)

// The limits, as the document writes them.
const (
	most       = 1048576 // the greatest epoch and number
	mostLeash  = 16
	mostShip   = 4    // commits of a ship
	mostRunOps = 1024 // ops of a run
	files      = 4    // of a disk
)

// The files of a disk, as the document numbers them.
const (
	fileLog = iota
	filePages
	fileRuns
	fileOrphans
)

func put(key, value string) api.Op { return api.Op{Put: true, Key: key, Value: value} }
func del(key string) api.Op        { return api.Op{Key: key} }

func of(count int) string { return strings.Repeat("k", count) }

func with(epoch, number int, ops ...api.Op) api.Commit {
	return api.Commit{Epoch: epoch, Number: number, Ops: ops}
}

// big is a batch of the greatest size there is: its frame takes several raw writes.
func big() []api.Op {
	var l []api.Op
	for i := range 8 {
		l = append(l, put(string(rune('a'+i))+of(15), of(32)))
	}
	return l
}

func nine() []api.Op { return slices.Repeat([]api.Op{del("k")}, 9) }

// row lists commits of the epochs, numbered from first on, each of which changes what is read.
func row(first int, epochs ...int) []api.Commit {
	var l []api.Commit
	for i, epoch := range epochs {
		number := first + i
		value := string([]byte{byte('0' + epoch%10), byte('0' + number%10)})
		switch number % 4 {
		case 1:
			l = append(l, with(epoch, number, put("a", value)))
		case 2:
			l = append(l, with(epoch, number, put("b", value), put("a", value+"!"), put("ab", "")))
		case 3:
			l = append(l, with(epoch, number, del("a"), put("\x00\xff", value)))
		default:
			l = append(l, with(epoch, number, append(big()[:7], put("b", value))...))
		}
	}
	return l
}

// wide lists commits of the epoch 1 on that many keys, eight of them each.
func wide(keys int) []api.Commit {
	var l []api.Commit
	for at := range keys {
		if at%8 == 0 {
			l = append(l, with(1, len(l)+1))
		}
		c := &l[len(l)-1]
		c.Ops = append(c.Ops, put(fmt.Sprintf("key%d", at), "v"))
	}
	return l
}

func primary(epoch, acked int) api.Page {
	return api.Page{Epoch: epoch, Role: api.Primary, Acked: acked}
}
func replica(epoch int) api.Page { return api.Page{Epoch: epoch, Role: api.Replica} }
func heard(epoch int) api.Page   { return api.Page{Epoch: epoch, Role: api.Deposed, Phase: api.Heard} }

func deposed(epoch int, phase api.Phase, fork, base int) api.Page {
	return api.Page{Epoch: epoch, Role: api.Deposed, Phase: phase, Fork: fork, Base: base}
}

// late lists the phases in which a page has a fork and a base.
func late() []api.Phase { return []api.Phase{api.Forked, api.Filed, api.Cut} }

func roles() []api.Role { return []api.Role{api.Primary, api.Replica, api.Deposed} }

func holds(epoch, fork int, l ...api.Commit) api.Section {
	return api.Section{Epoch: epoch, Fork: fork, Commits: l}
}

// Messages.

// helloOf is the hello of a node whose commits have these epochs.
func helloOf(epoch int, role api.Role, epochs ...int) api.Message {
	m := api.Message{Kind: api.Hello, Epoch: epoch, Role: role, End: len(epochs)}
	for i, x := range epochs {
		if i == 0 || x != epochs[i-1] {
			m.Starts = append(m.Starts, api.Start{Epoch: x, First: i + 1})
		}
	}
	return m
}

func shipOf(epoch, from, prev int, l ...api.Commit) api.Message {
	return api.Message{Kind: api.Ship, Epoch: epoch, From: from, Prev: prev, Commits: l}
}

func ackOf(epoch, end int) api.Message { return api.Message{Kind: api.Ack, Epoch: epoch, End: end} }

func epochsOf(log []api.Commit) []int {
	var l []int
	for _, c := range log {
		l = append(l, c.Epoch)
	}
	return l
}

// Bytes, by the calls of the layers below.

func sure[T any](x T, e api.Errno) T {
	if e != api.OK {
		panic(fmt.Sprintf("a test asks for what may not be: %d", e))
	}
	return x
}

func lettered(m api.Message) []byte { return sure(letter.Encode(m)) }

func framed(record []byte) []byte { return sure(frame.Append(nil, record)) }

func logBytes(l ...api.Commit) []byte {
	var b []byte
	for _, c := range l {
		b = append(b, framed(sure(commit.Encode(c)))...)
	}
	return b
}

func pageBytes(l ...api.Page) []byte {
	var b []byte
	for _, p := range l {
		b = append(b, framed(sure(page.Encode(p)))...)
	}
	return b
}

func runBytes(l ...api.Run) []byte {
	var b []byte
	for _, x := range l {
		b = append(b, framed(sure(run.Encode(x)))...)
	}
	return b
}

func orphanBytes(l ...api.Section) []byte {
	var b []byte
	for _, x := range l {
		b = append(b, sure(orphan.Encode(x))...)
	}
	return b
}

// runsOf lists runs of a log's first commits, each up to one of the numbers.
func runsOf(log []api.Commit, uptos ...int) []api.Run {
	var l []api.Run
	from := 1
	for _, upto := range uptos {
		l = append(l, api.Run{From: from, Upto: upto, Ops: leftBy(log[from-1 : upto])})
		from = upto + 1
	}
	return l
}

// leftBy lists what commits leave, key by key.
func leftBy(l []api.Commit) []api.Op {
	last := map[string]api.Op{}
	for _, c := range l {
		for _, o := range c.Ops {
			last[o.Key] = o
		}
	}
	var ops []api.Op
	for _, o := range last {
		ops = append(ops, o)
	}
	slices.SortFunc(ops, func(a, b api.Op) int { return strings.Compare(a.Key, b.Key) })
	return ops
}

// fold is what is read behind all ops of the commits.
func fold(l []api.Commit) map[string]string {
	read := map[string]string{}
	for _, c := range l {
		for _, o := range c.Ops {
			delete(read, o.Key)
			if o.Put {
				read[o.Key] = o.Value
			}
		}
	}
	return read
}

func runsEnd(l []api.Run) int {
	end := 0
	for _, x := range l {
		end = x.Upto
	}
	return end
}

func lastEpoch(l []api.Commit) int {
	if len(l) == 0 {
		return 0
	}
	return l[len(l)-1].Epoch
}

// Calls, and what they answer.

type act struct {
	call  string
	ops   []api.Op
	key   string
	bytes []byte
}

func commits(l ...api.Op) act     { return act{call: "Commit", ops: l} }
func reads(key string) act        { return act{call: "Read", key: key} }
func ticks() act                  { return act{call: "Tick"} }
func receives(m api.Message) act  { return act{call: "Receive", bytes: lettered(m)} }
func receivesBytes(b ...byte) act { return act{call: "Receive", bytes: b} }
func promotes() act               { return act{call: "Promote"} }
func flushes() act                { return act{call: "Flush"} }
func opens() act                  { return act{call: "Open"} }
func downs() act                  { return act{call: "Down"} }

// plain lists each call that answers an Errno, but Open and Down: of arguments that nothing is wrong with.
func plain() []act {
	return []act{commits(put("a", "1")), reads("a"), ticks(), receives(ackOf(1, 0)), promotes(), flushes()}
}

func (a act) String() string {
	switch a.call {
	case "Commit":
		return fmt.Sprintf("Commit(%s)", short(a.ops))
	case "Read":
		return fmt.Sprintf("Read(%q)", a.key)
	case "Receive":
		m, e := letter.Decode(a.bytes)
		if e != api.OK {
			return fmt.Sprintf("Receive(% d)", a.bytes)
		}
		return fmt.Sprintf("Receive(%s)", short(m))
	}
	return a.call
}

// answer is what a call answers: the zero value of what it has not.
type answer struct {
	number int
	value  string
	there  bool
	mail   [][]byte
	e      api.Errno
}

func (x answer) String() string {
	var l []string
	for _, b := range x.mail {
		m, e := letter.Decode(b)
		l = append(l, fmt.Sprintf("%s (%d)", short(m), e))
	}
	return fmt.Sprintf("number %d, value %q, %v, %d told: %v, error %d", x.number, x.value, x.there, len(x.mail), l, x.e)
}

func alikeMail(a, b [][]byte) bool { return slices.EqualFunc(a, b, bytes.Equal) }

func (x answer) is(y answer) bool {
	return x.number == y.number && x.value == y.value && x.there == y.there && x.e == y.e && alikeMail(x.mail, y.mail)
}

func numbered(n int) answer          { return answer{number: n} }
func refused(e api.Errno) answer     { return answer{e: e} }
func value(s string, is bool) answer { return answer{value: s, there: is} }

func tells(l ...api.Message) answer {
	var x answer
	for _, m := range l {
		x.mail = append(x.mail, lettered(m))
	}
	return x
}

func (a act) doTo(n *node.Node) (x answer) {
	switch a.call {
	case "Commit":
		x.number, x.e = n.Commit(a.ops...)
	case "Read":
		x.value, x.there, x.e = n.Read(a.key)
	case "Tick":
		x.mail, x.e = n.Tick()
	case "Receive":
		x.mail, x.e = n.Receive(a.bytes)
	case "Promote":
		x.number, x.e = n.Promote()
	case "Flush":
		x.e = n.Flush()
	case "Open":
		x.e = n.Open()
	case "Down":
		x.e = n.Down()
	default:
		panic(a.call)
	}
	return x
}

// A second telling: what a node is to be, and a disk to which just those raw steps are done that the document names.

type site struct {
	number, most int
	disk         *disk.Disk
	up           bool
	page         api.Page
	log          []api.Commit
	runs         []api.Run
	acked        int
	known        int
	knows        bool
	hello        api.Message
	has          bool
}

// fall is what happens to a site that is down: what was in memory is gone.
func (s *site) fall() { *s = site{number: s.number, most: s.most, disk: s.disk} }

// forget is what a site has in memory when it begins.
func (s *site) forget() {
	s.acked = s.page.Acked
	s.known, s.knows, s.hello, s.has = 0, false, api.Message{}, false
}

func (s *site) do(a act) answer {
	switch {
	case a.call == "Open":
		return refused(s.open())
	case !s.up:
		return refused(api.ErrDown)
	case a.call == "Down":
		s.fall()
		return answer{}
	}
	var x answer
	if s.disk.On() {
		x = s.act(a)
	}
	// Off ahead of it, or off in it: a disk that is off does no raw step more.
	if !s.disk.On() {
		s.fall()
		return refused(api.ErrOff)
	}
	return x
}

func (s *site) act(a act) answer {
	switch a.call {
	case "Commit":
		return s.commit(a.ops)
	case "Read":
		return s.read(a.key)
	case "Tick":
		return s.tick()
	case "Receive":
		return s.receive(a.bytes)
	case "Promote":
		return s.promote()
	case "Flush":
		return s.flush()
	}
	panic(a.call)
}

// runsIn lists the runs in a file's bytes, and their good length.
func runsIn(file []byte) ([]api.Run, int) {
	var l []api.Run
	records, _ := frame.Scan(file)
	for _, record := range records {
		x, e := run.Decode(record)
		if e != api.OK || x.From != runsEnd(l)+1 {
			break
		}
		l = append(l, x)
	}
	return l, len(runBytes(l...))
}

func (s *site) open() api.Errno {
	if s.up {
		return api.OK
	}
	if !s.disk.On() {
		return api.ErrOff
	}
	var held [files][]byte
	for file := range files {
		held[file], _ = s.disk.Read(file)
	}
	var good [files]int
	s.log, good[fileLog] = wal.Scan(held[fileLog])
	s.page, good[filePages], _ = page.Last(held[filePages], s.number)
	s.runs, good[fileRuns] = runsIn(held[fileRuns])
	_, good[fileOrphans] = orphan.Scan(held[fileOrphans])
	for file := range files {
		if good[file] < len(held[file]) {
			s.disk.Cut(file, good[file])
			s.disk.Sync()
		}
	}
	e := api.OK
	switch {
	case !s.disk.On():
		e = api.ErrOff
	case !s.isSound(good[fileOrphans]):
		e = api.ErrBad
	}
	if e != api.OK {
		s.fall()
		return e
	}
	s.up = true
	s.forget()
	return api.OK
}

func (s *site) isSound(orphans int) bool {
	p, end, runs := s.page, len(s.log), runsEnd(s.runs)
	if runs > end || lastEpoch(s.log) > p.Epoch || p.Acked > end {
		return false
	}
	if p.Role == api.Deposed && lastEpoch(s.log) == p.Epoch {
		return false
	}
	if slices.Contains(late(), p.Phase) {
		return p.Fork >= runs && p.Fork <= end && p.Base <= orphans && (p.Phase != api.Cut || p.Fork == end)
	}
	return true
}

func (s *site) set(p api.Page) {
	s.disk.Write(filePages, pageBytes(p))
	s.disk.Sync()
	s.page = p
}

func (s *site) add(l ...api.Commit) {
	if len(l) == 0 {
		return
	}
	for _, c := range l {
		s.disk.Write(fileLog, logBytes(c))
		s.log = append(s.log, commit.Copy(c))
	}
	s.disk.Sync()
}

func (s *site) commit(l []api.Op) answer {
	switch {
	case batch.Check(l) != api.OK:
		return refused(batch.Check(l))
	case s.page.Role == api.Replica:
		return refused(api.ErrReplica)
	case s.page.Role == api.Deposed:
		return refused(api.ErrDeposed)
	case len(s.log)-s.acked >= s.most:
		return refused(api.ErrLagging)
	case len(s.log) == most:
		return refused(api.ErrArg)
	}
	s.add(with(s.page.Epoch, len(s.log)+1, l...))
	return numbered(len(s.log))
}

func (s *site) read(key string) answer {
	if s.page.Role == api.Deposed {
		return refused(api.ErrDeposed)
	}
	v, is := fold(s.log)[key]
	return value(v, is)
}

func (s *site) tick() answer {
	switch s.page.Phase {
	case api.Heard:
		s.fork()
	case api.Forked:
		s.file()
	case api.Filed:
		s.log = s.log[:s.page.Fork]
		s.disk.Cut(fileLog, len(logBytes(s.log...)))
		s.disk.Sync()
		s.set(deposed(s.page.Epoch, api.Cut, s.page.Fork, s.page.Base))
	case api.Cut:
		s.set(replica(s.page.Epoch))
	}
	epoch := s.page.Epoch
	l := []api.Message{helloOf(epoch, s.page.Role, epochsOf(s.log)...)}
	if from := min(s.known, len(s.log)); s.knows && from < most {
		l = append(l, shipOf(epoch, from+1, lastEpoch(s.log[:from]), s.log[from:min(from+mostShip, len(s.log))]...))
	}
	return tells(l...)
}

// fork is the second telling of what a site does that was heard: the fork is found number by number.
func (s *site) fork() {
	if !s.has {
		return
	}
	fork, epoch := 0, 0
	for n := 1; n <= min(len(s.log), s.hello.End); n++ {
		for _, x := range s.hello.Starts {
			if x.First == n {
				epoch = x.Epoch
			}
		}
		if s.log[n-1].Epoch == epoch {
			fork = n
		}
	}
	if fork < runsEnd(s.runs) {
		return
	}
	file, _ := s.disk.Read(fileOrphans)
	s.set(deposed(s.page.Epoch, api.Forked, fork, len(file)))
}

// file is the second telling of what is done to the file of orphans.
func (s *site) file() {
	p := s.page
	if p.Fork < len(s.log) {
		file, _ := s.disk.Read(fileOrphans)
		ahead, _ := orphan.Scan(file[:p.Base])
		if len(ahead) > 0 && ahead[len(ahead)-1].Epoch >= p.Epoch {
			return
		}
		if p.Base < len(file) {
			s.disk.Cut(fileOrphans, p.Base)
		}
		s.disk.Write(fileOrphans, orphanBytes(holds(p.Epoch, p.Fork, s.log[p.Fork:]...)))
		s.disk.Sync()
	}
	s.set(deposed(p.Epoch, api.Filed, p.Fork, p.Base))
}

func (s *site) receive(b []byte) answer {
	m, e := letter.Decode(b)
	if e != api.OK {
		return refused(api.ErrBad)
	}
	if m.Epoch < s.page.Epoch {
		return answer{}
	}
	if m.Epoch > s.page.Epoch {
		s.set(heard(m.Epoch))
		s.forget()
	}
	switch {
	case s.page.Role == api.Primary && (m.Kind == api.Ack || m.Kind == api.Hello && m.Role == api.Replica):
		s.known, s.knows = max(s.known, m.End), true
		s.acked = max(s.acked, min(s.known, len(s.log)))
	case s.page.Role == api.Replica && m.Kind == api.Ship:
		return s.take(m)
	case s.page.Role == api.Deposed && m.Kind == api.Hello && m.Role == api.Primary:
		s.hello, s.has = m, true
	}
	return answer{}
}

func (s *site) take(m api.Message) answer {
	if m.From > len(s.log)+1 || m.Prev != lastEpoch(s.log[:m.From-1]) {
		return answer{}
	}
	for _, c := range m.Commits {
		if c.Number <= len(s.log) && c.Epoch != s.log[c.Number-1].Epoch {
			return answer{}
		}
	}
	had := min(len(s.log)-m.From+1, len(m.Commits))
	s.add(m.Commits[had:]...)
	return tells(ackOf(s.page.Epoch, len(s.log)))
}

func (s *site) promote() answer {
	switch s.page.Role {
	case api.Primary:
		return refused(api.ErrAlreadyPrimary)
	case api.Deposed:
		return refused(api.ErrDeposed)
	}
	if s.page.Epoch == most {
		return refused(api.ErrArg)
	}
	s.set(primary(s.page.Epoch+1, len(s.log)))
	s.forget()
	return numbered(s.page.Epoch)
}

func (s *site) flush() answer {
	if s.page.Role == api.Deposed {
		return refused(api.ErrDeposed)
	}
	upto := len(s.log)
	if s.page.Role == api.Primary {
		upto = s.acked
	}
	if end := runsEnd(s.runs); upto > end {
		x := api.Run{From: end + 1, Upto: upto, Ops: leftBy(s.log[end:upto])}
		if len(x.Ops) > mostRunOps {
			return refused(api.ErrLong)
		}
		s.disk.Write(fileRuns, runBytes(x))
		s.disk.Sync()
		s.runs = append(s.runs, x)
	}
	if s.page.Role == api.Primary && s.acked > s.page.Acked {
		s.set(primary(s.page.Epoch, s.acked))
	}
	return answer{}
}

// out is how many commits of a primary are unacked.
func (s *site) out() int {
	if s.page.Role != api.Primary {
		return 0
	}
	return len(s.log) - s.acked
}

// What is compared, and how.

// short keeps what is told of much readable.
func short(x any) string {
	s := strings.ToValidUTF8(fmt.Sprintf("%+v", x), "?")
	if len(s) > 300 {
		return s[:200] + " .. " + s[len(s)-80:]
	}
	return s
}

func alikeLogs(a, b []api.Commit) bool { return slices.EqualFunc(a, b, commit.Same) }

func alikeRuns(a, b []api.Run) bool {
	return slices.EqualFunc(a, b, func(a, b api.Run) bool {
		return a.From == b.From && a.Upto == b.Upto && slices.Equal(a.Ops, b.Ops)
	})
}

// must stops a test whose ground is gone.
func must(t *testing.T, what string, got api.Errno) {
	t.Helper()
	if got != api.OK {
		t.Fatalf("%s: %d", what, got)
	}
}

// want: the call answers just that.
func want(t *testing.T, n *node.Node, a act, right answer) {
	t.Helper()
	if got := a.doTo(n); !got.is(right) {
		t.Fatalf("%v = %v, not %v", a, got, right)
	}
}

// memory is what the calls without an Errno tell of a node, its log and runs aside.
type memory struct {
	up    bool
	page  api.Page
	out   int
	known int
	knows bool
}

func memoryOf(n *node.Node) memory {
	m := memory{up: n.Up(), page: n.Page(), out: n.Out()}
	m.known, m.knows = n.Known()
	return m
}

func wantMemory(t *testing.T, what string, n *node.Node, right memory) {
	t.Helper()
	if got := memoryOf(n); got != right {
		t.Fatalf("%s: the node is %+v, not %+v", what, got, right)
	}
}

// wantDown: the node is down: each call says so, or tells nothing. Open is not asked.
func wantDown(t *testing.T, what string, n *node.Node) {
	t.Helper()
	for _, a := range append(plain(), commits(), receivesBytes(9), downs()) {
		if got := a.doTo(n); !got.is(refused(api.ErrDown)) {
			t.Fatalf("%s: %v = %v", what, a, got)
		}
	}
	wantMemory(t, what, n, memory{})
	if l, r := n.Log(), n.Runs(); l != nil || r != nil {
		t.Fatalf("%s: Log and Runs are %s, %s", what, short(l), short(r))
	}
}

// look is what the calls that change nothing tell of a disk.
type look struct {
	on      bool
	pending int
	steps   int
	held    [files]string
	durable [files]string
}

func (l look) String() string {
	return fmt.Sprintf("on %v, %d pending, %d done, held %q, durable %q", l.on, l.pending, l.steps, l.held, l.durable)
}

func lookAt(d *disk.Disk) look {
	l := look{on: d.On(), pending: d.Pending(), steps: d.Steps()}
	for file := range files {
		b, _ := d.Read(file)
		l.held[file] = string(b)
		l.durable[file] = string(d.Durable(file))
	}
	return l
}

func wantLook(t *testing.T, what string, d *disk.Disk, right look) {
	t.Helper()
	if got := lookAt(d); got != right {
		t.Fatalf("%s: the disk is\n%v, not\n%v", what, got, right)
	}
}

// contents are the bytes of a disk's files.
type contents [files][]byte

func diskOf(c contents) *disk.Disk {
	d := disk.New()
	for file, b := range c {
		if d.Write(file, b) != api.OK {
			panic("a new disk refuses")
		}
	}
	if d.Pending() > 0 {
		d.Sync()
	}
	return d
}

// holding are the contents of a node's disk with that page, log and runs.
func holding(p api.Page, log []api.Commit, uptos ...int) contents {
	return contents{logBytes(log...), pageBytes(p), runBytes(runsOf(log, uptos...)...), nil}
}

// bench is a node, and beside it the second telling of it: each call is done to both, and all that is told is compared.
type bench struct {
	t *testing.T
	d *disk.Disk
	n *node.Node
	s *site
}

func benchOf(t *testing.T, number, leash int, c contents) *bench {
	t.Helper()
	b := &bench{t: t, d: diskOf(c), s: &site{number: number, most: leash, disk: diskOf(c)}}
	n, e := node.New(number, leash, b.d)
	must(t, "New", e)
	must(t, "the second telling's New", b.s.open())
	b.n = n
	b.compare("New")
	return b
}

// compare: the disks are the same, and the node tells what it is to tell.
func (b *bench) compare(what string) {
	b.t.Helper()
	wantLook(b.t, what, b.d, lookAt(b.s.disk))
	if !b.s.up {
		wantMemory(b.t, what, b.n, memory{})
		return
	}
	wantMemory(b.t, what, b.n, memory{up: true, page: b.s.page, out: b.s.out(), known: b.s.known, knows: b.s.knows})
	if got := b.n.Log(); !alikeLogs(got, b.s.log) {
		b.t.Fatalf("%s: Log is %s, not %s", what, short(got), short(b.s.log))
	}
	if got := b.n.Runs(); !alikeRuns(got, b.s.runs) {
		b.t.Fatalf("%s: Runs are %s, not %s", what, short(got), short(b.s.runs))
	}
	if b.d.On() {
		b.compareReads(what)
	}
}

// compareReads: reads tell the fold of the log, or that the node is deposed.
func (b *bench) compareReads(what string) {
	b.t.Helper()
	read := fold(b.s.log)
	keys := []string{"", "a", "ab", "b", "\x00\xff", of(17)}
	for key := range read {
		keys = append(keys, key)
	}
	for _, key := range keys {
		v, is := read[key]
		right := value(v, is)
		if b.s.page.Role == api.Deposed {
			right = refused(api.ErrDeposed)
		}
		if got := reads(key).doTo(b.n); !got.is(right) {
			b.t.Fatalf("%s: Read(%q) = %v, not %v", what, key, got, right)
		}
	}
}

// do does a call to both, and answers what both answered.
func (b *bench) do(a act) answer {
	b.t.Helper()
	what := fmt.Sprintf("%v of %+v", a, b.s.page)
	got := a.doTo(b.n)
	if right := b.s.do(a); !got.is(right) {
		b.t.Fatalf("%s = %v, not %v", what, got, right)
	}
	b.compare(what)
	return got
}

// want does a call that is to answer that.
func (b *bench) want(a act, right answer) {
	b.t.Helper()
	if got := b.do(a); !got.is(right) {
		b.t.Fatalf("%v = %v, not %v", a, got, right)
	}
}

// all does calls that are to be OK.
func (b *bench) all(l ...act) {
	b.t.Helper()
	for _, a := range l {
		must(b.t, a.String(), b.do(a).e)
	}
}

// refuses does a call that is to be refused so, and to change nothing.
func (b *bench) refuses(a act, e api.Errno) {
	b.t.Helper()
	ahead, memory := lookAt(b.d), memoryOf(b.n)
	b.want(a, refused(e))
	wantLook(b.t, a.String(), b.d, ahead)
	wantMemory(b.t, a.String(), b.n, memory)
}

// passes does a call that is OK, tells nothing, and changes nothing.
func (b *bench) passes(a act) {
	b.t.Helper()
	b.refuses(a, api.OK)
}

// wantMemory: what the node tells of itself, written out.
func (b *bench) wantMemory(what string, p api.Page, out, known int, knows bool) {
	b.t.Helper()
	wantMemory(b.t, what, b.n, memory{up: true, page: p, out: out, known: known, knows: knows})
}

func (b *bench) both(change func(d *disk.Disk) api.Errno) {
	b.t.Helper()
	must(b.t, "the disk", change(b.d))
	must(b.t, "the other disk", change(b.s.disk))
}

func (b *bench) fuse(n int) {
	b.t.Helper()
	b.both(func(d *disk.Disk) api.Errno { return d.Fuse(n) })
}

func (b *bench) safe() {
	b.t.Helper()
	b.both((*disk.Disk).Safe)
}

func (b *bench) pull() {
	b.t.Helper()
	b.both((*disk.Disk).Pull)
}

func (b *bench) start(k, t int) {
	b.t.Helper()
	b.both(func(d *disk.Disk) api.Errno { return d.Start(k, t) })
}

// stand is where a node stands: what its disk holds, and what was done to it.
type stand struct {
	name     string
	number   int
	leash    int
	contents contents
	acts     []act
}

func (x stand) bench(t *testing.T) *bench {
	t.Helper()
	b := benchOf(t, x.number, x.leash, x.contents)
	b.all(x.acts...)
	return b
}

// filedAhead lists sections of reconciliations that are done.
func filedAhead() []api.Section {
	return []api.Section{holds(2, 1, row(2, 1)...), holds(3, 2, row(3, 1, 2)...)}
}

// deposedAt is a node of the epoch 4 that was deposed with a log of the epochs 1 1 2 3 3, of which it shares 3 commits with the primary of the epoch 4.
func deposedAt(p api.Page) contents {
	log := row(1, 1, 1, 2, 3, 3)
	if p.Phase == api.Cut {
		log = log[:3]
	}
	c := holding(p, log, 2)
	c[fileOrphans] = orphanBytes(filedAhead()...)
	if p.Phase == api.Filed || p.Phase == api.Cut {
		c[fileOrphans] = orphanBytes(append(filedAhead(), holds(4, 3, row(4, 3, 3)...))...)
	}
	return c
}

// aheadBase is where the section of that node begins.
func aheadBase() int { return len(orphanBytes(filedAhead()...)) }

// aheadHello is the hello of that primary.
func aheadHello() api.Message { return helloOf(4, api.Primary, 1, 1, 2, 4, 4, 4) }

func primaries() []stand {
	five, runs := row(1, 1, 1, 2, 3, 3), []int{1, 3}
	return []stand{
		{"a new primary", 0, 2, contents{}, nil},
		{"a primary with two commits out", 0, 2, holding(primary(1, 0), row(1, 1, 1)), nil},
		{"a primary with more out than the leash", 0, 1, holding(primary(1, 1), row(1, 1, 1, 1, 1)), nil},
		{"a primary that knows an end below its acked position", 1, 4, holding(primary(3, 4), five, runs...), []act{receives(ackOf(3, 2))}},
		{"a primary that knows an end below its own", 0, 4, holding(primary(3, 1), five, 1), []act{receives(helloOf(3, api.Replica, 1, 1, 2))}},
		{"a primary that knows its own end", 0, 4, holding(primary(3, 3), five, runs...), []act{receives(ackOf(3, 5))}},
		{"a primary that knows an end above its own", 0, 16, holding(primary(3, 3), five, runs...), []act{receives(ackOf(3, 9))}},
		{"a primary whose runs are ahead of its page", 0, 3, holding(primary(3, 2), five, runs...), nil},
		{"a primary that was promoted", 1, 3, holding(replica(3), five, runs...), []act{promotes()}},
		{"a primary that was promoted, without a log", 1, 3, contents{}, []act{promotes()}},
		{"a primary that flushed", 0, 3, contents{}, []act{commits(put("a", "1")), commits(del("a")), receives(ackOf(1, 1)), flushes()}},
		{"a primary of the greatest epoch", 0, 3, holding(primary(most, 1), row(1, 1, most)), []act{receives(ackOf(most, 1))}},
	}
}

func replicas() []stand {
	five, runs := row(1, 1, 1, 2, 3, 3), []int{1, 3}
	return []stand{
		{"a new replica", 1, 2, contents{}, nil},
		{"a replica with a log", 1, 2, holding(replica(3), five), nil},
		{"a replica with runs", 0, 2, holding(replica(4), five, runs...), nil},
		{"a replica whose runs have all", 0, 2, holding(replica(3), five, 5), nil},
		{"a replica that came back", 0, 3, deposedAt(deposed(4, api.Cut, 3, aheadBase())), []act{ticks()}},
		{"a replica of the greatest epoch", 1, 3, holding(replica(most), row(1, 1, most)), nil},
	}
}

func deposedOnes() []stand {
	l := []stand{
		{"heard", 0, 4, deposedAt(heard(4)), nil},
		{"heard, with a hello", 0, 4, deposedAt(heard(4)), []act{receives(aheadHello())}},
		{"heard, with a hello by which its runs would be cut", 0, 4, deposedAt(heard(4)), []act{receives(helloOf(4, api.Primary, 1, 4))}},
		{"heard, without a log", 1, 4, contents{}, []act{receives(ackOf(2, 3))}},
		{"heard, of the greatest epoch", 1, 4, contents{}, []act{receives(helloOf(most, api.Primary, most))}},
		{"forked, where the file of orphans has its epoch already", 0, 4, contents{logBytes(row(1, 1, 1)...), pageBytes(deposed(3, api.Forked, 1, aheadBase())), nil, orphanBytes(filedAhead()...)}, nil},
		{"forked, with nothing lost", 0, 4, holding(deposed(4, api.Forked, 2, 0), row(1, 1, 3), 2), nil},
	}
	for _, phase := range late() {
		c := deposedAt(deposed(4, phase, 3, aheadBase()))
		l = append(l, stand{fmt.Sprintf("in the phase %d", phase), 1, 4, c, nil}, stand{fmt.Sprintf("in the phase %d, with a hello", phase), 1, 4, c, []act{receives(aheadHello())}})
	}
	return l
}

func stands() []stand { return slices.Concat(primaries(), replicas(), deposedOnes()) }

// messagesFor lists messages of each kind for a site: of a lower epoch, of its own, of higher ones.
func messagesFor(s *site) []api.Message {
	var l []api.Message
	end := len(s.log)
	for _, epoch := range []int{1, s.page.Epoch - 1, s.page.Epoch, s.page.Epoch + 1, most} {
		if epoch < 1 || epoch > most {
			continue
		}
		for _, role := range roles() {
			l = append(l, helloOf(epoch, role), helloOf(epoch, role, 1, 1), helloOf(epoch, role, 1, 1, epoch, epoch, epoch, epoch, epoch))
		}
		for _, n := range []int{0, 1, end - 1, end, end + 1, most} {
			if n >= 0 {
				l = append(l, ackOf(epoch, n))
			}
		}
		l = append(l, shipOf(epoch, 1, 0), shipOf(epoch, 1, 0, row(1, epoch, epoch)...), shipOf(epoch, end+2, 1, row(end+2, epoch)...))
		if last := lastEpoch(s.log); epoch >= last {
			l = append(l, shipOf(epoch, end+1, last), shipOf(epoch, end+1, last, row(end+1, epoch, epoch, epoch, epoch)...))
			if end > 1 {
				prev := s.log[end-2].Epoch
				l = append(l, shipOf(epoch, end, prev, append(slices.Clone(s.log[end-1:]), row(end+1, epoch)...)...))
			}
		}
	}
	return l
}

// actsFor lists calls of all kinds for a site.
func actsFor(s *site) []act {
	l := []act{commits(put("a", "new")), commits(append(big(), put("a", ""))[1:]...), commits(), commits(nine()...), commits(put("", "1")), reads("a"), reads("b"), reads(""), ticks(), promotes(), flushes(), opens(), receivesBytes(), receivesBytes(9), receivesBytes(3, 1)}
	for _, m := range messagesFor(s) {
		l = append(l, receives(m))
	}
	return l
}

// edges are whole numbers of which one too many or one too few is asked.
func edges() []int {
	return []int{math.MinInt, math.MinInt + 1, -1 << 31, -2, -1, 0, 1, 2, 3, 15, 16, 17, most - 1, most, most + 1, 1 << 31, math.MaxInt - 1, math.MaxInt}
}

func TestLimits(t *testing.T) {
	for _, c := range []struct {
		name      string
		got, want int
	}{
		{"MaxNumber", api.MaxNumber, most}, {"MaxLeash", api.MaxLeash, mostLeash}, {"MaxShip", api.MaxShip, mostShip}, {"MaxRunOps", api.MaxRunOps, mostRunOps}, {"MaxFiles", api.MaxFiles, files},
		{"FileLog", api.FileLog, fileLog}, {"FilePages", api.FilePages, filePages}, {"FileRuns", api.FileRuns, fileRuns}, {"FileOrphans", api.FileOrphans, fileOrphans},
		{"ErrNil", int(api.ErrNil), 1}, {"ErrArg", int(api.ErrArg), 2}, {"ErrLong", int(api.ErrLong), 3}, {"ErrBad", int(api.ErrBad), 5}, {"ErrOff", int(api.ErrOff), 6}, {"ErrDown", int(api.ErrDown), 7}, {"ErrLagging", int(api.ErrLagging), 8}, {"ErrDeposed", int(api.ErrDeposed), 9}, {"ErrAlreadyPrimary", int(api.ErrAlreadyPrimary), 10}, {"ErrReplica", int(api.ErrReplica), 11},
	} {
		if c.got != c.want {
			t.Errorf("%s is %d, not %d", c.name, c.got, c.want)
		}
	}
}

// TestExamples: the chapter's table.
func TestExamples(t *testing.T) {
	n, e := node.New(0, 2, disk.New())
	must(t, "New", e)
	want(t, n, commits(put("a", "1")), numbered(1))
	want(t, n, commits(put("b", "2")), numbered(2))
	want(t, n, commits(del("a")), refused(api.ErrLagging))
	wantMemory(t, "behind two commits", n, memory{up: true, page: primary(1, 0), out: 2})
	want(t, n, reads("a"), value("1", true))
	want(t, n, reads("c"), value("", false))
	want(t, n, receives(ackOf(1, 1)), answer{})
	wantMemory(t, "behind an ack", n, memory{up: true, page: primary(1, 0), out: 1, known: 1, knows: true})
	want(t, n, commits(del("a")), numbered(3))

	n, e = node.New(1, 2, disk.New())
	must(t, "New", e)
	want(t, n, commits(put("a", "1")), refused(api.ErrReplica))
	want(t, n, promotes(), numbered(2))
	want(t, n, promotes(), refused(api.ErrAlreadyPrimary))

	wantNew(t, 0, 17, disk.New(), api.ErrArg)
	wantNew(t, 2, 1, disk.New(), api.ErrArg)
	wantNew(t, 0, 1, nil, api.ErrNil)
}

// pair is two nodes, and what they tell each other, told one by one.
type pair [2]*bench

func newPair(t *testing.T, leash int) pair {
	t.Helper()
	return pair{benchOf(t, 0, leash, contents{}), benchOf(t, 1, leash, contents{})}
}

// tick lets a node tick, and answers what it told.
func (x pair) tick(t *testing.T, from int) [][]byte {
	t.Helper()
	told := x[from].do(ticks())
	must(t, "Tick", told.e)
	return told.mail
}

// bring brings a letter to a node, and answers what that told.
func (x pair) bring(t *testing.T, to int, b []byte) [][]byte {
	t.Helper()
	told := x[to].do(receivesBytes(b...))
	must(t, "Receive", told.e)
	return told.mail
}

// TestExamplesOfTheWhole: the document's examples of a world, as far as they speak of its nodes.
func TestExamplesOfTheWhole(t *testing.T) {
	w := newPair(t, 2)
	w[0].want(commits(put("a", "1")), numbered(1))
	w[0].want(commits(put("b", "2")), numbered(2))
	w[0].refuses(commits(put("c", "3")), api.ErrLagging)
	// 2
	w.bring(t, 0, w.tick(t, 1)[0])
	ack := w.bring(t, 1, w.tick(t, 0)[1])
	w.bring(t, 0, ack[0])
	if w[0].n.Out() != 0 || len(w[0].n.Log()) != 2 || len(w[1].n.Log()) != 2 {
		t.Fatalf("%d out, %d and %d commits", w[0].n.Out(), len(w[0].n.Log()), len(w[1].n.Log()))
	}
	w[0].want(commits(put("c", "3")), numbered(3))
	// 3
	w[1].want(promotes(), numbered(2))
	w[1].want(commits(put("a", "9")), numbered(3))
	// 4
	w.bring(t, 0, w.tick(t, 1)[0])
	w[0].wantMemory("deposed", heard(2), 0, 0, false)
	w[0].refuses(reads("a"), api.ErrDeposed)
	w[0].refuses(promotes(), api.ErrDeposed)
	for _, p := range []api.Page{deposed(2, api.Forked, 2, 0), deposed(2, api.Filed, 2, 0), deposed(2, api.Cut, 2, 0), replica(2)} {
		w[0].refuses(promotes(), api.ErrDeposed)
		w.tick(t, 0)
		w[0].wantMemory("on its way back", p, 0, 0, false)
	}
	if l, _ := orphan.Scan(w[0].d.Durable(fileOrphans)); len(l) != 1 || !alikeSections(l[0], holds(2, 2, with(1, 3, put("c", "3")))) {
		t.Errorf("the orphans are %s", short(l))
	}
	if l := w[0].n.Log(); !alikeLogs(l, []api.Commit{with(1, 1, put("a", "1")), with(1, 2, put("b", "2"))}) {
		t.Errorf("the log is %s", short(l))
	}
	// 6
	w[1].passes(receives(ackOf(1, 3)))
	w[1].passes(receives(shipOf(1, 1, 0, row(1, 1)...)))
	w[1].refuses(promotes(), api.ErrAlreadyPrimary)
	w[0].want(promotes(), numbered(3))
}

func alikeSections(a, b api.Section) bool {
	return a.Epoch == b.Epoch && a.Fork == b.Fork && alikeLogs(a.Commits, b.Commits)
}

// TestExampleOfAFuse: the document's seventh example.
func TestExampleOfAFuse(t *testing.T) {
	for kept, end := range []int{0, 1} {
		b := benchOf(t, 0, 2, contents{})
		b.fuse(1)
		b.want(commits(put("a", "1")), refused(api.ErrOff))
		wantDown(t, "behind a fuse", b.n)
		b.start(kept, 0)
		b.all(opens())
		if len(b.n.Log()) != end || b.n.Out() != end {
			t.Errorf("%d kept: %d commits, %d out", kept, len(b.n.Log()), b.n.Out())
		}
		b.want(commits(put("a", "2")), numbered(end+1))
	}
}

// TestExampleOfAFlush: the document's eighth example.
func TestExampleOfAFlush(t *testing.T) {
	b := benchOf(t, 0, 2, contents{})
	b.all(commits(put("a", "1")), commits(put("b", "2")), receives(ackOf(1, 1)), flushes())
	if l := b.n.Runs(); len(l) != 1 || l[0].Upto != 1 {
		t.Errorf("the runs are %s", short(l))
	}
}

// TestStands: where the nodes of these tests stand is what their names say.
func TestStands(t *testing.T) {
	for _, c := range []struct {
		l    []stand
		role api.Role
	}{{primaries(), api.Primary}, {replicas(), api.Replica}, {deposedOnes(), api.Deposed}} {
		for _, x := range c.l {
			if got := x.bench(t).n.Page().Role; got != c.role {
				t.Errorf("%s: the role is %d", x.name, got)
			}
		}
	}
}

// TestEveryCall: each call at each stand, once and once more, with each tick and each read behind it.
func TestEveryCall(t *testing.T) {
	for _, x := range stands() {
		for _, a := range actsFor(x.bench(t).s) {
			b := x.bench(t)
			b.do(a)
			b.do(a)
			b.all(ticks(), ticks(), ticks())
			b.do(downs())
			b.all(opens(), ticks())
		}
	}
}

// TestEveryTwoCalls: one call behind another one; of the second ones each third, by turns.
func TestEveryTwoCalls(t *testing.T) {
	if testing.Short() {
		t.Skip("many calls")
	}
	for _, x := range stands() {
		t.Run(x.name, func(t *testing.T) {
			t.Parallel()
			for turn, a := range actsFor(x.bench(t).s) {
				first := x.bench(t)
				first.do(a)
				for at, next := range actsFor(first.s) {
					if (at+turn)%3 > 0 {
						continue
					}
					b := x.bench(t)
					a.doTo(b.n)
					b.s.do(a)
					b.do(next)
				}
			}
		})
	}
}

// The words ahead of P23.1

// TestDownCalls: each call of a node that is down, but Open and Up, says so, whatever it is handed, and whether the disk is on or off.
func TestDownCalls(t *testing.T) {
	for _, x := range stands() {
		b := x.bench(t)
		acts := actsFor(b.s)
		b.want(downs(), answer{})
		ahead := lookAt(b.d)
		for range 2 {
			for _, a := range acts {
				if a.call != "Open" {
					b.refuses(a, api.ErrDown)
				}
			}
			wantDown(t, x.name, b.n)
			if b.d.On() {
				wantLook(t, x.name, b.d, ahead)
				b.pull()
			}
		}
	}
}

// TestOffAhead: with the disk off each call that answers an Errno, but Open and Down, finds that ahead of what else is wrong; the node is down then.
func TestOffAhead(t *testing.T) {
	for _, x := range stands() {
		for _, a := range actsFor(x.bench(t).s) {
			if a.call == "Open" {
				continue
			}
			b := x.bench(t)
			b.pull()
			ahead := lookAt(b.d)
			b.want(a, refused(api.ErrOff))
			wantLook(t, x.name, b.d, ahead)
			wantDown(t, x.name, b.n)
			b.refuses(opens(), api.ErrOff)
			b.start(0, 0)
			b.all(opens())
		}
	}
}

// TestOffUnasked: the calls that answer no Errno, and Open and Down, don't ask whether the disk is on.
func TestOffUnasked(t *testing.T) {
	for _, x := range stands() {
		b := x.bench(t)
		ahead := memoryOf(b.n)
		b.pull()
		for range 2 {
			b.want(opens(), answer{})
			wantMemory(t, x.name, b.n, ahead)
			b.compare(x.name)
		}
		b.want(downs(), answer{})
		wantDown(t, x.name, b.n)
	}
}

// TestOffUnnoticed: a disk that was off and is on again, between two calls, is as if it had not been.
func TestOffUnnoticed(t *testing.T) {
	for _, x := range stands() {
		for _, a := range actsFor(x.bench(t).s) {
			b, other := x.bench(t), x.bench(t)
			b.pull()
			b.start(3, 5)
			if got, right := b.do(a), other.do(a); !got.is(right) {
				t.Errorf("%s: %v = %v, not %v", x.name, a, got, right)
			}
		}
	}
}

// TestFuse: the disk goes off at each raw step of each call.
func TestFuse(t *testing.T) {
	blown := map[string]int{}
	for _, x := range stands() {
		for _, a := range actsFor(x.bench(t).s) {
			ahead := x.bench(t)
			steps := ahead.d.Steps()
			ahead.do(a)
			steps = ahead.d.Steps() - steps
			for fuse := range steps {
				x.blow(t, a, fuse)
				blown[a.call]++
			}
			b := x.bench(t)
			b.fuse(steps)
			if got := b.do(a); got.e == api.ErrOff || !b.d.On() || !b.n.Up() {
				t.Errorf("%s: %v with a fuse of %d: %v", x.name, a, steps, got)
			}
		}
	}
	for _, call := range []string{"Commit", "Tick", "Receive", "Promote", "Flush"} {
		if blown[call] < 10 {
			t.Errorf("too few of %s: %v", call, blown)
		}
	}
	if blown["Read"] > 0 {
		t.Errorf("a read does raw steps: %v", blown)
	}
}

// blow does a call in which the disk goes off, and then starts it with each number of steps that may be kept.
func (x stand) blow(t *testing.T, a act, fuse int) {
	t.Helper()
	for kept := range fuse + 2 {
		b := x.bench(t)
		b.fuse(fuse)
		b.want(a, refused(api.ErrOff))
		wantDown(t, x.name, b.n)
		b.refuses(opens(), api.ErrOff)
		b.start(kept, 3*kept)
		// It stays down, till it is opened.
		wantDown(t, x.name, b.n)
		b.all(opens())
		b.do(a)
		b.all(ticks())
	}
}

// TestOpenFuse: the disk goes off while a node is opened.
func TestOpenFuse(t *testing.T) {
	for _, x := range stands() {
		c := x.contents
		for file := range c {
			c[file] = append(slices.Clone(c[file]), 40, 1)
		}
		for fuse := range 9 {
			d := diskOf(c)
			must(t, "Fuse", d.Fuse(fuse))
			n, e := node.New(x.number, x.leash, d)
			if fuse < 8 {
				if n != nil || e != api.ErrOff || d.On() {
					t.Errorf("%s: New with a fuse of %d = %d", x.name, fuse, e)
				}
				continue
			}
			must(t, x.name, e)
			if held := lookAt(d).held; held != lookAt(diskOf(x.contents)).held {
				t.Errorf("%s: behind New the disk holds %q", x.name, held)
			}
		}
	}
	b := benchOf(t, 0, 3, contents{})
	b.all(commits(big()...))
	for fuse := range 2 {
		b.fuse(1)
		b.want(commits(big()...), refused(api.ErrOff))
		b.start(1, 0)
		b.fuse(fuse)
		b.want(opens(), refused(api.ErrOff))
		wantDown(t, "Open with a fuse", b.n)
		b.refuses(opens(), api.ErrOff)
		b.start(0, 0)
		b.all(opens())
	}
}

// P23.1

// wantNew: New is refused so, and answers no node.
func wantNew(t *testing.T, number, leash int, d *disk.Disk, e api.Errno) {
	t.Helper()
	if n, got := node.New(number, leash, d); n != nil || got != e {
		t.Errorf("New(%d, %d) = %v, %d, not %d", number, leash, n != nil, got, e)
	}
}

// unsound lists what no node's disk holds.
func unsound() []contents {
	return []contents{
		holding(primary(1, 2), row(1, 1)), holding(primary(1, 0), row(1, 1, 2)), holding(replica(2), row(1, 1, 3)), holding(heard(2), row(1, 1, 2)),
		holding(deposed(3, api.Forked, 3, 0), row(1, 1, 2)), holding(deposed(3, api.Filed, 1, 1), row(1, 1, 2)), holding(deposed(3, api.Cut, 1, 0), row(1, 1, 2)), holding(deposed(3, api.Forked, 1, 0), row(1, 1, 2), 2),
		{nil, nil, runBytes(runsOf(row(1, 1), 1)...), nil},
	}
}

// TestNew: each number with each leash; what a new node is.
func TestNew(t *testing.T) {
	for number, p := range []api.Page{primary(1, 0), replica(1)} {
		for leash := 1; leash <= mostLeash; leash++ {
			d := disk.New()
			n, e := node.New(number, leash, d)
			must(t, "New", e)
			wantMemory(t, "a new node", n, memory{up: true, page: p})
			if n.Log() != nil || n.Runs() != nil || d.Steps() != 0 || !d.On() {
				t.Errorf("a new node has commits, runs, or did %d steps", d.Steps())
			}
		}
	}
}

// TestNewRefuses: what is wrong alone, and two and three of that at once: the first one counts.
func TestNewRefuses(t *testing.T) {
	off := disk.New()
	must(t, "Pull", off.Pull())
	bad := diskOf(unsound()[0])
	must(t, "Pull", bad.Pull())
	type medium struct {
		d *disk.Disk
		e api.Errno
	}
	media := []medium{{nil, api.ErrNil}, {new(disk.Disk), api.ErrNil}, {off, api.ErrOff}, {bad, api.ErrOff}, {disk.New(), api.OK}}
	for _, c := range unsound() {
		media = append(media, medium{diskOf(c), api.ErrBad})
	}
	for _, m := range media {
		ahead := lookAt(m.d)
		for _, number := range edges() {
			for _, leash := range edges() {
				right := m.e
				if m.e != api.ErrNil && (number < 0 || number > 1 || leash < 1 || leash > mostLeash) {
					right = api.ErrArg
				}
				if right != api.OK {
					wantNew(t, number, leash, m.d, right)
					wantLook(t, "New that was refused", m.d, ahead)
				}
			}
		}
	}
}

// TestNewOfAUsedDisk: the acked position is what its page says; nothing is known.
func TestNewOfAUsedDisk(t *testing.T) {
	for acked := range 4 {
		b := benchOf(t, 1, 16, holding(primary(5, acked), row(1, 1, 2, 5)))
		b.wantMemory("New", primary(5, acked), 3-acked, 0, false)
		b.want(commits(del("a")), numbered(4))
		b.wantMemory("Commit", primary(5, acked), 4-acked, 0, false)
	}
	b := benchOf(t, 0, 16, holding(replica(5), row(1, 1, 2, 5), 1, 2))
	b.wantMemory("New", replica(5), 0, 0, false)
	// Another node over the same disk tells the same.
	n, e := node.New(0, 1, b.d)
	must(t, "New", e)
	wantMemory(t, "another node", n, memoryOf(b.n))
}

// TestOpenUp: of a node that is up Open changes nothing, whatever it has in memory.
func TestOpenUp(t *testing.T) {
	for _, x := range stands() {
		b := x.bench(t)
		b.passes(opens())
		b.passes(opens())
		b.all(ticks())
	}
	b := benchOf(t, 0, 4, holding(primary(1, 0), row(1, 1, 1, 1)))
	b.all(receives(ackOf(1, 2)), opens())
	b.wantMemory("Open", primary(1, 0), 1, 2, true)
	b = benchOf(t, 0, 4, deposedAt(heard(4)))
	b.all(receives(aheadHello()), opens(), ticks())
	b.wantMemory("Tick", deposed(4, api.Forked, 3, aheadBase()), 0, 0, false)
}

// TestOpenDown: of a node that was down the memory is as at first.
func TestOpenDown(t *testing.T) {
	for _, x := range stands() {
		b := x.bench(t)
		p := b.n.Page()
		steps := b.d.Steps()
		b.all(downs(), opens())
		b.wantMemory(x.name, p, len(b.s.log)*isPrimary(p)-p.Acked, 0, false)
		if b.d.Steps() != steps {
			t.Errorf("%s: Open did raw steps", x.name)
		}
	}
	b := benchOf(t, 0, 4, holding(primary(1, 0), row(1, 1, 1, 1)))
	b.all(receives(ackOf(1, 2)))
	b.wantMemory("an ack", primary(1, 0), 1, 2, true)
	b.all(downs(), opens())
	b.wantMemory("Open", primary(1, 0), 3, 0, false)
	b.all(receives(ackOf(1, 2)), flushes(), downs(), opens())
	b.wantMemory("Open behind Flush", primary(1, 2), 1, 0, false)
	// The hello is gone.
	b = benchOf(t, 0, 4, deposedAt(heard(4)))
	b.all(receives(aheadHello()), downs(), opens(), ticks())
	b.wantMemory("Tick", heard(4), 0, 0, false)
}

func isPrimary(p api.Page) int {
	if p.Role == api.Primary {
		return 1
	}
	return 0
}

// TestOpenRefuses: a node that is down stays so.
func TestOpenRefuses(t *testing.T) {
	for _, c := range unsound() {
		b := benchOf(t, 0, 4, contents{})
		b.all(downs())
		b.both(func(d *disk.Disk) api.Errno {
			for file, bytes := range c {
				must(t, "Write", d.Write(file, bytes))
			}
			return d.Sync()
		})
		b.refuses(opens(), api.ErrBad)
		b.refuses(opens(), api.ErrBad)
		wantDown(t, "Open", b.n)
		b.pull()
		b.refuses(opens(), api.ErrOff)
		wantDown(t, "Open", b.n)
	}
}

// TestDown: once it is OK, then it is down.
func TestDown(t *testing.T) {
	for _, x := range stands() {
		b := x.bench(t)
		ahead := lookAt(b.d)
		b.want(downs(), answer{})
		wantLook(t, x.name, b.d, ahead)
		wantDown(t, x.name, b.n)
		b.refuses(downs(), api.ErrDown)
		b.all(opens())
		b.want(downs(), answer{})
		b.refuses(downs(), api.ErrDown)
	}
}

// TestNumbers: a node that is opened again has the number, and the leash, that it was made with.
func TestNumbers(t *testing.T) {
	for leash := 1; leash <= mostLeash; leash++ {
		for number, role := range []api.Role{api.Primary, api.Replica} {
			b := benchOf(t, number, leash, contents{})
			b.all(downs(), opens())
			if b.n.Page().Role != role {
				t.Errorf("the node %d: %+v", number, b.n.Page())
			}
			if role == api.Replica {
				b.all(promotes())
			}
			b.takesJust(leash)
		}
	}
}

// takesJust: so many commits are taken, and then none.
func (b *bench) takesJust(count int) {
	b.t.Helper()
	for range count {
		end := len(b.n.Log())
		b.want(commits(put("n", fmt.Sprint(end))), numbered(end+1))
	}
	b.refuses(commits(put("n", "more")), api.ErrLagging)
	b.refuses(commits(put("n", "more")), api.ErrLagging)
}

// P23.2

// wrongBatches lists batches that may not be, by what is answered.
func wrongBatches() map[api.Errno][][]api.Op {
	return map[api.Errno][][]api.Op{
		api.ErrArg:  {nil, {}, {put("", "1")}, {put(of(17), "1")}, {put("a", of(33))}, {{Key: "a", Value: "1"}}, {put("a", "1"), del("")}, append(big()[:7], del(of(17)))},
		api.ErrLong: {nine(), append(nine(), nine()...), append(big(), put("", ""))},
	}
}

// TestCommit: numbers one behind the other, what the log holds, what is read, what is durable.
func TestCommit(t *testing.T) {
	for _, x := range []struct {
		b     *bench
		epoch int
	}{{benchOf(t, 0, 16, contents{}), 1}, {benchOf(t, 1, 16, holding(primary(7, 2), row(1, 1, 3))), 7}, {benchOf(t, 0, 16, holding(primary(most, 2), row(1, 1, most), 1)), most}} {
		log := x.b.n.Log()
		for _, ops := range [][]api.Op{{put("a", "1")}, {del("a")}, {put("a", ""), put("a", "2"), del("b")}, big(), {put(of(16), of(32))}} {
			steps := x.b.d.Steps()
			c := with(x.epoch, len(log)+1, ops...)
			x.b.want(commits(ops...), numbered(c.Number))
			log = append(log, c)
			if !alikeLogs(x.b.n.Log(), log) {
				t.Errorf("the log is %s", short(x.b.n.Log()))
			}
			if !bytes.Equal(x.b.d.Durable(fileLog), logBytes(log...)) || x.b.d.Pending() != 0 {
				t.Errorf("%v is not durable", c)
			}
			if got, right := x.b.d.Steps()-steps, (len(logBytes(c))+63)/64+1; got != right {
				t.Errorf("%d raw steps, not %d", got, right)
			}
		}
	}
}

// TestCommitRefuses: a wrong batch counts ahead of the role, the role ahead of the leash.
func TestCommitRefuses(t *testing.T) {
	for _, x := range stands() {
		b := x.bench(t)
		for e, l := range wrongBatches() {
			for _, ops := range l {
				b.refuses(commits(ops...), e)
			}
		}
		right := map[api.Role]api.Errno{api.Replica: api.ErrReplica, api.Deposed: api.ErrDeposed}[b.n.Page().Role]
		if right != api.OK {
			for _, ops := range [][]api.Op{{put("a", "1")}, {del("a")}, big()} {
				b.refuses(commits(ops...), right)
			}
		}
	}
	b := benchOf(t, 0, 1, contents{})
	b.takesJust(1)
	for e, l := range wrongBatches() {
		for _, ops := range l {
			b.refuses(commits(ops...), e)
		}
	}
	// With more out than the leash a replica and a deposed one say what they are.
	benchOf(t, 0, 1, holding(replica(1), row(1, 1, 1, 1))).refuses(commits(del("a")), api.ErrReplica)
	benchOf(t, 0, 1, holding(heard(2), row(1, 1, 1, 1))).refuses(commits(del("a")), api.ErrDeposed)
}

// TestLeash: at its bounds, with each number of commits out.
func TestLeash(t *testing.T) {
	log := row(1, slices.Repeat([]int{1}, 20)...)
	for leash := 1; leash <= mostLeash; leash++ {
		for acked := range 21 {
			b := benchOf(t, 0, leash, holding(primary(1, acked), log))
			b.takesJust(max(0, leash-(20-acked)))
		}
	}
}

// TestLeashAcked: each commit that is acked makes room for one.
func TestLeashAcked(t *testing.T) {
	for leash := 1; leash <= mostLeash; leash++ {
		b := benchOf(t, 0, leash, contents{})
		b.takesJust(leash)
		for acked := 1; acked <= leash; acked++ {
			b.all(receives(ackOf(1, acked)))
			b.takesJust(1)
		}
		b.all(receives(helloOf(1, api.Replica, slices.Repeat([]int{1}, 2*leash)...)))
		b.takesJust(leash)
	}
}

// TestGreatest: a log of the greatest number of commits there is.
func TestGreatest(t *testing.T) {
	if testing.Short() {
		t.Skip("a great log")
	}
	var file []byte
	for at := range most - 1 {
		file = append(file, logBytes(with(1, at+1, put("a", "1")))...)
	}
	n, e := node.New(0, 2, diskOf(contents{fileLog: file, filePages: pageBytes(primary(2, most-2))}))
	must(t, "New", e)
	starts := []api.Start{{Epoch: 1, First: 1}}
	hello := api.Message{Kind: api.Hello, Epoch: 2, Role: api.Primary, End: most - 1, Starts: starts}
	want(t, n, ticks(), tells(hello))
	want(t, n, receives(ackOf(2, most)), answer{})
	wantMemory(t, "an ack", n, memory{up: true, page: primary(2, most-2), known: most, knows: true})
	want(t, n, ticks(), tells(hello, shipOf(2, most, 1)))
	want(t, n, commits(del("a")), numbered(most))
	want(t, n, commits(), refused(api.ErrArg))
	want(t, n, commits(nine()...), refused(api.ErrLong))
	// No number is left, and none from which a ship could go on.
	want(t, n, commits(del("a")), refused(api.ErrArg))
	hello.End, hello.Starts = most, append(starts, api.Start{Epoch: 2, First: most})
	want(t, n, ticks(), tells(hello))
	want(t, n, reads("a"), value("", false))
	want(t, n, receives(ackOf(2, 0)), answer{})
	wantMemory(t, "an ack", n, memory{up: true, page: primary(2, most-2), known: most, knows: true})
	want(t, n, flushes(), answer{})
	wantMemory(t, "Flush", n, memory{up: true, page: primary(2, most), known: most, knows: true})
}

// TestGreatestLagging: with the greatest number taken the leash counts ahead.
func TestGreatestLagging(t *testing.T) {
	if testing.Short() {
		t.Skip("a great log")
	}
	var file []byte
	for at := range most {
		file = append(file, logBytes(with(1, at+1, put("a", "1")))...)
	}
	n, e := node.New(0, 2, diskOf(contents{fileLog: file, filePages: pageBytes(primary(1, most-2))}))
	must(t, "New", e)
	want(t, n, commits(del("a")), refused(api.ErrLagging))
	want(t, n, receives(ackOf(1, most-1)), answer{})
	want(t, n, commits(del("a")), refused(api.ErrArg))
	want(t, n, receives(helloOf(2, api.Primary)), answer{})
	want(t, n, ticks(), tells(api.Message{Kind: api.Hello, Epoch: 2, Role: api.Deposed, End: most, Starts: []api.Start{{Epoch: 1, First: 1}}}))
	wantMemory(t, "deposed", n, memory{up: true, page: deposed(2, api.Forked, 0, 0)})
}

// P23.3

// TestRead: keys that are there, that were deleted, that never were, that may not be.
func TestRead(t *testing.T) {
	log := []api.Commit{with(1, 1, put("a", "1"), put("b", "2"), put("e", "")), with(1, 2, del("b"), put("c", "3"), put("a", "4")), with(1, 3, del("c"), del("never"), put("c", "\x00"))}
	for _, p := range []api.Page{primary(1, 0), primary(9, 3), replica(1), replica(most)} {
		for _, uptos := range [][]int{nil, {1}, {3}, {1, 2, 3}} {
			b := benchOf(t, 0, 1, holding(p, log, uptos...))
			for key, right := range map[string]answer{"a": value("4", true), "b": value("", false), "c": value("\x00", true), "e": value("", true), "never": value("", false), "other": value("", false), "": value("", false), of(16): value("", false), of(17): value("", false)} {
				b.passesWith(reads(key), right)
			}
		}
	}
	for _, x := range deposedOnes() {
		b := x.bench(t)
		for _, key := range []string{"a", "b", "", of(17)} {
			b.refuses(reads(key), api.ErrDeposed)
		}
	}
}

// passesWith does a call that answers that, and changes nothing.
func (b *bench) passesWith(a act, right answer) {
	b.t.Helper()
	ahead, memory := lookAt(b.d), memoryOf(b.n)
	b.want(a, right)
	wantLook(b.t, a.String(), b.d, ahead)
	wantMemory(b.t, a.String(), b.n, memory)
}

// P23.4

// TestTickPrimary: what a primary tells, in its order, and its bytes.
func TestTickPrimary(t *testing.T) {
	b := benchOf(t, 0, 16, contents{})
	b.passesWith(ticks(), answer{mail: [][]byte{{1, 1, 1, 0, 0}}})
	b.all(commits(put("a", "1")), commits(put("b", "2")))
	b.passesWith(ticks(), answer{mail: [][]byte{{1, 1, 1, 2, 1, 1, 1}}})
	b.all(receives(ackOf(1, 1)))
	b.passesWith(ticks(), answer{mail: [][]byte{{1, 1, 1, 2, 1, 1, 1}, {2, 1, 2, 1, 1, 9, 1, 2, 1, 1, 0, 1, 98, 1, 50}}})
	b.all(receives(ackOf(1, 2)))
	b.passesWith(ticks(), answer{mail: [][]byte{{1, 1, 1, 2, 1, 1, 1}, {2, 1, 3, 1, 0}}})
}

// TestTickKnown: the ship behind each end that is known, below the log's end, at it and above it.
func TestTickKnown(t *testing.T) {
	log := row(1, 1, 1, 2, 2, 2, 4, 4, 5)
	for _, p := range []api.Page{primary(5, 0), primary(5, 3), primary(9, 8)} {
		hello := helloOf(p.Epoch, api.Primary, 1, 1, 2, 2, 2, 4, 4, 5)
		b := benchOf(t, 0, 16, holding(p, log, 2))
		b.passesWith(ticks(), tells(hello))
		for known := range 12 {
			from := min(known, 8)
			prev := append([]int{0}, epochsOf(log)...)[from]
			ship := shipOf(p.Epoch, from+1, prev, log[from:min(from+4, 8)]...)
			for _, m := range []api.Message{ackOf(p.Epoch, known), helloOf(p.Epoch, api.Replica, slices.Repeat([]int{1}, known)...)} {
				c := benchOf(t, 0, 16, holding(p, log, 2))
				c.all(receives(m))
				c.passesWith(ticks(), tells(hello, ship))
				c.passesWith(ticks(), tells(hello, ship))
			}
			b.all(receives(ackOf(p.Epoch, known)))
			b.passesWith(ticks(), tells(hello, ship))
		}
	}
}

// TestTickAboveTheEnd: what was known above the log's end counts when the log has grown.
func TestTickAboveTheEnd(t *testing.T) {
	b := benchOf(t, 0, 4, contents{})
	b.all(receives(ackOf(1, 2)))
	b.wantMemory("an ack above the end", primary(1, 0), 0, 2, true)
	for end := 1; end <= 4; end++ {
		b.all(commits(put("a", "1")))
		from := min(end, 2)
		var log []api.Commit
		for at := range end {
			log = append(log, with(1, at+1, put("a", "1")))
		}
		b.passesWith(ticks(), tells(helloOf(1, api.Primary, epochsOf(log)...), shipOf(1, from+1, 1, log[from:]...)))
		// Nothing was told since: those that were taken behind the ack are out.
		b.wantMemory("a commit", primary(1, 0), end, 2, true)
	}
	b.all(receives(ackOf(1, 0)))
	b.wantMemory("another ack", primary(1, 0), 2, 2, true)
}

// TestTickReplica: a replica tells its hello alone.
func TestTickReplica(t *testing.T) {
	for _, x := range replicas() {
		b := x.bench(t)
		b.passesWith(ticks(), tells(helloOf(b.s.page.Epoch, api.Replica, epochsOf(b.s.log)...)))
	}
	benchOf(t, 1, 1, contents{}).passesWith(ticks(), answer{mail: [][]byte{{1, 1, 2, 0, 0}}})
}

// TestTickDeposed: phase by phase, with a hello at each of them, or at the first one alone; what is told is of the page behind the phase.
func TestTickDeposed(t *testing.T) {
	log, base := row(1, 1, 1, 2, 3, 3), aheadBase()
	pages := []api.Page{heard(4), deposed(4, api.Forked, 3, base), deposed(4, api.Filed, 3, base), deposed(4, api.Cut, 3, base), replica(4)}
	ends := []int{5, 5, 5, 3, 3}
	for again := range 2 {
		b := benchOf(t, 0, 4, deposedAt(heard(4)))
		b.passesWith(ticks(), tells(helloOf(4, api.Deposed, 1, 1, 2, 3, 3)))
		b.all(receives(aheadHello()))
		for at := 1; at < len(pages); at++ {
			b.want(ticks(), tells(helloOf(4, pages[at].Role, epochsOf(log[:ends[at]])...)))
			b.wantMemory("a phase", pages[at], 0, 0, false)
			if again > 0 {
				b.passes(receives(aheadHello()))
			}
			if !bytes.Equal(b.d.Durable(filePages), pageBytes(pages[:at+1]...)) || !bytes.Equal(b.d.Durable(fileLog), logBytes(log[:ends[at]]...)) {
				t.Errorf("behind the phase %d the page, the log are not durable", at)
			}
			right := filedAhead()
			if at >= 2 {
				right = append(right, holds(4, 3, row(4, 3, 3)...))
			}
			if !bytes.Equal(b.d.Durable(fileOrphans), orphanBytes(right...)) {
				t.Errorf("behind the phase %d the file of orphans is not what it is to be", at)
			}
		}
		b.passesWith(ticks(), tells(helloOf(4, api.Replica, 1, 1, 2)))
	}
}

// TestTickOpened: in each phase but the first a node that is opened needs no hello.
func TestTickOpened(t *testing.T) {
	b := benchOf(t, 0, 4, deposedAt(heard(4)))
	b.all(receives(aheadHello()))
	for left := range 4 {
		if b.n.Page().Role != api.Deposed {
			t.Fatalf("%d phases were done: %+v", left, b.n.Page())
		}
		b.all(ticks(), downs(), opens())
	}
	b.wantMemory("the last phase", replica(4), 0, 0, false)
}

// TestTickMissing: with no hello, or with one that does not fit, nothing is done; a hello is told.
func TestTickMissing(t *testing.T) {
	own := tells(helloOf(4, api.Deposed, 1, 1, 2, 3, 3))
	for _, l := range [][]act{
		nil, {receives(ackOf(4, 3))}, {receives(helloOf(4, api.Replica, 1, 1, 2))}, {receives(helloOf(4, api.Deposed, 1, 1, 2))},
		{receives(helloOf(3, api.Primary, 1, 1, 2))}, {receives(shipOf(4, 1, 0, row(1, 1, 1)...))},
	} {
		b := benchOf(t, 0, 4, deposedAt(heard(4)))
		b.all(l...)
		for range 3 {
			b.passesWith(ticks(), own)
		}
		b.all(receives(aheadHello()), ticks())
		b.wantMemory("with a hello", deposed(4, api.Forked, 3, aheadBase()), 0, 0, false)
	}
}

// TestTickBad: where the fork is below the runs' end, or the file of orphans has the epoch already, nothing is done.
func TestTickBad(t *testing.T) {
	b := benchOf(t, 0, 4, deposedAt(heard(4)))
	b.all(receives(helloOf(4, api.Primary, 1, 4, 4)))
	for range 3 {
		b.passesWith(ticks(), tells(helloOf(4, api.Deposed, 1, 1, 2, 3, 3)))
	}
	b.all(receives(aheadHello()), ticks())
	b.wantMemory("with another hello", deposed(4, api.Forked, 3, aheadBase()), 0, 0, false)

	p := deposed(3, api.Forked, 1, aheadBase())
	b = benchOf(t, 0, 4, contents{logBytes(row(1, 1, 1)...), pageBytes(p), nil, orphanBytes(filedAhead()...)})
	for range 3 {
		b.passesWith(ticks(), tells(helloOf(3, api.Deposed, 1, 1)))
	}
	b.wantMemory("Tick", p, 0, 0, false)
}

// P23.5

// TestReceiveBad: bytes that are no message.
func TestReceiveBad(t *testing.T) {
	var l [][]byte
	for _, m := range []api.Message{ackOf(1, 3), helloOf(2, api.Primary, 1, 1), helloOf(3, api.Replica), shipOf(9, 2, 1, row(2, 1, 9)...)} {
		b := lettered(m)
		for at := range b {
			l = append(l, b[:at])
		}
		l = append(l, append(b, 0))
	}
	l = append(l, nil, []byte{9}, []byte{4, 1}, []byte{3, 0, 0}, []byte{1, 1, 4, 0, 0}, []byte{1, 1, 0, 0, 0}, []byte{2, 1, 1, 1, 0}, []byte("hello"), bytes.Repeat([]byte{255}, 100))
	for _, x := range stands() {
		b := x.bench(t)
		for _, bytes := range l {
			b.refuses(receivesBytes(bytes...), api.ErrBad)
		}
	}
}

// TestReceiveLower: a message of a lower epoch changes nothing.
func TestReceiveLower(t *testing.T) {
	lower := 0
	for _, x := range stands() {
		b := x.bench(t)
		for _, m := range messagesFor(b.s) {
			if m.Epoch < b.s.page.Epoch {
				b.passes(receives(m))
				lower++
			}
		}
	}
	if lower < 200 {
		t.Errorf("%d messages", lower)
	}
}

// TestReceiveHigher: by a message of a higher epoch each node is deposed, durably, and what it had in memory is gone.
func TestReceiveHigher(t *testing.T) {
	for _, x := range stands() {
		for _, m := range messagesFor(x.bench(t).s) {
			b := x.bench(t)
			if m.Epoch <= b.s.page.Epoch {
				continue
			}
			pages, log := b.d.Durable(filePages), b.d.Durable(fileLog)
			b.want(receives(m), answer{})
			b.wantMemory(x.name, heard(m.Epoch), 0, 0, false)
			if !bytes.Equal(b.d.Durable(filePages), append(pages, pageBytes(heard(m.Epoch))...)) || !bytes.Equal(b.d.Durable(fileLog), log) || b.d.Pending() != 0 {
				t.Errorf("%s: %v: the page is not durable, or the log has changed", x.name, m)
			}
			// A hello of a primary is one by which it goes on at once, all else is none.
			b.all(ticks())
			fits := m.Kind == api.Hello && m.Role == api.Primary
			if p := b.n.Page(); p.Phase != api.Heard && !fits {
				t.Errorf("%s: %v: Tick came to %+v", x.name, m, p)
			}
			b.all(receives(helloOf(m.Epoch, api.Primary, epochsOf(b.s.log)...)), ticks(), ticks(), ticks(), ticks())
			if p := b.n.Page(); p != replica(m.Epoch) && !fits {
				t.Errorf("%s: %v: four ticks came to %+v", x.name, m, p)
			}
		}
	}
}

// TestReceiveHigherForgets: a hello of the epoch ahead is none of the higher one.
func TestReceiveHigherForgets(t *testing.T) {
	b := benchOf(t, 0, 4, deposedAt(heard(4)))
	b.all(receives(aheadHello()), receives(ackOf(5, 0)))
	b.wantMemory("heard anew", heard(5), 0, 0, false)
	b.passesWith(ticks(), tells(helloOf(5, api.Deposed, 1, 1, 2, 3, 3)))
	b.passes(receives(aheadHello()))
	b.passesWith(ticks(), tells(helloOf(5, api.Deposed, 1, 1, 2, 3, 3)))
	b.all(receives(helloOf(5, api.Primary, 1, 1, 2, 3)), ticks())
	b.wantMemory("with a hello of that epoch", deposed(5, api.Forked, 4, aheadBase()), 0, 0, false)
	// In a late phase, too.
	for _, phase := range late() {
		b := benchOf(t, 0, 4, deposedAt(deposed(4, phase, 3, aheadBase())))
		b.all(receives(aheadHello()), receives(shipOf(6, 1, 0)), ticks())
		b.wantMemory("heard anew", heard(6), 0, 0, false)
	}
}

// TestReceiveHigherAcked: a primary that was deposed, came back and is promoted knows nothing of what was acked.
func TestReceiveHigherAcked(t *testing.T) {
	b := benchOf(t, 0, 3, contents{})
	b.all(commits(put("a", "1")), commits(put("a", "2")), receives(ackOf(1, 2)))
	b.wantMemory("an ack", primary(1, 0), 0, 2, true)
	b.all(receives(helloOf(2, api.Primary, 1)))
	b.wantMemory("deposed", heard(2), 0, 0, false)
	b.all(ticks(), ticks(), ticks(), ticks())
	b.wantMemory("back", replica(2), 0, 0, false)
	b.want(promotes(), numbered(3))
	b.wantMemory("promoted", primary(3, 1), 0, 0, false)
	b.passesWith(ticks(), tells(helloOf(3, api.Primary, 1)))
	b.takesJust(3)
}

// TestReceivePrimary: what a primary learns of an ack, of a hello of a replica; and of nothing else.
func TestReceivePrimary(t *testing.T) {
	log := row(1, 1, 1, 2, 2, 3)
	for _, p := range []api.Page{primary(3, 0), primary(3, 2), primary(8, 5)} {
		for told := range 9 {
			for _, m := range []api.Message{ackOf(p.Epoch, told), helloOf(p.Epoch, api.Replica, slices.Repeat([]int{2}, told)...)} {
				b := benchOf(t, 0, 16, holding(p, log))
				ahead := lookAt(b.d)
				acked := max(p.Acked, min(told, 5))
				for range 2 {
					b.want(receives(m), answer{})
					b.wantMemory(short(m), p, 5-acked, told, true)
					wantLook(t, short(m), b.d, ahead)
				}
			}
		}
		b := benchOf(t, 0, 16, holding(p, log))
		for _, role := range []api.Role{api.Primary, api.Deposed} {
			b.passes(receives(helloOf(p.Epoch, role, 1, 1, 2)))
		}
		b.passes(receives(shipOf(p.Epoch, 6, 3, row(6, 3)...)))
		b.all(receives(ackOf(p.Epoch, 1)))
		for _, role := range []api.Role{api.Primary, api.Deposed} {
			b.passes(receives(helloOf(p.Epoch, role, 1, 1, 2)))
		}
		b.passes(receives(shipOf(p.Epoch, 1, 0)))
	}
}

// TestReceiveAcks: acks below and above what is known, one behind the other: neither what is known nor the acked position falls.
func TestReceiveAcks(t *testing.T) {
	b := benchOf(t, 0, 16, holding(primary(1, 0), row(1, slices.Repeat([]int{1}, 9)...)))
	known, acked := 0, 0
	for _, told := range []int{0, 2, 1, 2, 5, 0, 4, 7, 6, 9, 3, 12, 9, 11, most, 1} {
		known, acked = max(known, told), max(acked, min(told, 9))
		b.all(receives(ackOf(1, told)))
		b.wantMemory(fmt.Sprint("an ack of ", told), primary(1, 0), 9-acked, known, true)
	}
}

// TestReceiveReplica: what a replica takes of ships, and what it tells.
func TestReceiveReplica(t *testing.T) {
	log := row(1, 1, 1, 3)
	for _, c := range []struct {
		name  string
		m     api.Message
		fresh int
	}{
		{"the next ones", shipOf(3, 4, 3, row(4, 3, 3, 3, 3)...), 4},
		{"the next one", shipOf(3, 4, 3, row(4, 3)...), 1},
		{"none", shipOf(3, 4, 3), 0},
		{"the last one, and the next one", shipOf(3, 3, 1, row(3, 3, 3)...), 1},
		{"those that it has", shipOf(3, 1, 0, row(1, 1, 1, 3)...), 0},
		{"none, from the first on", shipOf(3, 1, 0), 0},
		{"some of those that it has", shipOf(3, 2, 1, row(2, 1)...), 0},
		{"all, and one more", shipOf(3, 1, 0, row(1, 1, 1, 3, 3)...), 1},
	} {
		b := benchOf(t, 1, 1, holding(replica(3), log, 2))
		whole := slices.Concat(log, row(4, slices.Repeat([]int{3}, c.fresh)...))
		ack := tells(ackOf(3, 3+c.fresh))
		steps := b.d.Steps()
		b.want(receives(c.m), ack)
		if !alikeLogs(b.n.Log(), whole) || !bytes.Equal(b.d.Durable(fileLog), logBytes(whole...)) || b.d.Pending() != 0 {
			t.Errorf("%s: the log is %s", c.name, short(b.n.Log()))
		}
		if c.fresh == 0 && b.d.Steps() != steps {
			t.Errorf("%s: %d raw steps", c.name, b.d.Steps()-steps)
		}
		// Taken twice it adds nothing, and is acked again.
		for range 2 {
			b.passesWith(receives(c.m), ack)
		}
		b.wantMemory(c.name, replica(3), 0, 0, false)
	}
}

// TestReceiveReplicaSyncs: what is taken of a ship is synced once.
func TestReceiveReplicaSyncs(t *testing.T) {
	b := benchOf(t, 1, 1, contents{})
	b.want(receives(shipOf(1, 1, 0, row(1, 1, 1, 1)...)), tells(ackOf(1, 3)))
	if b.d.Steps() != 4 {
		t.Errorf("%d raw steps", b.d.Steps())
	}
}

// TestReceiveReplicaRefuses: ships with a gap, ships of another log; and all that is no ship.
func TestReceiveReplicaRefuses(t *testing.T) {
	b := benchOf(t, 1, 1, holding(replica(3), row(1, 1, 1, 3), 2))
	for _, m := range []api.Message{
		shipOf(3, 5, 3, row(5, 3)...), shipOf(3, 5, 3), shipOf(3, most, 3), shipOf(3, 4, 2, row(4, 2)...), shipOf(3, 4, 1), shipOf(3, 3, 2, row(3, 3)...),
		shipOf(3, 2, 1, row(2, 3)...), shipOf(3, 2, 1, row(2, 1, 2)...), shipOf(3, 1, 0, row(1, 1, 1, 2, 3)...), shipOf(3, 1, 0, row(1, 2)...),
		ackOf(3, 0), ackOf(3, 3), ackOf(3, 9), helloOf(3, api.Primary, 1, 1, 3, 3), helloOf(3, api.Replica, 1), helloOf(3, api.Deposed, 1, 1),
	} {
		b.passes(receives(m))
	}
}

// TestReceiveDeposed: a hello that fits is the one that a deposed node has, in the place of the one ahead; nothing else is.
func TestReceiveDeposed(t *testing.T) {
	others := []api.Message{ackOf(4, 0), ackOf(4, 9), helloOf(4, api.Replica, 1), helloOf(4, api.Deposed, 1), shipOf(4, 1, 0), shipOf(4, 6, 3, row(6, 4)...), helloOf(3, api.Primary, 1, 1), helloOf(1, api.Primary)}
	for fork := 2; fork <= 5; fork++ {
		for _, ahead := range []api.Message{helloOf(4, api.Primary, 1, 4, 4), helloOf(4, api.Primary), helloOf(4, api.Primary, 1, 1, 2, 3, 3, 4), ackOf(4, 1)} {
			b := benchOf(t, 0, 4, deposedAt(heard(4)))
			b.passes(receives(ahead))
			b.passes(receives(helloOf(4, api.Primary, append(epochsOf(row(1, 1, 1, 2, 3, 3)[:fork]), 4)...)))
			for _, m := range others {
				b.passes(receives(m))
			}
			b.all(ticks())
			b.wantMemory("the last hello counts", deposed(4, api.Forked, fork, aheadBase()), 0, 0, false)
		}
	}
	for _, x := range deposedOnes() {
		b := x.bench(t)
		for _, m := range messagesFor(b.s) {
			if m.Epoch <= b.s.page.Epoch {
				b.passes(receives(m))
			}
		}
	}
}

// P23.6

// TestPromote: a replica becomes the primary of the next epoch, durably.
func TestPromote(t *testing.T) {
	for _, c := range []struct {
		epoch int
		log   []api.Commit
		uptos []int
	}{{1, nil, nil}, {1, row(1, 1), nil}, {3, row(1, 1, 1, 2, 3), []int{2}}, {8, row(1, 1, 1, 2, 3), []int{4}}, {most - 1, row(1, most-1), nil}} {
		b := benchOf(t, 1, 2, holding(replica(c.epoch), c.log, c.uptos...))
		pages, end := b.d.Durable(filePages), len(c.log)
		b.want(promotes(), numbered(c.epoch+1))
		b.wantMemory("Promote", primary(c.epoch+1, end), 0, 0, false)
		if !bytes.Equal(b.d.Durable(filePages), append(pages, pageBytes(primary(c.epoch+1, end))...)) || b.d.Pending() != 0 {
			t.Errorf("%+v is not durable", b.n.Page())
		}
		b.refuses(promotes(), api.ErrAlreadyPrimary)
		b.passesWith(ticks(), tells(helloOf(c.epoch+1, api.Primary, epochsOf(c.log)...)))
		b.takesJust(2)
		if l := b.n.Log(); l[end].Epoch != c.epoch+1 || l[end+1].Epoch != c.epoch+1 {
			t.Errorf("the commits are %s", short(l))
		}
		b.all(downs(), opens())
		b.wantMemory("opened again", primary(c.epoch+1, end), 2, 0, false)
	}
}

// TestPromoteRefuses: a primary, a deposed one in each phase, the greatest epoch.
func TestPromoteRefuses(t *testing.T) {
	for _, x := range primaries() {
		x.bench(t).refuses(promotes(), api.ErrAlreadyPrimary)
	}
	for _, x := range deposedOnes() {
		x.bench(t).refuses(promotes(), api.ErrDeposed)
	}
	benchOf(t, 0, 4, holding(replica(most), row(1, 1, most))).refuses(promotes(), api.ErrArg)
	benchOf(t, 1, 4, holding(replica(most), nil)).refuses(promotes(), api.ErrArg)
	b := benchOf(t, 1, 4, contents{})
	b.all(receives(helloOf(most, api.Primary)), ticks(), ticks(), ticks())
	b.refuses(promotes(), api.ErrDeposed)
	b.all(ticks())
	b.refuses(promotes(), api.ErrArg)
}

// P23.7

// TestFlushPrimary: with the acked position, the runs' end and the page's Acked below, at and above one another.
func TestFlushPrimary(t *testing.T) {
	log := row(1, 1, 1, 2, 3, 3)
	for runs := range 6 {
		for ahead := range 6 {
			for told := range 6 {
				var uptos []int
				if runs > 0 {
					uptos = []int{runs}
				}
				b := benchOf(t, 0, 16, holding(primary(3, ahead), log, uptos...))
				acked := max(ahead, told)
				b.all(receives(ackOf(3, told)))
				pages := len(b.d.Durable(filePages))
				b.want(flushes(), answer{})
				b.wantMemory("Flush", primary(3, acked), 5-acked, told, true)
				if acked > runs {
					uptos = append(uptos, acked)
				}
				if !alikeRuns(b.n.Runs(), runsOf(log, uptos...)) || !bytes.Equal(b.d.Durable(fileRuns), runBytes(runsOf(log, uptos...)...)) || b.d.Pending() != 0 {
					t.Errorf("runs up to %d, Acked %d, told %d: the runs are %s", runs, ahead, told, short(b.n.Runs()))
				}
				if grew := len(b.d.Durable(filePages)) > pages; grew != (acked > ahead) {
					t.Errorf("runs up to %d, Acked %d, told %d: a page was set: %v", runs, ahead, told, grew)
				}
				// What was flushed is flushed.
				b.passes(flushes())
			}
		}
	}
}

// TestFlushUnacked: of a primary that was told nothing, no commit behind its page's Acked is in a run.
func TestFlushUnacked(t *testing.T) {
	b := benchOf(t, 0, 16, contents{})
	b.all(commits(put("a", "1")), commits(put("b", "2")))
	b.passes(flushes())
	if b.n.Runs() != nil {
		t.Errorf("the runs are %s", short(b.n.Runs()))
	}
}

// TestFlushReplica: up to its end; its page stays.
func TestFlushReplica(t *testing.T) {
	log := row(1, 1, 1, 2, 3, 3)
	for runs := range 6 {
		for end := runs; end <= 5; end++ {
			var uptos []int
			if runs > 0 {
				uptos = []int{runs}
			}
			b := benchOf(t, 1, 1, holding(replica(3), log[:end], uptos...))
			pages := b.d.Durable(filePages)
			b.want(flushes(), answer{})
			if end > runs {
				uptos = append(uptos, end)
			}
			if !alikeRuns(b.n.Runs(), runsOf(log, uptos...)) || !bytes.Equal(b.d.Durable(fileRuns), runBytes(runsOf(log, uptos...)...)) || b.d.Pending() != 0 {
				t.Errorf("runs up to %d of %d: the runs are %s", runs, end, short(b.n.Runs()))
			}
			if !bytes.Equal(b.d.Durable(filePages), pages) {
				t.Errorf("a replica's page was set")
			}
			b.passes(flushes())
		}
	}
}

// TestFlushDeposed: whatever its phase.
func TestFlushDeposed(t *testing.T) {
	for _, x := range deposedOnes() {
		x.bench(t).refuses(flushes(), api.ErrDeposed)
	}
}

// TestFlushLong: restart.Flush's error: the page is not set then.
func TestFlushLong(t *testing.T) {
	for _, keys := range []int{mostRunOps, mostRunOps + 1} {
		log := wide(keys)
		right := api.OK
		if keys > mostRunOps {
			right = api.ErrLong
		}
		b := benchOf(t, 0, 16, holding(primary(1, 1), log))
		b.all(receives(ackOf(1, len(log))))
		b.want(flushes(), refused(right))
		if got := b.n.Page() == primary(1, len(log)); got != (right == api.OK) {
			t.Errorf("%d keys: the page is %+v", keys, b.n.Page())
		}
		b = benchOf(t, 1, 16, holding(replica(1), log))
		b.want(flushes(), refused(right))
		if right != api.OK {
			b.refuses(flushes(), right)
		}
		// Those behind the runs' end count alone.
		b = benchOf(t, 1, 16, holding(replica(1), log, 1))
		b.want(flushes(), answer{})
	}
}

// P23.8

// TestTells: of each role, up and down.
func TestTells(t *testing.T) {
	log := row(1, 1, 1, 2, 3)
	for _, c := range []struct {
		p         api.Page
		told, out int
		knows     bool
	}{{primary(3, 1), 2, 2, true}, {primary(3, 1), 9, 0, true}, {primary(3, 4), 0, 0, true}, {replica(3), 2, 0, false}, {heard(4), 2, 0, false}, {deposed(4, api.Cut, 4, 0), 2, 0, false}} {
		b := benchOf(t, 0, 4, holding(c.p, log, 1, 2))
		b.all(receives(ackOf(c.p.Epoch, c.told)))
		known := 0
		if c.knows {
			known = c.told
		}
		b.wantMemory("an ack", c.p, c.out, known, c.knows)
		if !alikeLogs(b.n.Log(), log) || !alikeRuns(b.n.Runs(), runsOf(log, 1, 2)) {
			t.Errorf("%+v: %s, %s", c.p, short(b.n.Log()), short(b.n.Runs()))
		}
		b.all(downs())
		wantDown(t, "Down", b.n)
		b.all(opens())
		if !alikeLogs(b.n.Log(), log) || !alikeRuns(b.n.Runs(), runsOf(log, 1, 2)) {
			t.Errorf("%+v: %s, %s", c.p, short(b.n.Log()), short(b.n.Runs()))
		}
	}
}

// P23.9

// TestReceivedTwice: the same bytes, one time behind the other, leave each node as once.
func TestReceivedTwice(t *testing.T) {
	for _, x := range stands() {
		for _, m := range messagesFor(x.bench(t).s) {
			once, twice := x.bench(t), x.bench(t)
			once.all(receives(m))
			twice.all(receives(m))
			told := receives(m).doTo(twice.n)
			must(t, "Receive", told.e)
			wantLook(t, fmt.Sprintf("%s: %v", x.name, m), twice.d, lookAt(once.d))
			wantMemory(t, fmt.Sprintf("%s: %v", x.name, m), twice.n, memoryOf(once.n))
			// Nor is there another one later.
			for _, a := range []act{ticks(), ticks(), commits(del("a")), ticks(), flushes(), ticks(), promotes(), ticks()} {
				if got, right := a.doTo(twice.n), a.doTo(once.n); !got.is(right) {
					t.Fatalf("%s: behind %v %v = %v, not %v", x.name, m, a, got, right)
				}
			}
			wantLook(t, fmt.Sprintf("%s: %v", x.name, m), twice.d, lookAt(once.d))
		}
	}
}

// turn is a row of numbers that look like chance, and are the same each time.
type turn uint64

func (x *turn) below(n int) int {
	*x = *x*6364136223846793005 + 1442695040888963407
	return int(uint64(*x) >> 33 % uint64(n))
}

func pick[T any](x *turn, l ...T) T { return l[x.below(len(l))] }

// ops answers a batch; now and then one that may not be.
func (x *turn) ops() []api.Op {
	if x.below(12) == 0 {
		return pick(x, nil, nine(), []api.Op{del("")})
	}
	var l []api.Op
	for range 1 + x.below(3) {
		key := pick(x, "a", "b", "ab", "\x00\xff", of(16))
		if x.below(3) == 0 {
			l = append(l, del(key))
		} else {
			l = append(l, put(key, fmt.Sprint(x.below(100))))
		}
	}
	return l
}

// letter answers bytes for a site: more often than not a message of its epoch.
func (x *turn) letter(s *site) []byte {
	if x.below(15) == 0 {
		return []byte{byte(x.below(4)), byte(x.below(4)), byte(x.below(4)), 0, 0}
	}
	epoch := min(max(1, s.page.Epoch+pick(x, 0, 0, 0, 0, 0, 0, 0, -1)), most)
	if x.below(30) == 0 {
		epoch = min(epoch+1+x.below(2), most)
	}
	shared := s.log[:x.below(len(s.log)+1)]
	for len(shared) > 0 && lastEpoch(shared) > epoch {
		shared = shared[:len(shared)-1]
	}
	switch x.below(3) {
	case 0:
		epochs := epochsOf(shared)
		for range x.below(3) {
			epochs = append(epochs, epoch)
		}
		return lettered(helloOf(epoch, pick(x, roles()...), epochs...))
	case 1:
		return lettered(ackOf(epoch, x.below(len(s.log)+3)))
	}
	return lettered(x.ship(s, epoch, shared))
}

// ship answers one that goes on behind what is shared; now and then it has a gap, or tells other epochs.
func (x *turn) ship(s *site, epoch int, shared []api.Commit) api.Message {
	from, prev := len(shared)+1, lastEpoch(shared)
	if x.below(8) == 0 {
		from, prev = from+1+x.below(2), max(1, prev)
	}
	var l []api.Commit
	for at := range x.below(5) {
		c := with(epoch, from+at, x.ops()...)
		if n := from + at; n <= len(s.log) && s.log[n-1].Epoch <= epoch && len(l) == at && x.below(12) > 0 {
			c = s.log[n-1]
		}
		if batch.Check(c.Ops) == api.OK && c.Epoch >= max(prev, lastEpoch(l)) {
			l = append(l, c)
			continue
		}
		break
	}
	return shipOf(epoch, from, prev, l...)
}

// act answers a call for a site.
func (x *turn) act(s *site) act {
	switch x.below(16) {
	case 0, 1, 2, 3:
		return commits(x.ops()...)
	case 4:
		return reads(pick(x, "a", "b", "ab", "c", ""))
	case 5, 6, 7:
		return ticks()
	case 8:
		if x.below(3) == 0 {
			return promotes()
		}
		return ticks()
	case 9:
		return flushes()
	case 10:
		return pick(x, downs(), opens(), opens())
	}
	return receivesBytes(x.letter(s)...)
}

// trouble lets a disk be pulled, or gives it a fuse; or starts it, if it is off, and opens the node.
func (x *turn) trouble(b *bench) {
	b.t.Helper()
	switch {
	case !b.d.On():
		b.start(x.below(6), x.below(64))
		if x.below(3) == 0 {
			b.fuse(x.below(3))
		}
		b.do(opens())
	case !b.s.up && x.below(2) == 0:
		b.do(opens())
	case x.below(25) == 0:
		b.pull()
	case x.below(10) == 0:
		b.fuse(x.below(7))
	case x.below(10) == 0:
		b.safe()
	}
}

// answered is a book of the commits that a node answered OK.
type answered map[[2]int]api.Commit

// note: what Commit answered OK is in Log, and durable.
func (l answered) note(b *bench, a act, got answer) {
	b.t.Helper()
	if a.call != "Commit" || got.e != api.OK {
		return
	}
	c := with(b.n.Page().Epoch, got.number, a.ops...)
	if log := b.n.Log(); len(log) != c.Number || !commit.Same(log[c.Number-1], c) {
		b.t.Fatalf("%v was answered, the log is %s", c, short(log))
	}
	if log, _ := wal.Scan(b.d.Durable(fileLog)); len(log) != c.Number || !commit.Same(log[c.Number-1], c) {
		b.t.Fatalf("%v was answered, durable is %s", c, short(log))
	}
	l[[2]int{c.Epoch, c.Number}] = c
}

// kept: each is in the durable log, or in the file of orphans.
func (l answered) kept(b *bench) {
	b.t.Helper()
	log, _ := wal.Scan(b.d.Durable(fileLog))
	file := b.d.Durable(fileOrphans)
	for at, c := range l {
		if n := at[1]; n <= len(log) && commit.Same(log[n-1], c) {
			continue
		}
		if !orphan.Has(file, c.Epoch, c.Number) {
			b.t.Fatalf("%v was answered, and is neither in the log nor in the file of orphans", c)
		}
	}
}

// TestMixed: many calls, with messages of all kinds, fuses, pulls and starts in between, all held against the second telling.
func TestMixed(t *testing.T) {
	seen := map[string]int{}
	for seed := range 150 {
		x := turn(seed * 7919)
		b := benchOf(t, seed%2, 1+x.below(mostLeash), contents{})
		book := answered{}
		for range 120 {
			x.trouble(b)
			a, role := x.act(b.s), b.s.page.Role
			got := b.do(a)
			seen[fmt.Sprintf("%s %d %d", a.call, role, got.e)]++
			book.note(b, a, got)
			book.kept(b)
		}
	}
	for _, name := range []string{
		"Commit 0 7", "Commit 1 0", "Commit 1 2", "Commit 1 6", "Commit 1 8", "Commit 2 11", "Commit 3 9",
		"Read 0 7", "Read 1 0", "Read 2 0", "Read 3 9", "Tick 1 0", "Tick 2 0", "Tick 3 0", "Tick 3 6",
		"Receive 0 7", "Receive 1 0", "Receive 1 5", "Receive 1 6", "Receive 2 0", "Receive 2 6", "Receive 3 0", "Receive 3 6",
		"Promote 1 10", "Promote 2 0", "Promote 3 9", "Flush 1 0", "Flush 2 0", "Flush 3 9", "Open 0 0", "Open 1 0", "Down 1 0", "Down 0 7",
	} {
		if seen[name] < 3 {
			t.Errorf("too few of %q: %v", name, seen)
		}
	}
}

// world is two nodes, and what is in flight between them.
type world struct {
	pair
	flight [2][][]byte // by the node that it is for
	book   [2]answered
	epochs map[int]int // by the epoch: the node that was promoted into it
}

// act lets something happen to a node.
func (w *world) act(x *turn, at int) {
	b := w.pair[at]
	b.t.Helper()
	x.trouble(b)
	var a act
	switch x.below(12) {
	case 0, 1, 2, 3:
		a = commits(x.ops()...)
	case 4:
		a = pick(x, flushes(), promotes())
	case 5, 6, 7:
		a = ticks()
	default:
		a = w.letter(x, at)
	}
	got := b.do(a)
	w.book[at].note(b, a, got)
	w.book[at].kept(b)
	w.post(1-at, got.mail)
	if a.call == "Promote" && got.e == api.OK {
		if other, taken := w.epochs[got.number]; taken {
			b.t.Fatalf("the epoch %d was made at %d and at %d", got.number, other, at)
		}
		w.epochs[got.number] = at
	}
}

func (w *world) post(to int, mail [][]byte) { w.flight[to] = append(w.flight[to], mail...) }

// letter takes one out of the flight, any of them; now and then it stays, too.
func (w *world) letter(x *turn, to int) act {
	n := len(w.flight[to])
	if n == 0 {
		return ticks()
	}
	at := x.below(n)
	b := w.flight[to][at]
	if x.below(5) > 0 {
		w.flight[to] = slices.Delete(w.flight[to], at, at+1)
	}
	return receivesBytes(b...)
}

// calm lets both nodes tick, and brings what they told, for so many rounds.
func (w *world) calm(t *testing.T, rounds int) {
	t.Helper()
	for _, b := range w.pair {
		if !b.d.On() {
			b.start(0, 0)
		}
		b.safe()
		b.all(opens())
	}
	w.flight = [2][][]byte{}
	for range rounds {
		for at := range w.pair {
			w.post(1-at, w.tick(t, at))
		}
		flight := w.flight
		w.flight = [2][][]byte{}
		for to, l := range flight {
			for _, b := range l {
				w.post(1-to, w.bring(t, to, b))
			}
		}
	}
}

// TestTwoNodes: two nodes with letters that are lost, doubled and turned about, fuses and pulls: what is answered stays, no epoch is made twice, two commits of the same epoch and number are the same, and calm brings both logs together.
func TestTwoNodes(t *testing.T) {
	promoted, orphaned := 0, 0
	for seed := range 60 {
		x := turn(seed*104729 + 1)
		leash := 1 + x.below(4)
		w := &world{pair: newPair(t, leash), book: [2]answered{{}, {}}, epochs: map[int]int{1: 0}}
		for range 150 {
			w.act(&x, x.below(2))
		}
		w.calm(t, 60)
		for at, c := range w.book[0] {
			if other, both := w.book[1][at]; both && !commit.Same(c, other) {
				t.Fatalf("%v and %v", c, other)
			}
		}
		a, b := w.pair[0].n, w.pair[1].n
		if !alikeLogs(a.Log(), b.Log()) || a.Out()+b.Out() != 0 || a.Page().Epoch != b.Page().Epoch || a.Page().Role+b.Page().Role != api.Primary+api.Replica {
			t.Fatalf("seed %d: behind calm rounds the nodes are %+v and %+v", seed, memoryOf(a), memoryOf(b))
		}
		promoted += len(w.epochs) - 1
		for _, b := range w.pair {
			l, _ := orphan.Scan(b.d.Durable(fileOrphans))
			orphaned += len(l)
			for _, x := range l {
				if len(x.Commits) > leash {
					t.Errorf("%d commits were lost at once, with the leash %d", len(x.Commits), leash)
				}
			}
		}
	}
	if promoted < 50 || orphaned < 20 {
		t.Errorf("%d promotions, %d sections of orphans", promoted, orphaned)
	}
}

// TestAnswerDoesNotWait: with nothing received the first commits are answered, as many as the leash is long (P5).
func TestAnswerDoesNotWait(t *testing.T) {
	for leash := 1; leash <= mostLeash; leash++ {
		b := benchOf(t, 0, leash, contents{})
		b.all(ticks())
		b.takesJust(leash)
		b.all(ticks())
		b.takesJust(0)
	}
}

// TestAlike: what a call answers hangs on what was done alone: two nodes to which the same was done are the same.
func TestAlike(t *testing.T) {
	for seed := range 20 {
		x := turn(seed)
		b := benchOf(t, seed%2, 3, contents{})
		other, e := node.New(seed%2, 3, disk.New())
		must(t, "New", e)
		for range 100 {
			a := x.act(b.s)
			if got, right := a.doTo(other), b.do(a); !got.is(right) {
				t.Fatalf("%v = %v, not %v", a, got, right)
			}
			wantMemory(t, a.String(), other, memoryOf(b.n))
		}
	}
}

// FuzzCalls: what happens out of numbers, held against the second telling.
func FuzzCalls(f *testing.F) {
	for seed := range 8 {
		f.Add(uint64(seed), uint8(40), uint8(0))
	}
	f.Fuzz(func(t *testing.T, seed uint64, count, at uint8) {
		x := turn(seed)
		l := append(stands(), stand{"new", int(at % 2), 1 + int(at)%mostLeash, contents{}, nil})
		b := l[int(at)%len(l)].bench(t)
		for range count {
			x.trouble(b)
			b.do(x.act(b.s))
		}
	})
}

// FuzzBytes: any bytes, to any node, twice.
func FuzzBytes(f *testing.F) {
	for at, x := range stands() {
		s := &site{number: x.number, most: x.leash, disk: diskOf(x.contents)}
		s.open()
		for i, m := range messagesFor(s) {
			if i%7 == at%7 {
				f.Add(lettered(m), uint8(at))
			}
		}
	}
	f.Fuzz(func(t *testing.T, bytes []byte, at uint8) {
		l := stands()
		b := l[int(at)%len(l)].bench(t)
		b.do(receivesBytes(bytes...))
		ahead, memory := lookAt(b.d), memoryOf(b.n)
		b.do(receivesBytes(bytes...))
		wantLook(t, "the same bytes again", b.d, ahead)
		wantMemory(t, "the same bytes again", b.n, memory)
		b.all(ticks(), ticks())
	})
}

// Rule 5

// TestNobodyMade: each call of a node that is nil, and of one that was declared.
func TestNobodyMade(t *testing.T) {
	for name, n := range map[string]*node.Node{"nil": nil, "declared": {}, "new": new(node.Node)} {
		acts := append(plain(), opens(), downs(), commits(), commits(nine()...), reads(""), receivesBytes(), receivesBytes(9), receives(helloOf(2, api.Primary)))
		for range 2 {
			for _, a := range acts {
				if got := a.doTo(n); !got.is(refused(api.ErrNil)) {
					t.Errorf("%s: %v = %v", name, a, got)
				}
			}
			wantMemory(t, name, n, memory{})
			if n.Log() != nil || n.Runs() != nil {
				t.Errorf("%s: it has commits, or runs", name)
			}
		}
	}
}

// TestMethods: a node has just the calls that the chapter lists.
func TestMethods(t *testing.T) {
	var got []string
	kind := reflect.TypeOf(&node.Node{})
	for at := range kind.NumMethod() {
		got = append(got, kind.Method(at).Name)
	}
	if right := []string{"Commit", "Down", "Flush", "Known", "Log", "Open", "Out", "Page", "Promote", "Read", "Receive", "Runs", "Tick", "Up"}; !slices.Equal(got, right) {
		t.Errorf("%v, not %v", got, right)
	}
	for at := range kind.Elem().NumField() {
		if f := kind.Elem().Field(at); f.IsExported() {
			t.Errorf("the field %s is exported", f.Name)
		}
	}
}

// What is handed in and handed out.

// TestNil: a list without a thing is nil or empty beside an error, as are all other results.
func TestNil(t *testing.T) {
	for _, x := range stands() {
		for _, a := range actsFor(x.bench(t).s) {
			b := x.bench(t)
			got := a.doTo(b.n)
			if got.e != api.OK && (got.number != 0 || got.value != "" || got.there || len(got.mail) != 0) {
				t.Errorf("%s: %v = %v", x.name, a, got)
			}
			if a.call != "Receive" && a.call != "Tick" && got.mail != nil {
				t.Errorf("%s: %v = %v", x.name, a, got)
			}
		}
	}
}

// mark fills a list of ops with what none of these tests commits.
func mark(l []api.Op) {
	for at := range l {
		l[at] = put("spare", "spare")
	}
}

// TestOpsAreLeftAlone: those of a commit, and the room behind them, taken or refused; nor are they looked at later.
func TestOpsAreLeftAlone(t *testing.T) {
	for _, x := range stands() {
		for _, ops := range [][]api.Op{{put("a", "1")}, big(), {put("b", "2"), del("a")}, nil, nine(), {del("")}} {
			for _, fuse := range []int{0, 1, 100} {
				b := x.bench(t)
				b.fuse(fuse)
				room := make([]api.Op, len(ops)+3)
				mark(room)
				copy(room, ops)
				ahead := slices.Clone(room)
				got, e := b.n.Commit(room[:len(ops)]...)
				if right := b.s.do(commits(ops...)); got != right.number || e != right.e {
					t.Fatalf("%s: Commit(%s) = %d, %d, not %v", x.name, short(ops), got, e, right)
				}
				if !slices.Equal(room, ahead) {
					t.Errorf("%s: Commit changed the ops to %s", x.name, short(room))
				}
				mark(room)
				b.compare("behind the caller's changes")
				if b.d.On() {
					b.safe()
					b.do(ticks())
					b.do(flushes())
				}
			}
		}
	}
}

// TestBytesAreLeftAlone: those of a letter, and the room behind them; nor are they looked at later: not those of a hello that is kept, neither.
func TestBytesAreLeftAlone(t *testing.T) {
	for _, x := range stands() {
		for _, a := range actsFor(x.bench(t).s) {
			if a.call != "Receive" {
				continue
			}
			b := x.bench(t)
			room := append(slices.Clone(a.bytes), 7, 7, 7)
			ahead := slices.Clone(room)
			got := receivesBytes(room[:len(a.bytes)]...).doTo(b.n)
			if right := b.s.do(a); !got.is(right) {
				t.Fatalf("%s: %v = %v, not %v", x.name, a, got, right)
			}
			if !bytes.Equal(room, ahead) {
				t.Errorf("%s: %v changed the bytes to % d", x.name, a, room)
			}
			for at := range room {
				room[at] = 1
			}
			b.compare("behind the caller's changes")
			b.all(ticks(), ticks())
		}
	}
}

// spoilMail changes all that was told, its spare room too.
func spoilMail(l [][]byte) {
	l = l[:cap(l)]
	for at, b := range l {
		b = b[:cap(b)]
		for i := range b {
			b[i] = 77
		}
		l[at] = []byte("spoilt")
	}
}

// spoilLog changes all of a list of commits, its spare room too.
func spoilLog(l []api.Commit) {
	l = l[:cap(l)]
	for at := range l {
		mark(l[at].Ops[:cap(l[at].Ops)])
		l[at] = with(88, 88, put("spoilt", "spoilt"))
	}
}

// spoilRuns changes all of a list of runs, its spare room too.
func spoilRuns(l []api.Run) {
	l = l[:cap(l)]
	for at := range l {
		mark(l[at].Ops[:cap(l[at].Ops)])
		l[at] = api.Run{From: 88, Upto: 99, Ops: []api.Op{put("spoilt", "spoilt")}}
	}
}

// TestAnswersAreNew: what is handed out may be changed, without a change of the node, or of another answer.
func TestAnswersAreNew(t *testing.T) {
	for _, x := range stands() {
		for _, a := range actsFor(x.bench(t).s) {
			b := x.bench(t)
			log, again := b.n.Log(), b.n.Log()
			runs, runsAgain := b.n.Runs(), b.n.Runs()
			spoilLog(log)
			spoilRuns(runs)
			if !alikeLogs(again, b.s.log) || !alikeRuns(runsAgain, b.s.runs) {
				t.Fatalf("%s: two answers share memory", x.name)
			}
			b.compare("behind changes of what was told")
			got := a.doTo(b.n)
			right := b.s.do(a)
			if !got.is(right) {
				t.Fatalf("%s: %v = %v, not %v", x.name, a, got, right)
			}
			spoilMail(got.mail)
			b.compare("behind changes of what was told")
			first, second := ticks().doTo(b.n), ticks().doTo(b.n)
			spoilMail(first.mail)
			if b.s.do(ticks()); !second.is(b.s.do(ticks())) {
				t.Fatalf("%s: behind %v: two answers share memory: %v", x.name, a, second)
			}
			b.compare("behind changes of what was told")
		}
	}
}

// TestListsOfOneAnswerShareNothing: a change of one list that was told, and of the room behind it, is none of another one.
func TestListsOfOneAnswerShareNothing(t *testing.T) {
	b := benchOf(t, 0, 4, holding(primary(3, 0), row(1, 1, 1, 2, 3, 3), 1, 2, 4))
	b.all(receives(ackOf(3, 1)))
	for at := range 2 {
		got := ticks().doTo(b.n)
		for i := range got.mail[at][:cap(got.mail[at])] {
			got.mail[at][:cap(got.mail[at])][i] = 77
		}
		if other := 1 - at; !bytes.Equal(got.mail[other], b.s.do(ticks()).mail[other]) {
			t.Errorf("%d hangs on %d", other, at)
		}
	}
	for at := range b.s.log {
		log := b.n.Log()
		mark(log[at].Ops[:cap(log[at].Ops)])
		for i, c := range log {
			if i != at && !commit.Same(c, b.s.log[i]) {
				t.Errorf("the commit %d hangs on %d: %s", i, at, short(c))
			}
		}
	}
	for at := range b.s.runs {
		runs := b.n.Runs()
		mark(runs[at].Ops[:cap(runs[at].Ops)])
		for i, x := range runs {
			if i != at && !alikeRuns([]api.Run{x}, b.s.runs[i:i+1]) {
				t.Errorf("the run %d hangs on %d: %s", i, at, short(x))
			}
		}
	}
}

// TestNodesAreApart: what is done to one node is nothing to another one.
func TestNodesAreApart(t *testing.T) {
	var l []*bench
	for _, x := range stands() {
		l = append(l, x.bench(t))
	}
	for at, b := range l {
		acts := actsFor(b.s)
		for i := range 5 {
			b.do(acts[(at*7+i*11)%len(acts)])
		}
		for _, other := range l {
			other.compare("beside a call")
		}
	}
}
