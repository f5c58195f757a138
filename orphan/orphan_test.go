package orphan_test

import (
	"bytes"
	"encoding/binary"
	"fmt"
	"math"
	"slices"
	"strings"
	"testing"

	"lagleash/api"
	"lagleash/disk"
	"lagleash/orphan"
)

// The limits, as the document writes them.
const (
	most  = 1048576 // the greatest epoch and number
	files = 4       // of a disk
	raw   = 64      // bytes of a raw write, at most
	place = 3       // the file of orphans
)

func put(key, value string) api.Op { return api.Op{Put: true, Key: key, Value: value} }
func del(key string) api.Op        { return api.Op{Key: key} }

func of(count int) string { return strings.Repeat("k", count) }

func with(epoch, number int, ops ...api.Op) api.Commit {
	return api.Commit{Epoch: epoch, Number: number, Ops: ops}
}

// one is a commit of put a 1: its frame has 10 bytes, as long as its epoch and its number are small.
func one(epoch, number int) api.Commit { return with(epoch, number, put("a", "1")) }

// big is a commit of the greatest batch there is: its frame takes several raw writes.
func big(epoch, number int) api.Commit {
	var l []api.Op
	for i := range 8 {
		l = append(l, put(string(rune('a'+i))+of(15), of(32)))
	}
	return with(epoch, number, l...)
}

func nine() []api.Op { return slices.Repeat([]api.Op{del("k")}, 9) }

// row lists commits of the epochs, numbered from first on, of several sizes.
func row(first int, epochs ...int) []api.Commit {
	var l []api.Commit
	for i, epoch := range epochs {
		switch i % 4 {
		case 0:
			l = append(l, one(epoch, first+i))
		case 1:
			l = append(l, with(epoch, first+i, put("ab", ""), del("abc"), put("ab", of(32))))
		case 2:
			l = append(l, big(epoch, first+i))
		default:
			l = append(l, with(epoch, first+i, del("\x00\xff")))
		}
	}
	return l
}

func holds(epoch, fork int, l ...api.Commit) api.Section {
	return api.Section{Epoch: epoch, Fork: fork, Commits: l}
}

// cut is a section whose commits have these epochs, behind its fork.
func cut(epoch, fork int, epochs ...int) api.Section {
	return holds(epoch, fork, row(fork+1, epochs...)...)
}

// example is the section of the chapter's examples.
func example() api.Section { return holds(2, 1, one(1, 2)) }

// some lists sections whose Epochs rise, of several sizes and forks.
func some() []api.Section {
	return []api.Section{
		example(), cut(3, 0, 1, 1, 2), cut(5, 7, 4), cut(127, 126, 1, 1, 7, 126, 126), cut(128, 0, 127), cut(129, 127, 128, 128), cut(16384, 16382, 5, 16383),
		cut(most-1, most-2, 1, 2), cut(most, most-1, most-1),
	}
}

// edges lists numbers that a bound may lie at.
func edges() []int {
	return []int{math.MinInt, math.MinInt + 1, -1 << 32, -most, -2, -1, 0, 1, 2, 3, 127, 128, most - 1, most, most + 1, 1 << 32, math.MaxInt - 1, math.MaxInt}
}

// A second telling, without the calls of the program.

func opIsWrong(o api.Op) bool {
	return len(o.Key) == 0 || len(o.Key) > 16 || len(o.Value) > 32 || !o.Put && o.Value != ""
}

func commitFault(c api.Commit) api.Errno {
	switch {
	case c.Epoch <= 0, c.Epoch > most, c.Number <= 0, c.Number > most, len(c.Ops) == 0:
		return api.ErrArg
	case len(c.Ops) > 8:
		return api.ErrLong
	case slices.ContainsFunc(c.Ops, opIsWrong):
		return api.ErrArg
	}
	return api.OK
}

// fault is the second telling of Check.
func fault(s api.Section) api.Errno {
	if len(s.Commits) == 0 || s.Fork < 0 || s.Epoch > most || s.Epoch <= 0 {
		return api.ErrArg
	}
	ahead := api.Commit{Epoch: 1, Number: s.Fork}
	for _, c := range s.Commits {
		if e := commitFault(c); e != api.OK {
			return e
		}
		if uint64(c.Number) != uint64(ahead.Number)+1 || c.Epoch < ahead.Epoch {
			return api.ErrOrder
		}
		ahead = c
	}
	if ahead.Epoch < s.Epoch {
		return api.OK
	}
	return api.ErrOrder
}

func sharedLength(a, b string) int {
	n := 0
	for n < len(a) && n < len(b) && a[n] == b[n] {
		n++
	}
	return n
}

// recordOf answers a commit's bytes, also of one that may not be, as long as its numbers are not below 0.
func recordOf(c api.Commit) []byte {
	b := numbers(c.Epoch, c.Number, len(c.Ops))
	ahead := ""
	for _, o := range c.Ops {
		kind := byte(0)
		if o.Put {
			kind = 1
		}
		n := sharedLength(ahead, o.Key)
		b = append(b, kind, byte(n), byte(len(o.Key)-n))
		b = append(b, o.Key[n:]...)
		if o.Put {
			b = append(b, byte(len(o.Value)))
			b = append(b, o.Value...)
		}
		ahead = o.Key
	}
	return b
}

func numbers(l ...int) []byte {
	var b []byte
	for _, x := range l {
		b = binary.AppendUvarint(b, uint64(x))
	}
	return b
}

func framed(record []byte) []byte {
	return append(binary.AppendUvarint(nil, uint64(len(record))), record...)
}

func commitsOf(l ...api.Commit) []byte {
	var b []byte
	for _, c := range l {
		b = append(b, framed(recordOf(c))...)
	}
	return b
}

// fileOf answers the bytes of sections, one behind the other, also of those that may not be.
func fileOf(l ...api.Section) []byte {
	var b []byte
	for _, s := range l {
		b = append(b, framed(numbers(s.Epoch, s.Fork, len(s.Commits)))...)
		b = append(b, commitsOf(s.Commits...)...)
	}
	return b
}

// reader cuts numbers and texts off bytes; once there are too few of them, it is bad.
type reader struct {
	b   []byte
	bad bool
}

func (r *reader) number() int {
	x, n := binary.Uvarint(r.b)
	if n <= 0 || x > most {
		*r = reader{bad: true}
		return 0
	}
	r.b = r.b[n:]
	return int(x)
}

func (r *reader) text(count int) string {
	if count > len(r.b) {
		*r = reader{bad: true}
		return ""
	}
	s := string(r.b[:count])
	r.b = r.b[count:]
	return s
}

// loosely reads a commit of bytes that may be told in other ways, too.
func loosely(record []byte) (api.Commit, bool) {
	r := reader{b: record}
	c := with(r.number(), r.number())
	count := r.number()
	if r.bad || count > 8 {
		return c, false
	}
	ahead := ""
	for range count {
		var o api.Op
		o.Put = r.number() == 1
		n := min(r.number(), len(ahead))
		o.Key = ahead[:n] + r.text(r.number())
		if o.Put {
			o.Value = r.text(r.number())
		}
		c.Ops = append(c.Ops, o)
		ahead = o.Key
	}
	return c, !r.bad && commitFault(c) == api.OK && bytes.Equal(recordOf(c), record)
}

// piece is a record, and where its frame ends.
type piece struct {
	record []byte
	end    int
}

// pieces lists the whole frames that a file begins with.
func pieces(file []byte) []piece {
	var l []piece
	end := 0
	for {
		size, n := binary.Uvarint(file[end:])
		if n <= 0 || size > 131072 || int(size) > len(file)-end-n {
			return l
		}
		record := file[end+n : end+n+int(size)]
		if !bytes.HasPrefix(file[end:], framed(record)) {
			return l
		}
		end += n + int(size)
		l = append(l, piece{record, end})
	}
}

// first answers the section that the pieces begin with.
func first(l []piece) (api.Section, bool) {
	if len(l) == 0 {
		return api.Section{}, false
	}
	r := reader{b: l[0].record}
	s := holds(r.number(), r.number())
	count := r.number()
	if r.bad || !bytes.Equal(l[0].record, numbers(s.Epoch, s.Fork, count)) || count > len(l)-1 {
		return api.Section{}, false
	}
	for _, x := range l[1 : 1+count] {
		c, ok := loosely(x.record)
		if !ok {
			return api.Section{}, false
		}
		s.Commits = append(s.Commits, c)
	}
	return s, fault(s) == api.OK
}

// told is the second telling of Scan.
func told(file []byte) ([]api.Section, int) {
	var l []api.Section
	rest := pieces(file)
	good := 0
	for {
		s, ok := first(rest)
		if !ok || len(l) > 0 && s.Epoch <= l[len(l)-1].Epoch {
			return l, good
		}
		l = append(l, s)
		good = rest[len(s.Commits)].end
		rest = rest[1+len(s.Commits):]
	}
}

// key is a commit's epoch and number.
type key struct{ epoch, number int }

// keysOf counts the commits of sections by their epochs and numbers.
func keysOf(l []api.Section) map[key]int {
	keys := map[key]int{}
	for _, s := range l {
		for _, c := range s.Commits {
			keys[key{c.Epoch, c.Number}]++
		}
	}
	return keys
}

// What is compared, and how.

func alikeCommits(a, b api.Commit) bool {
	return a.Epoch == b.Epoch && a.Number == b.Number && slices.Equal(a.Ops, b.Ops)
}

func alikeSections(a, b api.Section) bool {
	return a.Epoch == b.Epoch && a.Fork == b.Fork && slices.EqualFunc(a.Commits, b.Commits, alikeCommits)
}

func alike(a, b []api.Section) bool { return slices.EqualFunc(a, b, alikeSections) }

// short keeps what is told of much readable.
func short(x any) string {
	s := fmt.Sprintf("%v", x)
	if len(s) > 300 {
		return s[:200] + " .. " + s[len(s)-80:]
	}
	return s
}

func want(t *testing.T, what string, got, e api.Errno) {
	t.Helper()
	if got != e {
		t.Errorf("%s: %d, not %d", what, got, e)
	}
}

// must stops a test whose ground is gone.
func must(t *testing.T, what string, got api.Errno) {
	t.Helper()
	if got != api.OK {
		t.Fatalf("%s: %d", what, got)
	}
}

// wantCheck: Check answers e, and Encode the same, with the bytes of a section that may be and with none else.
func wantCheck(t *testing.T, what string, s api.Section, e api.Errno) {
	t.Helper()
	if got := orphan.Check(s); got != e {
		t.Errorf("%s: Check of %s is %d, not %d", what, short(s), got, e)
	}
	var right []byte
	if e == api.OK {
		right = fileOf(s)
	}
	if b, got := orphan.Encode(s); got != e || !bytes.Equal(b, right) || e != api.OK && b != nil {
		t.Errorf("%s: Encode of %s is %s, %d, not %s, %d", what, short(s), short(b), got, short(right), e)
	}
	if other := fault(s); other != e {
		t.Errorf("%s: the second telling of %s is %d, not %d", what, short(s), other, e)
	}
}

// wantAsTold: Check and Encode answer what the second telling does.
func wantAsTold(t *testing.T, what string, s api.Section) api.Errno {
	t.Helper()
	e := fault(s)
	wantCheck(t, what, s, e)
	return e
}

// wantScan: Scan answers these sections and that good length, and the second telling does, too.
func wantScan(t *testing.T, what string, file []byte, l []api.Section, good int) {
	t.Helper()
	if got, n := orphan.Scan(file); !alike(got, l) || n != good {
		t.Errorf("%s: Scan(%s) = %s, %d; want %s, %d", what, short(file), short(got), n, short(l), good)
	}
	if other, n := told(file); !alike(other, l) || n != good {
		t.Errorf("%s: the second telling of %s is %s, %d; want %s, %d", what, short(file), short(other), n, short(l), good)
	}
}

// wantScanAsTold: Scan answers what the second telling does.
func wantScanAsTold(t *testing.T, what string, file []byte) int {
	t.Helper()
	l, good := told(file)
	wantScan(t, what, file, l, good)
	return len(l)
}

func wantHas(t *testing.T, what string, file []byte, epoch, number int, has bool) {
	t.Helper()
	if got := orphan.Has(file, epoch, number); got != has {
		t.Errorf("%s: Has(%s, %d, %d) = %v", what, short(file), epoch, number, got)
	}
}

// look is what the calls that change nothing tell of a disk.
type look struct {
	on      bool
	pending int
	steps   int
	held    [files]string
	durable [files]string
}

func lookAt(d *disk.Disk) look {
	l := look{on: d.On(), pending: d.Pending(), steps: d.Steps()}
	for file := range files {
		b, _ := d.Read(file)
		l.held[file] = string(b)
		l.durable[file] = string(d.Durable(file))
	}
	return l
}

func wantLook(t *testing.T, what string, d *disk.Disk, right look) {
	t.Helper()
	if now := lookAt(d); now != right {
		t.Errorf("%s: the disk should be\n%+v and is\n%+v", what, right, now)
	}
}

// holding answers a disk whose file 3 has these bytes, durably, and whose other files have some, too.
func holding(t *testing.T, file []byte) *disk.Disk {
	t.Helper()
	d := disk.New()
	must(t, "Write", d.Write(place, file))
	for other := range place {
		must(t, "Write", d.Write(other, []byte{byte(other), 7, 7}))
	}
	must(t, "Sync", d.Sync())
	return d
}

// rawWrites answers how many raw writes count bytes are.
func rawWrites(count int) int { return (count + raw - 1) / raw }

// stepsOf answers how many raw steps a Write is, to a file of so many bytes.
func stepsOf(held, base int, s api.Section) int {
	steps := rawWrites(len(fileOf(s))) + 1
	if held > base {
		steps++
	}
	return steps
}

// The chapter's examples.
func TestExamples(t *testing.T) {
	b, e := orphan.Encode(holds(2, 1, one(1, 2)))
	if e != api.OK || !bytes.Equal(b, []byte{3, 2, 1, 1, 9, 1, 2, 1, 1, 0, 1, 97, 1, 49}) {
		t.Errorf("Encode: %v, %d", b, e)
	}
	want(t, "Check of {1, 1, {1 2 ..}}", orphan.Check(holds(1, 1, one(1, 2))), api.ErrOrder)
	want(t, "Check of {2, 2, {1 2 ..}}", orphan.Check(holds(2, 2, one(1, 2))), api.ErrOrder)
	want(t, "Check of {2, 1, none}", orphan.Check(holds(2, 1)), api.ErrArg)
	file := append(b, 3, 3, 1, 1)
	if l, good := orphan.Scan(file); len(l) != 1 || !alikeSections(l[0], holds(2, 1, one(1, 2))) || good != 14 {
		t.Errorf("Scan: %v, %d", l, good)
	}
	if !orphan.Has(file, 1, 2) || orphan.Has(file, 2, 2) {
		t.Errorf("Has 1 2: %v, 2 2: %v", orphan.Has(file, 1, 2), orphan.Has(file, 2, 2))
	}
}

// P19.1

func TestSectionsThatMayBe(t *testing.T) {
	for _, s := range some() {
		wantCheck(t, "one of some", s, api.OK)
	}
	for count := 1; count < 40; count++ {
		wantCheck(t, "of many commits", cut(3, count, slices.Repeat([]int{2}, count)...), api.OK)
	}
	for _, c := range []api.Commit{
		with(1, 4, del("a")), with(1, 4, put(of(16), of(32))), with(1, 4, put("\x00", "")), with(1, 4, nine()[1:]...), with(1, 4, put("a", "1"), put("a", "2"), del("a")), big(1, 4),
	} {
		wantCheck(t, "one commit", holds(2, 3, c), api.OK)
		wantCheck(t, "one behind it", holds(2, 3, c, one(1, 5)), api.OK)
		wantCheck(t, "one ahead of it", holds(2, 2, one(1, 3), c), api.OK)
	}
}

func TestTheEpochsBounds(t *testing.T) {
	for epoch, e := range map[int]api.Errno{
		math.MinInt: api.ErrArg, math.MinInt + 1: api.ErrArg, -most: api.ErrArg, -1: api.ErrArg, 0: api.ErrArg,
		1: api.ErrOrder, 2: api.OK, 3: api.OK, most - 1: api.OK, most: api.OK,
		most + 1: api.ErrArg, 1 << 32: api.ErrArg, math.MaxInt: api.ErrArg,
	} {
		wantCheck(t, "an epoch", holds(epoch, 1, one(1, 2)), e)
		wantCheck(t, "an epoch", holds(epoch, 0, row(1, 1, 1, 1)...), e)
	}
}

func TestTheForksBounds(t *testing.T) {
	for _, fork := range []int{math.MinInt, math.MinInt + 1, -most, -2, -1} {
		for _, number := range []int{fork + 1, fork, -1, 0, 1, 2, most, math.MaxInt} {
			wantCheck(t, "a fork below 0", holds(2, fork, one(1, number)), api.ErrArg)
			wantCheck(t, "a fork below 0", holds(2, fork, with(1, number, nine()...)), api.ErrArg)
		}
	}
	for _, fork := range []int{0, 1, 2, 127, 128, 16383, most - 2, most - 1} {
		wantCheck(t, "a fork", holds(2, fork, one(1, fork+1)), api.OK)
		if fork > 0 {
			wantCheck(t, "a fork, and its own number", holds(2, fork, one(1, fork)), api.ErrOrder)
		}
		if fork < most-1 {
			wantCheck(t, "a fork, and a number too great by one", holds(2, fork, one(1, fork+2)), api.ErrOrder)
		}
	}
	wantCheck(t, "the fork 0, and its own number", holds(2, 0, one(1, 0)), api.ErrArg)
	wantCheck(t, "the last fork, and a number too great by one", holds(2, most-1, one(1, most+1)), api.ErrArg)
	// Behind the greatest number none is next: what is wrong then is the commit.
	for _, fork := range []int{most, most + 1, 1 << 32, math.MaxInt - 1, math.MaxInt} {
		for _, number := range []int{1, 2, most - 1, most} {
			wantCheck(t, "a fork that is too great", holds(2, fork, one(1, number)), api.ErrOrder)
			wantCheck(t, "a fork that is too great", holds(2, fork, with(1, number, nine()...)), api.ErrLong)
		}
		for _, number := range []int{math.MinInt, -1, 0, most + 1, fork, fork + 1} {
			if number < 1 || number > most {
				wantCheck(t, "a fork and a number that are too great", holds(2, fork, one(1, number)), api.ErrArg)
			}
		}
	}
}

func TestNoCommits(t *testing.T) {
	room := row(1, 1, 1, 1)
	for _, l := range [][]api.Commit{nil, {}, room[:0]} {
		for _, epoch := range edges() {
			for _, fork := range edges() {
				wantCheck(t, "no commits", holds(epoch, fork, l...), api.ErrArg)
			}
		}
	}
}

// wrong is a commit that can't stand at its place, and why.
type wrong struct {
	c api.Commit
	e api.Errno
}

// wrongs lists those for the place behind the end (epoch, number).
func wrongs(epoch, number int) []wrong {
	next := number + 1
	l := []wrong{
		{with(epoch, next), api.ErrArg}, {with(epoch, next, nine()...), api.ErrLong}, {with(0, next, nine()...), api.ErrArg},
		{with(epoch, next, del("")), api.ErrArg}, {with(epoch, next, del(of(17))), api.ErrArg}, {with(epoch, next, put("a", of(33))), api.ErrArg},
		{with(epoch, next, api.Op{Key: "a", Value: "1"}), api.ErrArg}, {with(epoch, next, put("a", "1"), del("")), api.ErrArg}, {api.Commit{}, api.ErrArg},
	}
	for _, x := range []int{math.MinInt, -1, 0, most + 1, math.MaxInt} {
		l = append(l, wrong{one(x, next), api.ErrArg}, wrong{one(epoch, x), api.ErrArg}, wrong{with(epoch, x, nine()...), api.ErrArg})
	}
	for _, x := range []int{1, number - 1, number, next + 1, next + 2, most} {
		if x >= 1 && x != next {
			l = append(l, wrong{one(epoch, x), api.ErrOrder}, wrong{with(epoch, x, nine()...), api.ErrLong})
		}
	}
	for _, x := range []int{1, epoch - 2, epoch - 1} {
		if x >= 1 && x < epoch {
			l = append(l, wrong{one(x, next), api.ErrOrder}, wrong{with(x, next, nine()...), api.ErrLong}, wrong{with(x, next), api.ErrArg})
		}
	}
	return l
}

func TestFaultsAtEachPlace(t *testing.T) {
	for _, fork := range []int{0, 1, 5, 126, 1000} {
		for _, epochs := range [][]int{{1}, {3}, {1, 1}, {1, 4}, {2, 2, 2}, {1, 3, 5}, {3, 3, 7, 7, 8}} {
			whole := cut(9, fork, epochs...)
			wantCheck(t, "without a fault", whole, api.OK)
			for at := range epochs {
				ahead := 1
				if at > 0 {
					ahead = epochs[at-1]
				}
				for _, x := range wrongs(ahead, fork+at) {
					l := slices.Clone(whole.Commits)
					l[at] = x.c
					wantCheck(t, fmt.Sprintf("a fault at %d", at), holds(9, fork, l...), x.e)
					wantCheck(t, fmt.Sprintf("a fault at %d, and its last one", at), holds(9, fork, l[:at+1]...), x.e)
				}
			}
		}
	}
}

// Of two faults the one at the first place counts.
func TestTheFirstFaultCounts(t *testing.T) {
	for _, fork := range []int{0, 4} {
		whole := cut(9, fork, 2, 2, 2, 2, 2)
		for at := range whole.Commits {
			ahead := 2
			if at == 0 {
				ahead = 1
			}
			for behind := at + 1; behind < len(whole.Commits); behind++ {
				for _, x := range wrongs(ahead, fork+at) {
					for _, y := range wrongs(2, fork+behind) {
						l := slices.Clone(whole.Commits)
						l[at], l[behind] = x.c, y.c
						wantCheck(t, fmt.Sprintf("faults at %d and %d", at, behind), holds(9, fork, l...), x.e)
					}
				}
			}
		}
	}
}

func TestTheLastEpoch(t *testing.T) {
	for _, epoch := range []int{2, 3, 4, 127, 128, 129, most - 1, most} {
		for _, count := range []int{1, 2, 5} {
			for _, x := range []struct {
				last int
				e    api.Errno
			}{{1, api.OK}, {epoch - 2, api.OK}, {epoch - 1, api.OK}, {epoch, api.ErrOrder}, {epoch + 1, api.ErrOrder}, {most, api.ErrOrder}} {
				if x.last < 1 || x.last > most {
					continue
				}
				epochs := append(slices.Repeat([]int{1}, count-1), x.last)
				wantCheck(t, "the last epoch", cut(epoch, 6, epochs...), x.e)
				wantCheck(t, "all epochs", cut(epoch, 6, slices.Repeat([]int{x.last}, count)...), x.e)
			}
		}
	}
}

// harm is what can be done to one part of a section, and the error that it brings about; the lower its rank, the sooner it counts.
type harm struct {
	part string
	rank int
	e    api.Errno
	do   func(s *api.Section)
}

// toCommit is a harm to the commit i, if it is there.
func toCommit(part string, i, rank int, e api.Errno, do func(c *api.Commit)) harm {
	return harm{fmt.Sprint("commit ", i, ", ", part), rank, e, func(s *api.Section) {
		if i < len(s.Commits) {
			do(&s.Commits[i])
		}
	}}
}

// harms lists what can be done to cut(9, 3, 2, 4, 6).
func harms() []harm {
	l := []harm{
		{"the commits", 0, api.ErrArg, func(s *api.Section) { s.Commits = nil }},
		{"the commits", 0, api.ErrArg, func(s *api.Section) { s.Commits = s.Commits[:0] }},
	}
	for _, x := range []int{math.MinInt, -1, 0, most + 1, math.MaxInt} {
		l = append(l, harm{"the epoch", 0, api.ErrArg, func(s *api.Section) { s.Epoch = x }})
	}
	for _, x := range []int{math.MinInt, -1} {
		l = append(l, harm{"the fork", 0, api.ErrArg, func(s *api.Section) { s.Fork = x }})
	}
	for _, x := range []int{0, 2, 4, most, math.MaxInt} {
		l = append(l, harm{"the fork", 2, api.ErrOrder, func(s *api.Section) { s.Fork = x }})
	}
	for i := range 3 {
		l = append(l,
			toCommit("epoch", i, 1+2*i, api.ErrArg, func(c *api.Commit) { c.Epoch = 0 }),
			toCommit("number", i, 1+2*i, api.ErrArg, func(c *api.Commit) { c.Number = most + 1 }),
			toCommit("ops", i, 1+2*i, api.ErrArg, func(c *api.Commit) { c.Ops = nil }),
			toCommit("number", i, 2+2*i, api.ErrOrder, func(c *api.Commit) { c.Number += 9 }),
		)
	}
	for _, x := range []int{9, 10, most} {
		l = append(l, toCommit("epoch", 2, 9, api.ErrOrder, func(c *api.Commit) { c.Epoch = x }))
	}
	return l
}

// Each harm alone, and each two at once: the one of the lower rank counts.
func TestEachTwoHarmsAtOnce(t *testing.T) {
	for _, x := range harms() {
		s := cut(9, 3, 2, 4, 6)
		x.do(&s)
		wantCheck(t, x.part, s, x.e)
		for _, y := range harms() {
			if x.part == y.part {
				continue
			}
			s := cut(9, 3, 2, 4, 6)
			x.do(&s)
			y.do(&s)
			e := x.e
			if y.rank < x.rank {
				e = y.e
			}
			wantCheck(t, x.part+" and "+y.part, s, e)
		}
	}
}

// What is too long counts ahead of an order, and behind what is out of bounds.
func TestTooManyOps(t *testing.T) {
	long := with(2, 5, nine()...)
	wantCheck(t, "alone", holds(9, 3, one(2, 4), long, one(2, 6)), api.ErrLong)
	wantCheck(t, "with an order behind it", holds(9, 3, one(2, 4), long, one(1, 6)), api.ErrLong)
	wantCheck(t, "with a last epoch", holds(2, 3, one(2, 4), long), api.ErrLong)
	wantCheck(t, "with an order ahead of it", holds(9, 3, one(2, 5), long), api.ErrOrder)
	wantCheck(t, "with an order of its own", holds(9, 9, long), api.ErrLong)
	wantCheck(t, "with an epoch", holds(0, 4, long), api.ErrArg)
	wantCheck(t, "with a fork", holds(9, -1, long), api.ErrArg)
	wantCheck(t, "with one that may not be ahead of it", holds(9, 3, with(2, 4), long), api.ErrArg)
	wantCheck(t, "with one that may not be behind it", holds(9, 4, long, with(2, 6)), api.ErrLong)
}

func TestAllNumbersAtAllEdges(t *testing.T) {
	l := edges()
	for range 2 {
		for _, a := range l {
			for _, b := range l {
				for _, c := range l {
					wantAsTold(t, "edges", holds(a, b, one(c, 1)))
					wantAsTold(t, "edges", holds(a, b, one(1, c)))
					wantAsTold(t, "edges", holds(a, b, one(c, b+1)))
					wantAsTold(t, "edges", holds(a, 1, one(b, 2), one(c, 3)))
					wantAsTold(t, "edges", holds(3, a, one(1, b), one(2, c)))
				}
			}
		}
		// Once more, backward: no answer hangs on a call ahead.
		slices.Reverse(l)
	}
}

// All sections of few commits with small numbers.
func TestEverySmallSection(t *testing.T) {
	lists := [][]api.Commit{nil}
	for i := 0; len(lists[i]) < 3; i++ {
		for epoch := range 4 {
			for number := range 4 {
				lists = append(lists, append(slices.Clone(lists[i]), with(epoch, number, del("k"))))
			}
		}
	}
	count := map[api.Errno]int{}
	for _, l := range lists {
		for epoch := -1; epoch < 6; epoch++ {
			for fork := -1; fork < 4; fork++ {
				count[wantAsTold(t, "a small section", holds(epoch, fork, l...))]++
			}
		}
	}
	if count[api.OK] < 50 || count[api.ErrOrder] < 50 || count[api.ErrArg] < 50 {
		t.Errorf("%v", count)
	}
}

func TestTheBytesOfSections(t *testing.T) {
	for _, x := range []struct {
		s api.Section
		b []byte
	}{
		{holds(3, 0, with(1, 1, del("a"))), []byte{3, 3, 0, 1, 7, 1, 1, 1, 0, 0, 1, 97}},
		{holds(3, 7, one(1, 8), with(2, 9, put("ab", ""), del("ac"))), []byte{3, 3, 7, 2, 9, 1, 8, 1, 1, 0, 1, 97, 1, 49, 13, 2, 9, 2, 1, 0, 2, 97, 98, 0, 0, 1, 1, 99}},
		{holds(300, 128, one(1, 129)), []byte{5, 172, 2, 128, 1, 1, 10, 1, 129, 1, 1, 1, 0, 1, 97, 1, 49}},
		{holds(most, most-1, one(most-1, most)), []byte{7, 128, 128, 64, 255, 255, 63, 1, 13, 255, 255, 63, 128, 128, 64, 1, 1, 0, 1, 97, 1, 49}},
	} {
		b, e := orphan.Encode(x.s)
		if e != api.OK || !bytes.Equal(b, fileOf(x.s)) {
			t.Errorf("Encode(%v) = %v, %d; want %v", x.s, b, e, fileOf(x.s))
		}
		if !bytes.Equal(b, x.b) {
			t.Errorf("Encode(%v) = %v; by hand it is %v", x.s, b, x.b)
		}
	}
}

// small is the shortest commit there is.
func small(epoch, number int) api.Commit { return with(epoch, number, del("k")) }

// long is a section of count commits that are small.
func long(epoch, fork, count int) api.Section {
	s := holds(epoch, fork)
	for i := range count {
		s.Commits = append(s.Commits, small(1+i*(epoch-2)/count, fork+1+i))
	}
	return s
}

// Counts at which the header grows by a byte.
func TestLongSections(t *testing.T) {
	for _, count := range []int{126, 127, 128, 129, 16383, 16384, 30000} {
		for _, fork := range []int{0, most - count} {
			s := long(most, fork, count)
			wantCheck(t, "long", s, api.OK)
			file := fileOf(s)
			wantScan(t, "long", file, []api.Section{s}, len(file))
			wantScan(t, "long, its last byte gone", file[:len(file)-1], nil, 0)
		}
	}
}

// As many commits as there are numbers, and one more.
func TestTheLongestSection(t *testing.T) {
	s := long(most, 0, most)
	wantCheck(t, "the longest", s, api.OK)
	file := fileOf(s)
	wantScan(t, "the longest", file, []api.Section{s}, len(file))
	s.Commits = append(s.Commits, small(most-1, most+1))
	want(t, "one commit more", orphan.Check(s), api.ErrArg)
	if l, good := orphan.Scan(fileOf(s)); len(l) != 0 || good != 0 {
		t.Errorf("one commit more: %d, %d", len(l), good)
	}
}

// roomy answers s with other commits in the spare room of its commits, and other ops in that of theirs.
func roomy(s api.Section) api.Section {
	l := make([]api.Commit, 0, len(s.Commits)+3)
	for _, c := range s.Commits {
		ops := append(slices.Clone(c.Ops), put("room", "r"), del("room"))
		c.Ops = ops[:len(c.Ops)]
		l = append(l, c)
	}
	l = append(l, row(len(l)+s.Fork+1, 1, 1, 1)...)
	s.Commits = l[:len(s.Commits)]
	return s
}

// wholeOf tells all that s has, its spare room, too.
func wholeOf(s api.Section) string {
	var b strings.Builder
	fmt.Fprint(&b, s.Epoch, s.Fork, len(s.Commits), cap(s.Commits))
	for _, c := range s.Commits[:cap(s.Commits)] {
		fmt.Fprint(&b, c.Epoch, c.Number, len(c.Ops), c.Ops[:cap(c.Ops)])
	}
	return b.String()
}

func spoilBytes(b []byte) {
	b = b[:cap(b)]
	for i := range b {
		b[i] = 0xEE
	}
}

func spoilOps(l []api.Op) {
	l = l[:cap(l)]
	for i := range l {
		l[i] = put("spoilt", "spoilt")
	}
}

// spoilCommits writes over all that a list has, its spare room, too.
func spoilCommits(l []api.Commit) {
	l = l[:cap(l)]
	for i, c := range l {
		spoilOps(c.Ops)
		l[i] = with(77, 77, del("spoilt"))
	}
}

func spoil(l []api.Section) {
	l = l[:cap(l)]
	for i, s := range l {
		spoilCommits(s.Commits)
		l[i] = holds(77, 77, with(77, 77, del("spoilt")))
	}
}

// manySections lists sections that may be, and some that may not.
func manySections() []api.Section {
	l := some()
	for _, x := range harms() {
		s := cut(9, 3, 2, 4, 6)
		x.do(&s)
		l = append(l, s)
	}
	return l
}

// isBlank: what stands in the spare room of a list is nothing.
func isBlank[T any](l []T) bool {
	return !slices.ContainsFunc(l[len(l):cap(l)], func(x T) bool {
		var zero T
		return fmt.Sprint(x) != fmt.Sprint(zero)
	})
}

func TestASectionIsLeftAlone(t *testing.T) {
	for _, s := range manySections() {
		s = roomy(s)
		whole := wholeOf(s)
		wantAsTold(t, "with spare room", s)
		orphan.Write(disk.New(), 0, s)
		orphan.Write(nil, 0, s)
		if wholeOf(s) != whole {
			t.Errorf("it was changed: %s", short(s))
		}
	}
}

func TestEncodeAnswersNewMemory(t *testing.T) {
	for _, s := range some() {
		s = roomy(s)
		right := fileOf(s)
		a, _ := orphan.Encode(s)
		b, _ := orphan.Encode(s)
		if !isBlank(a) {
			t.Errorf("spare room was handed out: %s", short(a[:cap(a)]))
		}
		spoilBytes(a)
		if !bytes.Equal(b, right) {
			t.Errorf("two answers share memory: %s", short(b))
		}
		if c, _ := orphan.Encode(s); !bytes.Equal(c, right) {
			t.Errorf("an answer hangs on another one: %s", short(c))
		}
		spoilCommits(s.Commits)
		if !bytes.Equal(b, right) {
			t.Errorf("it was changed later: %s", short(b))
		}
	}
}

// P19.2

func TestScanOfNothing(t *testing.T) {
	wantScan(t, "nil", nil, nil, 0)
	wantScan(t, "no bytes", []byte{}, nil, 0)
	wantScan(t, "no bytes, with spare room", fileOf(example())[:0], nil, 0)
}

func TestScanOfSections(t *testing.T) {
	all := some()
	for from := range all {
		for upto := from; upto <= len(all); upto++ {
			l := all[from:upto]
			wantScan(t, "some sections", fileOf(l...), l, len(fileOf(l...)))
		}
	}
	for skip := 1; skip < 4; skip++ {
		var l []api.Section
		for i := 0; i < len(all); i += skip {
			l = append(l, all[i])
		}
		wantScan(t, "some of them", fileOf(l...), l, len(fileOf(l...)))
	}
	wantScan(t, "by hand", []byte{3, 2, 1, 1, 9, 1, 2, 1, 1, 0, 1, 97, 1, 49, 3, 3, 0, 2, 7, 1, 1, 1, 0, 0, 1, 97, 7, 2, 2, 1, 0, 0, 1, 97},
		[]api.Section{example(), holds(3, 0, with(1, 1, del("a")), with(2, 2, del("a")))}, 34)
}

// Forks and commits of one section say nothing of the next: the Epochs alone rise.
func TestScanOfSectionsThatAreAlikeButForTheirEpochs(t *testing.T) {
	var l []api.Section
	for epoch := 2; epoch < 20; epoch++ {
		l = append(l, cut(epoch, (37*epoch)%11, 1, 1))
		wantScan(t, "forks up and down", fileOf(l...), l, len(fileOf(l...)))
	}
	l = []api.Section{cut(9, 5, 8), cut(10, 5, 1), cut(11, 5, 8), cut(12, 5, 1)}
	wantScan(t, "epochs of commits up and down", fileOf(l...), l, len(fileOf(l...)))
}

func TestScanEndsAheadOfAnEpochThatDoesNotRise(t *testing.T) {
	for _, ahead := range [][]int{{3}, {2, 3}, {7}, {3, 128}, {2, 3, 4, 5}, {2, most}, {most}} {
		var l []api.Section
		for _, epoch := range ahead {
			l = append(l, cut(epoch, 4, 1, 1))
		}
		last := ahead[len(ahead)-1]
		good := fileOf(l...)
		for _, epoch := range []int{2, 3, last - 2, last - 1, last} {
			if epoch < 2 || epoch > last {
				continue
			}
			file := slices.Concat(good, fileOf(cut(epoch, 9, 1, 1)))
			wantScan(t, "it alone", file, l, len(good))
			wantScan(t, "a higher one behind it", slices.Concat(file, fileOf(cut(most, 9, 1))), l, len(good))
			wantHas(t, "behind the good length", file, 1, 10, false)
			wantHas(t, "ahead of it", file, 1, 5, true)
		}
		if last < most {
			l = append(l, cut(last+1, 4, 1))
			wantScan(t, "one more", fileOf(l...), l, len(fileOf(l...)))
		}
	}
}

// wantNoMore: behind some sections the tail is none, whatever stands behind it.
func wantNoMore(t *testing.T, what string, tail []byte) {
	t.Helper()
	for _, l := range [][]api.Section{nil, {example()}, {example(), cut(4, 0, 1, 2, 3)}} {
		good := fileOf(l...)
		wantScan(t, what, slices.Concat(good, tail), l, len(good))
		wantScan(t, what+", commits behind it", slices.Concat(good, tail, commitsOf(row(8, 1, 1, 1)...)), l, len(good))
		wantScan(t, what+", a section behind it", slices.Concat(good, tail, fileOf(cut(most, 7, 1))), l, len(good))
	}
}

// wide answers the bytes of a number with a needless byte at its end.
func wide(x int) []byte {
	b := numbers(x)
	b[len(b)-1] |= 128
	return append(b, 0)
}

func TestScanOfNoHeader(t *testing.T) {
	for name, header := range map[string][]byte{
		"an empty one":                             {},
		"one number":                               numbers(9),
		"two numbers":                              numbers(9, 7),
		"four numbers":                             numbers(9, 7, 1, 0),
		"four numbers of a commit":                 numbers(9, 7, 1, 1),
		"a byte behind it":                         append(numbers(9, 7, 1), 128),
		"an epoch that does not end":               {9 | 128, 128, 128},
		"a count that does not end":                append(numbers(9, 7), 1|128),
		"an epoch with a needless byte":            slices.Concat(wide(9), numbers(7, 1)),
		"a fork with a needless byte":              slices.Concat(numbers(9), wide(7), numbers(1)),
		"a count with a needless byte":             slices.Concat(numbers(9, 7), wide(1)),
		"an epoch of 0":                            numbers(0, 7, 1),
		"an epoch of 1":                            numbers(1, 7, 1),
		"an epoch that is too great":               numbers(most+1, 7, 1),
		"an epoch of 2^32 + 9":                     numbers(1<<32+9, 7, 1),
		"an epoch below 0":                         numbers(-1, 7, 1),
		"a fork below 0":                           numbers(9, -1, 1),
		"a fork that is too great":                 numbers(9, most+1, 1),
		"the greatest fork":                        numbers(9, most, 1),
		"a fork of 2^32 + 7":                       numbers(9, 1<<32+7, 1),
		"a fork of 2^64 - 2^57 + 7":                numbers(9, -1<<57+7, 1),
		"another fork":                             numbers(9, 6, 1),
		"a fork one above":                         numbers(9, 8, 1),
		"a count of none":                          numbers(9, 7, 0),
		"a count that is too great":                numbers(9, 7, most+1),
		"the greatest count":                       numbers(9, 7, most),
		"a count of 2^32 + 1":                      numbers(9, 7, 1<<32+1),
		"a count below 0":                          numbers(9, 7, -1),
		"a number of more than 64 bits":            append(bytes.Repeat([]byte{255}, 9), 2, 7, 1),
		"a commit":                                 recordOf(one(9, 7)),
		"a great one":                              make([]byte, 131072),
		"a section":                                fileOf(cut(9, 7, 1)),
		"an epoch, a fork, a count of great noise": bytes.Repeat([]byte{255}, 3),
	} {
		wantNoMore(t, name, slices.Concat(framed(header), commitsOf(one(1, 8))))
		wantNoMore(t, name+", without a commit", framed(header))
	}
	// The same with the right header is a section.
	right := slices.Concat(framed(numbers(9, 7, 1)), commitsOf(one(1, 8)))
	wantScan(t, "a header", right, []api.Section{cut(9, 7, 1)}, len(right))
}

// The header's own frame may be torn, too, or told by a needless byte.
func TestScanOfATornHeader(t *testing.T) {
	header := numbers(9, 7, 1)
	commits := commitsOf(one(1, 8))
	for size := range 200 {
		if size != len(header) {
			wantScan(t, "a frame of another size", slices.Concat(numbers(size), header, commits), nil, 0)
		}
	}
	wantScan(t, "a needless byte", slices.Concat(wide(len(header)), header, commits), nil, 0)
	wantScan(t, "too long a frame", slices.Concat(numbers(131073), make([]byte, 131073)), nil, 0)
	wantScan(t, "a frame of 2^64 - 1", slices.Concat(numbers(-1), header, commits), nil, 0)
	wantScan(t, "a frame of 2^63", slices.Concat(numbers(math.MinInt), header, commits), nil, 0)
}

func TestScanOfACountThatIsNotTheirs(t *testing.T) {
	l := row(8, 1, 1, 2, 2, 3)
	for have := range len(l) + 1 {
		for count := range len(l) + 2 {
			file := slices.Concat(framed(numbers(9, 7, count)), commitsOf(l[:have]...))
			if count < 1 || count > have {
				wantScan(t, "too few commits, or none", file, nil, 0)
				wantScan(t, "a section behind them", slices.Concat(file, fileOf(cut(most, 7, 1))), nil, 0)
				wantScan(t, "a section ahead of them", slices.Concat(fileOf(example()), file), []api.Section{example()}, 14)
				continue
			}
			// What is behind the last one that counts is no header.
			s := holds(9, 7, l[:count]...)
			wantScan(t, "commits to spare", file, []api.Section{s}, len(fileOf(s)))
		}
	}
}

// spoiltFrames lists what may stand in the place of the frame of a commit of that epoch and number, without being one.
func spoiltFrames(epoch, number int) [][]byte {
	c := recordOf(one(epoch, number))
	list := [][]byte{
		{}, {0}, {128}, {200, 1}, bytes.Repeat([]byte{255}, 12), framed([]byte{7}), framed(append(slices.Clone(c), 0)), framed(c[:len(c)-1]), framed(c[1:]), framed(framed(c)),
		append([]byte{byte(len(c)) | 128, 0}, c...), append([]byte{byte(len(c)) + 1}, c...), append([]byte{byte(len(c)) - 1}, c...),
		append(numbers(131073), make([]byte, 131073)...), framed(make([]byte, 131072)), framed(numbers(epoch, number, 1)), fileOf(cut(9, number-1, epoch)),
	}
	for _, x := range wrongs(epoch, number-1) {
		// What is below 0, and a value of a delete, can't be written down.
		if x.c.Epoch >= 0 && x.c.Number >= 0 && !slices.Contains(x.c.Ops, api.Op{Key: "a", Value: "1"}) {
			list = append(list, commitsOf(x.c))
		}
	}
	// All but the key's byte and the value's, which may be any.
	for i := range c {
		if c[i] != 'a' && c[i] != '1' {
			b := slices.Clone(c)
			b[i] = 255
			list = append(list, framed(b))
		}
	}
	return list
}

func TestScanOfNoCommits(t *testing.T) {
	l := row(8, 2, 2, 2, 2)
	for at := range l {
		epoch := 2
		if at == 0 {
			epoch = 1
		}
		for _, x := range spoiltFrames(epoch, 8+at) {
			tail := slices.Concat(framed(numbers(9, 7, len(l))), commitsOf(l[:at]...), x, commitsOf(l[at+1:]...))
			wantNoMore(t, fmt.Sprintf("at %d", at), tail)
			for n := range 3 {
				wantScan(t, "a count of others", slices.Concat(framed(numbers(9, 7, at+1+n)), commitsOf(l[:at]...), x, commitsOf(l[at+1:]...)), nil, 0)
			}
		}
	}
}

func TestScanOfALastEpochThatIsNotBelow(t *testing.T) {
	for _, epoch := range []int{5, 6, 127, 128, most} {
		for _, last := range []int{epoch - 2, epoch - 1, epoch, epoch + 1, most} {
			for _, epochs := range [][]int{{last}, {1, last}, {last, last}, {1, 1, 3, last}} {
				s := cut(epoch, 7, epochs...)
				if last >= epoch {
					wantNoMore(t, "not below", fileOf(s))
					continue
				}
				wantScan(t, "below", fileOf(s), []api.Section{s}, len(fileOf(s)))
			}
		}
	}
}

// A section that stands whole behind one that does not is none.
func TestScanStopsAtTheFirstThatIsNotWhole(t *testing.T) {
	all := some()
	for at := range all {
		for _, lost := range []int{0, 1, 3} {
			var file []byte
			for i, s := range all {
				b := fileOf(s)
				if i == at {
					b = slices.Delete(slices.Clone(b), lost, lost+1)
				}
				file = append(file, b...)
			}
			wantScan(t, "a byte is lost", file, all[:at], len(fileOf(all[:at]...)))
		}
	}
}

func TestScanOfBytesBehindTheLastSection(t *testing.T) {
	for _, l := range [][]api.Section{{example()}, {cut(3, 0, 1, 2)}, some()[:4]} {
		good := fileOf(l...)
		for x := range 256 {
			wantScan(t, "a byte", slices.Concat(good, []byte{byte(x)}), l, len(good))
		}
		for _, count := range []int{1, 2, 10, 100, 1000} {
			for _, x := range []byte{0, 1, 3, 9, 127, 128, 255} {
				wantScan(t, "the same bytes", slices.Concat(good, bytes.Repeat([]byte{x}, count)), l, len(good))
			}
		}
		wantScan(t, "commits", slices.Concat(good, commitsOf(row(1, 1, 1, 1)...)), l, len(good))
		next := fileOf(cut(most, 3, 1, 2, 3))
		for n := range next {
			wantScan(t, "a part of a section", slices.Concat(good, next[:n]), l, len(good))
		}
	}
}

// P19.4 of Scan: each first part of sections has just those that lie in it whole.
func TestScanOfEveryFirstPart(t *testing.T) {
	for _, l := range [][]api.Section{some(), {example()}, {cut(7, 0, 1, 1, 2, 2, 2, 6), cut(8, 0, 1), cut(9, 2, 8, 8, 8)}} {
		file := fileOf(l...)
		for n := range len(file) + 1 {
			whole := 0
			for whole < len(l) && len(fileOf(l[:whole+1]...)) <= n {
				whole++
			}
			wantScan(t, "a first part", file[:n], l[:whole], len(fileOf(l[:whole]...)))
		}
	}
}

func TestScanOfEveryByteChanged(t *testing.T) {
	file := fileOf(example(), cut(4, 0, 1, 3), cut(6, 200, 5), cut(7, 1, 1))
	var lengths [5]int
	for at := range file {
		for x := range 256 {
			b := slices.Clone(file)
			b[at] = byte(x)
			lengths[wantScanAsTold(t, "a byte changed", b)]++
		}
	}
	if slices.Contains(lengths[:], 0) {
		t.Errorf("too few lengths: %v", lengths)
	}
}

// Any byte put in, or left out, and any two frames changed for each other.
func TestScanOfFramesMoved(t *testing.T) {
	l := []api.Section{example(), cut(4, 0, 1, 1, 3), cut(6, 1, 1, 2)}
	file := fileOf(l...)
	for at := range file {
		wantScanAsTold(t, "left out", slices.Delete(slices.Clone(file), at, at+1))
		for _, x := range []byte{0, 1, 3, 9, 128} {
			wantScanAsTold(t, "put in", slices.Insert(slices.Clone(file), at, x))
		}
	}
	frames := pieces(file)
	for i := range frames {
		for j := range frames {
			var b []byte
			for n, x := range frames {
				switch n {
				case i:
					x = frames[j]
				case j:
					x = frames[i]
				}
				b = append(b, framed(x.record)...)
			}
			wantScanAsTold(t, "changed for each other", b)
		}
		wantScanAsTold(t, "a frame left out", slices.Delete(slices.Clone(file), frames[i].end-len(framed(frames[i].record)), frames[i].end))
	}
}

// No list of at most 3 bytes has a section.
func TestScanOfShortLists(t *testing.T) {
	for x := range 1 << 24 {
		b := [3]byte{byte(x), byte(x >> 8), byte(x >> 16)}
		if l, good := orphan.Scan(b[:]); len(l) != 0 || good != 0 {
			t.Fatalf("Scan(%v) = %v, %d", b, l, good)
		}
		if x < 1<<16 {
			wantScan(t, "two bytes", b[:2], nil, 0)
		}
		if x < 1<<8 {
			wantScan(t, "a byte", b[:1], nil, 0)
		}
	}
}

// All headers of small numbers ahead of two commits, told in all small records.
func TestScanOfSmallHeaders(t *testing.T) {
	found := 0
	for size := range 5 {
		for x := range 1 << (3 * size) {
			header := []byte{}
			for i := range size {
				header = append(header, byte(x>>(3*i)&7))
			}
			found += wantScanAsTold(t, "a small header", slices.Concat(framed(header), commitsOf(small(1, 3), small(2, 4))))
		}
	}
	if found != 6+5 {
		t.Errorf("%d of them are headers", found)
	}
}

// Very many sections.
func TestScanOfManySections(t *testing.T) {
	var file []byte
	for epoch := 2; epoch <= most; epoch++ {
		file = append(file, fileOf(holds(epoch, epoch-1, small(epoch-1, epoch)))...)
	}
	l, good := orphan.Scan(file)
	if len(l) != most-1 || good != len(file) {
		t.Fatalf("%d, %d of %d", len(l), good, len(file))
	}
	for i, s := range l {
		if !alikeSections(s, holds(i+2, i+1, small(i+1, i+2))) {
			t.Fatalf("%d: %v", i, s)
		}
	}
	wantHas(t, "the first", file[:1000], 1, 2, true)
	wantHas(t, "the last", file, most-1, most, true)
	wantHas(t, "none", file, most, most, false)
}

func TestScanLeavesTheFileAlone(t *testing.T) {
	for _, tail := range []string{"", "\x05torn", "\x01x", "\x03\x7f\x01\x02"} {
		file := append(fileOf(some()[:3]...), tail...)
		room := append(slices.Clone(file), fileOf(some()[3:]...)...)
		keep := slices.Clone(room)
		wantScan(t, "with spare room", room[:len(file)], some()[:3], len(file)-len(tail))
		wantHas(t, "with spare room", room[:len(file)], 126, 130, false)
		if !bytes.Equal(room, keep) {
			t.Errorf("it, or its spare room, was written to: %s", short(room))
		}
	}
	// Without its last byte the last section is torn, though the byte stands in the spare room.
	file := fileOf(some()[:2]...)
	wantScan(t, "a section that ends in the spare room", file[:len(file)-1], some()[:1], 14)
}

func TestScanAnswersNewMemory(t *testing.T) {
	all := some()
	file := fileOf(all...)
	a, _ := orphan.Scan(file)
	b, _ := orphan.Scan(file)
	if !isBlank(a) || slices.ContainsFunc(a, func(s api.Section) bool {
		return !isBlank(s.Commits) || slices.ContainsFunc(s.Commits, func(c api.Commit) bool { return !isBlank(c.Ops) })
	}) {
		t.Error("spare room was handed out")
	}
	spoilBytes(file)
	if !alike(a, all) || !alike(b, all) {
		t.Error("the sections share memory with the file")
	}
	spoil(a)
	if !alike(b, all) {
		t.Error("two answers share memory")
	}
	for i := range b {
		spoilCommits(b[i].Commits)
		if !alike(b[i+1:], all[i+1:]) {
			t.Errorf("the sections behind %d share memory with it", i)
		}
	}
	c, _ := orphan.Scan(fileOf(all...))
	for i, s := range c {
		for j, x := range s.Commits {
			spoilOps(x.Ops)
			c[i].Commits[j].Ops = all[i].Commits[j].Ops
			if !alike(c, all) {
				t.Fatalf("the ops of %d in %d share memory with others", j, i)
			}
		}
	}
	// Behind the commits of one section stands no other one's.
	d, _ := orphan.Scan(fileOf(all...))
	for i := range d {
		_ = append(d[i].Commits, one(77, 77))
		for _, x := range d[i].Commits {
			_ = append(x.Ops, del("spoilt"))
		}
		if !alike(d, all) {
			t.Errorf("behind the commits of %d stand those of others", i)
		}
	}
	if e, _ := orphan.Scan(fileOf(all...)); !alike(e, all) {
		t.Error("an answer hangs on another one")
	}
}

// hasAsTold: of each epoch and number Has tells what the second telling does.
func hasAsTold(t *testing.T, what string, file []byte, epochs, numbers []int) {
	t.Helper()
	l, _ := told(file)
	keys := keysOf(l)
	for _, epoch := range epochs {
		for _, number := range numbers {
			wantHas(t, what, file, epoch, number, keys[key{epoch, number}] > 0)
		}
	}
}

func TestHas(t *testing.T) {
	all := []api.Section{cut(3, 1, 1, 1, 2), cut(6, 2, 4, 5), cut(9, 7, 7, 8, 8), cut(10, 0, 9)}
	file := fileOf(all...)
	for k := range keysOf(all) {
		wantHas(t, "it is there", file, k.epoch, k.number, true)
	}
	for what, k := range map[string]key{
		"in the first": {1, 2}, "the first one's last": {2, 4}, "in a middle one": {4, 3}, "a middle one's last": {5, 4}, "in the next one": {8, 9}, "its last": {8, 10}, "in the last": {9, 1},
	} {
		wantHas(t, what, file, k.epoch, k.number, true)
	}
	for what, k := range map[string]key{
		"a section's epoch": {3, 2}, "a fork": {1, 1}, "behind a section's last": {2, 5}, "an epoch of another number": {1, 4}, "a number of another epoch": {9, 2}, "in none": {6, 6},
	} {
		wantHas(t, what, file, k.epoch, k.number, false)
	}
	var span []int
	for x := range 13 {
		span = append(span, x-1)
	}
	hasAsTold(t, "all small ones", file, span, span)
	hasAsTold(t, "edges", file, edges(), edges())
	hasAsTold(t, "edges and small ones", file, edges(), span)
	hasAsTold(t, "small ones and edges", file, span, edges())
	for _, x := range edges() {
		wantHas(t, "nothing", nil, x, 1, false)
		wantHas(t, "nothing", []byte{}, 1, x, false)
		wantHas(t, "noise", []byte{1, 2, 3, 4}, x, x, false)
	}
	hasAsTold(t, "the greatest", fileOf(some()...), []int{1, 2, most - 2, most - 1, most}, []int{1, 2, most - 1, most})
}

// Two commits with one number, of two epochs, and one with the same epoch and number in two sections.
func TestHasOfCommitsThatAreNearlyAlike(t *testing.T) {
	file := fileOf(cut(3, 4, 1), cut(5, 4, 2), cut(6, 4, 2), cut(7, 5, 2))
	for number := 4; number < 8; number++ {
		for epoch := range 8 {
			wantHas(t, "alike", file, epoch, number, number == 5 && (epoch == 1 || epoch == 2) || number == 6 && epoch == 2)
		}
	}
}

// A commit counts as soon as its section is whole, and no sooner.
func TestHasOfEveryFirstPart(t *testing.T) {
	all := []api.Section{cut(3, 1, 1, 1, 2), cut(6, 2, 4, 5), cut(9, 7, 7, 8, 8)}
	file := fileOf(all...)
	for n := range len(file) + 1 {
		for i, s := range all {
			for _, c := range s.Commits {
				wantHas(t, "a first part", file[:n], c.Epoch, c.Number, n >= len(fileOf(all[:i+1]...)))
			}
		}
	}
}

// Behind the good length nothing counts, though a whole section may stand there.
func TestHasBehindTheGoodLength(t *testing.T) {
	good := fileOf(cut(3, 1, 1, 1), cut(6, 2, 4))
	for what, between := range map[string][]byte{
		"a torn one": {5}, "a byte of 0": {0}, "no section": framed([]byte("torn")), "a section of a lower epoch": fileOf(cut(5, 0, 2)), "one of the same epoch": fileOf(cut(6, 0, 2)),
	} {
		file := slices.Concat(good, between, fileOf(cut(9, 7, 8)))
		wantHas(t, what, file, 8, 8, false)
		wantHas(t, what, file, 2, 1, false)
		wantHas(t, what, file, 4, 3, true)
	}
	wantHas(t, "nothing between", slices.Concat(good, fileOf(cut(9, 7, 8))), 8, 8, true)
}

// turn is a row of numbers that look mixed, the same ones each time.
type turn uint64

func (r *turn) below(n int) int {
	*r = *r*6364136223846793005 + 1442695040888963407
	return int(uint64(*r) >> 33 % uint64(n))
}

// section answers one of that epoch, with a commit or more.
func (r *turn) section(epoch int) api.Section {
	s := holds(epoch, r.below(6))
	if r.below(8) == 0 {
		s.Fork += r.below(most - 20)
	}
	ahead := 1
	for range 1 + r.below(5) {
		ahead += r.below(epoch - ahead)
		c := one(ahead, s.Fork+1+len(s.Commits))
		switch r.below(6) {
		case 0:
			c.Ops = big(1, 1).Ops
		case 1:
			c.Ops = []api.Op{del("x"), del("xy")}
		}
		s.Commits = append(s.Commits, c)
	}
	return s
}

// change puts something of s wrong, perhaps.
func (r *turn) change(s *api.Section) {
	c := &s.Commits[r.below(len(s.Commits))]
	switch r.below(8) {
	case 0:
		s.Epoch = r.below(s.Epoch + 1)
	case 1:
		s.Fork = r.below(s.Fork + 2)
	case 2:
		s.Commits = s.Commits[r.below(len(s.Commits)+1):]
	case 3:
		c.Epoch = r.below(c.Epoch + 3)
	case 4:
		c.Number += r.below(3) - 1
	case 5:
		c.Ops = slices.Repeat(c.Ops, r.below(10))
	case 6:
		c.Ops = []api.Op{put(of(r.below(18)), of(r.below(34)))}
	case 7:
		c.Number, c.Epoch = c.Epoch, c.Number
	}
}

// file answers the bytes of sections, with some of them, or some bytes, changed or cut off.
func (r *turn) file() []byte {
	var b []byte
	epoch := 1
	for range r.below(7) {
		epoch += 1 + r.below(4)
		if r.below(20) == 0 {
			epoch = min(epoch+r.below(1000), most)
		}
		s := r.section(epoch)
		if r.below(12) == 0 {
			r.change(&s)
		}
		b = append(b, fileOf(s)...)
		if r.below(20) == 0 {
			b = append(b, framed(bytes.Repeat([]byte{1}, r.below(12)))...)
		}
		if r.below(20) == 0 {
			epoch = 2 + r.below(epoch)
		}
	}
	if len(b) > 0 && r.below(3) == 0 {
		b[r.below(len(b))] = byte(r.below(256))
	}
	if r.below(3) == 0 {
		b = b[:r.below(len(b)+1)]
	}
	return b
}

func TestMixedFiles(t *testing.T) {
	r := turn(19)
	var lengths [8]int
	for range 20000 {
		b := r.file()
		lengths[wantScanAsTold(t, "a mixed file", b)]++
		hasAsTold(t, "a mixed file", b, []int{1 + r.below(5), 1 + r.below(20)}, []int{1 + r.below(5), 1 + r.below(20)})
	}
	for n, count := range lengths[:7] {
		if count < 50 {
			t.Errorf("%d sections came %d times alone", n, count)
		}
	}
}

func TestMixedSections(t *testing.T) {
	r := turn(191)
	count := map[api.Errno]int{}
	for range 40000 {
		s := r.section(2 + r.below(9))
		if r.below(2) == 0 {
			r.change(&s)
			if len(s.Commits) > 0 && r.below(3) == 0 {
				r.change(&s)
			}
		}
		count[wantAsTold(t, "a mixed section", s)]++
	}
	for _, e := range []api.Errno{api.OK, api.ErrArg, api.ErrLong, api.ErrOrder} {
		if count[e] < 300 {
			t.Errorf("%d came %d times alone", e, count[e])
		}
	}
}

// P19.3

// refusedSections lists sections that may not be, one for each error and more.
func refusedSections() map[api.Errno][]api.Section {
	return map[api.Errno][]api.Section{
		api.ErrArg:   {{}, holds(2, 1), holds(0, 1, one(1, 2)), holds(most+1, 1, one(1, 2)), holds(2, -1, one(1, 0)), holds(2, 1, with(1, 2)), holds(2, 1, one(0, 2)), holds(2, most, one(1, most+1))},
		api.ErrLong:  {holds(2, 1, with(1, 2, nine()...)), holds(3, 1, one(1, 2), with(2, 3, nine()...))},
		api.ErrOrder: {holds(1, 1, one(1, 2)), holds(2, 2, one(1, 2)), holds(2, 0, one(1, 2)), holds(9, 1, one(2, 2), one(1, 3)), holds(2, 1, one(1, 2), one(2, 3)), holds(2, most, one(1, 1))},
	}
}

func TestWriteToNoDisk(t *testing.T) {
	for _, d := range []*disk.Disk{nil, new(disk.Disk), {}} {
		for _, base := range edges() {
			want(t, "a section", orphan.Write(d, base, example()), api.ErrNil)
			for e, l := range refusedSections() {
				for _, s := range l {
					want(t, fmt.Sprintf("a section that is refused with %d", e), orphan.Write(d, base, s), api.ErrNil)
				}
			}
		}
	}
}

// offDisks lists disks that are off, pulled and burnt down, with something and with nothing pending.
func offDisks(t *testing.T) map[string]*disk.Disk {
	t.Helper()
	l := map[string]*disk.Disk{}
	for _, file := range [][]byte{nil, fileOf(example()), append(fileOf(example()), 5, 5)} {
		d := holding(t, file)
		must(t, "Pull", d.Pull())
		l[fmt.Sprintf("%d bytes, pulled", len(file))] = d
		d = holding(t, file)
		must(t, "Write", d.Write(place, []byte{1, 2, 3}))
		must(t, "Cut", d.Cut(0, 1))
		must(t, "Fuse", d.Fuse(0))
		want(t, "Sync", d.Sync(), api.ErrOff)
		l[fmt.Sprintf("%d bytes, burnt down", len(file))] = d
	}
	return l
}

func TestWriteToADiskThatIsOff(t *testing.T) {
	for name, d := range offDisks(t) {
		ahead := lookAt(d)
		for _, base := range append(edges(), 14, 15, 16, 17, 18) {
			want(t, name, orphan.Write(d, base, example()), api.ErrOff)
			for _, l := range refusedSections() {
				for _, s := range l {
					want(t, name+", a section that may not be", orphan.Write(d, base, s), api.ErrOff)
				}
			}
		}
		wantLook(t, name, d, ahead)
		// Started again it takes what it is given: it was not kept from that.
		must(t, "Start", d.Start(0, 0))
		held := len(d.Durable(place))
		want(t, name+", started again", orphan.Write(d, held, cut(9, 3, 1)), api.OK)
	}
}

// heldFiles lists what file 3 may hold ahead of a Write: sections, torn ends, noise.
func heldFiles() [][]byte {
	return [][]byte{nil, {7}, fileOf(example()), append(fileOf(example()), 3, 3, 1), fileOf(some()[:3]...), bytes.Repeat([]byte{255}, 200)}
}

func TestWriteOfASectionThatMayNotBe(t *testing.T) {
	for _, file := range heldFiles() {
		d := holding(t, file)
		// A fuse of 0 tells, too: nothing is done to the disk, so it stays on.
		must(t, "Fuse", d.Fuse(0))
		ahead := lookAt(d)
		for e, l := range refusedSections() {
			for _, s := range l {
				for _, base := range append(edges(), len(file)-1, len(file), len(file)+1) {
					want(t, fmt.Sprintf("%d bytes, base %d, %s", len(file), base, short(s)), orphan.Write(d, base, s), e)
				}
			}
		}
		wantLook(t, "refused", d, ahead)
	}
}

func TestWriteAtABaseThatMayNotBe(t *testing.T) {
	for _, file := range heldFiles() {
		d := holding(t, file)
		must(t, "Fuse", d.Fuse(0))
		ahead := lookAt(d)
		for _, base := range []int{math.MinInt, math.MinInt + 1, -1 << 32, -len(file), -2, -1, len(file) + 1, len(file) + 2, len(file) + 64, most, 1 << 32, math.MaxInt - 1, math.MaxInt} {
			if base >= 0 && base <= len(file) {
				continue
			}
			for _, s := range some() {
				want(t, fmt.Sprintf("%d bytes, base %d", len(file), base), orphan.Write(d, base, s), api.ErrArg)
			}
		}
		wantLook(t, "refused", d, ahead)
	}
}

func TestWriteAtEachBase(t *testing.T) {
	for _, file := range heldFiles() {
		for base := range len(file) + 1 {
			for _, s := range []api.Section{example(), cut(9, 3, 1, 2, 3, 8)} {
				d := holding(t, file)
				right := lookAt(d)
				want(t, fmt.Sprintf("%d bytes, base %d", len(file), base), orphan.Write(d, base, s), api.OK)
				now := string(slices.Concat(file[:base], fileOf(s)))
				right.held[place], right.durable[place] = now, now
				// A cut, if there is something behind the base; raw writes; a sync.
				right.steps += stepsOf(len(file), base, s)
				wantLook(t, fmt.Sprintf("%d bytes, base %d", len(file), base), d, right)
			}
		}
	}
}

// The section's bytes take raw writes of 64, however many that are.
func TestWriteOfLongSections(t *testing.T) {
	for count := 1; count < 60; count++ {
		s := long(3, 5, count)
		for _, file := range [][]byte{nil, fileOf(example()), append(fileOf(example()), 1)} {
			d := holding(t, file)
			right := lookAt(d)
			must(t, "Write", orphan.Write(d, min(len(file), 14), s))
			now := string(slices.Concat(file[:min(len(file), 14)], fileOf(s)))
			right.held[place], right.durable[place] = now, now
			right.steps += stepsOf(len(file), min(len(file), 14), s)
			wantLook(t, "long", d, right)
		}
	}
	s := long(most, 0, 20000)
	d := disk.New()
	must(t, "Write", orphan.Write(d, 0, s))
	if !bytes.Equal(d.Durable(place), fileOf(s)) || d.Steps() != stepsOf(0, 0, s) {
		t.Errorf("%d steps, not %d", d.Steps(), stepsOf(0, 0, s))
	}
}

// What the file holds counts, durable or pending; and the sync makes all that is pending durable, in the other files, too.
func TestWriteBehindWhatIsPending(t *testing.T) {
	for _, base := range []int{0, 5, 13, 14, 15, 17} {
		d := holding(t, fileOf(example()))
		must(t, "Write", d.Write(place, []byte{3, 3, 1}))
		must(t, "Write", d.Write(0, []byte("pending")))
		must(t, "Cut", d.Cut(1, 2))
		right := lookAt(d)
		want(t, "above what it holds", orphan.Write(d, 18, cut(9, 3, 1)), api.ErrArg)
		wantLook(t, "refused", d, right)
		want(t, "Write", orphan.Write(d, base, cut(9, 3, 1)), api.OK)
		right.held[place] = string(slices.Concat(append(fileOf(example()), 3, 3, 1)[:base], fileOf(cut(9, 3, 1))))
		right.durable = right.held
		right.pending = 0
		right.steps += stepsOf(17, base, cut(9, 3, 1))
		wantLook(t, "Write", d, right)
	}
	// What is cut off, though not durably, is held no more.
	d := holding(t, fileOf(some()[:3]...))
	must(t, "Cut", d.Cut(place, 14))
	want(t, "above what it holds", orphan.Write(d, 15, cut(9, 3, 1)), api.ErrArg)
	steps := d.Steps()
	want(t, "at what it holds", orphan.Write(d, 14, cut(9, 3, 1)), api.OK)
	if d.Steps() != steps+2 || !bytes.Equal(d.Durable(place), fileOf(example(), cut(9, 3, 1))) {
		t.Errorf("%d steps; %v", d.Steps()-steps, d.Durable(place))
	}
}

// Write looks at no section of the file: whether an Epoch rises is asked elsewhere.
func TestWriteLooksAtNoOtherSection(t *testing.T) {
	for _, s := range []api.Section{cut(9, 3, 1), cut(8, 3, 1), cut(2, 3, 1)} {
		d := holding(t, fileOf(cut(9, 3, 1)))
		held := len(d.Durable(place))
		want(t, "an Epoch that does not rise", orphan.Write(d, held, s), api.OK)
		if !bytes.Equal(d.Durable(place), fileOf(cut(9, 3, 1), s)) {
			t.Errorf("%v", d.Durable(place))
		}
	}
}

// started is the second telling of what file 3 holds behind a Write that was cut off with fuse raw steps done, and a Start with k and torn.
func started(file []byte, base int, s api.Section, fuse, k, torn int) []byte {
	held := slices.Clone(file)
	rest := fileOf(s)
	left := fuse
	if len(file) > base {
		if min(left, k) > 0 {
			held = held[:base]
		}
		left--
		k--
	}
	for ; left > 0 && k >= 0; left-- {
		n := min(raw, len(rest))
		if k == 0 {
			// The next one is torn: at most one byte less than it has stands.
			return append(held, rest[:min(torn, n-1)]...)
		}
		held = append(held, rest[:n]...)
		rest = rest[n:]
		k--
	}
	return held
}

// cases lists files, bases and sections for which a Write is cut off.
func cases() []struct {
	file []byte
	base int
	s    api.Section
} {
	return []struct {
		file []byte
		base int
		s    api.Section
	}{
		{nil, 0, example()},
		{nil, 0, cut(9, 3, 1, 2, 3, 8)},
		{fileOf(example()), 14, cut(9, 3, 1, 2, 3, 8)},
		{fileOf(example()), 0, cut(9, 3, 1, 2)},
		{append(fileOf(example()), 3, 3, 1, 1), 14, cut(3, 1, 1)},
		{append(fileOf(example()), fileOf(cut(9, 3, 1, 2, 3, 8))[:100]...), 14, cut(9, 3, 1, 2, 3, 8)},
		{fileOf(example(), cut(9, 3, 1, 2, 3, 8)), 14, cut(9, 3, 1, 2, 3, 8)},
		{bytes.Repeat([]byte{255}, 150), 149, long(3, 5, 16)},
		{bytes.Repeat([]byte{255}, 150), 1, long(3, 5, 32)},
	}
}

// A fuse of each number of steps: ErrOff, and just these steps done; with all of them OK.
func TestWriteToADiskThatGoesOff(t *testing.T) {
	for i, x := range cases() {
		steps := stepsOf(len(x.file), x.base, x.s)
		for fuse := range steps {
			d := holding(t, x.file)
			ahead := lookAt(d)
			must(t, "Fuse", d.Fuse(fuse))
			want(t, fmt.Sprintf("case %d, fuse %d", i, fuse), orphan.Write(d, x.base, x.s), api.ErrOff)
			// The steps that were done are pending; the sync, which is the last one, was never done.
			right := ahead
			right.on, right.held, right.pending, right.steps = false, [files]string{}, fuse, ahead.steps+fuse
			wantLook(t, fmt.Sprintf("case %d, fuse %d", i, fuse), d, right)
			want(t, "once more", orphan.Write(d, x.base, x.s), api.ErrOff)
			wantLook(t, "once more", d, right)
		}
		for _, more := range []int{0, 1} {
			d := holding(t, x.file)
			must(t, "Fuse", d.Fuse(steps+more))
			want(t, fmt.Sprintf("case %d, a fuse that is long enough", i), orphan.Write(d, x.base, x.s), api.OK)
			if !d.On() || d.Pending() != 0 || !bytes.Equal(d.Durable(place), slices.Concat(x.file[:x.base], fileOf(x.s))) {
				t.Errorf("case %d: on %v, pending %d, %s", i, d.On(), d.Pending(), short(d.Durable(place)))
			}
			if e := d.Sync(); e != [2]api.Errno{api.ErrOff, api.OK}[more] {
				t.Errorf("case %d: the fuse was %d steps more than it does, and then Sync answers %d", i, more, e)
			}
		}
	}
}

// Behind a Write that was cut off, wherever that was and whatever the disk kept, the same Write leaves the same file (P19.4).
func TestWriteAgain(t *testing.T) {
	for i, x := range cases() {
		whole := slices.Concat(x.file[:x.base], fileOf(x.s))
		for fuse := range stepsOf(len(x.file), x.base, x.s) {
			for k := range fuse + 2 {
				for _, torn := range []int{0, 1, 2, 9, 31, 62, 63, 64, 1000} {
					what := fmt.Sprintf("case %d, fuse %d, Start(%d, %d)", i, fuse, k, torn)
					d := holding(t, x.file)
					others := lookAt(d)
					must(t, "Fuse", d.Fuse(fuse))
					want(t, what, orphan.Write(d, x.base, x.s), api.ErrOff)
					must(t, "Start", d.Start(k, torn))
					if held := started(x.file, x.base, x.s, fuse, k, torn); !bytes.Equal(d.Durable(place), held) {
						t.Errorf("%s: file 3 has %s; want %s", what, short(d.Durable(place)), short(held))
					}
					want(t, what+", again", orphan.Write(d, x.base, x.s), api.OK)
					right := lookAt(d)
					right.held, right.durable = others.held, others.durable
					right.held[place], right.durable[place] = string(whole), string(whole)
					right.pending, right.on = 0, true
					wantLook(t, what+", again", d, right)
				}
			}
		}
	}
}

// Cut off again and again, each time at a step of its own, till once it is not.
func TestWriteAgainAndAgain(t *testing.T) {
	r := turn(194)
	for range 3000 {
		x := cases()[r.below(len(cases()))]
		d := holding(t, x.file)
		for range r.below(8) {
			must(t, "Fuse", d.Fuse(r.below(12)))
			if e := orphan.Write(d, x.base, x.s); e != api.ErrOff {
				must(t, "Write", e)
				must(t, "Pull", d.Pull())
			}
			must(t, "Start", d.Start(r.below(12), r.below(70)))
		}
		must(t, "Write", orphan.Write(d, x.base, x.s))
		if !bytes.Equal(d.Durable(place), slices.Concat(x.file[:x.base], fileOf(x.s))) {
			t.Fatalf("%s", short(d.Durable(place)))
		}
	}
}

// P19.4

// Sections that are written one behind the other are there again, all their length good; one that is written at the base of an earlier one stands in the place of that and of all behind it.
func TestSectionsWrittenOneBehindTheOther(t *testing.T) {
	all := some()
	d := disk.New()
	for i, s := range all {
		base := len(d.Durable(place))
		must(t, "Write", orphan.Write(d, base, s))
		wantScan(t, "written", d.Durable(place), all[:i+1], len(fileOf(all[:i+1]...)))
		must(t, "Write again", orphan.Write(d, base, s))
		wantScan(t, "written again", d.Durable(place), all[:i+1], len(fileOf(all[:i+1]...)))
	}
	for i, s := range all {
		base := len(fileOf(all[:i]...))
		again := disk.New()
		must(t, "Write", again.Write(place, d.Durable(place)))
		must(t, "Write in the place of some", orphan.Write(again, base, s))
		wantScan(t, "in the place of some", again.Durable(place), all[:i+1], len(fileOf(all[:i+1]...)))
	}
}

// Encode, one behind the other, is what Scan gives back.
func TestThereAndBack(t *testing.T) {
	r := turn(190)
	for range 3000 {
		var l []api.Section
		var file []byte
		epoch := 1
		for range r.below(6) {
			epoch += 1 + r.below(300)
			s := r.section(epoch)
			b, e := orphan.Encode(s)
			must(t, "Encode", e)
			l, file = append(l, s), append(file, b...)
		}
		wantScan(t, "there and back", file, l, len(file))
		n := r.below(len(file) + 1)
		wantScanAsTold(t, "a first part", file[:n])
		// And back again: what Scan tells has just these bytes.
		got, good := orphan.Scan(file[:n])
		var again []byte
		for _, s := range got {
			b, e := orphan.Encode(s)
			must(t, "Encode of what Scan told", e)
			again = append(again, b...)
		}
		if !bytes.Equal(again, file[:good]) {
			t.Fatalf("%s is told as %s", short(file[:good]), short(again))
		}
	}
}

// What was cut off while it was written ahead of others is cut off when the next one is written at the good length.
func TestMixedWrites(t *testing.T) {
	r := turn(193)
	cuts := 0
	for range 300 {
		d := disk.New()
		var l []api.Section
		for epoch := 2; epoch < 14; epoch++ {
			file, _ := d.Read(place)
			got, good := orphan.Scan(file)
			if !alike(got, l) || good != len(fileOf(l...)) {
				t.Fatalf("%s, %d; want %s", short(got), good, short(l))
			}
			s := r.section(epoch)
			if r.below(2) == 0 {
				must(t, "Fuse", d.Fuse(r.below(14)))
			}
			e := orphan.Write(d, good, s)
			if e == api.ErrOff {
				cuts++
				must(t, "Start", d.Start(r.below(14), r.below(70)))
				// It stands, though it was not answered, if all its raw writes do.
				if b := d.Durable(place); bytes.Equal(b, slices.Concat(fileOf(l...), fileOf(s))) {
					l = append(l, s)
				}
				continue
			}
			must(t, "Write", e)
			must(t, "Safe", d.Safe())
			l = append(l, s)
		}
	}
	if cuts < 500 {
		t.Errorf("%d were cut off alone", cuts)
	}
}

// What was handed to Write is not kept: what is done to it later is seen nowhere.
func TestWriteKeepsNothingOfTheCallers(t *testing.T) {
	d := disk.New()
	s := roomy(cut(9, 3, 1, 2, 3, 8))
	must(t, "Fuse", d.Fuse(3))
	want(t, "Write", orphan.Write(d, 0, s), api.ErrOff)
	spoilCommits(s.Commits)
	must(t, "Start", d.Start(9, 0))
	if right := fileOf(cut(9, 3, 1, 2, 3, 8))[:3*raw]; !bytes.Equal(d.Durable(place), right) {
		t.Errorf("%v; want %v", d.Durable(place), right)
	}
	s = roomy(cut(9, 3, 1, 2, 3, 8))
	must(t, "Write", orphan.Write(d, 0, s))
	spoilCommits(s.Commits)
	wantScan(t, "overwritten", d.Durable(place), []api.Section{cut(9, 3, 1, 2, 3, 8)}, len(fileOf(cut(9, 3, 1, 2, 3, 8))))
}

func TestDisksAreApart(t *testing.T) {
	a, b := holding(t, fileOf(example())), holding(t, nil)
	must(t, "Pull", a.Pull())
	off := lookAt(a)
	want(t, "the one that is off", orphan.Write(a, 14, cut(9, 3, 1)), api.ErrOff)
	want(t, "the other", orphan.Write(b, 0, cut(9, 3, 1)), api.OK)
	wantLook(t, "the one that is off", a, off)
	wantScan(t, "the other", b.Durable(place), []api.Section{cut(9, 3, 1)}, len(fileOf(cut(9, 3, 1))))
}

// FuzzScan holds Scan and Has against the second telling, and lets what Scan told be written behind any bytes.
func FuzzScan(f *testing.F) {
	f.Add([]byte{}, 0, 0)
	f.Add(fileOf(some()[:4]...), 1, 2)
	f.Add(append(fileOf(example()), 3, 3, 1, 1), 1, 2)
	f.Add(fileOf(example(), example()), 2, 2)
	f.Add(fileOf(cut(3, 0, 1, 2), cut(2, 0, 1)), 1, 1)
	f.Add(fileOf(holds(0, 1, one(1, 2))), 1, 2)
	f.Add(fileOf(holds(9, 1, one(9, 2))), 9, 2)
	f.Fuzz(func(t *testing.T, file []byte, epoch, number int) {
		l, good := told(file)
		wantScan(t, "any bytes", file, l, good)
		hasAsTold(t, "any bytes", file, []int{epoch, epoch & 7, 1}, []int{number, number & 7, 2})
		d := holding(t, file)
		want(t, "Write above what it holds", orphan.Write(d, len(file)+1, example()), api.ErrArg)
		if len(l) > 0 {
			last := l[len(l)-1]
			want(t, "Write", orphan.Write(d, good-len(fileOf(last)), last), api.OK)
			wantScan(t, "written", d.Durable(place), l, good)
		}
	})
}

// FuzzCheck holds Check and Encode against the second telling.
func FuzzCheck(f *testing.F) {
	f.Add(2, 1, 1, 2, 1, 3, 1, "a", "1")
	f.Add(1, 1, 1, 2, 1, 3, 1, "a", "1")
	f.Add(2, 2, 1, 2, 1, 3, 9, "a", "1")
	f.Add(most, most-2, 1, most-1, most-1, most, 8, of(16), of(32))
	f.Add(math.MaxInt, math.MinInt, math.MaxInt, math.MinInt, 0, 0, 0, "", "")
	f.Fuzz(func(t *testing.T, epoch, fork, a, m, b, n, count int, k, value string) {
		ops := slices.Repeat([]api.Op{put(k, value)}, count&15)
		wantAsTold(t, "any", holds(epoch, fork))
		wantAsTold(t, "any", holds(epoch, fork, with(a, m, ops...)))
		wantAsTold(t, "any", holds(epoch, fork, with(a, m, ops...), one(b, n)))
		// Most numbers are far out of their bounds: these are near them.
		fork &= 7
		wantAsTold(t, "near", holds(epoch&7, fork, with(a&3, fork+1, ops...), one(b&7, fork+2)))
		wantAsTold(t, "near", holds(epoch&7, fork, one(a&3, fork+m&3), with(b&7, fork+2, ops...)))
	})
}
