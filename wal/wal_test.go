package wal_test

import (
	"bytes"
	"encoding/binary"
	"fmt"
	"math"
	"slices"
	"strings"
	"testing"

	"lagleash/api"
	"lagleash/disk"
	"lagleash/wal"
)

const (
	most  = 1048576 // the greatest epoch and number, as the document writes it
	files = 4       // of a disk
	raw   = 64      // bytes of a raw write, at most
)

func put(key, value string) api.Op { return api.Op{Put: true, Key: key, Value: value} }
func del(key string) api.Op        { return api.Op{Key: key} }

func of(count int) string { return strings.Repeat("k", count) }

func with(epoch, number int, ops ...api.Op) api.Commit {
	return api.Commit{Epoch: epoch, Number: number, Ops: ops}
}

// one is a commit of put a 1: its frame has 10 bytes, as long as its epoch and its number are small.
func one(epoch, number int) api.Commit { return with(epoch, number, put("a", "1")) }

// big is a commit of the greatest batch there is: its frame takes several raw writes.
func big(epoch, number int) api.Commit {
	var l []api.Op
	for at := range 8 {
		l = append(l, put(string(rune('a'+at))+of(15), of(32)))
	}
	return with(epoch, number, l...)
}

// logOf lists commits of the epochs, numbered from 1 on, of several sizes.
func logOf(epochs ...int) []api.Commit {
	var l []api.Commit
	for at, epoch := range epochs {
		switch at % 4 {
		case 0:
			l = append(l, one(epoch, at+1))
		case 1:
			l = append(l, with(epoch, at+1, put("ab", ""), del("abc"), put("ab", of(32))))
		case 2:
			l = append(l, big(epoch, at+1))
		default:
			l = append(l, with(epoch, at+1, del("\x00\xff")))
		}
	}
	return l
}

// A second telling of what a file's bytes are, without the calls of the program.

func sharedLength(a, b string) int {
	n := 0
	for n < len(a) && n < len(b) && a[n] == b[n] {
		n++
	}
	return n
}

// recordOf answers a commit's bytes.
func recordOf(c api.Commit) []byte {
	b := binary.AppendUvarint(nil, uint64(c.Epoch))
	b = binary.AppendUvarint(b, uint64(c.Number))
	b = binary.AppendUvarint(b, uint64(len(c.Ops)))
	ahead := ""
	for _, o := range c.Ops {
		kind := byte(0)
		if o.Put {
			kind = 1
		}
		n := sharedLength(ahead, o.Key)
		b = append(b, kind, byte(n), byte(len(o.Key)-n))
		b = append(b, o.Key[n:]...)
		if o.Put {
			b = append(b, byte(len(o.Value)))
			b = append(b, o.Value...)
		}
		ahead = o.Key
	}
	return b
}

func framed(record []byte) []byte {
	return append(binary.AppendUvarint(nil, uint64(len(record))), record...)
}

// fileOf answers the frames of commits, one behind the other.
func fileOf(l ...api.Commit) []byte {
	var b []byte
	for _, c := range l {
		b = append(b, framed(recordOf(c))...)
	}
	return b
}

// endOf answers where the commit n ends.
func endOf(l []api.Commit, n int) int { return len(fileOf(l[:n]...)) }

// reader cuts numbers and texts off bytes; once there are too few of them, it is bad.
type reader struct {
	b   []byte
	bad bool
}

func (r *reader) number() int {
	x, n := binary.Uvarint(r.b)
	if n <= 0 || x > most {
		*r = reader{bad: true}
		return 0
	}
	r.b = r.b[n:]
	return int(x)
}

func (r *reader) text(count int) string {
	if count > len(r.b) {
		*r = reader{bad: true}
		return ""
	}
	s := string(r.b[:count])
	r.b = r.b[count:]
	return s
}

// loosely reads a commit of bytes that may be told in other ways, too.
func loosely(record []byte) (api.Commit, bool) {
	r := reader{b: record}
	c := with(r.number(), r.number())
	count := r.number()
	if count < 1 || count > 8 {
		return c, false
	}
	ahead := ""
	for range count {
		var o api.Op
		o.Put = r.number() == 1
		n := min(r.number(), len(ahead))
		o.Key = ahead[:n] + r.text(r.number())
		if o.Put {
			o.Value = r.text(r.number())
		}
		if len(o.Key) < 1 || len(o.Key) > 16 || len(o.Value) > 32 {
			return c, false
		}
		c.Ops = append(c.Ops, o)
		ahead = o.Key
	}
	return c, !r.bad && c.Epoch > 0 && c.Number > 0
}

// told is the second telling of Scan.
func told(file []byte) ([]api.Commit, int) {
	var l []api.Commit
	epoch, good := 0, 0
	for {
		size, n := binary.Uvarint(file[good:])
		if n <= 0 || size > 131072 || int(size) > len(file)-good-n {
			return l, good
		}
		record := file[good+n : good+n+int(size)]
		c, ok := loosely(record)
		if !ok || !bytes.Equal(framed(recordOf(c)), file[good:good+n+int(size)]) || c.Number != len(l)+1 || c.Epoch < epoch {
			return l, good
		}
		l = append(l, c)
		epoch = c.Epoch
		good += n + int(size)
	}
}

// startsOf is the second telling of where epochs begin.
func startsOf(l []api.Commit) []api.Start {
	var s []api.Start
	epoch := 0
	for _, c := range l {
		if c.Epoch > epoch {
			s = append(s, api.Start{Epoch: c.Epoch, First: c.Number})
		}
		epoch = c.Epoch
	}
	return s
}

// What is compared, and how.

func alikeCommits(a, b api.Commit) bool {
	return a.Epoch == b.Epoch && a.Number == b.Number && slices.Equal(a.Ops, b.Ops)
}

func alike(a, b []api.Commit) bool { return slices.EqualFunc(a, b, alikeCommits) }

func want(t *testing.T, what string, got, e api.Errno) {
	t.Helper()
	if got != e {
		t.Errorf("%s: %d, not %d", what, got, e)
	}
}

// must stops a test whose ground is gone.
func must(t *testing.T, what string, got api.Errno) {
	t.Helper()
	if got != api.OK {
		t.Fatalf("%s: %d", what, got)
	}
}

func wantScan(t *testing.T, what string, file []byte, l []api.Commit, good int) {
	t.Helper()
	got, n := wal.Scan(file)
	if !alike(got, l) || n != good {
		t.Errorf("%s: Scan(%v) = %v, %d; want %v, %d", what, file, got, n, l, good)
	}
}

// wantKnown: the wal tells the log l, and nothing else.
func wantKnown(t *testing.T, what string, w *wal.Wal, l []api.Commit) {
	t.Helper()
	epoch := 0
	if len(l) > 0 {
		epoch = l[len(l)-1].Epoch
	}
	if w.End() != len(l) || w.Epoch() != epoch || w.Length() != len(fileOf(l...)) {
		t.Errorf("%s: End %d, Epoch %d, Length %d; want %d, %d, %d", what, w.End(), w.Epoch(), w.Length(), len(l), epoch, len(fileOf(l...)))
	}
	if got := w.From(1, math.MaxInt); !alike(got, l) {
		t.Errorf("%s: From(1, all) = %v; want %v", what, got, l)
	}
	if got := w.Starts(); !slices.Equal(got, startsOf(l)) {
		t.Errorf("%s: Starts = %v; want %v", what, got, startsOf(l))
	}
}

func wantHeld(t *testing.T, what string, d *disk.Disk, held []byte) {
	t.Helper()
	b, e := d.Read(0)
	if e != api.OK || !bytes.Equal(b, held) {
		t.Errorf("%s: file 0 holds %v, %d; want %v", what, b, e, held)
	}
}

func wantDurable(t *testing.T, what string, d *disk.Disk, durable []byte) {
	t.Helper()
	if b := d.Durable(0); !bytes.Equal(b, durable) {
		t.Errorf("%s: durable in file 0 is %v; want %v", what, b, durable)
	}
}

// look is what the calls that change nothing tell of a disk.
type look struct {
	on      bool
	pending int
	steps   int
	held    [files]string
	durable [files]string
}

func lookAt(d *disk.Disk) look {
	l := look{on: d.On(), pending: d.Pending(), steps: d.Steps()}
	for file := range files {
		b, _ := d.Read(file)
		l.held[file] = string(b)
		l.durable[file] = string(d.Durable(file))
	}
	return l
}

func wantLook(t *testing.T, what string, d *disk.Disk, ahead look) {
	t.Helper()
	if now := lookAt(d); now != ahead {
		t.Errorf("%s: the disk was\n%+v and is\n%+v", what, ahead, now)
	}
}

func mustOpen(t *testing.T, d *disk.Disk) *wal.Wal {
	t.Helper()
	w, e := wal.Open(d)
	if e != api.OK || w == nil {
		t.Fatalf("Open: %v, %d", w, e)
	}
	return w
}

// wantNone: Open answers e and no wal.
func wantNone(t *testing.T, what string, d *disk.Disk, e api.Errno) {
	t.Helper()
	if w, got := wal.Open(d); got != e || w != nil {
		t.Errorf("%s: Open = %v, %d; want none, %d", what, w, got, e)
	}
}

// holding answers a disk whose file 0 has these bytes, durably, and whose other files have some, too.
func holding(t *testing.T, file []byte) *disk.Disk {
	t.Helper()
	d := disk.New()
	must(t, "Write", d.Write(0, file))
	for other := 1; other < files; other++ {
		must(t, "Write", d.Write(other, []byte{byte(other), 7, 7}))
	}
	must(t, "Sync", d.Sync())
	return d
}

// fresh answers a new disk, and a wal over it to which l was appended.
func fresh(t *testing.T, l []api.Commit) (*disk.Disk, *wal.Wal) {
	t.Helper()
	d := disk.New()
	w := mustOpen(t, d)
	for _, c := range l {
		must(t, "Append", w.Append(c))
	}
	return d, w
}

// synced is a fresh one whose commits are durable.
func synced(t *testing.T, l []api.Commit) (*disk.Disk, *wal.Wal) {
	t.Helper()
	d, w := fresh(t, l)
	must(t, "Sync", w.Sync())
	return d, w
}

// rawWrites answers how many raw writes count bytes are.
func rawWrites(count int) int { return (count + raw - 1) / raw }

// wantBroken: the wal refuses all, whatever it is asked, and what it knows it tells still; the disk is left alone.
func wantBroken(t *testing.T, what string, d *disk.Disk, w *wal.Wal, l []api.Commit) {
	t.Helper()
	ahead := lookAt(d)
	for range 2 {
		want(t, what+": Append", w.Append(one(most, len(l)+1)), api.ErrOff)
		want(t, what+": Append of what may not be", w.Append(with(0, 0)), api.ErrOff)
		want(t, what+": Append of what does not follow", w.Append(one(most, len(l)+7)), api.ErrOff)
		want(t, what+": Sync", w.Sync(), api.ErrOff)
		for _, to := range []int{-1, 0, len(l), len(l) + 1} {
			want(t, what+": Cut", w.Cut(to), api.ErrOff)
		}
		wantKnown(t, what, w, l)
	}
	wantLook(t, what, d, ahead)
}

// The chapter's examples, one behind the other at one disk.
func TestExamples(t *testing.T) {
	d := disk.New()
	w := mustOpen(t, d)
	if w.End() != 0 || w.Epoch() != 0 || w.Length() != 0 {
		t.Errorf("a new disk: %d, %d, %d", w.End(), w.Epoch(), w.Length())
	}
	want(t, "Append of {1 1 put a 1}", w.Append(one(1, 1)), api.OK)
	want(t, "Append of {1 3 ..}", w.Append(one(1, 3)), api.ErrOrder)
	want(t, "Append of {1 2 put a 1}", w.Append(one(1, 2)), api.OK)
	if w.Length() != 20 {
		t.Errorf("Length: %d", w.Length())
	}
	must(t, "Pull", d.Pull())
	must(t, "Start(1, 4)", d.Start(1, 4))
	w = mustOpen(t, d)
	if w.End() != 1 || w.Length() != 10 {
		t.Errorf("opened again: %d, %d", w.End(), w.Length())
	}
	want(t, "Cut(2)", w.Cut(2), api.ErrArg)
	want(t, "Cut(0)", w.Cut(0), api.OK)
	if w.Epoch() != 0 {
		t.Errorf("Epoch: %d", w.Epoch())
	}
	if l, n := wal.Scan([]byte{9, 1, 2, 1, 1, 0, 1, 97, 1, 49}); len(l) != 0 || n != 0 {
		t.Errorf("Scan of the number 2: %v, %d", l, n)
	}
}

// P12.1

// someLogs lists logs of several lengths and epochs.
func someLogs() [][]api.Commit {
	return [][]api.Commit{
		nil, logOf(1), logOf(7), logOf(most), logOf(1, 1), logOf(1, 2), logOf(1, most), logOf(1, 1, 1), logOf(1, 1, 3), logOf(2, 5, 5), logOf(1, 2, 3),
		logOf(1, 1, 2, 2, 2, 9), logOf(127, 128, 128, 16383, 16384, most-1, most, most), logOf(slices.Repeat([]int{4}, 200)...),
	}
}

func TestScanOfLogs(t *testing.T) {
	for _, l := range someLogs() {
		wantScan(t, "a log", fileOf(l...), l, len(fileOf(l...)))
	}
	wantScan(t, "nil", nil, nil, 0)
	wantScan(t, "no bytes", []byte{}, nil, 0)
	wantScan(t, "one commit", []byte{9, 1, 1, 1, 1, 0, 1, 97, 1, 49}, logOf(1), 10)
	wantScan(t, "two of them", []byte{9, 1, 1, 1, 1, 0, 1, 97, 1, 49, 9, 1, 2, 1, 1, 0, 1, 97, 1, 49}, []api.Commit{one(1, 1), one(1, 2)}, 20)
}

// noCommits lists records that are no commit, though one of the number next might stand there.
func noCommits(epoch, next int) [][]byte {
	c := recordOf(one(epoch, next))
	none := with(epoch, next)
	nine := with(epoch, next, slices.Repeat([]api.Op{del("k")}, 9)...)
	l := [][]byte{
		{}, {0}, {7}, {1, 2}, append(slices.Clone(c), 0), append(slices.Clone(c), c...), c[:len(c)-1], c[1:],
		recordOf(one(0, next)), recordOf(one(most+1, next)), recordOf(none), recordOf(nine),
		recordOf(with(epoch, next, put("", "1"))), recordOf(with(epoch, next, put(of(17), ""))), recordOf(with(epoch, next, put("a", of(33)))),
		make([]byte, 131072), fileOf(one(epoch, next)),
	}
	// All but the key's byte and the value's, which may be any.
	for at := range c {
		if c[at] != 'a' && c[at] != '1' {
			b := slices.Clone(c)
			b[at] = 0xff
			l = append(l, b)
		}
	}
	return l
}

func TestScanStopsAtARecordThatIsNoCommit(t *testing.T) {
	for _, l := range [][]api.Commit{nil, logOf(1), logOf(1, 1), logOf(1, 2, 2), logOf(1, 1, 1, 5)} {
		good := fileOf(l...)
		epoch, next := 5, len(l)+1
		behind := append(fileOf(one(epoch, next)), fileOf(one(epoch, next+1))...)
		for _, record := range noCommits(epoch, next) {
			file := slices.Concat(good, framed(record))
			wantScan(t, "no commit at the end", file, l, len(good))
			wantScan(t, "commits behind it", append(file, behind...), l, len(good))
		}
	}
}

// noFollowers lists commits that do not follow the log l.
func noFollowers(l []api.Commit) []api.Commit {
	end, epoch := len(l), 0
	if end > 0 {
		epoch = l[end-1].Epoch
	}
	var list []api.Commit
	for _, number := range []int{1, 2, end - 1, end, end + 2, end + 3, end + 128, most - 1, most} {
		for _, e := range []int{1, epoch - 1, epoch, epoch + 1, most} {
			if number >= 1 && e >= 1 && e <= most && number != end+1 {
				list = append(list, one(e, number))
			}
		}
	}
	for _, e := range []int{1, 2, epoch / 2, epoch - 2, epoch - 1} {
		if e >= 1 && e < epoch {
			list = append(list, one(e, end+1))
		}
	}
	return list
}

func TestScanStopsAtACommitThatDoesNotFollow(t *testing.T) {
	for _, l := range someLogs() {
		good := fileOf(l...)
		for _, c := range noFollowers(l) {
			file := slices.Concat(good, fileOf(c))
			wantScan(t, "it alone", file, l, len(good))
			wantScan(t, "one that follows behind it", append(file, fileOf(one(most, len(l)+1))...), l, len(good))
			wantScan(t, "one that follows it behind it", append(file, fileOf(one(c.Epoch, c.Number+1))...), l, len(good))
		}
	}
}

// A first commit that is not number 1 is no log's, whatever comes behind it.
func TestScanBeginsWithTheNumberOne(t *testing.T) {
	for _, number := range []int{2, 3, 127, 128, most - 1, most} {
		wantScan(t, "a first commit", fileOf(one(1, number)), nil, 0)
		wantScan(t, "and the first behind it", fileOf(one(1, number), one(1, 1), one(1, 2)), nil, 0)
		wantScan(t, "and more", fileOf(one(1, number), one(1, number+1)), nil, 0)
	}
}

// tornEnds lists what may stand behind a log's last frame without being one.
func tornEnds(epoch, next int) [][]byte {
	var l [][]byte
	for _, c := range []api.Commit{one(epoch, next), big(epoch, next)} {
		whole := fileOf(c)
		for n := 1; n < len(whole); n++ {
			l = append(l, whole[:n])
		}
	}
	record := recordOf(one(epoch, next))
	return append(l,
		[]byte{0x80}, []byte{0x80, 0x80, 0x80}, bytes.Repeat([]byte{0xff}, 20),
		append([]byte{0x80 | byte(len(record)), 0}, record...),
		append(binary.AppendUvarint(nil, 131073), make([]byte, 131073)...),
		append(binary.AppendUvarint(nil, math.MaxUint64), record...),
		append(binary.AppendUvarint(nil, 1<<63), record...),
		append([]byte{byte(len(record)) + 1}, record...),
	)
}

func TestScanOfTornEnds(t *testing.T) {
	for _, l := range [][]api.Commit{nil, logOf(1), logOf(1, 2), logOf(1, 2, 2, 3)} {
		good := fileOf(l...)
		for _, end := range tornEnds(3, len(l)+1) {
			wantScan(t, "a torn end", slices.Concat(good, end), l, len(good))
		}
	}
}

func TestScanOfEveryFirstPart(t *testing.T) {
	l := logOf(1, 1, 2, 2, 7)
	file := fileOf(l...)
	for n := range len(file) + 1 {
		whole := 0
		for whole < len(l) && endOf(l, whole+1) <= n {
			whole++
		}
		wantScan(t, "a first part", file[:n], l[:whole], endOf(l, whole))
	}
}

func TestScanOfEveryByteChanged(t *testing.T) {
	file := fileOf(one(1, 1), with(1, 2, put("ab", "1"), del("abc"), put("a", "")), one(2, 3), one(2, 4))
	for at := range file {
		for x := range 256 {
			b := slices.Clone(file)
			b[at] = byte(x)
			l, good := told(b)
			wantScan(t, "a byte changed", b, l, good)
		}
	}
}

// No list of at most 3 bytes has a commit.
func TestScanOfShortLists(t *testing.T) {
	for x := range 1 << 24 {
		b := [3]byte{byte(x), byte(x >> 8), byte(x >> 16)}
		if l, good := wal.Scan(b[:]); len(l) != 0 || good != 0 {
			t.Fatalf("Scan(%v) = %v, %d", b, l, good)
		}
		if x < 1<<16 {
			wantScan(t, "two bytes", b[:2], nil, 0)
		}
		if x < 1<<8 {
			wantScan(t, "a byte", b[:1], nil, 0)
		}
	}
}

// Each record of 8 bytes that are all small.
func TestScanOfSmallRecords(t *testing.T) {
	found := 0
	for x := range 1 << 16 {
		b := []byte{8}
		for at := range 8 {
			b = append(b, byte(x>>(2*at)&3))
		}
		l, good := told(b)
		found += len(l)
		wantScan(t, "a small record", b, l, good)
	}
	if found == 0 {
		t.Error("none of them is a commit")
	}
}

// turn is a row of numbers that look mixed, the same ones each time.
type turn uint64

func (r *turn) below(n int) int {
	*r = *r*6364136223846793005 + 1442695040888963407
	return int(uint64(*r) >> 33 % uint64(n))
}

// mixedFile answers frames of commits, most of which follow, with some bytes changed or cut off.
func mixedFile(r *turn) []byte {
	var b []byte
	epoch := 1 + r.below(3)
	for number := 1; number < 2+r.below(9); number++ {
		c := one(epoch, number)
		switch r.below(8) {
		case 0:
			c = big(epoch, number)
		case 1:
			c = with(epoch, number, del("x"), del("xy"))
		case 2:
			epoch += r.below(200)
		}
		if r.below(12) == 0 {
			c.Number += r.below(3) - 1
			c.Epoch = max(0, c.Epoch-r.below(2))
		}
		b = append(b, fileOf(c)...)
		if r.below(20) == 0 {
			b = append(b, framed(bytes.Repeat([]byte{1}, r.below(12)))...)
		}
	}
	if r.below(3) == 0 {
		b[r.below(len(b))] = byte(r.below(256))
	}
	if r.below(3) == 0 {
		b = b[:r.below(len(b)+1)]
	}
	return b
}

func TestScanOfMixedFiles(t *testing.T) {
	r := turn(12)
	var lengths [16]int
	for range 20000 {
		b := mixedFile(&r)
		l, good := told(b)
		wantScan(t, "a mixed file", b, l, good)
		lengths[len(l)]++
	}
	if lengths[0] == 0 || lengths[1] == 0 || lengths[5] == 0 {
		t.Errorf("too few lengths: %v", lengths)
	}
}

func spoil(l []api.Op) {
	l = l[:cap(l)]
	for at := range l {
		l[at] = del("spoilt")
	}
}

// spoilAll writes over all that lists of commits have, their spare room, too.
func spoilAll(l []api.Commit) {
	l = l[:cap(l)]
	for at := range l {
		spoil(l[at].Ops)
		l[at] = with(99, 99, del("spoilt"))
	}
}

func TestScanLeavesTheFileAlone(t *testing.T) {
	for _, tail := range []string{"", "\x05torn", "\x01x"} {
		file := append(fileOf(logOf(1, 1, 2, 2)...), tail...)
		whole := append(slices.Clone(file), bytes.Repeat([]byte{9, 2, 5, 1, 1, 0, 1, 97, 1, 49}, 20)...)
		keep := slices.Clone(whole)
		wantScan(t, "with spare room", whole[:len(file)], logOf(1, 1, 2, 2), len(fileOf(logOf(1, 1, 2, 2)...)))
		if !bytes.Equal(whole, keep) {
			t.Errorf("it, or its spare room, was written to: %v", whole)
		}
	}
}

func TestScanAnswersNewMemory(t *testing.T) {
	l := logOf(1, 1, 2, 2, 5, 5, 5)
	file := fileOf(l...)
	first, _ := wal.Scan(file)
	second, _ := wal.Scan(file)
	for at := range file {
		file[at] = 0xEE
	}
	if !alike(first, l) || !alike(second, l) {
		t.Error("the commits share memory with the file")
	}
	spoilAll(first)
	if !alike(second, l) {
		t.Error("two answers share memory")
	}
	for at := range second {
		spoil(second[at].Ops)
		if !alike(second[at+1:], l[at+1:]) {
			t.Errorf("the ops of the commits behind %d share memory with its own", at)
		}
	}
}

// P12.2

func TestOpenOfNoDisk(t *testing.T) {
	wantNone(t, "nil", nil, api.ErrNil)
	wantNone(t, "a disk that nobody made", new(disk.Disk), api.ErrNil)
}

func TestOpenOfADiskThatIsOff(t *testing.T) {
	for _, file := range [][]byte{nil, fileOf(logOf(1, 1)...), append(fileOf(logOf(1, 1)...), 5)} {
		d := holding(t, file)
		must(t, "Write", d.Write(0, []byte{1, 2, 3}))
		must(t, "Pull", d.Pull())
		ahead := lookAt(d)
		wantNone(t, "off", d, api.ErrOff)
		wantLook(t, "off", d, ahead)
	}
}

func TestOpenOfANewDisk(t *testing.T) {
	d := disk.New()
	w := mustOpen(t, d)
	wantKnown(t, "a new disk", w, nil)
	wantLook(t, "a new disk", d, look{on: true})
}

func TestOpenOfJustALog(t *testing.T) {
	for _, l := range someLogs() {
		d := holding(t, fileOf(l...))
		ahead := lookAt(d)
		wantKnown(t, "a log", mustOpen(t, d), l)
		wantLook(t, "a log", d, ahead)

		// Without a raw step that it might do, no fuse puts it off.
		must(t, "Fuse", d.Fuse(0))
		wantKnown(t, "a log, with a fuse", mustOpen(t, d), l)
		wantLook(t, "a log, with a fuse", d, ahead)
	}
}

// What is pending counts as what the file holds, and stays pending.
func TestOpenOfALogThatIsPending(t *testing.T) {
	l := logOf(1, 1, 2, 3)
	d := holding(t, fileOf(l[:1]...))
	must(t, "Write", d.Write(0, fileOf(l[1:]...)))
	must(t, "Write", d.Write(2, []byte("pending")))
	ahead := lookAt(d)
	wantKnown(t, "pending", mustOpen(t, d), l)
	wantLook(t, "pending", d, ahead)

	must(t, "Cut", d.Cut(0, endOf(l, 2)))
	ahead = lookAt(d)
	wantKnown(t, "a cut that is pending", mustOpen(t, d), l[:2])
	wantLook(t, "a cut that is pending", d, ahead)
}

// tails lists what is no part of the log l that stands ahead of it, though it stands in its file.
func tails(l []api.Commit) [][]byte {
	epoch, next := 1, len(l)+1
	if len(l) > 0 {
		epoch = l[len(l)-1].Epoch
	}
	list := append(tornEnds(epoch, next), noRecords(epoch, next)...)
	for _, c := range noFollowers(l) {
		list = append(list, fileOf(c), fileOf(c, one(epoch, next)))
	}
	return list
}

func noRecords(epoch, next int) [][]byte {
	var list [][]byte
	for _, record := range noCommits(epoch, next) {
		list = append(list, framed(record), append(framed(record), fileOf(one(epoch, next))...))
	}
	return list
}

func TestOpenCutsOffWhatIsNoLog(t *testing.T) {
	for _, l := range [][]api.Commit{nil, logOf(1), logOf(1, 3), logOf(2, 2, 2)} {
		good := fileOf(l...)
		for _, tail := range tails(l) {
			d := holding(t, slices.Concat(good, tail))
			ahead := lookAt(d)
			w := mustOpen(t, d)
			wantKnown(t, "a tail", w, l)
			// One cut, one sync; the other files are as they were.
			ahead.steps += 2
			ahead.held[0], ahead.durable[0] = string(good), string(good)
			wantLook(t, "a tail", d, ahead)
			want(t, "Append behind it", w.Append(one(5, len(l)+1)), api.OK)
			wantHeld(t, "Append behind it", d, slices.Concat(good, fileOf(one(5, len(l)+1))))
		}
	}
}

func TestOpenCutsOffATailThatIsPending(t *testing.T) {
	l := logOf(1, 1)
	d := holding(t, fileOf(l[:1]...))
	must(t, "Write", d.Write(0, append(fileOf(l[1]), 5, 1)))
	w := mustOpen(t, d)
	wantKnown(t, "a tail that is pending", w, l)
	wantDurable(t, "a tail that is pending", d, fileOf(l...))
	if d.Pending() != 0 {
		t.Errorf("pending: %d", d.Pending())
	}
}

// Where the disk goes off at the cut, or at the sync, there is no wal; started again, what was to be cut off is there, or not.
func TestOpenOfADiskThatGoesOff(t *testing.T) {
	for _, l := range [][]api.Commit{nil, logOf(1), logOf(1, 3)} {
		good := fileOf(l...)
		file := slices.Concat(good, []byte{9, 1})
		for fuse := range 2 {
			d := holding(t, file)
			ahead := lookAt(d)
			must(t, "Fuse", d.Fuse(fuse))
			wantNone(t, "a fuse", d, api.ErrOff)
			if d.On() || d.Pending() != fuse || d.Steps() != ahead.steps+fuse {
				t.Errorf("fuse %d: on %v, pending %d, %d steps", fuse, d.On(), d.Pending(), d.Steps()-ahead.steps)
			}
			wantDurable(t, "a fuse", d, file)
			wantNone(t, "off", d, api.ErrOff)
			must(t, "Start", d.Start(fuse, 0))
			wantHeld(t, "started", d, [][]byte{file, good}[fuse])
			wantKnown(t, "started", mustOpen(t, d), l)
			wantDurable(t, "opened", d, good)
		}
		d := holding(t, file)
		must(t, "Fuse", d.Fuse(2))
		wantKnown(t, "a fuse of 2", mustOpen(t, d), l)
		if !d.On() {
			t.Error("a fuse of 2: it is off")
		}
	}
}

func TestOpenOfEachMixedFile(t *testing.T) {
	r := turn(122)
	for range 3000 {
		file := mixedFile(&r)
		d := holding(t, file)
		steps := d.Steps()
		l, good := told(file)
		wantKnown(t, "a mixed file", mustOpen(t, d), l)
		wantDurable(t, "a mixed file", d, file[:good])
		if cut := d.Steps() - steps; cut != 0 && cut != 2 || (cut == 0) != (good == len(file)) {
			t.Errorf("%v: %d raw steps", file, cut)
		}
	}
}

// P12.3

func TestNoWalRefuses(t *testing.T) {
	var none *wal.Wal
	for _, w := range []*wal.Wal{none, new(wal.Wal), {}} {
		for _, c := range []api.Commit{one(1, 1), one(1, 2), with(0, 0), {}, with(1, 1, slices.Repeat([]api.Op{del("k")}, 9)...)} {
			want(t, "Append", w.Append(c), api.ErrNil)
		}
		want(t, "Sync", w.Sync(), api.ErrNil)
		for _, to := range []int{-1, 0, 1, math.MinInt, math.MaxInt} {
			want(t, "Cut", w.Cut(to), api.ErrNil)
		}
	}
}

func TestAppendWritesFrames(t *testing.T) {
	for _, l := range someLogs() {
		d := disk.New()
		w := mustOpen(t, d)
		raws := 0
		for at, c := range l {
			want(t, "Append", w.Append(c), api.OK)
			wantHeld(t, "Append", d, fileOf(l[:at+1]...))
			raws += rawWrites(len(fileOf(c)))
			if d.Pending() != raws || d.Steps() != raws {
				t.Errorf("commit %d: %d pending, %d steps, want %d", at+1, d.Pending(), d.Steps(), raws)
			}
			if w.End() != at+1 || w.Epoch() != c.Epoch || w.Length() != endOf(l, at+1) {
				t.Errorf("commit %d: %d, %d, %d", at+1, w.End(), w.Epoch(), w.Length())
			}
		}
		wantKnown(t, "all of them", w, l)
		wantDurable(t, "ahead of a sync", d, nil)
	}
}

func TestAppendLeavesTheOtherFilesAlone(t *testing.T) {
	l := logOf(1, 2)
	d := holding(t, fileOf(l...))
	w := mustOpen(t, d)
	ahead := lookAt(d)
	must(t, "Append", w.Append(one(3, 3)))
	must(t, "Sync", w.Sync())
	must(t, "Cut", w.Cut(0))
	must(t, "Sync", w.Sync())
	now := lookAt(d)
	if [3]string(now.held[1:]) != [3]string(ahead.held[1:]) || [3]string(now.durable[1:]) != [3]string(ahead.durable[1:]) {
		t.Errorf("they were %q and are %q", ahead.held, now.held)
	}
}

// wrong is a commit that may not be, and why.
type wrong struct {
	c api.Commit
	e api.Errno
}

// wrongs lists commits that may not be, whether their number is next or not.
func wrongs(epoch, next int) []wrong {
	nine := slices.Repeat([]api.Op{del("k")}, 9)
	var l []wrong
	for _, number := range []int{next, next + 1, 1, most} {
		l = append(l,
			wrong{one(0, number), api.ErrArg}, wrong{one(-1, number), api.ErrArg}, wrong{one(most+1, number), api.ErrArg},
			wrong{one(math.MinInt, number), api.ErrArg}, wrong{one(math.MaxInt, number), api.ErrArg},
			wrong{with(epoch, number), api.ErrArg}, wrong{with(epoch, number, nine...), api.ErrLong}, wrong{with(0, number, nine...), api.ErrArg},
			wrong{with(epoch, number, del("")), api.ErrArg}, wrong{with(epoch, number, api.Op{Key: "k", Value: "v"}), api.ErrArg},
			wrong{with(epoch, number, put("a", "1"), del(of(17))), api.ErrArg}, wrong{with(epoch, number, put("a", of(33))), api.ErrArg})
	}
	for _, number := range []int{0, -1, most + 1, math.MinInt, math.MaxInt} {
		l = append(l, wrong{one(epoch, number), api.ErrArg}, wrong{with(epoch, number, nine...), api.ErrArg})
	}
	return l
}

func TestAppendOfWhatMayNotBe(t *testing.T) {
	for _, l := range [][]api.Commit{nil, logOf(1), logOf(3, 3, 4)} {
		d, w := fresh(t, l)
		ahead := lookAt(d)
		for _, x := range wrongs(5, len(l)+1) {
			want(t, fmt.Sprintf("Append(%v)", x.c), w.Append(x.c), x.e)
			wantKnown(t, "refused", w, l)
			wantLook(t, "refused", d, ahead)
		}
		want(t, "Append behind all of them", w.Append(one(5, len(l)+1)), api.OK)
	}
}

func TestAppendOfWhatDoesNotFollow(t *testing.T) {
	for _, l := range someLogs() {
		d, w := fresh(t, l)
		ahead := lookAt(d)
		for _, c := range noFollowers(l) {
			want(t, fmt.Sprintf("%d commits: Append(%v)", len(l), c), w.Append(c), api.ErrOrder)
			wantLook(t, "refused", d, ahead)
		}
		wantKnown(t, "refused", w, l)
		want(t, "Append behind all of them", w.Append(one(most, len(l)+1)), api.OK)
	}
}

// A log whose last number is the greatest there is takes no more.
func TestAppendBehindTheGreatestNumber(t *testing.T) {
	var file []byte
	for number := 1; number <= most; number++ {
		file = append(file, framed(recordOf(with(1, number, del("k"))))...)
	}
	d := disk.New()
	must(t, "Write", d.Write(0, file))
	must(t, "Sync", d.Sync())
	w := mustOpen(t, d)
	if w.End() != most || w.Length() != len(file) || len(w.From(most, 5)) != 1 {
		t.Errorf("%d, %d", w.End(), w.Length())
	}
	want(t, "Append of 1048577", w.Append(one(1, most+1)), api.ErrArg)
	want(t, "Append of 1048576 again", w.Append(one(1, most)), api.ErrOrder)
	want(t, "Cut", w.Cut(most-1), api.OK)
	want(t, "Append of 1048576", w.Append(with(1, most, del("k"))), api.OK)
	if w.End() != most || w.Length() != len(file) {
		t.Errorf("%d, %d", w.End(), w.Length())
	}
}

// What was handed to Append is not kept: what is done to it later is seen nowhere.
func TestAppendKeepsNothingOfTheCallers(t *testing.T) {
	d := disk.New()
	w := mustOpen(t, d)
	room := []api.Op{put("a", "1"), del("b"), put("room", ""), put("room", "")}
	keep := slices.Clone(room)
	c := with(1, 1, room[:2]...)
	must(t, "Append", w.Append(c))
	if !slices.Equal(room, keep) {
		t.Errorf("it was changed: %v", room)
	}
	spoil(c.Ops)
	wantKnown(t, "overwritten", w, []api.Commit{with(1, 1, put("a", "1"), del("b"))})
	wantHeld(t, "overwritten", d, fileOf(with(1, 1, put("a", "1"), del("b"))))
}

func TestSyncMakesDurable(t *testing.T) {
	l := logOf(1, 1, 2, 5)
	d := disk.New()
	w := mustOpen(t, d)
	want(t, "Sync of nothing", w.Sync(), api.OK)
	for at, c := range l {
		must(t, "Append", w.Append(c))
		wantDurable(t, "ahead of the sync", d, fileOf(l[:at]...))
		steps := d.Steps()
		want(t, "Sync", w.Sync(), api.OK)
		wantDurable(t, "Sync", d, fileOf(l[:at+1]...))
		if d.Pending() != 0 || d.Steps() != steps+1 {
			t.Errorf("pending %d, %d steps", d.Pending(), d.Steps()-steps)
		}
		wantKnown(t, "Sync", w, l[:at+1])
	}
	steps := d.Steps()
	want(t, "Sync once more", w.Sync(), api.OK)
	if d.Steps() != steps+1 {
		t.Error("a sync is one raw step, also if nothing is pending")
	}
}

// asks lists the calls of a wal that ask its disk for something, each of which would be answered with OK.
func asks(w *wal.Wal) map[string]func() api.Errno {
	return map[string]func() api.Errno{
		"Append": func() api.Errno { return w.Append(one(most, w.End()+1)) },
		"Sync":   w.Sync,
		"Cut 0":  func() api.Errno { return w.Cut(0) },
		"Cut":    func() api.Errno { return w.Cut(w.End()) },
	}
}

// A wal is broken by the first call in which its disk is off, whichever that is; it stays so when the disk is on again.
func TestADiskThatIsOffBreaksTheWal(t *testing.T) {
	for _, l := range [][]api.Commit{nil, logOf(1), logOf(1, 2, 2)} {
		for name := range asks(nil) {
			d, w := synced(t, l)
			must(t, "Pull", d.Pull())
			ahead := lookAt(d)
			want(t, name, asks(w)[name](), api.ErrOff)
			wantKnown(t, name, w, l)
			wantLook(t, name, d, ahead)
			must(t, "Start", d.Start(0, 0))
			wantBroken(t, name, d, w, l)
			wantKnown(t, "opened again", mustOpen(t, d), l)
			wantBroken(t, name+", opened again", d, w, l)
		}
	}
}

// Wrong arguments don't keep a disk that is off from breaking the wal.
func TestADiskThatIsOffCountsAheadOfTheArguments(t *testing.T) {
	calls := map[string]func(w *wal.Wal) api.Errno{
		"Append of no ops":                   func(w *wal.Wal) api.Errno { return w.Append(with(1, 3)) },
		"Append of 9 ops":                    func(w *wal.Wal) api.Errno { return w.Append(with(1, 3, slices.Repeat([]api.Op{del("k")}, 9)...)) },
		"Append of what does not follow":     func(w *wal.Wal) api.Errno { return w.Append(one(1, 9)) },
		"Cut of -1":                          func(w *wal.Wal) api.Errno { return w.Cut(-1) },
		"Cut of more commits than there are": func(w *wal.Wal) api.Errno { return w.Cut(3) },
	}
	for name, call := range calls {
		l := logOf(1, 1)
		d, w := synced(t, l)
		must(t, "Pull", d.Pull())
		want(t, name, call(w), api.ErrOff)
		must(t, "Start", d.Start(0, 0))
		want(t, name+", on again", call(w), api.ErrOff)
		wantBroken(t, name, d, w, l)
	}
}

// A disk that goes off at a raw write of a frame leaves the raw writes ahead of it pending, and the log that is known as it was.
func TestAppendToADiskThatGoesOff(t *testing.T) {
	for _, l := range [][]api.Commit{nil, logOf(1), logOf(1, 2, 2)} {
		for _, c := range []api.Commit{one(2, len(l)+1), big(2, len(l)+1)} {
			frame := fileOf(c)
			raws := rawWrites(len(frame))
			for fuse := range raws {
				for k := range fuse + 2 {
					d, w := synced(t, l)
					must(t, "Fuse", d.Fuse(fuse))
					want(t, "Append", w.Append(c), api.ErrOff)
					if d.On() || d.Pending() != fuse {
						t.Errorf("fuse %d: on %v, pending %d", fuse, d.On(), d.Pending())
					}
					wantKnown(t, "Append", w, l)
					must(t, "Start", d.Start(k, 0))
					wantHeld(t, "started", d, append(fileOf(l...), frame[:min(k, fuse)*raw]...))
					wantBroken(t, "Append", d, w, l)
					wantKnown(t, "opened again", mustOpen(t, d), l)
				}
			}
			d, w := synced(t, l)
			must(t, "Fuse", d.Fuse(raws))
			want(t, "Append, with a fuse that is long enough", w.Append(c), api.OK)
			wantKnown(t, "Append", w, append(slices.Clone(l), c))
			want(t, "Sync at the fuse's end", w.Sync(), api.ErrOff)
			wantKnown(t, "Sync", w, append(slices.Clone(l), c))
			must(t, "Start", d.Start(0, 0))
			wantBroken(t, "Sync", d, w, append(slices.Clone(l), c))
			wantKnown(t, "opened again", mustOpen(t, d), l)
		}
	}
}

func TestSyncOfADiskThatGoesOff(t *testing.T) {
	l := logOf(1, 1, 2)
	d, w := fresh(t, l)
	must(t, "Fuse", d.Fuse(0))
	want(t, "Sync", w.Sync(), api.ErrOff)
	wantKnown(t, "Sync", w, l)
	wantDurable(t, "Sync", d, nil)
	must(t, "Start", d.Start(1000, 0))
	wantBroken(t, "Sync", d, w, l)
	wantKnown(t, "opened again", mustOpen(t, d), l)
}

// A disk that was off between two calls, and in none, breaks nothing; nor do the calls that ask nothing of it.
func TestADiskThatWasOffInNoCall(t *testing.T) {
	l := logOf(1, 1, 2)
	d, w := synced(t, l)
	must(t, "Pull", d.Pull())
	wantKnown(t, "off", w, l)
	must(t, "Start", d.Start(0, 0))
	want(t, "Append", w.Append(one(2, 4)), api.OK)
	want(t, "Sync", w.Sync(), api.OK)
	want(t, "Cut", w.Cut(4), api.OK)
	wantKnown(t, "on again", w, append(slices.Clone(l), one(2, 4)))
}

// A refusal for another reason does not break the wal.
func TestARefusalDoesNotBreakTheWal(t *testing.T) {
	d, w := fresh(t, logOf(1))
	want(t, "Append", w.Append(one(1, 1)), api.ErrOrder)
	want(t, "Append", w.Append(one(0, 2)), api.ErrArg)
	want(t, "Cut", w.Cut(2), api.ErrArg)
	want(t, "Sync", w.Sync(), api.OK)
	want(t, "Append", w.Append(one(1, 2)), api.OK)
	wantHeld(t, "behind refusals", d, fileOf(one(1, 1), one(1, 2)))
}

// P12.4

func TestCutToEachNumber(t *testing.T) {
	for _, l := range someLogs()[:13] {
		for to := range len(l) + 1 {
			d, w := synced(t, l)
			steps := d.Steps()
			want(t, "Cut", w.Cut(to), api.OK)
			wantKnown(t, "Cut", w, l[:to])
			wantHeld(t, "Cut", d, fileOf(l[:to]...))
			wantDurable(t, "ahead of a sync", d, fileOf(l...))
			if d.Steps() != steps+1 || d.Pending() != 1 {
				t.Errorf("Cut(%d) of %d: %d raw steps, %d pending", to, len(l), d.Steps()-steps, d.Pending())
			}
			must(t, "Sync", w.Sync())
			wantDurable(t, "synced", d, fileOf(l[:to]...))
			wantKnown(t, "opened again", mustOpen(t, d), l[:to])
		}
	}
}

func TestCutToNoNumber(t *testing.T) {
	for _, l := range [][]api.Commit{nil, logOf(1), logOf(1, 2, 2)} {
		d, w := synced(t, l)
		ahead := lookAt(d)
		for _, to := range []int{-1, -2, len(l) + 1, len(l) + 2, endOf(l, len(l)) + 1, 1 << 32, math.MinInt, math.MaxInt} {
			want(t, fmt.Sprintf("Cut(%d) of %d", to, len(l)), w.Cut(to), api.ErrArg)
		}
		wantKnown(t, "refused", w, l)
		wantLook(t, "refused", d, ahead)
	}
}

func TestCutOfADiskThatGoesOff(t *testing.T) {
	l := logOf(1, 2, 2)
	for to := range len(l) + 1 {
		d, w := synced(t, l)
		must(t, "Fuse", d.Fuse(0))
		want(t, "Cut", w.Cut(to), api.ErrOff)
		wantKnown(t, "Cut", w, l)
		must(t, "Start", d.Start(9, 9))
		wantHeld(t, "started", d, fileOf(l...))
		wantBroken(t, "Cut", d, w, l)
		wantKnown(t, "opened again", mustOpen(t, d), l)

		// With a fuse of 1 the cut is done, and pending.
		must(t, "Fuse", d.Fuse(1))
		w = mustOpen(t, d)
		want(t, "Cut", w.Cut(to), api.OK)
		want(t, "Sync", w.Sync(), api.ErrOff)
		wantKnown(t, "Sync", w, l[:to])
		must(t, "Start", d.Start(0, 0))
		wantBroken(t, "Sync", d, w, l[:to])
		wantKnown(t, "opened again", mustOpen(t, d), l)
	}
}

func TestCutAgainAndAgain(t *testing.T) {
	l := logOf(1, 1, 3, 3, 3, 8)
	d, w := fresh(t, l)
	for _, to := range []int{6, 5, 5, 3, 2, 0, 0} {
		want(t, "Cut", w.Cut(to), api.OK)
		want(t, "Cut above it", w.Cut(to+1), api.ErrArg)
		wantKnown(t, "Cut", w, l[:to])
		wantHeld(t, "Cut", d, fileOf(l[:to]...))
	}
}

// What is left is what counts for what follows: of numbers that were cut off, and of epochs that were.
func TestAppendBehindACut(t *testing.T) {
	l := logOf(1, 1, 3, 3, 8)
	for to := range len(l) + 1 {
		for _, epoch := range []int{3, 4, 8, 9} {
			d, w := synced(t, l)
			must(t, "Cut", w.Cut(to))
			left := slices.Clone(l[:to])
			if epoch < w.Epoch() {
				want(t, "Append of a lower epoch", w.Append(big(epoch, to+1)), api.ErrOrder)
				continue
			}
			want(t, "Append of a number that is not next", w.Append(one(9, to+2)), api.ErrOrder)
			want(t, "Append", w.Append(big(epoch, to+1)), api.OK)
			want(t, "Append", w.Append(one(epoch, to+2)), api.OK)
			left = append(left, big(epoch, to+1), one(epoch, to+2))
			wantKnown(t, "Append", w, left)
			wantHeld(t, "Append", d, fileOf(left...))
			want(t, "Cut", w.Cut(to+1), api.OK)
			wantKnown(t, "Cut", w, left[:to+1])
			wantHeld(t, "Cut", d, fileOf(left[:to+1]...))
			must(t, "Sync", w.Sync())
			wantKnown(t, "opened again", mustOpen(t, d), left[:to+1])
		}
	}
}

// Where the file was made shorter by others the disk refuses the cut: the log that is known stays, and the wal is not broken.
func TestCutOfAFileThatIsTooShort(t *testing.T) {
	l := logOf(1, 2, 2)
	d, w := synced(t, l)
	must(t, "disk.Cut", d.Cut(0, 5))
	ahead := lookAt(d)
	want(t, "Cut", w.Cut(2), api.ErrArg)
	wantKnown(t, "refused", w, l)
	wantLook(t, "refused", d, ahead)
	want(t, "Cut(0)", w.Cut(0), api.OK)
	wantKnown(t, "cut", w, nil)
	wantHeld(t, "cut", d, nil)
}

// P12.5

func TestNoWalTellsNothing(t *testing.T) {
	var none *wal.Wal
	for _, w := range []*wal.Wal{none, new(wal.Wal)} {
		if w.End() != 0 || w.Epoch() != 0 || w.Length() != 0 || len(w.Starts()) != 0 {
			t.Errorf("%d, %d, %d, %v", w.End(), w.Epoch(), w.Length(), w.Starts())
		}
		for _, n := range []int{math.MinInt, -1, 0, 1, 2, math.MaxInt} {
			for _, count := range []int{math.MinInt, -1, 0, 1, math.MaxInt} {
				if l := w.From(n, count); len(l) != 0 {
					t.Errorf("From(%d, %d) = %v", n, count, l)
				}
			}
		}
	}
}

func TestTellingOfLogs(t *testing.T) {
	for _, l := range someLogs() {
		_, w := fresh(t, l)
		wantKnown(t, "appended", w, l)
		wantKnown(t, "read", mustOpen(t, holding(t, fileOf(l...))), l)
	}
	_, w := fresh(t, logOf(1, 1, 1, 3, 3, 9))
	if s := w.Starts(); !slices.Equal(s, []api.Start{{Epoch: 1, First: 1}, {Epoch: 3, First: 4}, {Epoch: 9, First: 6}}) {
		t.Errorf("Starts: %v", s)
	}
	if w.Epoch() != 9 || w.End() != 6 {
		t.Errorf("%d, %d", w.Epoch(), w.End())
	}
	must(t, "Cut", w.Cut(4))
	if s := w.Starts(); !slices.Equal(s, []api.Start{{Epoch: 1, First: 1}, {Epoch: 3, First: 4}}) || w.Epoch() != 3 || w.End() != 4 {
		t.Errorf("behind a cut: %v, %d, %d", s, w.Epoch(), w.End())
	}
	must(t, "Cut", w.Cut(3))
	if s := w.Starts(); !slices.Equal(s, []api.Start{{Epoch: 1, First: 1}}) || w.Epoch() != 1 || w.End() != 3 {
		t.Errorf("behind a cut: %v, %d, %d", s, w.Epoch(), w.End())
	}
}

// pieceOf is the second telling of From.
func pieceOf(l []api.Commit, n, count int) []api.Commit {
	var piece []api.Commit
	if n < 1 {
		return nil
	}
	for _, c := range l {
		if c.Number >= n && len(piece) < count {
			piece = append(piece, c)
		}
	}
	return piece
}

func TestFrom(t *testing.T) {
	numbers := []int{math.MinInt, math.MinInt + 1, -1, 0, 1, 2, 3, 4, 5, 6, 7, 8, 9, 1 << 32, math.MaxInt - 1, math.MaxInt}
	for _, l := range [][]api.Commit{nil, logOf(1), logOf(1, 2), logOf(1, 1, 1, 3, 3, 9)} {
		_, w := fresh(t, append(slices.Clone(l), one(most, len(l)+1)))
		must(t, "Cut", w.Cut(len(l)))
		for _, n := range numbers {
			for _, count := range numbers {
				if got := w.From(n, count); !alike(got, pieceOf(l, n, count)) {
					t.Errorf("%d commits: From(%d, %d) = %v", len(l), n, count, got)
				}
			}
		}
	}
}

func TestWhatIsToldIsNewMemory(t *testing.T) {
	l := logOf(1, 1, 2, 2, 5)
	for _, w := range []*wal.Wal{mustOpen(t, holding(t, fileOf(l...))), second(t, l)} {
		first, other := w.From(1, 5), w.From(1, 5)
		part := w.From(2, 2)
		spoilAll(first)
		wantKnown(t, "overwritten", w, l)
		if !alike(other, l) || !alike(part, l[1:3]) {
			t.Error("two answers of From share memory")
		}
		spoilAll(part)
		wantKnown(t, "overwritten", w, l)
		for at := range other {
			spoil(other[at].Ops)
			if !alike(other[at+1:], l[at+1:]) {
				t.Errorf("the ops of the commits behind %d share memory with its own", at)
			}
		}
		a, b := w.Starts(), w.Starts()
		a = a[:cap(a)]
		for at := range a {
			a[at] = api.Start{Epoch: 99, First: 99}
		}
		if !slices.Equal(b, startsOf(l)) || !slices.Equal(w.Starts(), startsOf(l)) {
			t.Error("two answers of Starts share memory")
		}
	}
}

func second(t *testing.T, l []api.Commit) *wal.Wal {
	t.Helper()
	_, w := fresh(t, l)
	return w
}

// What was told ahead is not changed by what is done to the wal later.
func TestWhatWasToldStays(t *testing.T) {
	l := logOf(1, 1, 2, 2, 5)
	_, w := fresh(t, l)
	list, begun := w.From(1, 5), w.Starts()
	must(t, "Cut", w.Cut(1))
	must(t, "Append", w.Append(big(9, 2)))
	if !alike(list, l) || !slices.Equal(begun, startsOf(l)) {
		t.Errorf("%v, %v", list, begun)
	}
}

func TestWalsAreApart(t *testing.T) {
	_, a := fresh(t, logOf(1))
	d, b := fresh(t, logOf(4, 4))
	must(t, "Pull", d.Pull())
	want(t, "Sync of the one that is off", b.Sync(), api.ErrOff)
	want(t, "Append to the other", a.Append(one(1, 2)), api.OK)
	wantKnown(t, "the other", a, []api.Commit{one(1, 1), one(1, 2)})
}

// P12.6

// act is what is done to a wal in a script: it answers what the wal answered, and the log that it asks for.
type act func(w *wal.Wal, l []api.Commit) (api.Errno, []api.Commit)

func appending(of func(epoch, number int) api.Commit) act {
	return func(w *wal.Wal, l []api.Commit) (api.Errno, []api.Commit) {
		c := of(1+len(l)/2, len(l)+1)
		return w.Append(c), append(slices.Clone(l), c)
	}
}

func syncing(w *wal.Wal, l []api.Commit) (api.Errno, []api.Commit) { return w.Sync(), l }

func cutting(less int) act {
	return func(w *wal.Wal, l []api.Commit) (api.Errno, []api.Commit) {
		to := max(0, len(l)-less)
		return w.Cut(to), l[:to]
	}
}

// middling is a commit whose frame takes two raw writes.
func middling(epoch, number int) api.Commit {
	return with(epoch, number, put("m", of(32)), put("n", of(32)))
}

func acts() []act {
	return []act{appending(one), appending(middling), syncing, cutting(1), cutting(9)}
}

// scripts lists all scripts of at most count acts, each act told by its place in acts.
func scripts(count int) [][]int {
	all := [][]int{nil}
	for at := 0; len(all[at]) < count; at++ {
		for a := range acts() {
			all = append(all, append(slices.Clone(all[at]), a))
		}
	}
	return all
}

// played is a script that was played till its disk went off, or till its end.
type played struct {
	d      *disk.Disk
	off    bool
	states [][]api.Commit // the logs since the last sync, the first one durable
}

// play begins with the log l, which is durable on d.
func play(t *testing.T, d *disk.Disk, script []int, l []api.Commit) played {
	t.Helper()
	w := mustOpen(t, d)
	p := played{d: d, states: [][]api.Commit{l}}
	for _, a := range script {
		e, next := acts()[a](w, l)
		if e == api.ErrOff {
			wantKnown(t, "off", w, l)
			p.off = true
			return p
		}
		must(t, "an act", e)
		l = next
		wantKnown(t, "an act", w, l)
		if p.states = append(p.states, l); a == 2 {
			p.states = [][]api.Commit{l}
		}
	}
	return p
}

// wantOneOf: the log that Open tells behind Start(k, torn) is the one of the states that the disk can have kept, and a further Open changes nothing.
func wantOneOf(t *testing.T, p played, k, torn int) []api.Commit {
	t.Helper()
	if !p.off {
		must(t, "Pull", p.d.Pull())
	}
	must(t, "Start", p.d.Start(k, torn))
	file, _ := p.d.Read(0)
	l, good := told(file)
	if !slices.ContainsFunc(p.states, func(s []api.Commit) bool { return alike(s, l) }) {
		t.Errorf("Start(%d, %d) left %v, which is none of %v", k, torn, l, p.states)
	}
	wantKnown(t, "opened", mustOpen(t, p.d), l)
	wantDurable(t, "opened", p.d, file[:good])
	ahead := lookAt(p.d)
	wantKnown(t, "opened again", mustOpen(t, p.d), l)
	wantLook(t, "opened again", p.d, ahead)
	return l
}

// stepsOf answers how many raw steps a script does on a new disk.
func stepsOf(t *testing.T, script []int) int {
	t.Helper()
	d := disk.New()
	play(t, d, script, nil)
	return d.Steps()
}

// Each script of a few acts, cut off at each raw step, with each way in which the disk may keep what is pending.
func TestWhatStandsBehindAPowerCut(t *testing.T) {
	for _, script := range scripts(4) {
		for fuse := range stepsOf(t, script) + 1 {
			for k := 0; ; k++ {
				pending := 0
				for _, torn := range []int{0, 1, 9, 63} {
					d := disk.New()
					must(t, "Fuse", d.Fuse(fuse))
					p := play(t, d, script, nil)
					pending = d.Pending()
					wantOneOf(t, p, k, torn)
				}
				if k >= pending {
					break
				}
			}
			if t.Failed() {
				t.Fatalf("script %v, fuse %d", script, fuse)
			}
		}
	}
}

// Without a cut all that was synced is there, and of what was appended behind that just the commits whose raw writes all stand.
func TestWhatWasSyncedIsThereAgain(t *testing.T) {
	l := []api.Commit{one(1, 1), middling(1, 2), one(2, 3), middling(2, 4), big(3, 5), one(3, 6)}
	for count := range len(l) + 1 {
		raws := 0
		for _, c := range l[count:] {
			raws += rawWrites(len(fileOf(c)))
		}
		for k := range raws + 2 {
			for torn := range raw + 1 {
				d, w := synced(t, l[:count])
				for _, c := range l[count:] {
					must(t, "Append", w.Append(c))
				}
				must(t, "Pull", d.Pull())
				must(t, "Start", d.Start(k, torn))
				whole, left := count, k
				for whole < len(l) && left >= rawWrites(len(fileOf(l[whole]))) {
					left -= rawWrites(len(fileOf(l[whole])))
					whole++
				}
				wantKnown(t, fmt.Sprintf("%d synced, Start(%d, %d)", count, k, torn), mustOpen(t, d), l[:whole])
			}
		}
	}
}

// Long mixed scripts, with power cuts on the way, some of them while the wal is opened.
func TestMixedScripts(t *testing.T) {
	r := turn(126)
	for range 400 {
		d := disk.New()
		var l []api.Commit
		for range 12 {
			var script []int
			for range r.below(8) {
				script = append(script, []int{0, 0, 1, 1, 2, 2, 3, 4}[r.below(8)])
			}
			if r.below(2) == 0 {
				must(t, "Fuse", d.Fuse(r.below(12)))
			}
			p := play(t, d, script, l)
			if r.below(3) == 0 {
				p = cutWhileOpening(t, p, &r)
			}
			l = wantOneOf(t, p, r.below(8), r.below(raw))
		}
		if t.Failed() {
			return
		}
	}
}

// cutWhileOpening starts the disk, and lets it go off again while it is opened, if there is something to cut off.
func cutWhileOpening(t *testing.T, p played, r *turn) played {
	t.Helper()
	if !p.off {
		must(t, "Pull", p.d.Pull())
	}
	must(t, "Start", p.d.Start(r.below(8), r.below(raw)))
	must(t, "Fuse", p.d.Fuse(r.below(2)))
	_, e := wal.Open(p.d)
	p.off = e == api.ErrOff
	if p.off == p.d.On() {
		t.Errorf("Open answers %d, and the disk is on: %v", e, p.d.On())
	}
	return p
}

// FuzzScan holds Scan, and Open, against the second telling.
func FuzzScan(f *testing.F) {
	f.Add([]byte{})
	f.Add(fileOf(logOf(1, 1, 2, 2)...))
	f.Add(append(fileOf(one(1, 1)), 9, 1, 2))
	f.Add(fileOf(one(1, 1), one(1, 3)))
	f.Fuzz(func(t *testing.T, file []byte) {
		l, good := told(file)
		wantScan(t, "any bytes", file, l, good)
		d := holding(t, file)
		w := mustOpen(t, d)
		wantKnown(t, "any bytes", w, l)
		wantDurable(t, "any bytes", d, file[:good])
		want(t, "Append", w.Append(one(most, len(l)+1)), api.OK)
	})
}
