package run_test

import (
	"bytes"
	"encoding/binary"
	"fmt"
	"math"
	"slices"
	"strings"
	"testing"

	"lagleash/api"
	"lagleash/disk"
	"lagleash/run"
	"lagleash/table"
)

const (
	most   = 1048576 // the greatest number of a commit, as the document writes it
	opsMax = 1024    // ops of a run, at most
	files  = 4       // of a disk
	raw    = 64      // bytes of a raw write, at most
	at     = 2       // the file of the runs
)

func put(key, value string) api.Op { return api.Op{Put: true, Key: key, Value: value} }
func del(key string) api.Op        { return api.Op{Key: key} }

func of(count int) string { return strings.Repeat("k", count) }

func with(from, upto int, ops ...api.Op) api.Run {
	return api.Run{From: from, Upto: upto, Ops: ops}
}

// many lists count ops by rising key, every fifth one a delete, the others with the longest key and value there is.
func many(count int) []api.Op {
	var l []api.Op
	for i := range count {
		key := fmt.Sprintf("%04d%012d", i, 0)
		if i%5 == 4 {
			l = append(l, del(key))
			continue
		}
		l = append(l, put(key, of(32)))
	}
	return l
}

// odd lists ops whose keys are of any bytes, rising byte by byte.
func odd() []api.Op {
	return []api.Op{put("\x00", ""), del("\x00\x00"), put("\x00\xff", "\x00"), put("A", "x"), del("Z"), put("a", "1"), put("aa", "2"), del("b"), put("\x7f", ""), put("\x80", "y"), del("\xff"), put("\xff\x00", "z"), put("\xff\xff", of(32))}
}

// listOf lists runs of several sizes, of which each goes on where the one ahead ends, as many numbers apiece as spans says.
func listOf(spans ...int) []api.Run {
	var l []api.Run
	from := 1
	for i, span := range spans {
		ops := [][]api.Op{{del("a"), put("b", "1")}, nil, odd(), {put("a", "9")}, many(9)}[i%5]
		l = append(l, with(from, from+span-1, ops...))
		from += span
	}
	return l
}

// someLists lists lists of runs of several lengths.
func someLists() [][]api.Run {
	return [][]api.Run{
		nil, listOf(1), listOf(2), listOf(most), listOf(1, 1), listOf(2, 1), listOf(1, most-1), listOf(126, 1, 1), listOf(127, 128, 16000),
		listOf(1, 2, 3, 4), listOf(1, 1, 1, 1, 1), listOf(3, 1, 4, 1, 5, 9, 2, 6), listOf(slices.Repeat([]int{7}, 60)...),
		{with(1, 9, many(opsMax)...), with(10, 10, del("x")), with(11, 99, many(opsMax)...)},
	}
}

// A second telling of what a file's bytes are, without the calls of the program.

// recordOf answers a run's bytes, also of one that may not be, as long as its numbers are not below 0.
func recordOf(r api.Run) []byte {
	b := binary.AppendUvarint(nil, uint64(r.From))
	b = binary.AppendUvarint(b, uint64(r.Upto))
	b = binary.AppendUvarint(b, uint64(len(r.Ops)))
	for _, o := range r.Ops {
		b = append(b, opBytes(o)...)
	}
	return b
}

func opBytes(o api.Op) []byte {
	b := []byte{0, byte(len(o.Key))}
	b = append(b, o.Key...)
	if o.Put {
		b[0] = 1
		b = append(b, byte(len(o.Value)))
		b = append(b, o.Value...)
	}
	return b
}

func framed(record []byte) []byte {
	return append(binary.AppendUvarint(nil, uint64(len(record))), record...)
}

// fileOf answers the frames of runs, one behind the other.
func fileOf(l ...api.Run) []byte {
	var b []byte
	for _, r := range l {
		b = append(b, framed(recordOf(r))...)
	}
	return b
}

// reader cuts numbers and texts off bytes; once there are too few of them, it is bad.
type reader struct {
	b   []byte
	bad bool
}

func (r *reader) number() int {
	x, n := binary.Uvarint(r.b)
	if n <= 0 || x > most {
		*r = reader{bad: true}
		return 0
	}
	r.b = r.b[n:]
	return int(x)
}

func (r *reader) text(count int) string {
	if count > len(r.b) {
		*r = reader{bad: true}
		return ""
	}
	s := string(r.b[:count])
	r.b = r.b[count:]
	return s
}

// loosely reads a run of bytes that may be told in other ways, too.
func loosely(record []byte) (api.Run, bool) {
	r := reader{b: record}
	x := with(r.number(), r.number())
	count := r.number()
	if r.bad || count > opsMax || x.From < 1 || x.Upto < x.From {
		return x, false
	}
	for range count {
		var o api.Op
		o.Put = r.number() == 1
		o.Key = r.text(r.number())
		if o.Put {
			o.Value = r.text(r.number())
		}
		if len(o.Key) < 1 || len(o.Key) > 16 || len(o.Value) > 32 {
			return x, false
		}
		x.Ops = append(x.Ops, o)
	}
	rising := true
	for i := 1; i < len(x.Ops); i++ {
		rising = rising && bytes.Compare([]byte(x.Ops[i-1].Key), []byte(x.Ops[i].Key)) < 0
	}
	return x, !r.bad && rising
}

// decoded is the second telling of Decode.
func decoded(record []byte) (api.Run, bool) {
	x, ok := loosely(record)
	if !ok || !bytes.Equal(recordOf(x), record) {
		return api.Run{}, false
	}
	return x, true
}

// told is the second telling of the runs in a file's bytes, and of their good length.
func told(file []byte) ([]api.Run, int) {
	var l []api.Run
	end, good := 0, 0
	for {
		size, n := binary.Uvarint(file[good:])
		if n <= 0 || size > 131072 || int(size) > len(file)-good-n {
			return l, good
		}
		record := file[good+n : good+n+int(size)]
		x, ok := decoded(record)
		if !ok || !bytes.Equal(framed(record), file[good:good+n+int(size)]) || x.From != end+1 {
			return l, good
		}
		l = append(l, x)
		end = x.Upto
		good += n + int(size)
	}
}

func endOf(l []api.Run) int {
	if len(l) == 0 {
		return 0
	}
	return l[len(l)-1].Upto
}

// left is what is said of a key.
type left struct {
	value      string
	met, there bool
}

// leftOf is the second telling of Get: all ops of all runs, one by one.
func leftOf(l []api.Run, key string) left {
	var x left
	for _, r := range l {
		for _, o := range r.Ops {
			if o.Key == key {
				x = left{o.Value, true, o.Put}
			}
		}
	}
	return x
}

// keysOf lists the keys on which runs have an op, and next to each some that are above it and below it, and some that none has.
func keysOf(l []api.Run) []string {
	keys := []string{"", "\x00", "a", "b", "c", "k", "m", of(16), of(17), "\xff", strings.Repeat("\xff", 16), strings.Repeat("\xff", 40)}
	for _, r := range l {
		ops := r.Ops
		if len(ops) > 20 {
			ops = slices.Concat(ops[:9], ops[len(ops)/2:len(ops)/2+2], ops[len(ops)-9:])
		}
		for _, o := range ops {
			keys = append(keys, o.Key, o.Key+"\x00", o.Key[:len(o.Key)-1])
		}
	}
	slices.Sort(keys)
	return slices.Compact(keys)
}

// What is compared, and how.

func alikeRuns(a, b api.Run) bool {
	return a.From == b.From && a.Upto == b.Upto && slices.Equal(a.Ops, b.Ops)
}

func alike(a, b []api.Run) bool { return slices.EqualFunc(a, b, alikeRuns) }

func want(t *testing.T, what string, got, e api.Errno) {
	t.Helper()
	if got != e {
		t.Errorf("%s: %d, not %d", what, got, e)
	}
}

// must stops a test whose ground is gone.
func must(t *testing.T, what string, got api.Errno) {
	t.Helper()
	if got != api.OK {
		t.Fatalf("%s: %d", what, got)
	}
}

// short keeps what is told of a run readable.
func short(r api.Run) string {
	if len(r.Ops) > 6 {
		return fmt.Sprintf("{%d %d, %d ops}", r.From, r.Upto, len(r.Ops))
	}
	return fmt.Sprintf("%v", r)
}

// wantCheck: Check answers e, and Encode the same, with the bytes of a run that may be and with none else.
func wantCheck(t *testing.T, what string, r api.Run, e api.Errno) {
	t.Helper()
	want(t, what+": Check of "+short(r), run.Check(r), e)
	b, got := run.Encode(r)
	want(t, what+": Encode of "+short(r), got, e)
	var bytesOf []byte
	if e == api.OK {
		bytesOf = recordOf(r)
	}
	if !bytes.Equal(b, bytesOf) {
		t.Errorf("%s: Encode of %s is %v; want %v", what, short(r), b, bytesOf)
	}
}

// wantDecode: Decode answers what the second telling does.
func wantDecode(t *testing.T, what string, b []byte) bool {
	t.Helper()
	x, ok := decoded(b)
	e := api.ErrBad
	if ok {
		e = api.OK
	}
	got, ge := run.Decode(b)
	if ge != e || !alikeRuns(got, x) {
		t.Errorf("%s: Decode(%v) = %s, %d; want %s, %d", what, b, short(got), ge, short(x), e)
	}
	return ok
}

// wantBad: b is no run's bytes, to the second telling neither.
func wantBad(t *testing.T, what string, b []byte) {
	t.Helper()
	if wantDecode(t, what, b) {
		t.Errorf("%s: %v are a run's bytes", what, b)
	}
}

// wantKnown: the runs tell l, and nothing else.
func wantKnown(t *testing.T, what string, r *run.Runs, l []api.Run) {
	t.Helper()
	if r.End() != endOf(l) {
		t.Errorf("%s: End %d; want %d", what, r.End(), endOf(l))
	}
	if got := r.List(); !alike(got, l) {
		t.Errorf("%s: List = %v; want %v", what, got, l)
	}
	for _, key := range keysOf(l) {
		wantGet(t, what, r, key, leftOf(l, key))
	}
}

func wantGet(t *testing.T, what string, r *run.Runs, key string, x left) {
	t.Helper()
	if value, met, there := r.Get(key); x != (left{value, met, there}) {
		t.Errorf("%s: Get(%q) = %q, %v, %v; want %+v", what, key, value, met, there, x)
	}
}

func wantHeld(t *testing.T, what string, d *disk.Disk, held []byte) {
	t.Helper()
	b, e := d.Read(at)
	if e != api.OK || !bytes.Equal(b, held) {
		t.Errorf("%s: file 2 holds %v, %d; want %v", what, b, e, held)
	}
}

func wantDurable(t *testing.T, what string, d *disk.Disk, durable []byte) {
	t.Helper()
	if b := d.Durable(at); !bytes.Equal(b, durable) {
		t.Errorf("%s: durable in file 2 is %v; want %v", what, b, durable)
	}
}

// look is what the calls that change nothing tell of a disk.
type look struct {
	on      bool
	pending int
	steps   int
	held    [files]string
	durable [files]string
}

func lookAt(d *disk.Disk) look {
	l := look{on: d.On(), pending: d.Pending(), steps: d.Steps()}
	for file := range files {
		b, _ := d.Read(file)
		l.held[file] = string(b)
		l.durable[file] = string(d.Durable(file))
	}
	return l
}

func wantLook(t *testing.T, what string, d *disk.Disk, ahead look) {
	t.Helper()
	if now := lookAt(d); now != ahead {
		t.Errorf("%s: the disk was\n%+v and is\n%+v", what, ahead, now)
	}
}

func mustOpen(t *testing.T, d *disk.Disk) *run.Runs {
	t.Helper()
	r, e := run.Open(d)
	if e != api.OK || r == nil {
		t.Fatalf("Open: %v, %d", r, e)
	}
	return r
}

// wantNone: Open answers e and no runs.
func wantNone(t *testing.T, what string, d *disk.Disk, e api.Errno) {
	t.Helper()
	if r, got := run.Open(d); got != e || r != nil {
		t.Errorf("%s: Open = %v, %d; want none, %d", what, r, got, e)
	}
}

// holding answers a disk whose file 2 has these bytes, durably, and whose other files have some, too.
func holding(t *testing.T, file []byte) *disk.Disk {
	t.Helper()
	d := disk.New()
	must(t, "Write", d.Write(at, file))
	for _, other := range []int{0, 1, 3} {
		must(t, "Write", d.Write(other, []byte{byte(other), 7, 7}))
	}
	must(t, "Sync", d.Sync())
	return d
}

// flushed answers a new disk, and its runs to which l was flushed.
func flushed(t *testing.T, l []api.Run) (*disk.Disk, *run.Runs) {
	t.Helper()
	d := disk.New()
	r := mustOpen(t, d)
	for _, x := range l {
		must(t, "Flush", r.Flush(x))
	}
	return d, r
}

// rawWrites answers how many raw writes count bytes are.
func rawWrites(count int) int { return (count + raw - 1) / raw }

// next is a run that goes on where l ends.
func next(l []api.Run, ops ...api.Op) api.Run { return with(endOf(l)+1, endOf(l)+1, ops...) }

// wantBroken: the runs take nothing, whatever it is, and what they know they tell still; the disk is left alone.
func wantBroken(t *testing.T, what string, d *disk.Disk, r *run.Runs, l []api.Run) {
	t.Helper()
	ahead := lookAt(d)
	for range 2 {
		want(t, what+": Flush", r.Flush(next(l)), api.ErrOff)
		want(t, what+": Flush of what may not be", r.Flush(with(0, 0)), api.ErrOff)
		want(t, what+": Flush of too many ops", r.Flush(next(l, many(opsMax+1)...)), api.ErrOff)
		want(t, what+": Flush of what does not go on", r.Flush(with(most, most)), api.ErrOff)
		wantKnown(t, what, r, l)
	}
	wantLook(t, what, d, ahead)
}

// The chapter's examples; those of Flush one behind the other at one disk.
func TestExamples(t *testing.T) {
	first := with(1, 2, del("a"), put("b", "1"))
	b, e := run.Encode(first)
	want(t, "Encode", e, api.OK)
	if !bytes.Equal(b, []byte{1, 2, 2, 0, 1, 97, 1, 1, 98, 1, 49}) {
		t.Errorf("Encode: %v", b)
	}
	r := mustOpen(t, disk.New())
	want(t, "Flush of {1, 2, ..}", r.Flush(first), api.OK)
	want(t, "Flush of {4, 4, ..}", r.Flush(with(4, 4, put("a", "4"))), api.ErrOrder)
	if r.End() != 2 {
		t.Errorf("End: %d", r.End())
	}
	want(t, "Flush of {3, 3, put a 9}", r.Flush(with(3, 3, put("a", "9"))), api.OK)
	wantGet(t, "the last one that has it", r, "a", left{"9", true, true})
	wantGet(t, "the first one has it", r, "b", left{"1", true, true})
	wantGet(t, "none has it", r, "c", left{})
	want(t, "Check of {2, 1, none}", run.Check(with(2, 1)), api.ErrArg)
	want(t, "Check of {1, 1, put b 1, put a 1}", run.Check(with(1, 1, put("b", "1"), put("a", "1"))), api.ErrArg)
}

// P13.1

// The limits are the numbers that the document writes.
func TestLimits(t *testing.T) {
	wantCheck(t, "1,024 ops", with(1, 1, many(1024)...), api.OK)
	wantCheck(t, "1,025 ops", with(1, 1, many(1025)...), api.ErrLong)
	wantCheck(t, "2^20", with(1048576, 1048576), api.OK)
	wantCheck(t, "2^20 + 1", with(1048576, 1048577), api.ErrArg)
	if api.FileRuns != at || api.MaxRunOps != opsMax || api.MaxNumber != most {
		t.Error("api has other numbers")
	}
}

// edges lists numbers at the bounds, and on both sides of them.
func edges() []int {
	return []int{math.MinInt, math.MinInt + 1, -1 << 32, -most, -2, -1, 0, 1, 2, 3, 127, 128, 129, 16383, 16384, most - 1, most, most + 1, most + 2, 1 << 32, 1<<32 + 1, math.MaxInt - 1, math.MaxInt}
}

func TestCheckOfNumbers(t *testing.T) {
	fine := 0
	for _, from := range edges() {
		for _, upto := range edges() {
			e := api.ErrArg
			if from >= 1 && upto >= from && upto <= most {
				e = api.OK
				fine++
			}
			wantCheck(t, "no ops", with(from, upto), e)
			wantCheck(t, "an op", with(from, upto, put("a", "1")), e)
			wantCheck(t, "the most ops", with(from, upto, many(opsMax)...), e)
			wantCheck(t, "an op that may not be", with(from, upto, put("", "1")), api.ErrArg)
			wantCheck(t, "too many ops", with(from, upto, many(opsMax+1)...), api.ErrLong)
		}
	}
	if fine < 20 {
		t.Errorf("just %d of them may be", fine)
	}
	wantCheck(t, "Upto one below From", with(5, 4), api.ErrArg)
	wantCheck(t, "Upto is From", with(5, 5), api.OK)
	wantCheck(t, "nothing", api.Run{}, api.ErrArg)
	wantCheck(t, "an empty list", api.Run{From: 1, Upto: 1, Ops: []api.Op{}}, api.OK)
}

// wrongOps lists ops that may not be.
func wrongOps() []api.Op {
	return append(wronglyWritten(), api.Op{Key: "k", Value: "v"}, api.Op{Value: "v"})
}

// wronglyWritten lists those whose bytes tell it: those of a delete don't tell its value.
func wronglyWritten() []api.Op {
	return []api.Op{{}, put("", ""), put("", "1"), put(of(17), ""), put("k", of(33)), del(of(17)), del(""), put(of(17), of(33)), put(of(255), of(255))}
}

func TestCheckOfOpsThatMayNotBe(t *testing.T) {
	good := []api.Op{put("a", "1"), del("b"), put("jj", ""), put("x", of(32)), del("y")}
	wantCheck(t, "all may be", with(1, 1, good...), api.OK)
	for _, o := range wrongOps() {
		wantCheck(t, "alone", with(1, 1, o), api.ErrArg)
		for place := range len(good) + 1 {
			wantCheck(t, "among others", with(1, 1, slices.Insert(slices.Clone(good), place, o)...), api.ErrArg)
		}
	}
	all := many(opsMax)
	for _, place := range []int{0, 1, 500, opsMax - 2, opsMax - 1} {
		l := slices.Clone(all)
		l[place].Value += of(33)
		wantCheck(t, "among the most", with(1, 1, l...), api.ErrArg)
	}
}

// The keys at the bounds may be, in a run as well.
func TestCheckOfOpsAtTheBounds(t *testing.T) {
	for _, l := range [][]api.Op{{put("a", "")}, {del("a")}, {put(of(16), of(32))}, {del(of(16))}, {del(of(15)), put(of(16), "")}, odd(), many(1), many(2), many(1023)} {
		wantCheck(t, "at the bounds", with(1, 1, l...), api.OK)
	}
}

// Of two keys the first must be below the second one, byte by byte, whatever the ops on them are.
func TestCheckOfOrder(t *testing.T) {
	keys := []string{"\x00", "\x00\x00", "\x01", "A", "B", "Z", "a", "a\x00", "aa", "ab", "b", "\x7f", "\x80", "é", "\xff", "\xff\xff", of(16), of(15)}
	for _, a := range keys {
		for _, b := range keys {
			e := api.ErrArg
			if bytes.Compare([]byte(a), []byte(b)) < 0 {
				e = api.OK
			}
			for _, l := range [][]api.Op{{put(a, "1"), put(b, "2")}, {put(a, "2"), put(b, "1")}, {del(a), put(b, "1")}, {put(a, "1"), del(b)}, {del(a), del(b)}} {
				wantCheck(t, "two keys", with(1, 1, l...), e)
			}
		}
	}
}

func TestCheckOfOrderAtEachPlace(t *testing.T) {
	good := many(12)
	for i := range good {
		for k := range i {
			l := slices.Clone(good)
			l[i], l[k] = l[k], l[i]
			wantCheck(t, "two turned about", with(1, 1, l...), api.ErrArg)
			l = slices.Clone(good)
			l[i].Key = l[k].Key
			wantCheck(t, "two with one key", with(1, 1, l...), api.ErrArg)
		}
	}
	l := many(opsMax)
	l[opsMax-1].Key = l[opsMax-2].Key
	wantCheck(t, "the last two with one key", with(1, 1, l...), api.ErrArg)
	slices.Reverse(good)
	wantCheck(t, "falling", with(1, 1, good...), api.ErrArg)
}

// That there are too many ops counts ahead of all else.
func TestWhichErrorCounts(t *testing.T) {
	long := many(opsMax + 1)
	wrong := slices.Repeat([]api.Op{{}}, opsMax+1)
	for _, r := range []api.Run{with(0, 0, long...), with(2, 1, long...), with(1, most+1, long...), with(-1, math.MaxInt, wrong...), with(1, 1, wrong...), {Ops: wrong}, with(1, 1, slices.Repeat([]api.Op{put("a", "")}, 1025)...), with(1, 1, many(5000)...)} {
		wantCheck(t, "too many ops", r, api.ErrLong)
	}
	wantCheck(t, "1,024 of them", with(0, 0, wrong[:opsMax]...), api.ErrArg)
}

// goodRuns lists runs that may be.
func goodRuns() []api.Run {
	var l []api.Run
	for _, ops := range [][]api.Op{nil, {del("a")}, {put("a", "")}, {del("a"), put("b", "1")}, {put(of(16), of(32))}, odd(), many(127), many(128), many(opsMax)} {
		for _, n := range [][2]int{{1, 1}, {1, 2}, {127, 128}, {128, 16384}, {1, most}, {most - 1, most}, {most, most}} {
			l = append(l, with(n[0], n[1], ops...))
		}
	}
	return l
}

func TestThereAndBack(t *testing.T) {
	for _, r := range goodRuns() {
		wantCheck(t, "a run", r, api.OK)
		b, _ := run.Encode(r)
		got, e := run.Decode(b)
		if e != api.OK || !alikeRuns(got, r) {
			t.Errorf("Decode of Encode of %s: %s, %d", short(r), short(got), e)
		}
		again, e := run.Encode(got)
		if e != api.OK || !bytes.Equal(again, b) {
			t.Errorf("Encode of Decode of %s: %d bytes, %d; want %d", short(r), len(again), e, len(b))
		}
	}
}

// The longest bytes that a run has fit into a record.
func TestTheGreatestRun(t *testing.T) {
	var l []api.Op
	for i := range opsMax {
		l = append(l, put(fmt.Sprintf("%04d%012d", i, 0), of(32)))
	}
	x := with(1, most, l...)
	if b, e := run.Encode(x); e != api.OK || len(b) != 1+3+2+opsMax*51 {
		t.Errorf("%d bytes, %d", len(b), e)
	}
	d, r := flushed(t, []api.Run{x})
	wantKnown(t, "flushed", r, []api.Run{x})
	for _, o := range l {
		wantGet(t, "flushed", r, o.Key, left{o.Value, true, true})
	}
	wantKnown(t, "opened again", mustOpen(t, d), []api.Run{x})
}

func TestDecodeOfNothing(t *testing.T) {
	wantBad(t, "nil", nil)
	wantBad(t, "no bytes", []byte{})
}

func TestDecodeOfEveryFirstPart(t *testing.T) {
	for _, r := range goodRuns() {
		b := recordOf(r)
		if !wantDecode(t, "a run", b) {
			t.Fatalf("%s is no run", short(r))
		}
		step := 1 + len(b)/500
		for n := 0; n < len(b); n += step {
			wantBad(t, "a first part", b[:n])
		}
		wantBad(t, "all but a byte", b[:len(b)-1])
	}
}

func TestDecodeOfMoreBytes(t *testing.T) {
	for _, r := range goodRuns() {
		b := recordOf(r)
		for _, more := range [][]byte{{0}, {1}, {0xff}, {0, 1, 'z'}, opBytes(put("\xff\xff\xff", "z")), b} {
			wantBad(t, "more behind it", slices.Concat(b, more))
		}
	}
}

// longer answers x written in more bytes than it needs.
func longer(x, count int) []byte {
	var b []byte
	for range count - 1 {
		b = append(b, byte(x&127)|128)
		x >>= 7
	}
	return append(b, byte(x&127))
}

func TestDecodeOfNumbersThatAreTooLong(t *testing.T) {
	head := []int{3, 200, 2}
	key, value := "ab", "1"
	tail := slices.Concat(opBytes(put(key, value)), opBytes(del("b")))
	for place := range head {
		for count := 3; count < 12; count++ {
			var b []byte
			for i, x := range head {
				if i == place {
					b = append(b, longer(x, count)...)
					continue
				}
				b = binary.AppendUvarint(b, uint64(x))
			}
			wantBad(t, "a number that is too long", append(b, tail...))
		}
	}
	begin := []byte{3, 3, 1}
	for count := 2; count < 12; count++ {
		wantBad(t, "the key's length", slices.Concat(begin, []byte{1}, longer(2, count), []byte(key), []byte{1}, []byte(value)))
		wantBad(t, "the value's length", slices.Concat(begin, []byte{1, 2}, []byte(key), longer(1, count), []byte(value)))
		wantBad(t, "the kind", slices.Concat(begin, longer(1, count), []byte{2}, []byte(key), []byte{1}, []byte(value)))
	}
	if !wantDecode(t, "as it should be", slices.Concat(begin, []byte{1, 2}, []byte(key), []byte{1}, []byte(value))) {
		t.Error("it is no run")
	}
}

func TestDecodeOfRunsThatMayNotBe(t *testing.T) {
	for _, from := range edges() {
		for _, upto := range edges() {
			if from >= 1 && upto >= from && upto <= most {
				continue
			}
			// Numbers below 0 are great ones as bytes.
			wantBad(t, "numbers", recordOf(with(from, upto)))
			wantBad(t, "numbers", recordOf(with(from, upto, put("a", "1"))))
		}
	}
	for _, l := range [][]api.Op{many(opsMax + 1), many(opsMax + 2), many(2 * opsMax), {put("b", "1"), put("a", "1")}, {put("a", "1"), put("a", "1")}, {del("a"), put("a", "1")}, {del("a"), del("b"), put("a", "")}} {
		wantBad(t, "ops", recordOf(with(1, 1, l...)))
	}
	for _, o := range wronglyWritten() {
		wantBad(t, "an op that may not be", recordOf(with(1, 1, o)))
		wantBad(t, "an op that may not be behind another", recordOf(with(1, 1, put("a", ""), o)))
	}
	for mark := 2; mark < 256; mark++ {
		wantBad(t, "an op of no kind", []byte{1, 1, 1, byte(mark), 1, 'a', 0})
		wantBad(t, "an op of no kind", []byte{1, 1, 1, byte(mark), 1, 'a'})
	}
	wantBad(t, "a count of ops that are not there", []byte{1, 1, 1})
	wantBad(t, "a great count", binary.AppendUvarint([]byte{1, 1}, math.MaxUint64))
	wantBad(t, "a great count", binary.AppendUvarint([]byte{1, 1}, 1<<32))
	wantBad(t, "a great count", binary.AppendUvarint([]byte{1, 1}, 1<<63))
	wantBad(t, "fewer than there are", []byte{1, 1, 0, 0, 1, 'a'})
}

func TestDecodeOfEveryByteChanged(t *testing.T) {
	for _, r := range []api.Run{with(1, 1), with(3, 200, put("ab", "1"), del("b"), put("bb", "")), with(128, 128, odd()...), with(1, most, del("a"))} {
		b := recordOf(r)
		for i := range b {
			for x := range 256 {
				changed := slices.Clone(b)
				changed[i] = byte(x)
				wantDecode(t, "a byte changed", changed)
			}
		}
	}
}

func TestDecodeOfShortLists(t *testing.T) {
	found := 0
	for x := range 1 << 24 {
		b := [3]byte{byte(x), byte(x >> 8), byte(x >> 16)}
		r, e := run.Decode(b[:])
		// Just a run without ops has three bytes.
		fine := b[0] >= 1 && b[0] <= b[1] && b[1] < 128 && b[2] == 0
		if (e == api.OK) != fine || !fine && (e != api.ErrBad || !alikeRuns(r, api.Run{})) || fine && !alikeRuns(r, with(int(b[0]), int(b[1]))) {
			t.Fatalf("Decode(%v) = %v, %d", b, r, e)
		}
		if fine {
			found++
		}
		if x < 1<<16 {
			wantBad(t, "two bytes", b[:2])
		}
		if x < 1<<8 {
			wantBad(t, "a byte", b[:1])
		}
	}
	if found != 127*128/2 {
		t.Errorf("%d of them are runs", found)
	}
}

// Each list of up to 9 bytes that are all small.
func TestDecodeOfSmallBytes(t *testing.T) {
	for size := 4; size <= 9; size++ {
		found := 0
		for x := range 1 << (2 * size) {
			var b []byte
			for i := range size {
				b = append(b, byte(x>>(2*i)&3))
			}
			if wantDecode(t, "small bytes", b) {
				found++
			}
		}
		if size >= 6 && found == 0 {
			t.Errorf("none of %d bytes is a run", size)
		}
	}
}

func spoil(l []api.Op) {
	l = l[:cap(l)]
	for i := range l {
		l[i] = put("spoilt", "spoilt")
	}
}

// spoilAll writes over all that a list of runs has, its spare room, too.
func spoilAll(l []api.Run) {
	l = l[:cap(l)]
	for i := range l {
		spoil(l[i].Ops)
		l[i] = with(99, 99, del("spoilt"))
	}
}

// What is handed in is left as it was, its spare room, too, of runs that are refused as well.
func TestWhatIsHandedInIsLeftAlone(t *testing.T) {
	for _, size := range []int{0, 1, 3, 5} {
		for _, upto := range []int{1, 0} {
			room := slices.Concat(many(5), []api.Op{{}, put("room", ""), del("room")})
			keep := slices.Clone(room)
			x := with(1, upto, room[:size]...)
			run.Check(x)
			first, _ := run.Encode(x)
			second, _ := run.Encode(x)
			bytesOf := slices.Clone(second)
			if !slices.Equal(room, keep) {
				t.Errorf("they were written to: %v", room)
			}
			first = first[:cap(first)]
			for i := range first {
				first[i] = 0xEE
			}
			if !bytes.Equal(second, bytesOf) {
				t.Error("two answers share memory")
			}
		}
	}
}

func TestDecodeLeavesTheBytesAlone(t *testing.T) {
	x := with(1, 3, odd()...)
	whole := append(recordOf(x), recordOf(with(4, 4, many(3)...))...)
	keep := slices.Clone(whole)
	b := whole[:len(recordOf(x))]
	first, _ := run.Decode(b)
	second, _ := run.Decode(b)
	run.Decode(whole)
	if !bytes.Equal(whole, keep) {
		t.Error("they, or their spare room, were written to")
	}
	for i := range whole {
		whole[i] = 0xEE
	}
	if !alikeRuns(first, x) || !alikeRuns(second, x) {
		t.Error("the run shares memory with the bytes")
	}
	spoil(first.Ops)
	if !alikeRuns(second, x) {
		t.Error("two answers share memory")
	}
}

// turn is a row of numbers that look mixed, the same ones each time.
type turn uint64

func (r *turn) below(n int) int {
	*r = *r*6364136223846793005 + 1442695040888963407
	return int(uint64(*r) >> 33 % uint64(n))
}

// mixedOps lists ops on few keys, most of the time rising.
func mixedOps(r *turn) []api.Op {
	var l []api.Op
	for _, key := range []string{"\x00", "a", "ab", "b", "c", "cc", "\xff"} {
		switch r.below(4) {
		case 0:
			l = append(l, del(key))
		case 1:
			l = append(l, put(key, of(r.below(33))))
		}
	}
	return l
}

// mixedRun answers a run that begins at from, most of the time one that may be.
func mixedRun(r *turn, from int) api.Run {
	x := with(from, from+r.below(3), mixedOps(r)...)
	switch r.below(24) {
	case 0:
		x.From += 1 + r.below(2)
	case 1:
		x.Upto = max(0, x.From-1)
	case 2:
		slices.Reverse(x.Ops)
	case 3:
		x.Ops = append(x.Ops, wronglyWritten()[r.below(9)])
	case 4:
		x.From = max(0, x.From-1)
	case 5:
		x.Ops = append(x.Ops, put("\xff", ""))
	}
	return x
}

func TestMixedRuns(t *testing.T) {
	r := turn(13)
	fine := 0
	for range 30000 {
		x := mixedRun(&r, 1+r.below(200))
		b := recordOf(x)
		if r.below(4) == 0 {
			b[r.below(len(b))] = byte(r.below(256))
		}
		if wantDecode(t, "a mixed run", b) {
			fine++
		}
	}
	if fine < 5000 || fine > 28000 {
		t.Errorf("%d of them are runs", fine)
	}
}

// P13.2

func TestOpenOfNoDisk(t *testing.T) {
	wantNone(t, "nil", nil, api.ErrNil)
	wantNone(t, "a disk that nobody made", new(disk.Disk), api.ErrNil)
}

func TestOpenOfADiskThatIsOff(t *testing.T) {
	for _, file := range [][]byte{nil, fileOf(listOf(1, 1)...), append(fileOf(listOf(1, 1)...), 5)} {
		d := holding(t, file)
		must(t, "Write", d.Write(at, []byte{1, 2, 3}))
		must(t, "Pull", d.Pull())
		ahead := lookAt(d)
		wantNone(t, "off", d, api.ErrOff)
		wantLook(t, "off", d, ahead)
	}
}

func TestOpenOfANewDisk(t *testing.T) {
	d := disk.New()
	r := mustOpen(t, d)
	wantKnown(t, "a new disk", r, nil)
	wantLook(t, "a new disk", d, look{on: true})
}

func TestOpenOfJustRuns(t *testing.T) {
	for _, l := range someLists() {
		d := holding(t, fileOf(l...))
		ahead := lookAt(d)
		wantKnown(t, "runs", mustOpen(t, d), l)
		wantLook(t, "runs", d, ahead)

		// Without a raw step that it might do, no fuse puts it off.
		must(t, "Fuse", d.Fuse(0))
		wantKnown(t, "runs, with a fuse", mustOpen(t, d), l)
		wantLook(t, "runs, with a fuse", d, ahead)
	}
}

// What is pending counts as what the file holds, and stays pending.
func TestOpenOfRunsThatArePending(t *testing.T) {
	l := listOf(1, 1, 2, 3)
	d := holding(t, fileOf(l[:1]...))
	must(t, "Write", d.Write(at, fileOf(l[1:]...)))
	must(t, "Write", d.Write(0, []byte("pending")))
	ahead := lookAt(d)
	wantKnown(t, "pending", mustOpen(t, d), l)
	wantLook(t, "pending", d, ahead)

	must(t, "Cut", d.Cut(at, len(fileOf(l[:2]...))))
	ahead = lookAt(d)
	wantKnown(t, "a cut that is pending", mustOpen(t, d), l[:2])
	wantLook(t, "a cut that is pending", d, ahead)
}

// What stands in the other files is no run's.
func TestOpenReadsFileTwoAlone(t *testing.T) {
	d := disk.New()
	for _, other := range []int{0, 1, 3} {
		must(t, "Write", d.Write(other, fileOf(listOf(1, 1)...)))
	}
	wantKnown(t, "runs in the other files", mustOpen(t, d), nil)
}

// tornEnds lists what may stand behind the last run's frame without being one.
func tornEnds(l []api.Run) [][]byte {
	var list [][]byte
	for _, x := range []api.Run{next(l), next(l, put("a", "1")), next(l, many(4)...)} {
		whole := fileOf(x)
		for n := 1; n < len(whole); n++ {
			list = append(list, whole[:n])
		}
	}
	record := recordOf(next(l, put("a", "1")))
	return append(list,
		[]byte{0x80}, []byte{0x80, 0x80, 0x80}, bytes.Repeat([]byte{0xff}, 20),
		append([]byte{0x80 | byte(len(record)), 0}, record...),
		append(binary.AppendUvarint(nil, 131073), make([]byte, 131073)...),
		append(binary.AppendUvarint(nil, math.MaxUint64), record...),
		append(binary.AppendUvarint(nil, 1<<63), record...),
		append([]byte{byte(len(record)) + 1}, record...),
	)
}

// noRuns lists records that are no run, though one that goes on where l ends might stand there.
func noRuns(l []api.Run) [][]byte {
	n := endOf(l) + 1
	c := recordOf(next(l, put("a", "1")))
	list := [][]byte{
		{}, {0}, {7}, {1, 1}, append(slices.Clone(c), 0), append(slices.Clone(c), c...), c[:len(c)-1], c[1:], fileOf(next(l)), make([]byte, 131072),
		recordOf(with(n, n-1)), recordOf(with(n, most+1)), recordOf(with(n, n, many(opsMax+1)...)),
		recordOf(with(n, n, put("b", ""), put("a", ""))), recordOf(with(n, n, del("a"), put("a", ""))),
	}
	for _, o := range wronglyWritten() {
		list = append(list, recordOf(with(n, n, o)))
	}
	return list
}

// noFollowers lists runs that may be, but do not go on where l ends.
func noFollowers(l []api.Run) []api.Run {
	var list []api.Run
	end := endOf(l)
	for _, from := range []int{1, 2, end - 1, end, end + 2, end + 3, end + 128, most - 1, most} {
		for _, upto := range []int{from, from + 1, end, end + 1, end + 2, most} {
			if from >= 1 && from != end+1 && upto >= from && upto <= most {
				list = append(list, with(from, upto), with(from, upto, put("a", "wrong")))
			}
		}
	}
	return list
}

// tails lists what is none of the runs that stand ahead of it, though it stands in their file.
func tails(l []api.Run) [][]byte {
	list := tornEnds(l)
	for _, record := range noRuns(l) {
		list = append(list, framed(record), append(framed(record), fileOf(next(l))...))
	}
	for _, x := range noFollowers(l) {
		list = append(list, fileOf(x), fileOf(x, next(l)), fileOf(x, next([]api.Run{x})))
	}
	return list
}

func TestOpenCutsOffWhatIsNoRun(t *testing.T) {
	for _, l := range [][]api.Run{nil, listOf(1), listOf(2, 130), listOf(1, 1, 1)} {
		good := fileOf(l...)
		for _, tail := range tails(l) {
			d := holding(t, slices.Concat(good, tail))
			ahead := lookAt(d)
			r := mustOpen(t, d)
			wantKnown(t, "a tail", r, l)
			// One cut, one sync; the other files are as they were.
			ahead.steps += 2
			ahead.held[at], ahead.durable[at] = string(good), string(good)
			wantLook(t, "a tail", d, ahead)
			x := next(l, put("a", "new"))
			want(t, "Flush behind it", r.Flush(x), api.OK)
			wantDurable(t, "Flush behind it", d, slices.Concat(good, fileOf(x)))
		}
	}
}

// Behind the greatest number there is no run.
func TestOpenBehindTheGreatestNumber(t *testing.T) {
	l := listOf(1, most-1)
	for _, x := range []api.Run{with(most, most), with(most+1, most+1), with(1, 1)} {
		d := holding(t, fileOf(append(slices.Clone(l), x)...))
		wantKnown(t, "one more", mustOpen(t, d), l)
		wantDurable(t, "one more", d, fileOf(l...))
	}
}

func TestOpenCutsOffATailThatIsPending(t *testing.T) {
	l := listOf(1, 1)
	d := holding(t, fileOf(l[:1]...))
	must(t, "Write", d.Write(at, append(fileOf(l[1]), 5, 1)))
	must(t, "Write", d.Write(0, []byte("pending")))
	wantKnown(t, "a tail that is pending", mustOpen(t, d), l)
	wantDurable(t, "a tail that is pending", d, fileOf(l...))
	if d.Pending() != 0 {
		t.Errorf("pending: %d", d.Pending())
	}
}

// Where the disk goes off at the cut, or at the sync, there are no runs; started again, what was to be cut off is there, or not.
func TestOpenOfADiskThatGoesOff(t *testing.T) {
	for _, l := range [][]api.Run{nil, listOf(1), listOf(1, 3)} {
		good := fileOf(l...)
		for _, tail := range [][]byte{{9, 1}, framed([]byte{7}), fileOf(with(77, 77))} {
			file := slices.Concat(good, tail)
			for fuse := range 2 {
				d := holding(t, file)
				ahead := lookAt(d)
				must(t, "Fuse", d.Fuse(fuse))
				wantNone(t, "a fuse", d, api.ErrOff)
				if d.On() || d.Pending() != fuse || d.Steps() != ahead.steps+fuse {
					t.Errorf("fuse %d: on %v, pending %d, %d steps", fuse, d.On(), d.Pending(), d.Steps()-ahead.steps)
				}
				wantDurable(t, "a fuse", d, file)
				wantNone(t, "off", d, api.ErrOff)
				must(t, "Start", d.Start(fuse, 0))
				wantHeld(t, "started", d, [][]byte{file, good}[fuse])
				wantKnown(t, "started", mustOpen(t, d), l)
				wantDurable(t, "opened", d, good)
			}
			d := holding(t, file)
			must(t, "Fuse", d.Fuse(2))
			wantKnown(t, "a fuse of 2", mustOpen(t, d), l)
			if !d.On() {
				t.Error("a fuse of 2: it is off")
			}
		}
	}
}

// mixedFile answers frames of runs, most of which follow, with some bytes changed or cut off.
func mixedFile(r *turn) []byte {
	var b []byte
	from := 1
	for range 1 + r.below(8) {
		x := mixedRun(r, from)
		from = x.Upto + 1
		b = append(b, fileOf(x)...)
		if r.below(20) == 0 {
			b = append(b, framed(bytes.Repeat([]byte{1}, r.below(12)))...)
		}
	}
	if r.below(3) == 0 {
		b[r.below(len(b))] = byte(r.below(256))
	}
	if r.below(3) == 0 {
		b = b[:r.below(len(b)+1)]
	}
	return b
}

func TestOpenOfMixedFiles(t *testing.T) {
	r := turn(132)
	var lengths [16]int
	for range 6000 {
		file := mixedFile(&r)
		d := holding(t, file)
		steps := d.Steps()
		l, good := told(file)
		lengths[len(l)]++
		wantKnown(t, "a mixed file", mustOpen(t, d), l)
		wantDurable(t, "a mixed file", d, file[:good])
		if cut := d.Steps() - steps; cut != 0 && cut != 2 || (cut == 0) != (good == len(file)) {
			t.Errorf("%v: %d raw steps", file, cut)
		}
	}
	if lengths[0] == 0 || lengths[1] == 0 || lengths[5] == 0 {
		t.Errorf("too few lengths: %v", lengths)
	}
}

func TestOpenOfEveryByteChanged(t *testing.T) {
	file := fileOf(with(1, 1, put("a", "1")), with(2, 3), with(4, 4, del("a"), put("b", "")))
	for i := range file {
		for x := range 256 {
			b := slices.Clone(file)
			b[i] = byte(x)
			l, good := told(b)
			d := holding(t, b)
			if got := mustOpen(t, d).List(); !alike(got, l) {
				t.Errorf("byte %d is %d: %v; want %v", i, x, got, l)
			}
			wantDurable(t, "a byte changed", d, b[:good])
		}
	}
}

func TestOpenOfVeryManyRuns(t *testing.T) {
	var l []api.Run
	for n := 1; n <= 1<<16; n++ {
		l = append(l, with(n, n, put(fmt.Sprint(n%1000), fmt.Sprint(n))))
	}
	d := disk.New()
	must(t, "Write", d.Write(at, fileOf(l...)))
	r := mustOpen(t, d)
	if r.End() != 1<<16 || !alike(r.List(), l) {
		t.Errorf("End %d", r.End())
	}
	wantGet(t, "the last one", r, "536", left{"65536", true, true})
	wantGet(t, "one ahead", r, "537", left{"64537", true, true})
	want(t, "Flush", r.Flush(next(l)), api.OK)
}

// P13.3

func TestNoRunsRefuse(t *testing.T) {
	var none *run.Runs
	for _, r := range []*run.Runs{none, new(run.Runs), {}} {
		for _, x := range []api.Run{with(1, 1), with(1, 2, put("a", "1")), with(2, 2), with(0, 0), {}, with(1, 1, many(opsMax+1)...)} {
			want(t, "Flush", r.Flush(x), api.ErrNil)
		}
	}
}

func TestFlushWritesFramesDurably(t *testing.T) {
	for _, l := range someLists() {
		d := disk.New()
		r := mustOpen(t, d)
		steps := 0
		for i, x := range l {
			want(t, "Flush", r.Flush(x), api.OK)
			wantHeld(t, "Flush", d, fileOf(l[:i+1]...))
			wantDurable(t, "Flush", d, fileOf(l[:i+1]...))
			steps += rawWrites(len(fileOf(x))) + 1
			if d.Pending() != 0 || d.Steps() != steps {
				t.Errorf("run %d: %d pending, %d steps, want %d", i, d.Pending(), d.Steps(), steps)
			}
			wantKnown(t, "Flush", r, l[:i+1])
		}
		must(t, "Pull", d.Pull())
		must(t, "Start", d.Start(0, 0))
		wantKnown(t, "opened again", mustOpen(t, d), l)
	}
}

func TestFlushLeavesTheOtherFilesAlone(t *testing.T) {
	l := listOf(1, 2)
	d := holding(t, fileOf(l...))
	r := mustOpen(t, d)
	must(t, "Write", d.Write(3, []byte("pending")))
	ahead := lookAt(d)
	must(t, "Flush", r.Flush(next(l, many(5)...)))
	now := lookAt(d)
	for _, other := range []int{0, 1, 3} {
		// The sync is the whole disk's.
		if now.held[other] != ahead.held[other] || now.durable[other] != ahead.held[other] {
			t.Errorf("file %d held %q and holds %q, durable %q", other, ahead.held[other], now.held[other], now.durable[other])
		}
	}
}

// wrong is a run that may not be, and why.
type wrong struct {
	x api.Run
	e api.Errno
}

// wrongs lists runs that may not be, whether they go on where l ends or not.
func wrongs(l []api.Run) []wrong {
	var list []wrong
	for _, from := range []int{endOf(l) + 1, endOf(l) + 2, 1, most} {
		list = append(list,
			wrong{with(from, from-1), api.ErrArg}, wrong{with(from, 0), api.ErrArg}, wrong{with(from, -1), api.ErrArg}, wrong{with(from, most+1), api.ErrArg},
			wrong{with(from, math.MaxInt), api.ErrArg}, wrong{with(from, math.MinInt), api.ErrArg},
			wrong{with(from, most, many(opsMax+1)...), api.ErrLong}, wrong{with(from, from-1, many(opsMax+1)...), api.ErrLong},
			wrong{with(from, most, put("b", ""), put("a", "")), api.ErrArg}, wrong{with(from, most, put("a", ""), del("a")), api.ErrArg})
		for _, o := range wrongOps() {
			list = append(list, wrong{with(from, most, o), api.ErrArg})
		}
	}
	for _, from := range []int{0, -1, most + 1, math.MinInt, math.MaxInt} {
		list = append(list, wrong{with(from, from), api.ErrArg}, wrong{with(from, most), api.ErrArg}, wrong{with(from, most, many(opsMax+1)...), api.ErrLong})
	}
	return list
}

func TestFlushOfWhatMayNotBe(t *testing.T) {
	for _, l := range [][]api.Run{nil, listOf(1), listOf(3, 3, 4)} {
		d, r := flushed(t, l)
		ahead := lookAt(d)
		for _, w := range wrongs(l) {
			want(t, fmt.Sprintf("%d runs: Flush(%s)", len(l), short(w.x)), r.Flush(w.x), w.e)
			wantLook(t, "refused", d, ahead)
		}
		wantKnown(t, "refused", r, l)
		want(t, "Flush behind all of them", r.Flush(next(l)), api.OK)
	}
}

func TestFlushOfWhatDoesNotGoOn(t *testing.T) {
	for _, l := range someLists() {
		d, r := flushed(t, l)
		ahead := lookAt(d)
		for _, x := range noFollowers(l) {
			want(t, fmt.Sprintf("%d runs: Flush(%v)", len(l), x), r.Flush(x), api.ErrOrder)
			wantLook(t, "refused", d, ahead)
		}
		wantKnown(t, "refused", r, l)
		if endOf(l) < most {
			x := with(endOf(l)+1, most)
			want(t, "Flush behind all of them", r.Flush(x), api.OK)
			wantKnown(t, "Flush behind all of them", r, append(slices.Clone(l), x))
		}
	}
}

// Runs whose end is the greatest number there is take no more.
func TestFlushBehindTheGreatestNumber(t *testing.T) {
	for _, l := range [][]api.Run{listOf(most), listOf(1, most-1), listOf(most-1, 1)} {
		d, r := flushed(t, l)
		ahead := lookAt(d)
		want(t, "Flush of 1048577", r.Flush(with(most+1, most+1)), api.ErrArg)
		want(t, "Flush of 1048576 again", r.Flush(with(most, most)), api.ErrOrder)
		want(t, "Flush of 1 again", r.Flush(with(1, most)), api.ErrOrder)
		wantKnown(t, "refused", r, l)
		wantLook(t, "refused", d, ahead)
	}
}

// What was handed to Flush is not kept: what is done to it later is seen nowhere.
func TestFlushKeepsNothingOfTheCallers(t *testing.T) {
	d := disk.New()
	r := mustOpen(t, d)
	room := []api.Op{put("a", "1"), del("b"), put("room", ""), put("room", "")}
	keep := slices.Clone(room)
	x := with(1, 1, room[:2]...)
	must(t, "Flush", r.Flush(x))
	if !slices.Equal(room, keep) {
		t.Errorf("it was changed: %v", room)
	}
	spoil(x.Ops)
	l := []api.Run{with(1, 1, put("a", "1"), del("b"))}
	wantKnown(t, "overwritten", r, l)
	wantHeld(t, "overwritten", d, fileOf(l...))
}

// Runs are broken by a Flush in which their disk is off; they stay so when the disk is on again.
func TestADiskThatIsOffBreaksTheRuns(t *testing.T) {
	for _, l := range [][]api.Run{nil, listOf(1), listOf(1, 2, 2)} {
		for name, x := range map[string]api.Run{
			"one that goes on":             next(l, put("a", "1")),
			"one that does not go on":      with(most-1, most),
			"one that may not be":          with(0, 0),
			"one with too many ops":        next(l, many(opsMax+1)...),
			"one with an op that is wrong": next(l, put("", "")),
			"nothing":                      {},
		} {
			d, r := flushed(t, l)
			must(t, "Pull", d.Pull())
			ahead := lookAt(d)
			want(t, name, r.Flush(x), api.ErrOff)
			wantKnown(t, name, r, l)
			wantLook(t, name, d, ahead)
			must(t, "Start", d.Start(0, 0))
			want(t, name+", on again", r.Flush(x), api.ErrOff)
			wantBroken(t, name, d, r, l)
			wantKnown(t, "opened again", mustOpen(t, d), l)
			wantBroken(t, name+", opened again", d, r, l)
		}
	}
}

// A disk that goes off at a raw write of a frame, or at the sync behind them, leaves the raw writes ahead pending, and the runs that are known as they were.
func TestFlushToADiskThatGoesOff(t *testing.T) {
	for _, l := range [][]api.Run{nil, listOf(1), listOf(1, 2, 2)} {
		for _, x := range []api.Run{next(l), next(l, put("a", "1")), next(l, many(6)...)} {
			frame := fileOf(x)
			raws := rawWrites(len(frame))
			for fuse := range raws + 1 {
				for k := range fuse + 2 {
					d, r := flushed(t, l)
					must(t, "Fuse", d.Fuse(fuse))
					want(t, "Flush", r.Flush(x), api.ErrOff)
					if d.On() || d.Pending() != fuse {
						t.Errorf("fuse %d: on %v, pending %d", fuse, d.On(), d.Pending())
					}
					wantKnown(t, "Flush", r, l)
					wantDurable(t, "Flush", d, fileOf(l...))
					must(t, "Start", d.Start(k, 0))
					part := frame[:min(k*raw, fuse*raw, len(frame))]
					wantHeld(t, "started", d, append(fileOf(l...), part...))
					wantBroken(t, "Flush", d, r, l)
					// It stands, though it was refused, if all its raw writes do.
					known := l
					if len(part) == len(frame) {
						known = append(slices.Clone(l), x)
					}
					wantKnown(t, "opened again", mustOpen(t, d), known)
				}
			}
			d, r := flushed(t, l)
			must(t, "Fuse", d.Fuse(raws+1))
			want(t, "Flush, with a fuse that is long enough", r.Flush(x), api.OK)
			wantKnown(t, "Flush", r, append(slices.Clone(l), x))
			wantDurable(t, "Flush", d, fileOf(append(slices.Clone(l), x)...))
		}
	}
}

// The greatest run, cut off at each of its raw steps.
func TestFlushOfTheGreatestRunCutOff(t *testing.T) {
	l := listOf(2)
	x := next(l, many(opsMax)...)
	raws := rawWrites(len(fileOf(x)))
	for fuse := range raws + 1 {
		d, r := flushed(t, l)
		must(t, "Fuse", d.Fuse(fuse))
		want(t, "Flush", r.Flush(x), api.ErrOff)
		if r.End() != 2 || d.Pending() != fuse {
			t.Errorf("fuse %d: End %d, pending %d", fuse, r.End(), d.Pending())
		}
		must(t, "Start", d.Start(fuse, 0))
		want(t, "Flush, broken", r.Flush(x), api.ErrOff)
		again := mustOpen(t, d)
		if fuse == raws {
			wantKnown(t, "opened again", again, append(slices.Clone(l), x))
			continue
		}
		wantKnown(t, "opened again", again, l)
		wantDurable(t, "opened again", d, fileOf(l...))
	}
}

// A disk that was off between two calls, and in none, breaks nothing; nor do the calls that ask nothing of it.
func TestADiskThatWasOffInNoCall(t *testing.T) {
	l := listOf(1, 1, 2)
	d, r := flushed(t, l)
	must(t, "Pull", d.Pull())
	wantKnown(t, "off", r, l)
	must(t, "Start", d.Start(0, 0))
	want(t, "Flush", r.Flush(next(l)), api.OK)
	wantKnown(t, "on again", r, append(slices.Clone(l), next(l)))
}

// A refusal for another reason does not break the runs.
func TestARefusalDoesNotBreakTheRuns(t *testing.T) {
	d, r := flushed(t, listOf(2))
	want(t, "Flush", r.Flush(with(2, 3)), api.ErrOrder)
	want(t, "Flush", r.Flush(with(3, 2)), api.ErrArg)
	want(t, "Flush", r.Flush(with(3, 3, many(opsMax+1)...)), api.ErrLong)
	want(t, "Flush", r.Flush(with(3, 3)), api.OK)
	wantHeld(t, "behind refusals", d, fileOf(append(listOf(2), with(3, 3))...))
}

// P13.4

func TestNoRunsTellNothing(t *testing.T) {
	var none *run.Runs
	for _, r := range []*run.Runs{none, new(run.Runs)} {
		if r.End() != 0 || len(r.List()) != 0 {
			t.Errorf("%d, %v", r.End(), r.List())
		}
		for _, key := range []string{"", "a", of(16), of(17)} {
			wantGet(t, "none", r, key, left{})
		}
	}
}

func TestGet(t *testing.T) {
	_, r := flushed(t, []api.Run{
		with(1, 1, put("b", "1"), put("d", "1"), put("f", "1"), put("h", "1"), del("j")),
		with(2, 5, put("d", "2"), del("f"), del("h"), put("j", "")),
		with(6, 6),
		with(7, 7, del("d"), put("h", "3")),
		with(8, 9, put("d", "4"), put("m", "4")),
	})
	for key, x := range map[string]left{
		"b": {"1", true, true}, // one run has it
		"d": {"4", true, true}, // several: deleted, and put again by the last one
		"f": {"", true, false}, // deleted by the last one
		"h": {"3", true, true}, // deleted, put again by a later one
		"j": {"", true, true},  // first a delete, then a put of no bytes
		"m": {"4", true, true}, // the last one alone
		"a": {}, "c": {}, "e": {}, "g": {}, "i": {}, "k": {}, "n": {}, "dd": {}, "": {}, "b\x00": {}, of(17): {}, "\xff": {},
	} {
		wantGet(t, "several runs", r, key, x)
	}
	_, r = flushed(t, listOf(1, 1, 1, 1, 1))
	wantGet(t, "below all keys", r, "\x00\x00\x00", left{})
	wantGet(t, "above all keys", r, "\xff\xff\xff", left{})
}

// Each key of runs of each size up to the greatest is found, and no other one.
func TestGetOfEachKey(t *testing.T) {
	all := many(opsMax)
	for _, size := range []int{0, 1, 2, 3, 4, 5, 7, 8, 9, 15, 16, 17, 100, 255, 256, 257, 1000, 1023, opsMax} {
		_, r := flushed(t, []api.Run{with(1, 1, all[:size]...)})
		for i, o := range all {
			x := left{o.Value, true, o.Put}
			if i >= size {
				x = left{}
			}
			wantGet(t, "a key", r, o.Key, x)
			wantGet(t, "a key below it", r, o.Key[:15], left{})
			wantGet(t, "a key above it", r, o.Key[:15]+"1", left{})
		}
	}
}

func TestTellingOfRuns(t *testing.T) {
	for _, l := range someLists() {
		_, r := flushed(t, l)
		wantKnown(t, "flushed", r, l)
		wantKnown(t, "read", mustOpen(t, holding(t, fileOf(l...))), l)
	}
	_, r := flushed(t, listOf(3, 1, 4))
	if r.End() != 8 || len(r.List()) != 3 {
		t.Errorf("%d, %v", r.End(), r.List())
	}
}

func TestWhatIsToldIsNewMemory(t *testing.T) {
	l := listOf(1, 1, 2, 2, 5)
	_, second := flushed(t, l)
	for _, r := range []*run.Runs{mustOpen(t, holding(t, fileOf(l...))), second} {
		first, other := r.List(), r.List()
		spoilAll(first)
		wantKnown(t, "overwritten", r, l)
		if !alike(other, l) {
			t.Error("two answers of List share memory")
		}
		for i := range other {
			spoil(other[i].Ops)
			if !alike(other[i+1:], l[i+1:]) {
				t.Errorf("the ops of the runs behind %d share memory with its own", i)
			}
		}
		wantKnown(t, "overwritten", r, l)
	}
}

// What was told ahead is not changed by what is done to the runs later.
func TestWhatWasToldStays(t *testing.T) {
	l := listOf(1, 1, 2, 2, 5)
	_, r := flushed(t, l)
	list := r.List()
	must(t, "Flush", r.Flush(next(l, many(3)...)))
	if !alike(list, l) {
		t.Errorf("%v", list)
	}
}

func TestRunsAreApart(t *testing.T) {
	_, a := flushed(t, listOf(1))
	d, b := flushed(t, listOf(4, 4))
	must(t, "Pull", d.Pull())
	want(t, "Flush of the one that is off", b.Flush(with(9, 9)), api.ErrOff)
	want(t, "Flush of the other", a.Flush(with(2, 2)), api.OK)
	wantKnown(t, "the other", a, append(listOf(1), with(2, 2)))
	wantKnown(t, "the one that is off", b, listOf(4, 4))
}

// P13.5

// Get tells what a table tells to which all runs' ops were applied, in order.
func TestGetTellsWhatATableTells(t *testing.T) {
	m := turn(135)
	for range 600 {
		d := disk.New()
		r := mustOpen(t, d)
		tab := table.New()
		from := 1
		for range m.below(12) {
			x := with(from, from+m.below(5), mixedOps(&m)...)
			from = x.Upto + 1
			must(t, "Flush", r.Flush(x))
			must(t, "Apply", tab.Apply(x.Ops...))
		}
		again := mustOpen(t, d)
		for _, key := range []string{"", "\x00", "a", "ab", "abc", "b", "c", "cc", "d", "\xff", of(17)} {
			value, met, there := tab.Get(key)
			wantGet(t, "as a table", r, key, left{value, met, there})
			wantGet(t, "as a table, opened again", again, key, left{value, met, there})
		}
	}
}

// acts lists what is flushed in a script, told by where the runs end.
func acts() []func(from int) api.Run {
	return []func(from int) api.Run{
		func(from int) api.Run { return with(from, from) },
		func(from int) api.Run { return with(from, from+1, put("a", fmt.Sprint(from)), del("b")) },
		func(from int) api.Run { return with(from, from+130, many(3)...) },
		func(from int) api.Run { return with(from, from, del("a"), put("b", of(32))) },
	}
}

// scripts lists all scripts of at most count flushes, each told by its place in acts.
func scripts(count int) [][]int {
	all := [][]int{nil}
	for i := 0; len(all[i]) < count; i++ {
		for a := range acts() {
			all = append(all, append(slices.Clone(all[i]), a))
		}
	}
	return all
}

// play flushes what the script says, behind l, till the disk goes off, or till its end: it answers the runs whose Flush was answered OK, and the one, if there is one, at which the disk went off.
func play(t *testing.T, d *disk.Disk, script []int, l []api.Run) ([]api.Run, []api.Run) {
	t.Helper()
	r := mustOpen(t, d)
	l = slices.Clone(l)
	for _, a := range script {
		x := acts()[a](endOf(l) + 1)
		e := r.Flush(x)
		if e == api.ErrOff {
			wantKnown(t, "off", r, l)
			return l, []api.Run{x}
		}
		must(t, "Flush", e)
		l = append(l, x)
		wantKnown(t, "Flush", r, l)
	}
	return l, nil
}

// wantAgain: behind Start(k, torn) the runs l are there again, and the one at which the disk went off just if all its raw writes stand; a further Open changes nothing.
func wantAgain(t *testing.T, d *disk.Disk, l, last []api.Run, k, torn int) []api.Run {
	t.Helper()
	done := d.Pending()
	if len(last) == 0 {
		must(t, "Pull", d.Pull())
	}
	must(t, "Start", d.Start(k, torn))
	if size := len(fileOf(last...)); size > 0 && min(k, done) == rawWrites(size) {
		l = append(slices.Clone(l), last...)
	}
	wantKnown(t, "opened", mustOpen(t, d), l)
	wantDurable(t, "opened", d, fileOf(l...))
	ahead := lookAt(d)
	wantKnown(t, "opened again", mustOpen(t, d), l)
	wantLook(t, "opened again", d, ahead)
	return l
}

// Each script of a few flushes, cut off at each raw step, with each way in which the disk may keep what is pending.
func TestWhatStandsBehindAPowerCut(t *testing.T) {
	for _, script := range scripts(3) {
		d := disk.New()
		play(t, d, script, nil)
		steps := d.Steps()
		for fuse := range steps + 1 {
			for k := 0; ; k++ {
				pending := 0
				for _, torn := range []int{0, 1, 2, 9, 33, 62, 63, 64, 1000} {
					d := disk.New()
					must(t, "Fuse", d.Fuse(fuse))
					l, last := play(t, d, script, nil)
					pending = d.Pending()
					wantAgain(t, d, l, last, k, torn)
				}
				if k >= pending {
					break
				}
			}
			if t.Failed() {
				t.Fatalf("script %v, fuse %d", script, fuse)
			}
		}
	}
}

// Long mixed scripts, with power cuts on the way, some of them while the runs are opened.
func TestMixedScripts(t *testing.T) {
	m := turn(136)
	for range 300 {
		d := disk.New()
		var l []api.Run
		for range 10 {
			var script []int
			for range m.below(5) {
				script = append(script, m.below(4))
			}
			if m.below(2) == 0 {
				must(t, "Fuse", d.Fuse(m.below(14)))
			}
			var last []api.Run
			l, last = play(t, d, script, l)
			if len(last) > 0 && m.below(2) == 0 {
				cutWhileOpening(t, d, &m, len(fileOf(l...)))
				last = nil
			}
			l = wantAgain(t, d, l, last, m.below(8), m.below(raw))
		}
		if t.Failed() {
			return
		}
	}
}

// cutWhileOpening starts the disk so that at most a part of a frame stands behind the good length, and lets it go off while it is opened; then it is started again, and the torn end is gone, or not.
func cutWhileOpening(t *testing.T, d *disk.Disk, m *turn, good int) {
	t.Helper()
	must(t, "Start", d.Start(0, m.below(5)))
	torn := len(d.Durable(at)) > good
	must(t, "Fuse", d.Fuse(m.below(2)))
	_, e := run.Open(d)
	if (e == api.ErrOff) != torn || d.On() == torn {
		t.Errorf("torn %v: Open answers %d, and the disk is on: %v", torn, e, d.On())
	}
	if torn {
		must(t, "Start", d.Start(m.below(2), 0))
	}
}

// FuzzDecode holds Decode, and Open, against the second telling.
func FuzzDecode(f *testing.F) {
	f.Add([]byte{})
	f.Add(recordOf(with(1, 2, del("a"), put("b", "1"))))
	f.Add(fileOf(listOf(1, 1, 2, 2)...))
	f.Add(append(fileOf(with(1, 1)), 9, 1, 2))
	f.Add(fileOf(with(1, 1), with(3, 3)))
	f.Fuzz(func(t *testing.T, b []byte) {
		wantDecode(t, "any bytes", b)
		l, good := told(b)
		d := holding(t, b)
		r := mustOpen(t, d)
		wantKnown(t, "any bytes", r, l)
		wantDurable(t, "any bytes", d, b[:good])
		if endOf(l) < most {
			want(t, "Flush", r.Flush(next(l)), api.OK)
		}
	})
}
