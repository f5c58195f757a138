package disk_test

import (
	"bytes"
	"math"
	"strconv"
	"testing"

	"lagleash/api"
	"lagleash/disk"
)

const (
	files = 4  // of a disk, as the document writes it
	raw   = 64 // bytes of a raw write, at most
)

// noFiles lists what is no file's number.
func noFiles() []int { return []int{-1, 4, 5, -4, 256, 1 << 32, math.MinInt, math.MaxInt} }

// belowNought lists numbers below 0.
func belowNought() []int { return []int{-1, -2, -64, math.MinInt} }

// some answers count bytes that can be told, of which those at nearby places differ.
func some(count int) []byte {
	b := make([]byte, count)
	for i := range b {
		b[i] = byte('0' + i%71)
	}
	return b
}

// rawWrites answers how many raw writes count bytes are.
func rawWrites(count int) int {
	n := 0
	for ; count > 0; count -= raw {
		n++
	}
	return n
}

func want(t *testing.T, what string, got, e api.Errno) {
	t.Helper()
	if got != e {
		t.Errorf("%s: %d, not %d", what, got, e)
	}
}

// must stops a test whose ground is gone.
func must(t *testing.T, what string, got api.Errno) {
	t.Helper()
	if got != api.OK {
		t.Fatalf("%s: %d", what, got)
	}
}

func wantHeld(t *testing.T, d *disk.Disk, file int, held string) {
	t.Helper()
	b, e := d.Read(file)
	if e != api.OK || string(b) != held {
		t.Errorf("Read(%d) = %q, %d; want %q", file, b, e, held)
	}
}

func wantDurable(t *testing.T, d *disk.Disk, file int, durable string) {
	t.Helper()
	if b := d.Durable(file); string(b) != durable {
		t.Errorf("Durable(%d) = %q; want %q", file, b, durable)
	}
}

// look is what the calls that change nothing tell of a disk.
type look struct {
	on      bool
	pending int
	steps   int
	errs    [files]api.Errno
	held    [files]string
	durable [files]string
}

func lookAt(d *disk.Disk) look {
	l := look{on: d.On(), pending: d.Pending(), steps: d.Steps()}
	for file := range files {
		b, e := d.Read(file)
		l.held[file], l.errs[file] = string(b), e
		l.durable[file] = string(d.Durable(file))
	}
	return l
}

// wantUnchanged: the call answers e, and nothing has changed by it.
func wantUnchanged(t *testing.T, what string, d *disk.Disk, call func() api.Errno, e api.Errno) {
	t.Helper()
	ahead := lookAt(d)
	want(t, what, call(), e)
	if now := lookAt(d); now != ahead {
		t.Errorf("%s: it was\n%+v and is\n%+v", what, ahead, now)
	}
}

// full answers a disk that is on, each of whose files has durable bytes; nothing is pending.
func full(t *testing.T) *disk.Disk {
	t.Helper()
	d := disk.New()
	for file := range files {
		must(t, "Write", d.Write(file, []byte("durable"+strconv.Itoa(file))))
	}
	must(t, "Sync", d.Sync())
	return d
}

// busy answers a disk that is on, with durable bytes, and with raw writes and a cut pending.
func busy(t *testing.T) *disk.Disk {
	t.Helper()
	d := full(t)
	must(t, "Write", d.Write(0, some(100)))
	must(t, "Cut", d.Cut(1, 3))
	must(t, "Write", d.Write(1, []byte("new")))
	return d
}

// off answers a disk that was pulled, with as much pending as a busy one.
func off(t *testing.T) *disk.Disk {
	t.Helper()
	d := busy(t)
	must(t, "Pull", d.Pull())
	return d
}

// The chapter's examples, one behind the other at one disk.
func TestExamples(t *testing.T) {
	d := disk.New()
	b := some(70)
	want(t, "Write(0, 70 bytes)", d.Write(0, b), api.OK)
	if d.Pending() != 2 {
		t.Errorf("Pending: %d", d.Pending())
	}
	want(t, "Pull", d.Pull(), api.OK)
	want(t, "Start(1, 3)", d.Start(1, 3), api.OK)
	wantHeld(t, d, 0, string(b[:67]))
	want(t, "Fuse(1)", d.Fuse(1), api.OK)
	want(t, "Write(1, a)", d.Write(1, []byte("a")), api.OK)
	want(t, "Sync", d.Sync(), api.ErrOff)
	if d.On() {
		t.Error("it is on")
	}
	want(t, "Start(0, 0)", d.Start(0, 0), api.OK)
	wantHeld(t, d, 1, "")
	if d.Steps() != 3 {
		t.Errorf("Steps: %d", d.Steps())
	}
	want(t, "Cut(0, 68)", d.Cut(0, 68), api.ErrArg)
	want(t, "Cut(4, 0)", d.Cut(4, 0), api.ErrArg)
	want(t, "Start(0, 0) of a disk that is on", d.Start(0, 0), api.ErrArg)
	want(t, "Write(0, none)", d.Write(0, nil), api.OK)
	if d.Pending() != 0 {
		t.Errorf("Pending: %d", d.Pending())
	}
}

// P5.1

func TestNew(t *testing.T) {
	if got := lookAt(disk.New()); got != (look{on: true}) {
		t.Errorf("a new disk: %+v", got)
	}
}

func TestNewHasNoFuse(t *testing.T) {
	d := disk.New()
	for i := range 1000 {
		if e := d.Write(i%files, []byte{1}); e != api.OK {
			t.Fatalf("raw step %d: %d", i, e)
		}
	}
	want(t, "Sync", d.Sync(), api.OK)
	if !d.On() || d.Steps() != 1001 {
		t.Errorf("on: %v, %d steps", d.On(), d.Steps())
	}
}

func TestNewDisksAreApart(t *testing.T) {
	a, b := disk.New(), disk.New()
	must(t, "Write", a.Write(0, []byte("abc")))
	must(t, "Sync", a.Sync())
	must(t, "Pull", a.Pull())
	if got := lookAt(b); got != (look{on: true}) {
		t.Errorf("the other disk: %+v", got)
	}
}

// P5.2

func sizes() []int {
	return []int{0, 1, 2, 63, 64, 65, 127, 128, 129, 191, 192, 193, 1000, 100000}
}

func TestWriteOfEachSize(t *testing.T) {
	for _, size := range sizes() {
		for file := range files {
			d := full(t)
			ahead := lookAt(d)
			b := some(size)
			want(t, "Write", d.Write(file, b), api.OK)
			then := ahead
			then.pending = rawWrites(size)
			then.steps = ahead.steps + rawWrites(size)
			then.held[file] = ahead.held[file] + string(b)
			if now := lookAt(d); now != then {
				t.Errorf("%d bytes into the file %d: %d pending, %d steps, on %v, or a file is another", size, file, now.pending, now.steps, now.on)
			}
		}
	}
}

// Where a raw write ends is seen by how much stands of those ahead of a cut.
func TestWriteIsCutInRawWrites(t *testing.T) {
	for _, size := range []int{0, 1, 63, 64, 65, 128, 129, 200} {
		for k := range rawWrites(size) + 2 {
			d := disk.New()
			must(t, "Write", d.Write(2, some(size)))
			must(t, "Pull", d.Pull())
			must(t, "Start", d.Start(k, 0))
			wantHeld(t, d, 2, string(some(size)[:min(k*raw, size)]))
		}
	}
}

func TestWriteOfEachByte(t *testing.T) {
	d := disk.New()
	var b []byte
	for i := range 256 {
		b = append(b, byte(i))
	}
	must(t, "Write", d.Write(0, b))
	wantHeld(t, d, 0, string(b))
	must(t, "Sync", d.Sync())
	wantDurable(t, d, 0, string(b))
}

func TestWritesAreNotPutTogether(t *testing.T) {
	d := disk.New()
	for i := range 10 {
		must(t, "Write", d.Write(i%2, []byte{byte('a' + i)}))
		if d.Pending() != i+1 || d.Steps() != i+1 {
			t.Errorf("behind %d writes of a byte: %d pending, %d steps", i+1, d.Pending(), d.Steps())
		}
	}
	wantHeld(t, d, 0, "acegi")
	wantHeld(t, d, 1, "bdfhj")
}

func TestWriteIntoNoFile(t *testing.T) {
	for _, d := range []*disk.Disk{disk.New(), full(t), busy(t)} {
		for _, file := range noFiles() {
			for _, size := range []int{0, 1, 64, 65} {
				wantUnchanged(t, "Write("+strconv.Itoa(file)+")", d, func() api.Errno { return d.Write(file, some(size)) }, api.ErrArg)
			}
		}
	}
}

func TestWriteIntoADiskThatIsOff(t *testing.T) {
	d := off(t)
	for _, file := range append(noFiles(), 0, 1, 2, 3) {
		for _, size := range []int{0, 1, 64, 65} {
			wantUnchanged(t, "Write", d, func() api.Errno { return d.Write(file, some(size)) }, api.ErrOff)
		}
	}
}

// With a fuse that ends ahead of each raw write of one call: those ahead are done.
func TestWriteWithAFuse(t *testing.T) {
	for _, size := range []int{1, 63, 64, 65, 128, 129, 192, 320, 321} {
		for fuse := range rawWrites(size) {
			d := full(t)
			ahead := lookAt(d)
			must(t, "Fuse", d.Fuse(fuse))
			want(t, "Write", d.Write(0, some(size)), api.ErrOff)
			if d.On() || d.Pending() != fuse || d.Steps() != ahead.steps+fuse {
				t.Errorf("%d bytes, fuse %d: on %v, %d pending, %d steps", size, fuse, d.On(), d.Pending(), d.Steps())
			}
			wantDurable(t, d, 0, ahead.durable[0])
			must(t, "Start", d.Start(fuse+1, 9))
			wantHeld(t, d, 0, ahead.held[0]+string(some(size)[:fuse*raw]))
		}
	}
}

func TestWriteWithAFuseThatIsLongEnough(t *testing.T) {
	for _, size := range sizes() {
		d := disk.New()
		must(t, "Fuse", d.Fuse(rawWrites(size)))
		want(t, "Write", d.Write(3, some(size)), api.OK)
		wantHeld(t, d, 3, string(some(size)))
		want(t, "Sync behind it", d.Sync(), api.ErrOff)
	}
}

// No raw step is asked of the fuse.
func TestNoRawWriteAtTheEndOfAFuse(t *testing.T) {
	d := full(t)
	must(t, "Fuse", d.Fuse(0))
	for _, b := range [][]byte{nil, {}, some(9)[:0]} {
		wantUnchanged(t, "Write of no bytes", d, func() api.Errno { return d.Write(1, b) }, api.OK)
	}
	wantUnchanged(t, "Write into no file", d, func() api.Errno { return d.Write(4, some(1)) }, api.ErrArg)
	wantUnchanged(t, "Cut of no file", d, func() api.Errno { return d.Cut(4, 0) }, api.ErrArg)
	wantUnchanged(t, "Cut above what it holds", d, func() api.Errno { return d.Cut(0, 99) }, api.ErrArg)
	want(t, "a raw write", d.Write(1, some(1)), api.ErrOff)
}

func TestWriteLeavesWhatIsHandedIn(t *testing.T) {
	for _, size := range []int{0, 1, 63, 64, 65, 129, 200} {
		d := full(t)
		whole := some(size + 200)
		must(t, "Write", d.Write(0, whole[:size]))
		must(t, "Write", d.Write(0, []byte("behind it")))
		must(t, "Sync", d.Sync())
		must(t, "Cut", d.Cut(0, 1))
		must(t, "Write", d.Write(0, some(100)))
		if !bytes.Equal(whole, some(size+200)) {
			t.Errorf("%d bytes, or their spare room, were changed", size)
		}
	}
}

func TestWriteKeepsNothingOfWhatIsHandedIn(t *testing.T) {
	for _, size := range []int{1, 63, 64, 65, 129, 200} {
		for _, synced := range []bool{false, true} {
			d := disk.New()
			whole := some(size + 200)
			must(t, "Write", d.Write(0, whole[:size]))
			if synced {
				must(t, "Sync", d.Sync())
			}
			overwrite(whole)
			wantHeld(t, d, 0, string(some(size)))
			must(t, "Sync", d.Sync())
			overwrite(whole)
			wantDurable(t, d, 0, string(some(size)))
		}
	}
}

func TestATornWriteKeepsNothingOfWhatIsHandedIn(t *testing.T) {
	d := disk.New()
	b := some(100)
	must(t, "Write", d.Write(0, b))
	must(t, "Pull", d.Pull())
	must(t, "Start", d.Start(1, 20))
	overwrite(b)
	wantHeld(t, d, 0, string(some(84)))
}

// overwrite changes b, its spare room too.
func overwrite(b []byte) {
	b = b[:cap(b)]
	for i := range b {
		b[i] = 0xEE
	}
}

// P5.3

func TestCutToEachLength(t *testing.T) {
	for file := range files {
		for _, open := range []func(*testing.T) *disk.Disk{full, busy} {
			size := len(lookAt(open(t)).held[file])
			for length := range size + 1 {
				d := open(t)
				ahead := lookAt(d)
				want(t, "Cut", d.Cut(file, length), api.OK)
				then := ahead
				then.pending++
				then.steps++
				then.held[file] = ahead.held[file][:length]
				if now := lookAt(d); now != then {
					t.Errorf("Cut(%d, %d) of\n%+v is\n%+v", file, length, ahead, now)
				}
			}
		}
	}
}

func TestCutRefuses(t *testing.T) {
	for _, d := range []*disk.Disk{disk.New(), full(t), busy(t)} {
		for file := range files {
			size := len(lookAt(d).held[file])
			for _, length := range append(belowNought(), size+1, size+2, size+64, math.MaxInt) {
				wantUnchanged(t, "Cut to "+strconv.Itoa(length)+" of "+strconv.Itoa(size), d, func() api.Errno { return d.Cut(file, length) }, api.ErrArg)
			}
		}
		for _, file := range noFiles() {
			for _, length := range append(belowNought(), 0, 1, math.MaxInt) {
				wantUnchanged(t, "Cut of no file", d, func() api.Errno { return d.Cut(file, length) }, api.ErrArg)
			}
		}
	}
}

// What a file holds, not what is durable, bounds a cut.
func TestCutIsHeldAgainstWhatTheFileHolds(t *testing.T) {
	d := disk.New()
	must(t, "Write", d.Write(0, []byte("abcdef")))
	want(t, "Cut of what is pending", d.Cut(0, 4), api.OK)
	wantUnchanged(t, "Cut to what was cut off", d, func() api.Errno { return d.Cut(0, 5) }, api.ErrArg)
	must(t, "Sync", d.Sync())
	want(t, "Cut of what is durable", d.Cut(0, 2), api.OK)
	wantUnchanged(t, "Cut to what is still durable", d, func() api.Errno { return d.Cut(0, 3) }, api.ErrArg)
	must(t, "Write", d.Write(0, []byte("xy")))
	want(t, "Cut to what was written anew", d.Cut(0, 3), api.OK)
	wantHeld(t, d, 0, "abx")
	wantDurable(t, d, 0, "abcd")
}

func TestACutThatChangesNothing(t *testing.T) {
	for _, d := range []*disk.Disk{disk.New(), full(t), busy(t)} {
		for file := range files {
			ahead := lookAt(d)
			want(t, "Cut", d.Cut(file, len(ahead.held[file])), api.OK)
			then := ahead
			then.pending++
			then.steps++
			if now := lookAt(d); now != then {
				t.Errorf("of\n%+v is\n%+v", ahead, now)
			}
		}
	}
}

func TestCutOfADiskThatIsOff(t *testing.T) {
	d := off(t)
	for _, file := range append(noFiles(), 0, 1, 2, 3) {
		for _, length := range append(belowNought(), 0, 1, 99999) {
			wantUnchanged(t, "Cut", d, func() api.Errno { return d.Cut(file, length) }, api.ErrOff)
		}
	}
}

func TestCutWithAFuse(t *testing.T) {
	for _, length := range []int{0, 3, 8} {
		d := full(t)
		must(t, "Fuse", d.Fuse(0))
		steps := d.Steps()
		want(t, "Cut, the fuse 0", d.Cut(2, length), api.ErrOff)
		if d.On() || d.Pending() != 0 || d.Steps() != steps {
			t.Errorf("the fuse 0: on %v, %d pending, %d steps", d.On(), d.Pending(), d.Steps()-steps)
		}
		must(t, "Start", d.Start(9, 9))
		wantHeld(t, d, 2, "durable2")

		must(t, "Fuse", d.Fuse(1))
		want(t, "Cut, the fuse 1", d.Cut(2, length), api.OK)
		wantHeld(t, d, 2, "durable2"[:length])
		if !d.On() || d.Pending() != 1 || d.Steps() != steps+1 {
			t.Errorf("the fuse 1: on %v, %d pending, %d steps", d.On(), d.Pending(), d.Steps()-steps)
		}
		want(t, "Cut behind it", d.Cut(2, 0), api.ErrOff)
	}
}

func TestSync(t *testing.T) {
	for _, d := range []*disk.Disk{disk.New(), full(t), busy(t)} {
		for range 2 {
			ahead := lookAt(d)
			want(t, "Sync", d.Sync(), api.OK)
			then := ahead
			then.pending = 0
			then.steps++
			then.durable = ahead.held
			if now := lookAt(d); now != then {
				t.Errorf("of\n%+v is\n%+v", ahead, now)
			}
		}
	}
}

// All files are synced, and what is pending is done in its order.
func TestSyncOfManySteps(t *testing.T) {
	d := disk.New()
	for file := range files {
		must(t, "Write", d.Write(file, []byte("abcdef")))
		must(t, "Cut", d.Cut(file, 4-file))
		must(t, "Write", d.Write(file, []byte("xyz")))
		must(t, "Cut", d.Cut(file, 6-file))
		must(t, "Write", d.Write(file, some(70)))
	}
	must(t, "Sync", d.Sync())
	for file, text := range [...]string{"abcdxy", "abcxy", "abxy", "axy"} {
		wantDurable(t, d, file, text+string(some(70)))
		wantHeld(t, d, file, text+string(some(70)))
	}
}

func TestSyncOfADiskThatIsOff(t *testing.T) {
	d := off(t)
	wantUnchanged(t, "Sync", d, d.Sync, api.ErrOff)
}

func TestSyncWithAFuse(t *testing.T) {
	for _, open := range []func(*testing.T) *disk.Disk{full, busy} {
		d := open(t)
		ahead := lookAt(d)
		must(t, "Fuse", d.Fuse(0))
		want(t, "Sync, the fuse 0", d.Sync(), api.ErrOff)
		then := lookAt(d)
		if then.on || then.pending != ahead.pending || then.steps != ahead.steps || then.durable != ahead.durable {
			t.Errorf("the fuse 0: of\n%+v is\n%+v", ahead, then)
		}

		d = open(t)
		must(t, "Fuse", d.Fuse(1))
		want(t, "Sync, the fuse 1", d.Sync(), api.OK)
		then = lookAt(d)
		if !then.on || then.pending != 0 || then.steps != ahead.steps+1 || then.durable != ahead.held {
			t.Errorf("the fuse 1: of\n%+v is\n%+v", ahead, then)
		}
		want(t, "Sync behind it", d.Sync(), api.ErrOff)
	}
}

// P5.4

func TestReadAndDurableOfEachFile(t *testing.T) {
	d := disk.New()
	texts := [files]string{"log", "pages", string(some(64)), string(some(200))}
	for file, text := range texts {
		must(t, "Write", d.Write(file, []byte(text)))
	}
	for file, text := range texts {
		wantHeld(t, d, file, text)
		wantDurable(t, d, file, "")
	}
	must(t, "Sync", d.Sync())
	for file, text := range texts {
		wantHeld(t, d, file, text)
		wantDurable(t, d, file, text)
	}
	for file := range texts {
		must(t, "Cut", d.Cut(file, file))
		must(t, "Write", d.Write(file, []byte("behind")))
	}
	for file, text := range texts {
		wantHeld(t, d, file, text[:file]+"behind")
		wantDurable(t, d, file, text)
	}
}

func TestReadAndDurableOfNoFile(t *testing.T) {
	for _, open := range []func(*testing.T) *disk.Disk{full, busy, off} {
		d := open(t)
		e := api.ErrArg
		if !d.On() {
			e = api.ErrOff
		}
		for _, file := range noFiles() {
			if b, got := d.Read(file); b != nil || got != e {
				t.Errorf("Read(%d) = %q, %d; want none, %d", file, b, got, e)
			}
			if b := d.Durable(file); len(b) != 0 {
				t.Errorf("Durable(%d) = %q", file, b)
			}
		}
	}
}

func TestReadAndDurableOfADiskThatIsOff(t *testing.T) {
	d := off(t)
	for file := range files {
		if b, e := d.Read(file); b != nil || e != api.ErrOff {
			t.Errorf("Read(%d) = %q, %d", file, b, e)
		}
		wantDurable(t, d, file, "durable"+strconv.Itoa(file))
	}
}

// toldOf answers what a call tells of the file 0, or stops the test.
func toldOf(t *testing.T, d *disk.Disk, read bool) []byte {
	t.Helper()
	if !read {
		return d.Durable(0)
	}
	b, e := d.Read(0)
	must(t, "Read", e)
	return b
}

// What is told is new memory: overwritten, with its spare room, it is seen nowhere else.
func TestWhatIsToldIsNewMemory(t *testing.T) {
	for _, first := range []bool{false, true} {
		for _, second := range []bool{false, true} {
			d := full(t)
			checkToldApart(t, d, first, second)
			must(t, "Write", d.Write(0, some(100)))
			checkToldApart(t, d, first, second)
			must(t, "Cut", d.Cut(0, 3))
			checkToldApart(t, d, first, second)
			must(t, "Sync", d.Sync())
			checkToldApart(t, d, first, second)
			must(t, "Write", d.Write(0, some(5)))
			must(t, "Pull", d.Pull())
			must(t, "Start", d.Start(0, 2))
			checkToldApart(t, d, first, second)
		}
	}
}

func checkToldApart(t *testing.T, d *disk.Disk, first, second bool) {
	t.Helper()
	ahead := lookAt(d)
	a, b := toldOf(t, d, first), toldOf(t, d, second)
	keep := string(b)
	overwrite(a)
	if string(b) != keep {
		t.Errorf("one answer was changed with another one: %q, %q", keep, b)
	}
	overwrite(b)
	if now := lookAt(d); now != ahead {
		t.Errorf("what was told was overwritten, and it was\n%+v and is\n%+v", ahead, now)
	}
}

// What was told stays as it is, whatever the disk does next.
func TestWhatWasToldStays(t *testing.T) {
	d := full(t)
	must(t, "Write", d.Write(0, some(10)))
	held, durable := toldOf(t, d, true), toldOf(t, d, false)
	must(t, "Write", d.Write(0, some(5)))
	must(t, "Sync", d.Sync())
	must(t, "Cut", d.Cut(0, 1))
	must(t, "Write", d.Write(0, some(60)))
	must(t, "Sync", d.Sync())
	if string(held) != "durable0"+string(some(10)) || string(durable) != "durable0" {
		t.Errorf("it became %q, %q", held, durable)
	}
}

func wantCounts(t *testing.T, what string, d *disk.Disk, pending, steps int) {
	t.Helper()
	if d.Pending() != pending || d.Steps() != steps {
		t.Errorf("%s: %d pending, %d steps; want %d, %d", what, d.Pending(), d.Steps(), pending, steps)
	}
}

func TestPendingAndSteps(t *testing.T) {
	d := disk.New()
	wantCounts(t, "new", d, 0, 0)
	must(t, "Write", d.Write(0, some(130)))
	wantCounts(t, "a write", d, 3, 3)
	must(t, "Cut", d.Cut(0, 130))
	wantCounts(t, "a cut", d, 4, 4)
	must(t, "Write", d.Write(3, nil))
	wantCounts(t, "no write", d, 4, 4)
	must(t, "Sync", d.Sync())
	wantCounts(t, "a sync", d, 0, 5)
	must(t, "Sync", d.Sync())
	wantCounts(t, "another sync", d, 0, 6)
	must(t, "Write", d.Write(1, some(64)))
	must(t, "Cut", d.Cut(0, 0))
	wantCounts(t, "a write, a cut", d, 2, 8)
	must(t, "Fuse", d.Fuse(1))
	want(t, "Write", d.Write(2, some(65)), api.ErrOff)
	wantCounts(t, "one of two raw writes", d, 3, 9)
	want(t, "Sync", d.Sync(), api.ErrOff)
	wantCounts(t, "a sync, off", d, 3, 9)
	must(t, "Start", d.Start(2, 1))
	wantCounts(t, "a start", d, 0, 9)
	must(t, "Write", d.Write(2, some(1)))
	wantCounts(t, "a write behind the start", d, 1, 10)
	must(t, "Pull", d.Pull())
	wantCounts(t, "a pull", d, 1, 10)
	must(t, "Start", d.Start(9, 0))
	wantCounts(t, "another start", d, 0, 10)
}

// P5.5

func TestFuseRefuses(t *testing.T) {
	d := full(t)
	for _, n := range belowNought() {
		wantUnchanged(t, "Fuse", d, func() api.Errno { return d.Fuse(n) }, api.ErrArg)
	}
	want(t, "Write behind it", d.Write(0, some(640)), api.OK)

	// One that was refused does not take the place of another.
	must(t, "Fuse", d.Fuse(2))
	for _, n := range belowNought() {
		want(t, "Fuse", d.Fuse(n), api.ErrArg)
	}
	wantStepsLeft(t, d, 2)
}

// wantStepsLeft: the disk does just n more raw steps, whatever their kinds, and goes off.
func wantStepsLeft(t *testing.T, d *disk.Disk, n int) {
	t.Helper()
	ahead := d.Steps()
	for i := range n {
		if e := rawStep(d, i); e != api.OK || !d.On() {
			t.Fatalf("raw step %d of %d: %d, on %v", i, n, e, d.On())
		}
	}
	want(t, "the raw step behind the fuse", rawStep(d, n), api.ErrOff)
	if d.On() || d.Steps() != ahead+n {
		t.Errorf("the fuse %d: on %v, %d steps", n, d.On(), d.Steps()-ahead)
	}
	want(t, "a raw step, off", rawStep(d, n), api.ErrOff)
}

// rawStep does one raw step, of a kind by i.
func rawStep(d *disk.Disk, i int) api.Errno {
	switch i % 3 {
	case 0:
		return d.Write(i%files, []byte{1})
	case 1:
		return d.Sync()
	}
	return d.Cut(i%files, 0)
}

func TestFuse(t *testing.T) {
	for _, n := range []int{0, 1, 2, 3, 4, 5, 64, 100} {
		d := full(t)
		wantUnchanged(t, "Fuse", d, func() api.Errno { return d.Fuse(n) }, api.OK)
		wantStepsLeft(t, d, n)
	}
}

func TestAFuseOfManySteps(t *testing.T) {
	d := disk.New()
	must(t, "Fuse", d.Fuse(math.MaxInt))
	for i := range 1000 {
		must(t, "a raw step", rawStep(d, i))
	}
}

func TestOneFuseInThePlaceOfAnother(t *testing.T) {
	for _, first := range []int{0, 1, 3, 7} {
		for _, second := range []int{0, 1, 3, 7} {
			d := full(t)
			must(t, "Fuse", d.Fuse(first))
			if first > 0 {
				must(t, "Write", d.Write(0, some(1)))
			}
			must(t, "Fuse", d.Fuse(second))
			wantStepsLeft(t, d, second)
		}
	}
}

func TestSafe(t *testing.T) {
	for _, n := range []int{-1, 0, 1, 5} {
		d := full(t)
		if n >= 0 {
			must(t, "Fuse", d.Fuse(n))
		}
		wantUnchanged(t, "Safe", d, d.Safe, api.OK)
		for i := range 100 {
			must(t, "a raw step", rawStep(d, i))
		}
		must(t, "Fuse behind it", d.Fuse(2))
		wantStepsLeft(t, d, 2)
	}
}

func TestPull(t *testing.T) {
	for _, open := range []func(*testing.T) *disk.Disk{full, busy} {
		d := open(t)
		ahead := lookAt(d)
		want(t, "Pull", d.Pull(), api.OK)
		now := lookAt(d)
		if now.on || now.pending != ahead.pending || now.steps != ahead.steps || now.durable != ahead.durable {
			t.Errorf("of\n%+v is\n%+v", ahead, now)
		}
	}
}

func TestCallsOfADiskThatIsOff(t *testing.T) {
	d := off(t)
	for _, n := range append(belowNought(), 0, 1, 99) {
		wantUnchanged(t, "Fuse", d, func() api.Errno { return d.Fuse(n) }, api.ErrOff)
	}
	wantUnchanged(t, "Safe", d, d.Safe, api.ErrOff)
	wantUnchanged(t, "Pull", d, d.Pull, api.ErrOff)
}

// A disk that its fuse put off is as one that was pulled.
func TestOffByAFuse(t *testing.T) {
	burnt := busy(t)
	must(t, "Fuse", burnt.Fuse(0))
	want(t, "Sync", burnt.Sync(), api.ErrOff)
	pulled := off(t)
	if a, b := lookAt(burnt), lookAt(pulled); a != b {
		t.Errorf("by a fuse\n%+v, pulled\n%+v", a, b)
	}
	must(t, "Start", burnt.Start(2, 1))
	must(t, "Start", pulled.Start(2, 1))
	if a, b := lookAt(burnt), lookAt(pulled); a != b {
		t.Errorf("by a fuse\n%+v, pulled\n%+v", a, b)
	}
}

func TestStartRefuses(t *testing.T) {
	for _, open := range []func(*testing.T) *disk.Disk{full, busy} {
		d := open(t)
		for _, k := range append(belowNought(), 0, 1, 99) {
			for _, n := range append(belowNought(), 0, 1, 99) {
				wantUnchanged(t, "Start of a disk that is on", d, func() api.Errno { return d.Start(k, n) }, api.ErrArg)
			}
		}
	}
	d := off(t)
	for _, n := range belowNought() {
		for _, m := range append(belowNought(), 0, 1, 99, math.MaxInt) {
			wantUnchanged(t, "Start, k below 0", d, func() api.Errno { return d.Start(n, m) }, api.ErrArg)
			wantUnchanged(t, "Start, t below 0", d, func() api.Errno { return d.Start(m, n) }, api.ErrArg)
		}
	}
	want(t, "Start behind it", d.Start(0, 0), api.OK)
}

// A start that is refused leaves the fuse of a disk that is on.
func TestStartOfADiskThatIsOnLeavesItsFuse(t *testing.T) {
	d := busy(t)
	must(t, "Fuse", d.Fuse(3))
	want(t, "Start", d.Start(0, 0), api.ErrArg)
	wantStepsLeft(t, d, 3)
}

// Of a disk with a raw write of 64 bytes, one of 6, a cut to 5 and a raw write of 3 pending.
func TestStartWithEachOfWhatIsPending(t *testing.T) {
	long := string(some(70))
	for _, c := range []struct {
		k, t int
		held string
	}{
		{0, 0, "ab"},
		{0, 1, "ab" + long[:1]},
		{0, 62, "ab" + long[:62]},
		{0, 63, "ab" + long[:63]},
		{0, 64, "ab" + long[:63]},
		{0, 65, "ab" + long[:63]},
		{0, math.MaxInt, "ab" + long[:63]},
		{1, 0, "ab" + long[:64]},
		{1, 3, "ab" + long[:67]},
		{1, 5, "ab" + long[:69]},
		{1, 6, "ab" + long[:69]},
		{1, 7, "ab" + long[:69]},
		{1, math.MaxInt, "ab" + long[:69]},
		// The next one is a cut, of which there is no part.
		{2, 0, "ab" + long},
		{2, 1, "ab" + long},
		{2, math.MaxInt, "ab" + long},
		{3, 0, "ab" + long[:3]},
		{3, 1, "ab" + long[:3] + "x"},
		{3, 2, "ab" + long[:3] + "xy"},
		{3, 3, "ab" + long[:3] + "xy"},
		{3, math.MaxInt, "ab" + long[:3] + "xy"},
		// All that is pending, and more than that.
		{4, 0, "ab" + long[:3] + "xyz"},
		{4, 9, "ab" + long[:3] + "xyz"},
		{5, 0, "ab" + long[:3] + "xyz"},
		{99, 99, "ab" + long[:3] + "xyz"},
		{math.MaxInt, math.MaxInt, "ab" + long[:3] + "xyz"},
	} {
		d := disk.New()
		must(t, "Write", d.Write(1, []byte("ab")))
		must(t, "Sync", d.Sync())
		must(t, "Write", d.Write(1, []byte(long)))
		must(t, "Cut", d.Cut(1, 5))
		must(t, "Write", d.Write(1, []byte("xyz")))
		must(t, "Pull", d.Pull())
		want(t, "Start", d.Start(c.k, c.t), api.OK)
		then := look{on: true, steps: 6}
		then.held[1], then.durable[1] = c.held, c.held
		if now := lookAt(d); now != then {
			t.Errorf("Start(%d, %d):\n%+v, not\n%+v", c.k, c.t, now, then)
		}
	}
}

// A raw write of one byte has no first part.
func TestStartAtAWriteOfOneByte(t *testing.T) {
	for _, n := range []int{0, 1, 2, 64} {
		d := disk.New()
		must(t, "Write", d.Write(0, []byte("a")))
		must(t, "Pull", d.Pull())
		must(t, "Start", d.Start(0, n))
		wantHeld(t, d, 0, "")
	}
}

func TestStartWithNothingPending(t *testing.T) {
	for _, n := range []int{0, 1, 99, math.MaxInt} {
		d := full(t)
		ahead := lookAt(d)
		must(t, "Pull", d.Pull())
		want(t, "Start", d.Start(n, n), api.OK)
		if now := lookAt(d); now != ahead {
			t.Errorf("of\n%+v is\n%+v", ahead, now)
		}
	}
}

// The steps of all files stand in one order: a torn write ends the steps of the others, too.
func TestStartAcrossFiles(t *testing.T) {
	d := disk.New()
	for i := range 8 {
		must(t, "Write", d.Write(i%files, []byte{byte('a' + i), byte('A' + i)}))
	}
	must(t, "Pull", d.Pull())
	must(t, "Start", d.Start(5, 1))
	for file, text := range [...]string{"aAeE", "bBf", "cC", "dD"} {
		wantHeld(t, d, file, text)
		wantDurable(t, d, file, text)
	}
}

func TestStartTakesTheFuseOut(t *testing.T) {
	for _, n := range []int{0, 1, 5} {
		pulled, burnt := busy(t), busy(t)
		must(t, "Fuse", pulled.Fuse(n))
		must(t, "Pull", pulled.Pull())
		must(t, "Fuse", burnt.Fuse(n))
		want(t, "Write", burnt.Write(0, some(6*raw)), api.ErrOff)
		for _, d := range []*disk.Disk{pulled, burnt} {
			must(t, "Start", d.Start(1, 1))
			for i := range 100 {
				must(t, "a raw step", rawStep(d, i))
			}
		}
	}
}

// What is gone is gone: it is not there at a later sync or start.
func TestWhatIsGoneStaysGone(t *testing.T) {
	d := full(t)
	must(t, "Write", d.Write(0, some(200)))
	must(t, "Cut", d.Cut(1, 0))
	must(t, "Pull", d.Pull())
	must(t, "Start", d.Start(0, 0))
	must(t, "Sync", d.Sync())
	wantHeld(t, d, 0, "durable0")
	must(t, "Pull", d.Pull())
	must(t, "Start", d.Start(99, 99))
	wantHeld(t, d, 0, "durable0")
	wantHeld(t, d, 1, "durable1")
}

// P5.6, over many lists of calls

// model tells what a disk does in another way: by what the files held at the last sync or start, and behind each raw write and cut since.
type model struct {
	off   bool
	fused bool
	fuse  int
	held  [][files]string
	wrote []bool // whether it was a raw write, of each of these steps
	file  []int
	steps int
}

func newModel() *model { return &model{held: make([][files]string, 1)} }

func (m *model) now() [files]string { return m.held[len(m.held)-1] }

// burns answers whether a raw step is done.
func (m *model) burns() bool {
	if m.fused && m.fuse == 0 {
		m.off = true
		return false
	}
	m.fuse--
	m.steps++
	return true
}

func (m *model) step(file int, wrote bool, text string) {
	next := m.now()
	next[file] = text
	m.held = append(m.held, next)
	m.wrote = append(m.wrote, wrote)
	m.file = append(m.file, file)
}

func (m *model) restart(held [files]string) {
	m.held, m.wrote, m.file = [][files]string{held}, nil, nil
}

func (m *model) write(file int, b string) api.Errno {
	if m.off {
		return api.ErrOff
	}
	for b != "" {
		if !m.burns() {
			return api.ErrOff
		}
		n := min(len(b), raw)
		m.step(file, true, m.now()[file]+b[:n])
		b = b[n:]
	}
	return api.OK
}

func (m *model) cut(file, length int) api.Errno {
	switch {
	case m.off:
		return api.ErrOff
	case length < 0 || length > len(m.now()[file]):
		return api.ErrArg
	case !m.burns():
		return api.ErrOff
	}
	m.step(file, false, m.now()[file][:length])
	return api.OK
}

func (m *model) sync() api.Errno {
	if m.off || !m.burns() {
		return api.ErrOff
	}
	m.restart(m.now())
	return api.OK
}

func (m *model) setFuse(n int) api.Errno {
	if m.off {
		return api.ErrOff
	}
	m.fused, m.fuse = true, n
	return api.OK
}

func (m *model) safe() api.Errno {
	if m.off {
		return api.ErrOff
	}
	m.fused = false
	return api.OK
}

func (m *model) pull() api.Errno {
	if m.off {
		return api.ErrOff
	}
	m.off = true
	return api.OK
}

func (m *model) start(k, t int) api.Errno {
	if !m.off {
		return api.ErrArg
	}
	k = min(k, len(m.wrote))
	held := m.held[k]
	if k < len(m.wrote) && m.wrote[k] {
		file := m.file[k]
		whole := m.held[k+1][file]
		held[file] = whole[:min(len(held[file])+t, len(whole)-1)]
	}
	m.restart(held)
	m.off, m.fused = false, false
	return api.OK
}

// look is what a disk should tell.
func (m *model) look() look {
	l := look{on: !m.off, pending: len(m.wrote), steps: m.steps, durable: m.held[0]}
	if m.off {
		l.errs = [files]api.Errno{api.ErrOff, api.ErrOff, api.ErrOff, api.ErrOff}
	} else {
		l.held = m.now()
	}
	return l
}

// call is one call of a disk: its kind, the file, a start's k, and the size, length, fuse or t that it has.
type call struct {
	kind, file, k, n int
}

const kinds = 7

// of does the call at a disk.
func (c call) of(d *disk.Disk) api.Errno {
	switch c.kind {
	case 0:
		return d.Write(c.file, some(c.n))
	case 1:
		return d.Cut(c.file, c.n)
	case 2:
		return d.Sync()
	case 3:
		return d.Fuse(c.n)
	case 4:
		return d.Safe()
	case 5:
		return d.Pull()
	}
	return d.Start(c.k, c.n)
}

// told does the call at a model.
func (c call) told(m *model) api.Errno {
	switch c.kind {
	case 0:
		return m.write(c.file, string(some(c.n)))
	case 1:
		return m.cut(c.file, c.n)
	case 2:
		return m.sync()
	case 3:
		return m.setFuse(c.n)
	case 4:
		return m.safe()
	case 5:
		return m.pull()
	}
	return m.start(c.k, c.n)
}

// checkCalls does the calls one behind the other, and looks behind each of them.
func checkCalls(t *testing.T, calls []call) {
	t.Helper()
	d, m := disk.New(), newModel()
	for i, c := range calls {
		got, e := c.of(d), c.told(m)
		if now, then := lookAt(d), m.look(); got != e || now != then {
			t.Fatalf("%+v: %d\n%+v; want %d\n%+v", calls[:i+1], got, now, e, then)
		}
	}
}

// Every list of up to six out of a few calls.
func TestEveryShortListOfCalls(t *testing.T) {
	few := []call{
		{kind: 0, file: 0, n: 66},
		{kind: 0, file: 1, n: 3},
		{kind: 1, file: 0, n: 2},
		{kind: 2},
		{kind: 3, n: 1},
		{kind: 5},
		{kind: 6, k: 1, n: 1},
		{kind: 6, k: 2, n: 64},
	}
	var grow func(calls []call)
	grow = func(calls []call) {
		if len(calls) == 6 {
			checkCalls(t, calls)
			return
		}
		for _, c := range few {
			grow(append(calls[:len(calls):len(calls)], c))
		}
	}
	grow(nil)
}

// turn is a plain row of numbers, the same at each run.
type turn uint32

func (r *turn) below(n int) int {
	*r = *r*1664525 + 1013904223
	return int(*r>>8) % n
}

// mixed answers count calls; those that put a disk off are rarer than the others.
func mixed(r *turn, count int) []call {
	var calls []call
	for range count {
		c := call{kind: r.below(kinds + 6), file: r.below(files), k: r.below(12)}
		switch {
		case c.kind >= kinds+3:
			c.kind = 6
		case c.kind >= kinds:
			c.kind = 0
		}
		c.n = r.below([kinds]int{200, 150, 1, 12, 1, 1, 70}[c.kind])
		calls = append(calls, c)
	}
	return calls
}

func TestLongListsOfCalls(t *testing.T) {
	r := turn(5)
	for range 1000 {
		checkCalls(t, mixed(&r, 100))
	}
}

// Behind a start each file holds what it held at one raw step since the last sync, all at the same one, or that and a part of the next raw write.
func TestWhatStandsBehindAStart(t *testing.T) {
	for k := range 8 {
		for n := range 70 {
			d := full(t)
			seen := []look{lookAt(d)}
			for _, c := range []call{{file: 0, n: 64}, {file: 1, n: 10}, {kind: 1, file: 0, n: 3}, {kind: 1, file: 1, n: 18}, {file: 0, n: 1}, {file: 2, n: 33}} {
				must(t, "a raw step", c.of(d))
				seen = append(seen, lookAt(d))
			}
			must(t, "Pull", d.Pull())
			must(t, "Start", d.Start(k, n))
			at := min(k, len(seen)-1)
			next := min(at+1, len(seen)-1)
			now := lookAt(d)
			if now.held != now.durable || now.pending != 0 {
				t.Fatalf("Start(%d, %d): %+v", k, n, now)
			}
			for file := range files {
				checkPart(t, now.held[file], seen[at].held[file], seen[next].held[file])
			}
		}
	}
}

// checkPart: a file holds what it held, or that and a part of what came next.
func checkPart(t *testing.T, now, ahead, next string) {
	t.Helper()
	if now == ahead {
		return
	}
	if len(now) <= len(ahead) || len(now) >= len(next) || now[:len(ahead)] != ahead || now != next[:len(now)] {
		t.Errorf("%q is neither %q nor a part of %q", now, ahead, next)
	}
}

// What was durable stays, until it is cut: whatever is pending, cut off anywhere.
func TestWhatWasDurableStays(t *testing.T) {
	for k := range 6 {
		d := full(t)
		for range 3 {
			must(t, "Write", d.Write(0, some(100)))
		}
		must(t, "Pull", d.Pull())
		must(t, "Start", d.Start(k, 10))
		b, e := d.Read(0)
		if e != api.OK || !bytes.HasPrefix(b, []byte("durable0")) || len(b) <= len("durable0") {
			t.Errorf("k %d: %q, %d", k, b, e)
		}
		for file := 1; file < files; file++ {
			wantDurable(t, d, file, "durable"+strconv.Itoa(file))
		}
		must(t, "Cut", d.Cut(0, 4))
		wantDurable(t, d, 0, string(b))
		must(t, "Sync", d.Sync())
		wantDurable(t, d, 0, "dura")
	}
}

func FuzzCalls(f *testing.F) {
	f.Add([]byte{0, 0, 70, 0, 5, 0, 0, 0, 6, 0, 3, 1})
	f.Fuzz(func(t *testing.T, b []byte) {
		var calls []call
		for ; len(b) >= 4 && len(calls) < 200; b = b[4:] {
			calls = append(calls, call{kind: int(b[0]) % kinds, file: int(b[1]) % files, n: int(b[2]), k: int(b[3])})
		}
		checkCalls(t, calls)
	})
}

// Rule 5

func notMade() map[string]*disk.Disk {
	var declared disk.Disk
	return map[string]*disk.Disk{"nil": nil, "new": new(disk.Disk), "a literal": {}, "declared": &declared}
}

// numbers lists numbers that are right and wrong elsewhere: here none of them counts.
func numbers() []int { return []int{0, 1, 3, 4, -1, math.MinInt, math.MaxInt} }

func TestCallsOfNoDisk(t *testing.T) {
	for name, d := range notMade() {
		t.Run(name, func(t *testing.T) {
			checkNoDisk(t, d)
			// Nothing makes a disk of it.
			checkNoDisk(t, d)
		})
	}
}

func checkNoDisk(t *testing.T, d *disk.Disk) {
	t.Helper()
	want(t, "Sync", d.Sync(), api.ErrNil)
	want(t, "Safe", d.Safe(), api.ErrNil)
	want(t, "Pull", d.Pull(), api.ErrNil)
	for _, n := range numbers() {
		for _, b := range [][]byte{nil, {}, some(1), some(65)} {
			want(t, "Write", d.Write(n, b), api.ErrNil)
		}
		if b, e := d.Read(n); b != nil || e != api.ErrNil {
			t.Errorf("Read(%d) = %q, %d", n, b, e)
		}
		want(t, "Fuse", d.Fuse(n), api.ErrNil)
		if b := d.Durable(n); b != nil {
			t.Errorf("Durable(%d) = %q", n, b)
		}
		for _, m := range numbers() {
			want(t, "Cut", d.Cut(n, m), api.ErrNil)
			want(t, "Start", d.Start(n, m), api.ErrNil)
		}
	}
	if d.On() || d.Pending() != 0 || d.Steps() != 0 {
		t.Errorf("on %v, %d pending, %d steps", d.On(), d.Pending(), d.Steps())
	}
}
