package frame_test

import (
	"bytes"
	"encoding/binary"
	"fmt"
	"iter"
	"math"
	"slices"
	"testing"

	"lagleash/api"
	"lagleash/frame"
	"lagleash/sharing"
)

const most = 131072 // bytes of a record, at most, as the document writes it

// of answers a record of count bytes, no two neighbours of which are the same.
func of(count int) []byte {
	b := make([]byte, count)
	for i := range b {
		b[i] = byte(i%251 + 1)
	}
	return b
}

// counted answers a count as the document has it written: by the library, not by the program.
func counted(count int) []byte { return binary.AppendUvarint(nil, uint64(count)) }

// framed answers the records' frames, one behind the other: by the library, not by the program.
func framed(records ...[]byte) []byte {
	var b []byte
	for _, r := range records {
		b = append(append(b, counted(len(r))...), r...)
	}
	return b
}

// lengths lists records at the edges: of none, of one byte, on both sides of a count of one byte more, and the greatest.
func lengths() []int {
	return []int{0, 1, 2, 126, 127, 128, 129, 255, 256, 16383, 16384, 16385, most - 1, most}
}

// heads lists, for each of some counts, its bytes written out.
func heads() map[int][]byte {
	return map[int][]byte{
		0: {0}, 1: {1}, 2: {2}, 126: {126}, 127: {127}, 128: {128, 1}, 129: {129, 1}, 255: {255, 1}, 256: {128, 2},
		16383: {255, 127}, 16384: {128, 128, 1}, 16385: {129, 128, 1}, most - 1: {255, 255, 7}, most: {128, 128, 8},
	}
}

// torn lists bytes that begin no frame, by what is wrong with them.
func torn() map[string][][]byte {
	above := counted(most + 1)
	return map[string][][]byte{
		"a count that is cut off":                   {{128}, {129}, {255}, {128, 128}, {255, 255, 255}, bytes.Repeat([]byte{128}, 9)},
		"a record of which there is nothing":        {{1}, {2}, {127}, {128, 1}, {128, 128, 8}},
		"a record that is cut off":                  {{2, 97}, {3, 97, 98}, append([]byte{127}, of(126)...), append([]byte{128, 1}, of(127)...), framed(of(most))[:most+2]},
		"a count that is written too long":          {{128, 0}, {129, 0, 97}, {130, 0, 97, 98}, {128, 128, 0}, {255, 0}, append([]byte{130, 128, 0}, of(9)...), append([]byte{255, 128, 0}, of(200)...)},
		"a count above the limit, its bytes there":  {append(above, of(most+1)...), append(counted(most+2), of(most+9)...), append(counted(1<<20), of(1<<20)...)},
		"a count above the limit, and its bytes no": {above, append(above, 97), counted(1 << 20), counted(1 << 32), counted(1<<32 + 1), counted(math.MaxInt), binary.AppendUvarint(nil, math.MaxUint64), binary.AppendUvarint(nil, 1<<63), append(binary.AppendUvarint(nil, 1<<63+1), 97)},
		"a count of more than 64 bits":              {bytes.Repeat([]byte{255}, 10), append(bytes.Repeat([]byte{255}, 9), 2, 97), append(bytes.Repeat([]byte{128}, 9), 2), append(bytes.Repeat([]byte{128}, 10), 1), append(bytes.Repeat([]byte{129}, 10), 0)},
	}
}

// found is a record with the place at which its frame begins.
type found struct {
	at   int
	text string
}

func eachOf(seq iter.Seq2[int, []byte]) []found {
	var all []found
	for at, r := range seq {
		all = append(all, found{at, string(r)})
	}
	return all
}

// foundOf lists what Each has to go over.
func foundOf(records [][]byte) []found {
	var all []found
	at := 0
	for _, r := range records {
		all = append(all, found{at, string(r)})
		at += len(counted(len(r))) + len(r)
	}
	return all
}

func same(a, b [][]byte) bool { return slices.EqualFunc(a, b, bytes.Equal) }

// short tells bytes, at most so many as can be looked at.
func short(b []byte) string {
	if len(b) <= 24 {
		return fmt.Sprint(b)
	}
	return fmt.Sprintf("%d bytes: %v ..", len(b), b[:24])
}

func wantRead(t *testing.T, b, record []byte, n int) {
	t.Helper()
	if r, gotN, e := frame.Read(b); !bytes.Equal(r, record) || gotN != n || e != api.OK {
		t.Errorf("Read(%s) = %s, %d, %d; want %s, %d, OK", short(b), short(r), gotN, e, short(record), n)
	}
}

func wantBad(t *testing.T, b []byte) {
	t.Helper()
	if r, n, e := frame.Read(b); r != nil || n != 0 || e != api.ErrBad {
		t.Errorf("Read(%s) = %s, %d, %d; want none, 0, ErrBad", short(b), short(r), n, e)
	}
}

// wantScan: b's records are these, by Scan and by Each, and its good length is that.
func wantScan(t *testing.T, b []byte, records [][]byte, good int) {
	t.Helper()
	if l, n := frame.Scan(b); !same(l, records) || n != good {
		t.Errorf("Scan(%s): %d records, good length %d; want %d records, %d", short(b), len(l), n, len(records), good)
	}
	if all := eachOf(frame.Each(b)); !slices.Equal(all, foundOf(records)) {
		t.Errorf("Each(%s): %d records, or other places; want %d", short(b), len(all), len(records))
	}
}

func appended(t *testing.T, b, record []byte) []byte {
	t.Helper()
	out, e := frame.Append(b, record)
	if e != api.OK {
		t.Fatalf("Append(%s, %s) was refused: %d", short(b), short(record), e)
	}
	return out
}

// overwrite changes b, its spare room too.
func overwrite(b []byte) {
	b = b[:cap(b)]
	for i := range b {
		b[i] = 0xEE
	}
}

// roomy answers b with spare room that is full of marks.
func roomy(b []byte) []byte {
	whole := append(bytes.Clone(b), bytes.Repeat([]byte{0xEE}, 64)...)
	return whole[:len(b)]
}

// isRoomy answers whether got is b still, and its spare room full of marks.
func isRoomy(got, b []byte) bool {
	return bytes.Equal(got[:len(b)+64], append(bytes.Clone(b), bytes.Repeat([]byte{0xEE}, 64)...))
}

// hasMark answers whether marks stand in b's spare room.
func hasMark(b []byte) bool { return bytes.IndexByte(b[len(b):cap(b)], 0xEE) >= 0 }

// The chapter's examples.
func TestExamples(t *testing.T) {
	if b := appended(t, nil, []byte("ab")); !bytes.Equal(b, []byte{2, 97, 98}) {
		t.Errorf("Append of none and a b: %v", b)
	}
	if b := appended(t, nil, nil); !bytes.Equal(b, []byte{0}) {
		t.Errorf("Append of none and none: %v", b)
	}
	wantRead(t, []byte{2, 97, 98, 9}, []byte("ab"), 3)
	wantBad(t, []byte{2, 97})
	wantBad(t, []byte{128})
	wantScan(t, []byte{1, 97, 0, 2, 98}, [][]byte{{97}, {}}, 3)
	wantScan(t, []byte{0, 0, 0}, [][]byte{{}, {}, {}}, 3)
}

// P9.1

func TestAppendAtEachEdge(t *testing.T) {
	for _, count := range lengths() {
		record := of(count)
		for _, ahead := range [][]byte{nil, {}, {7}, {0}, {128}, {2, 97}, {2, 97, 98}, bytes.Repeat([]byte{255}, 300)} {
			want := slices.Concat(ahead, heads()[count], record)
			if b := appended(t, ahead, record); !bytes.Equal(b, want) {
				t.Errorf("Append(%s, %d bytes) = %s; want %s", short(ahead), count, short(b), short(want))
			}
		}
	}
}

func TestAppendOfEachSmallLength(t *testing.T) {
	for count := range 600 {
		if b, want := appended(t, []byte{9}, of(count)), append([]byte{9}, framed(of(count))...); !bytes.Equal(b, want) {
			t.Errorf("Append({9}, %d bytes) = %s; want %s", count, short(b), short(want))
		}
	}
}

func TestAppendOfARecordThatIsTooLong(t *testing.T) {
	for _, count := range []int{most + 1, most + 2, most + 128, 2 * most, 1 << 20} {
		for _, ahead := range [][]byte{nil, {}, {7}, make([]byte, 3, 300)} {
			if b, e := frame.Append(ahead, of(count)); b != nil || e != api.ErrLong {
				t.Errorf("Append(%s, %d bytes) = %s, %d; want none, ErrLong", short(ahead), count, short(b), e)
			}
		}
	}
}

// It is the record that is bounded, not what it is put behind.
func TestAppendBehindManyBytes(t *testing.T) {
	for _, count := range []int{most, most + 1, 3 * most} {
		if b, want := appended(t, of(count), []byte("ab")), append(of(count), 2, 97, 98); !bytes.Equal(b, want) {
			t.Errorf("Append(%d bytes, ab): %d bytes; want %d", count, len(b), len(want))
		}
	}
}

// Nor is a record that has much spare room too long for that.
func TestAppendOfShortRecordsWithMuchRoom(t *testing.T) {
	for _, count := range []int{0, 1, 127, 128, most} {
		whole := of(2 * most)
		if b := appended(t, nil, whole[:count]); !bytes.Equal(b, framed(of(count))) {
			t.Errorf("Append(none, the first %d of %d bytes) = %s", count, len(whole), short(b))
		}
	}
}

func TestAppendLeavesWhatIsHandedInAndAnswersNewMemory(t *testing.T) {
	for _, count := range []int{0, 1, 3, 127, 128, 4000, most, most + 1} {
		record := of(count)
		wrong := sharing.Append(func(b []byte) []byte {
			out, _ := frame.Append(b, record)
			return out
		})
		if wrong != "" {
			t.Errorf("Append of %d bytes %s", count, wrong)
		}
	}
	for _, ahead := range [][]byte{nil, {}, {7}, of(200)} {
		wrong := sharing.Append(func(record []byte) []byte {
			out, _ := frame.Append(ahead, record)
			return out
		})
		if wrong != "" {
			t.Errorf("Append of a record behind %d bytes: %s", len(ahead), wrong)
		}
	}
	long := roomy(of(most + 1))
	frame.Append(nil, long)
	if !isRoomy(long, of(most+1)) {
		t.Error("a record that is too long was changed, or the room behind it")
	}
}

// A record that lies in the spare room of what it is put behind, or in that itself, is read ahead of any write.
func TestAppendOfARecordInTheSameMemory(t *testing.T) {
	whole := of(40)
	for from := range 20 {
		for count := range 20 {
			for ahead := range 20 {
				want := append(of(ahead), framed(of(40)[from:from+count])...)
				if b := appended(t, whole[:ahead], whole[from:from+count]); !bytes.Equal(b, want) {
					t.Fatalf("Append(the first %d, %d from %d on) = %v; want %v", ahead, count, from, b, want)
				}
				if !bytes.Equal(whole, of(40)) {
					t.Fatalf("Append(the first %d, %d from %d on) changed them", ahead, count, from)
				}
			}
		}
	}
}

// P9.2

func TestReadAtEachEdge(t *testing.T) {
	for _, count := range lengths() {
		b := append(bytes.Clone(heads()[count]), of(count)...)
		for _, behind := range [][]byte{nil, {0}, {9}, {128}, {255, 255}, {2, 97}, {2, 97, 98}, bytes.Repeat([]byte{255}, 40)} {
			wantRead(t, slices.Concat(b, behind), of(count), len(b))
		}
	}
}

func TestReadRefuses(t *testing.T) {
	wantBad(t, nil)
	wantBad(t, []byte{})
	wantBad(t, framed([]byte("ab"))[:0])
	for name, list := range torn() {
		t.Run(name, func(t *testing.T) {
			for _, b := range list {
				wantBad(t, b)
			}
		})
	}
}

// What is missing stands in the spare room of each shorter slice, which must not be read.
func TestReadOfFramesThatAreCutOff(t *testing.T) {
	for _, count := range []int{0, 1, 2, 127, 128, 300, 16384} {
		b := framed(of(count))
		for n := range b {
			wantBad(t, b[:n])
		}
	}
	b := framed(of(most))
	for _, n := range []int{0, 1, 2, 3, 4, 1000, most, most + 1, most + 2} {
		wantBad(t, b[:n])
		wantBad(t, bytes.Clone(b[:n]))
	}
	wantRead(t, b, of(most), most+3)
}

func TestReadOfEachFirstByte(t *testing.T) {
	behind := of(300)
	for c := range 256 {
		b := append([]byte{byte(c)}, behind...)
		if c < 128 {
			wantRead(t, b, behind[:c], 1+c)
		} else {
			// The byte behind it, 1, ends the count: 128 of it for the 128 that says so.
			wantRead(t, b, behind[1:1+c], 2+c)
		}
	}
}

// Each count near the limit, with as many bytes behind it as it says, and one fewer.
func TestReadNearTheLimit(t *testing.T) {
	bytesOf := of(most + 20)
	for count := most - 5; count <= most+5; count++ {
		b := append(counted(count), bytesOf...)
		full := len(counted(count)) + count
		if count <= most {
			wantRead(t, b, bytesOf[:count], full)
			wantRead(t, b[:full], bytesOf[:count], full)
		} else {
			wantBad(t, b)
			wantBad(t, b[:full])
		}
		wantBad(t, b[:full-1])
	}
}

func TestReadLeavesWhatIsHandedInAndAnswersNewMemory(t *testing.T) {
	for _, count := range []int{0, 1, 2, 127, 128, 4000, most} {
		for _, behind := range [][]byte{nil, {9}, {1, 97}} {
			plain := append(framed(of(count)), behind...)
			b := roomy(plain)
			first, _, _ := frame.Read(b)
			second, _, _ := frame.Read(b)
			if hasMark(first) {
				t.Errorf("of %d bytes: the spare room was handed out", count)
			}
			overwrite(first)
			if !isRoomy(b, plain) {
				t.Errorf("of %d bytes: what was handed in was changed, or shares memory with the record", count)
			}
			overwrite(b)
			if !bytes.Equal(second, of(count)) {
				t.Errorf("of %d bytes: a record was changed later", count)
			}
		}
	}
	for _, list := range torn() {
		for _, plain := range list {
			b := roomy(plain)
			frame.Read(b)
			if !isRoomy(b, plain) {
				t.Errorf("Read(%s) changed what was handed in", short(plain))
			}
		}
	}
}

// P9.3

// files lists records whose frames stand one behind the other.
func files() [][][]byte {
	var many, empty [][]byte
	for i := range 300 {
		many = append(many, of(i))
		empty = append(empty, nil)
	}
	return [][][]byte{
		nil, {{}}, {of(1)}, {of(127)}, {of(128)}, {of(most)},
		{{}, {}}, {{}, {}, {}}, {of(1), {}}, {{}, of(1)}, {of(1), {}, of(2), {}},
		{of(127), of(128)}, {of(128), of(127)}, {of(1), of(most), of(2)}, {of(most), of(most), of(most)},
		{{0}, {1, 97}, {128}, {255, 255}}, many, empty,
	}
}

func TestScanAndEachOfWholeFrames(t *testing.T) {
	wantScan(t, nil, nil, 0)
	wantScan(t, []byte{}, nil, 0)
	for _, records := range files() {
		b := framed(records...)
		wantScan(t, b, records, len(b))
	}
}

func TestScanAndEachWithATornEnd(t *testing.T) {
	for name, list := range torn() {
		t.Run(name, func(t *testing.T) {
			for _, end := range list {
				wantScan(t, end, nil, 0)
				for _, records := range files() {
					b := framed(records...)
					wantScan(t, append(b, end...), records, len(b))
				}
			}
		})
	}
}

// What stands behind a frame that is not whole is torn, whole frames too.
func TestScanAndEachEndAtTheFirstThatIsNotWhole(t *testing.T) {
	for _, bad := range [][]byte{{128, 0}, {129, 0}, {129, 128, 8}, bytes.Repeat([]byte{255}, 10)} {
		b := slices.Concat(framed(of(2), of(1)), bad, framed(of(1), nil, of(3)))
		wantScan(t, b, [][]byte{of(2), of(1)}, 5)
		wantScan(t, slices.Concat(bad, b), nil, 0)
	}
}

func TestScanOfNothingAnswersNoList(t *testing.T) {
	for _, b := range [][]byte{nil, {}, {128}, {1}, {128, 0}, {2, 97}} {
		if l, n := frame.Scan(b); len(l) != 0 || n != 0 {
			t.Errorf("Scan(%v) = %v, %d", b, l, n)
		}
	}
}

func TestScanLeavesWhatIsHandedInAndItsRecordsShareNothing(t *testing.T) {
	for _, records := range files() {
		for _, end := range [][]byte{nil, {128}, {3, 97}} {
			plain := append(framed(records...), end...)
			b := roomy(plain)
			first, _ := frame.Scan(b)
			second, _ := frame.Scan(b)
			for i, r := range first {
				if hasMark(r) {
					t.Errorf("record %d of %s: the spare room was handed out", i, short(plain))
				}
				overwrite(r)
				if rest := first[i+1:]; !same(rest, records[i+1:]) {
					t.Fatalf("record %d of %s shares memory with one behind it", i, short(plain))
				}
			}
			for i := len(second) - 1; i >= 0; i-- {
				if !same(second[:i+1], records[:i+1]) {
					t.Fatalf("record %d of %s shares memory with one behind it, or with an answer ahead", i, short(plain))
				}
				overwrite(second[i])
			}
			if !isRoomy(b, plain) {
				t.Errorf("Scan(%s): what was handed in was changed, or shares memory with the records", short(plain))
			}
			third, _ := frame.Scan(b)
			overwrite(b)
			if !same(third, records) {
				t.Errorf("Scan(%s): the records were changed later", short(plain))
			}
			for _, spare := range third[len(third):cap(third)] {
				if spare != nil {
					t.Errorf("Scan(%s): something stands in the list's spare room", short(plain))
				}
			}
		}
	}
}

func TestEachIsNeverNil(t *testing.T) {
	for _, b := range [][]byte{nil, {}, {128}, {1}, {2, 97}, {0}, {1, 97}, bytes.Repeat([]byte{255}, 30)} {
		if frame.Each(b) == nil {
			t.Errorf("Each(%v) is nil", b)
		}
	}
}

func TestEachIsStoppedAnywhereAndGoneOverAgain(t *testing.T) {
	for _, records := range files() {
		all := foundOf(records)
		each := frame.Each(append(framed(records...), 2, 97))
		for stop := range all {
			if stop > 4 && stop < len(all)-3 && stop%50 != 0 {
				continue
			}
			var now []found
			for at, r := range each {
				now = append(now, found{at, string(r)})
				if len(now) == stop+1 {
					break
				}
			}
			if !slices.Equal(now, all[:stop+1]) {
				t.Errorf("%d records, stopped at %d: %d, or other places", len(records), stop, len(now))
			}
			if now := eachOf(each); !slices.Equal(now, all) {
				t.Errorf("%d records, gone over again behind a stop at %d: %d, or other places", len(records), stop, len(now))
			}
		}
	}
}

// A function that answers false is not called again.
func TestEachHandsOutNothingBehindAStop(t *testing.T) {
	calls := 0
	frame.Each(framed(of(1), nil, of(2)))(func(int, []byte) bool {
		calls++
		return calls < 2
	})
	if calls != 2 {
		t.Errorf("called %d times; want 2", calls)
	}
}

func TestEachWithinItself(t *testing.T) {
	records := [][]byte{of(2), nil, of(1), of(130)}
	all := foundOf(records)
	each := frame.Each(framed(records...))
	var outer []found
	for at, r := range each {
		outer = append(outer, found{at, string(r)})
		if inner := eachOf(each); !slices.Equal(inner, all) {
			t.Errorf("within, at %d: %v", at, inner)
		}
	}
	if !slices.Equal(outer, all) {
		t.Errorf("outside: %v", outer)
	}
}

func TestEachPulled(t *testing.T) {
	each := frame.Each(framed(of(2), of(1)))
	nextA, stopA := iter.Pull2(each)
	nextB, stopB := iter.Pull2(each)
	defer stopA()
	defer stopB()
	for i, want := range foundOf([][]byte{of(2), of(1)}) {
		for _, next := range []func() (int, []byte, bool){nextA, nextB} {
			if at, r, ok := next(); !ok || at != want.at || string(r) != want.text {
				t.Errorf("pulled %d: %d, %v, %t", i, at, r, ok)
			}
		}
	}
	if at, r, ok := nextA(); ok || at != 0 || r != nil {
		t.Errorf("behind the last: %d, %v, %t", at, r, ok)
	}
}

func TestEachGoesOverWhatWasThereAtTheCall(t *testing.T) {
	for _, records := range files() {
		b := roomy(append(framed(records...), 128))
		each := frame.Each(b)
		overwrite(b)
		if all := eachOf(each); !slices.Equal(all, foundOf(records)) {
			t.Errorf("%d records, the bytes changed behind the call: %d, or others", len(records), len(all))
		}
		clear(b)
		var now []found
		for at, r := range each {
			now = append(now, found{at, string(r)})
			overwrite(b)
		}
		if !slices.Equal(now, foundOf(records)) {
			t.Errorf("%d records, the bytes changed on the way: %d, or others", len(records), len(now))
		}
	}
}

// What is done to a record that was handed out is seen nowhere else.
func TestEachHandsOutNewMemory(t *testing.T) {
	for _, records := range files() {
		plain := append(framed(records...), 2, 97)
		b := roomy(plain)
		each := frame.Each(b)
		if !isRoomy(b, plain) {
			t.Errorf("Each(%s) changed what was handed in", short(plain))
		}
		var kept [][]byte
		for _, r := range each {
			if hasMark(r) {
				t.Errorf("Each(%s): the spare room was handed out", short(plain))
			}
			kept = append(kept, r)
		}
		i := 0
		for at, r := range each {
			if !bytes.Equal(r, records[i]) {
				t.Fatalf("Each(%s): the record at %d was changed by one ahead of it", short(plain), at)
			}
			overwrite(r)
			i++
		}
		if !isRoomy(b, plain) {
			t.Errorf("Each(%s): what was handed in shares memory with the records", short(plain))
		}
		if !same(kept, records) {
			t.Errorf("Each(%s): going over again hands out the same memory", short(plain))
		}
		if all := eachOf(each); !slices.Equal(all, foundOf(records)) {
			t.Errorf("Each(%s): the records were changed by what was done to those handed out", short(plain))
		}
	}
}

// P9.4

func TestScanOfAppendedFramesGivesThemBack(t *testing.T) {
	for _, records := range files() {
		var b []byte
		for i, r := range records {
			b = appended(t, b, r)
			if i < 20 {
				wantScan(t, b, records[:i+1], len(b))
			}
		}
		wantScan(t, b, records, len(b))
	}
}

// chains lists records whose frames have counts of one, two and three bytes.
func chains() [][][]byte {
	return [][][]byte{
		{of(2), nil, of(1), nil, nil, of(5)},
		{of(127), of(128), nil, of(129), of(1)},
		{nil, of(16384), of(3), of(16383), nil},
		{{128}, {1, 97}, {255, 255, 255}, {0, 0}},
	}
}

func TestScanOfEachFirstPart(t *testing.T) {
	for _, records := range chains() {
		var b []byte
		ends := []int{0}
		for _, r := range records {
			b = appended(t, b, r)
			ends = append(ends, len(b))
		}
		whole := 0
		for n := range len(b) + 1 {
			if whole < len(records) && ends[whole+1] <= n {
				whole++
			}
			wantScan(t, b[:n], records[:whole], ends[whole])
		}
		if whole != len(records) {
			t.Errorf("%d of %d records were found at last", whole, len(records))
		}
	}
}

// The first part of a greatest record's frame, at some places.
func TestScanOfFirstPartsOfAGreatRecord(t *testing.T) {
	b := appended(t, appended(t, appended(t, nil, of(3)), of(most)), of(1))
	for _, n := range []int{4, 5, 6, 7, 8, 1000, most, most + 6} {
		wantScan(t, b[:n], [][]byte{of(3)}, 4)
	}
	wantScan(t, b[:most+7], [][]byte{of(3), of(most)}, most+7)
	wantScan(t, b[:most+8], [][]byte{of(3), of(most)}, most+7)
	wantScan(t, b, [][]byte{of(3), of(most), of(1)}, most+9)
}

func TestAppendBehindTheGoodLengthIsFoundAsOneMore(t *testing.T) {
	for _, records := range chains() {
		b := framed(records...)
		for n := 0; n <= len(b); n += 1 + n/100 {
			l, good := frame.Scan(b[:n])
			for _, more := range [][]byte{nil, of(1), of(200)} {
				longer := appended(t, b[:good], more)
				wantScan(t, longer, append(slices.Clone(l), more), len(longer))
			}
		}
	}
}

// A second telling: bytes begin with a frame just if they begin with the frame of some record, which is tried for each count.

func readAnew(b []byte) (record []byte, n int, ok bool) {
	for count := range min(len(b), most) + 1 {
		head := counted(count)
		if n := len(head) + count; n <= len(b) && bytes.HasPrefix(b, head) {
			return b[len(head):n], n, true
		}
	}
	return nil, 0, false
}

func scanAnew(b []byte) (records [][]byte, good int) {
	for {
		r, n, ok := readAnew(b[good:])
		if !ok {
			return records, good
		}
		records = append(records, r)
		good += n
	}
}

func wantAsTold(t *testing.T, b []byte) {
	t.Helper()
	if r, n, ok := readAnew(b); ok {
		wantRead(t, b, r, n)
	} else {
		wantBad(t, b)
	}
	records, good := scanAnew(b)
	wantScan(t, b, records, good)
}

func TestEveryShortListOfBytes(t *testing.T) {
	choice := []byte{0, 1, 2, 3, 127, 128, 129, 130, 255}
	var b []byte
	var longer func()
	longer = func() {
		wantAsTold(t, b)
		if len(b) == 5 || t.Failed() {
			return
		}
		for _, c := range choice {
			b = append(b, c)
			longer()
			b = b[:len(b)-1]
		}
	}
	longer()
}

func TestEveryTwoBytes(t *testing.T) {
	for x := range 1 << 16 {
		b := append([]byte{byte(x), byte(x >> 8)}, of(140)...)
		wantAsTold(t, b[:2])
		wantAsTold(t, b[:2+x%139])
		if t.Failed() {
			return
		}
	}
}

// turn is a row of numbers that looks mixed and is always the same.
type turn uint64

func (t *turn) below(n int) int {
	*t = *t*6364136223846793005 + 1442695040888963407
	return int(uint64(*t) >> 33 % uint64(n))
}

// mixed answers bytes that are frames now and then.
func mixed(from *turn) []byte {
	var b []byte
	for range from.below(12) {
		switch from.below(6) {
		case 0:
			b = append(b, byte(from.below(256)))
		case 1:
			b = append(b, counted(from.below(300))...)
		case 2:
			b = append(b, 0)
		default:
			b = append(b, framed(of(from.below(1+from.below(400))))...)
		}
	}
	return b
}

func TestMixedBytes(t *testing.T) {
	from := turn(9)
	for range 5000 {
		b := mixed(&from)
		wantAsTold(t, b)
		wantAsTold(t, b[:from.below(len(b)+1)])
		if t.Failed() {
			return
		}
	}
}

func FuzzFrames(f *testing.F) {
	f.Add([]byte{}, []byte{})
	f.Add([]byte{1, 97, 0, 2, 98}, []byte("ab"))
	f.Add([]byte{128, 128, 8}, of(130))
	f.Add([]byte{129, 128, 8, 1}, of(1))
	f.Fuzz(func(t *testing.T, b, record []byte) {
		wantAsTold(t, b)
		l, good := frame.Scan(b)
		if len(record) > most {
			return
		}
		longer := appended(t, b[:good], record)
		if !bytes.Equal(longer[:good], b[:good]) {
			t.Error("what stood ahead was changed")
		}
		wantScan(t, longer, append(l, record), len(longer))
	})
}
