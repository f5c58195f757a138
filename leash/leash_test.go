package leash_test

import (
	"math"
	"slices"
	"testing"

	"lagleash/api"
	"lagleash/leash"
)

// The greatest leash, and the greatest number of a commit, as the document writes them.
const (
	longest    = 16
	mostNumber = 1048576
)

// answer is a number with the error beside it.
type answer struct {
	n int
	e api.Errno
}

func just(n int) answer { return answer{n, api.OK} }

// wrong is what is answered of numbers that may not be.
func wrong() answer { return answer{0, api.ErrArg} }

func wantCheck(t *testing.T, most int, want api.Errno) {
	t.Helper()
	if e := leash.Check(most); e != want {
		t.Errorf("Check(%d): %d, want %d", most, e, want)
	}
}

func wantOut(t *testing.T, end, acked int, want answer) {
	t.Helper()
	if n, e := leash.Out(end, acked); n != want.n || e != want.e {
		t.Errorf("Out(%d, %d): %d, %d, want %v", end, acked, n, e, want)
	}
}

func wantAdmit(t *testing.T, end, acked, most int, want api.Errno) {
	t.Helper()
	if e := leash.Admit(end, acked, most); e != want {
		t.Errorf("Admit(%d, %d, %d): %d, want %d", end, acked, most, e, want)
	}
}

func wantAcked(t *testing.T, end, acked, told int, want answer) {
	t.Helper()
	if n, e := leash.Acked(end, acked, told); n != want.n || e != want.e {
		t.Errorf("Acked(%d, %d, %d): %d, %d, want %v", end, acked, told, n, e, want)
	}
}

func wantRoom(t *testing.T, end, acked, most int, want answer) {
	t.Helper()
	if n, e := leash.Room(end, acked, most); n != want.n || e != want.e {
		t.Errorf("Room(%d, %d, %d): %d, %d, want %v", end, acked, most, n, e, want)
	}
}

// A second telling: it takes commits one by one instead of reckoning.

func mayBeLeash(most int) bool { return 1 <= most && most <= longest }

func mayBeLog(end, acked int) bool {
	return 0 <= end && end <= mostNumber && 0 <= acked && acked <= end
}

func toldCheck(most int) api.Errno {
	if mayBeLeash(most) {
		return api.OK
	}
	return api.ErrArg
}

func toldOut(end, acked int) answer {
	if !mayBeLog(end, acked) {
		return wrong()
	}
	return just(end - acked)
}

// toldRoom takes commits as long as there is a number for the next one, and at most most are out behind it.
func toldRoom(end, acked, most int) answer {
	if !mayBeLeash(most) || !mayBeLog(end, acked) {
		return wrong()
	}
	taken := 0
	for number := end + 1; number <= mostNumber && number <= acked+most; number++ {
		taken++
	}
	return just(taken)
}

func toldAdmit(end, acked, most int) api.Errno {
	room := toldRoom(end, acked, most)
	switch {
	case room.e != api.OK:
		return room.e
	case room.n > 0:
		return api.OK
	case end+1 > acked+most:
		return api.ErrLagging
	}
	return api.ErrArg
}

func toldAcked(end, acked, told int) answer {
	switch {
	case !mayBeLog(end, acked):
		return wrong()
	case told < acked:
		return just(acked)
	case told > end:
		return just(end)
	}
	return just(told)
}

// wantAsTold holds all calls of these numbers against the second telling; x is a leash, and what a replica told.
func wantAsTold(t *testing.T, end, acked, x int) {
	t.Helper()
	wantCheck(t, x, toldCheck(x))
	wantOut(t, end, acked, toldOut(end, acked))
	wantAdmit(t, end, acked, x, toldAdmit(end, acked, x))
	wantAcked(t, end, acked, x, toldAcked(end, acked, x))
	wantRoom(t, end, acked, x, toldRoom(end, acked, x))
}

// extremes lists the least and the greatest int, what lies beside them, and numbers that would be within their bounds, cut down to fewer bits.
func extremes() []int {
	l := []int{math.MinInt, math.MinInt + 1, math.MinInt + 5, math.MaxInt - 5, math.MaxInt - 1, math.MaxInt}
	for _, wrap := range []int{1 << 8, 1 << 16, 1 << 31, 1 << 32, 1 << 62} {
		l = append(l, -wrap, 5-wrap, wrap, wrap+5)
	}
	return l
}

// edges lists the numbers at which an answer may turn, and the extremes.
func edges() []int {
	var l []int
	for _, middle := range []int{0, longest, mostNumber} {
		for off := range 7 {
			l = append(l, middle+off-3)
		}
	}
	return append(l, extremes()...)
}

// aboutTheNumbers lists spans of ends at which all near them is gone through: the least, and the greatest.
func aboutTheNumbers() [][2]int {
	return [][2]int{{-3, 40}, {mostNumber - 40, mostNumber + 3}}
}

// P15.1

func TestCheck(t *testing.T) {
	for most, want := range map[int]api.Errno{
		0: api.ErrArg, 1: api.OK, 2: api.OK, 3: api.OK, 15: api.OK, 16: api.OK, 17: api.ErrArg, 18: api.ErrArg,
		-1: api.ErrArg, -16: api.ErrArg, mostNumber: api.ErrArg, math.MinInt: api.ErrArg, math.MaxInt: api.ErrArg,
	} {
		wantCheck(t, most, want)
	}
}

func TestCheckOfEachNumberNearby(t *testing.T) {
	for most := -70000; most <= 70000; most++ {
		wantCheck(t, most, toldCheck(most))
	}
	for _, most := range edges() {
		wantCheck(t, most, toldCheck(most))
	}
}

func TestOut(t *testing.T) {
	for _, c := range []struct {
		end, acked int
		want       answer
	}{
		{-1, -2, wrong()}, {-1, -1, wrong()}, {-1, 0, wrong()}, {-1, 1, wrong()},
		{0, -1, wrong()}, {0, 0, just(0)}, {0, 1, wrong()},
		{1, -1, wrong()}, {1, 0, just(1)}, {1, 1, just(0)}, {1, 2, wrong()},
		{7, 0, just(7)}, {7, 6, just(1)}, {7, 7, just(0)}, {7, 8, wrong()},
		{mostNumber - 1, 0, just(mostNumber - 1)}, {mostNumber - 1, mostNumber - 1, just(0)}, {mostNumber - 1, mostNumber, wrong()},
		{mostNumber, -1, wrong()}, {mostNumber, 0, just(mostNumber)}, {mostNumber, 1, just(mostNumber - 1)},
		{mostNumber, mostNumber - 1, just(1)}, {mostNumber, mostNumber, just(0)}, {mostNumber, mostNumber + 1, wrong()},
		{mostNumber + 1, -1, wrong()}, {mostNumber + 1, 0, wrong()}, {mostNumber + 1, mostNumber, wrong()},
		{mostNumber + 1, mostNumber + 1, wrong()}, {mostNumber + 1, mostNumber + 2, wrong()},
	} {
		wantOut(t, c.end, c.acked, c.want)
	}
}

func TestOutOfTheLeastAndTheGreatest(t *testing.T) {
	for _, x := range extremes() {
		for _, y := range edges() {
			if !mayBeLog(x, y) {
				wantOut(t, x, y, wrong())
			}
			if !mayBeLog(y, x) {
				wantOut(t, y, x, wrong())
			}
		}
	}
	for _, x := range []int{math.MinInt, math.MaxInt} {
		for _, y := range []int{math.MinInt, -1, 0, 1, mostNumber, math.MaxInt} {
			wantOut(t, x, y, wrong())
			wantOut(t, y, x, wrong())
		}
	}
}

// What is out are the numbers of the log that are behind the acked position.
func TestOutCountsWhatIsBehindTheAckedPosition(t *testing.T) {
	for end := range 60 {
		for acked := range end + 1 {
			count := 0
			for number := 1; number <= end; number++ {
				if number > acked {
					count++
				}
			}
			wantOut(t, end, acked, just(count))
		}
	}
}

// P15.2

// numbers are what Admit and Room are asked of.
type numbers struct{ end, acked, most int }

// wrongNumbers lists what Check or Out refuses: one alone of what is wrong, and each with the others.
func wrongNumbers() []numbers {
	return []numbers{
		// The leash alone, with none and some out.
		{0, 0, 0}, {0, 0, -1}, {0, 0, 17}, {7, 5, 17}, {7, 5, 0}, {7, 7, math.MinInt}, {7, 7, math.MaxInt},
		// The end alone.
		{mostNumber + 1, mostNumber, 16}, {mostNumber + 1, mostNumber + 1, 1}, {mostNumber + 9, mostNumber, 16}, {math.MaxInt, math.MaxInt, 1},
		// The acked position alone.
		{2, -1, 16}, {0, -1, 16}, {5, 6, 3}, {5, 7, 3}, {5, math.MaxInt, 3}, {5, math.MinInt, 3}, {0, 1, 1},
		// The end and the acked position.
		{-1, -1, 1}, {-1, 0, 1}, {-1, -2, 16}, {-5, -9, 16}, {math.MinInt, math.MinInt, 1}, {math.MinInt, math.MaxInt, 1}, {mostNumber + 1, mostNumber + 2, 1}, {math.MaxInt, math.MinInt, 16},
		// The leash and the end, or the acked position.
		{mostNumber + 1, mostNumber + 1, 17}, {mostNumber + 1, mostNumber, 0}, {5, 7, 17}, {5, -1, 0}, {-1, -1, 0}, {math.MinInt, math.MinInt, math.MinInt}, {math.MaxInt, math.MaxInt, math.MaxInt},
	}
}

// wrongAndLagging lists what would be lagging, too, if only that were looked at.
func wrongAndLagging() []numbers {
	return []numbers{
		{8, 5, 0}, {8, 5, -1}, {8, 8, 0}, {8, 8, -3}, {20, 0, 17}, {20, 3, 17}, {8, 5, math.MinInt},
		{mostNumber + 1, mostNumber, 1}, {mostNumber + 1, 0, 16}, {math.MaxInt, 0, 16},
		{5, -1, 3}, {0, -1, 1}, {0, -16, 16}, {-1, -2, 1}, {-1, -30, 16},
		{mostNumber + 1, 0, 17}, {mostNumber + 1, -1, 0},
	}
}

// wrongAtTheGreatestEnd lists what would have no number left, too.
func wrongAtTheGreatestEnd() []numbers {
	return []numbers{
		{mostNumber, mostNumber, 0}, {mostNumber, mostNumber, 17}, {mostNumber, mostNumber + 1, 3}, {mostNumber, -1, 16}, {mostNumber, math.MinInt, 1},
		// And would be lagging as well.
		{mostNumber, 0, 17}, {mostNumber, mostNumber - 1, 0}, {mostNumber, mostNumber - 17, 17},
	}
}

func TestAdmitAndRoomRefuseWhatMayNotBe(t *testing.T) {
	for _, x := range slices.Concat(wrongNumbers(), wrongAndLagging(), wrongAtTheGreatestEnd()) {
		wantAdmit(t, x.end, x.acked, x.most, api.ErrArg)
		wantRoom(t, x.end, x.acked, x.most, wrong())
	}
}

func TestAdmit(t *testing.T) {
	for _, c := range []struct {
		end, acked, most int
		want             api.Errno
	}{
		// None, one less than most, just most and more are out.
		{0, 0, 1, api.OK}, {1, 0, 1, api.ErrLagging}, {2, 0, 1, api.ErrLagging},
		{0, 0, 3, api.OK}, {2, 0, 3, api.OK}, {3, 0, 3, api.ErrLagging}, {4, 0, 3, api.ErrLagging}, {400, 0, 3, api.ErrLagging},
		{9, 9, 3, api.OK}, {9, 7, 3, api.OK}, {9, 6, 3, api.ErrLagging}, {9, 5, 3, api.ErrLagging},
		{0, 0, 16, api.OK}, {15, 0, 16, api.OK}, {16, 0, 16, api.ErrLagging}, {17, 0, 16, api.ErrLagging},
		{115, 100, 16, api.OK}, {116, 100, 16, api.ErrLagging}, {117, 100, 16, api.ErrLagging},
		// The last number but one, and the one ahead of it.
		{mostNumber - 1, mostNumber - 1, 1, api.OK}, {mostNumber - 1, mostNumber - 2, 1, api.ErrLagging}, {mostNumber - 1, mostNumber - 16, 16, api.OK},
		{mostNumber - 1, mostNumber - 17, 16, api.ErrLagging}, {mostNumber - 1, 0, 16, api.ErrLagging}, {mostNumber - 2, mostNumber - 2, 1, api.OK},
		// The last number: what is lagging is told ahead of what has no number.
		{mostNumber, mostNumber, 1, api.ErrArg}, {mostNumber, mostNumber, 16, api.ErrArg}, {mostNumber, mostNumber - 1, 2, api.ErrArg}, {mostNumber, mostNumber - 15, 16, api.ErrArg},
		{mostNumber, mostNumber - 1, 1, api.ErrLagging}, {mostNumber, mostNumber - 16, 16, api.ErrLagging}, {mostNumber, mostNumber - 17, 16, api.ErrLagging}, {mostNumber, 0, 16, api.ErrLagging},
	} {
		wantAdmit(t, c.end, c.acked, c.most, c.want)
	}
}

func TestRoom(t *testing.T) {
	for _, c := range []struct{ end, acked, most, want int }{
		// None, some, one less than most, just most and more are out.
		{0, 0, 1, 1}, {1, 0, 1, 0}, {2, 0, 1, 0},
		{0, 0, 3, 3}, {1, 0, 3, 2}, {2, 0, 3, 1}, {3, 0, 3, 0}, {4, 0, 3, 0}, {400, 0, 3, 0},
		{9, 9, 3, 3}, {9, 8, 3, 2}, {9, 7, 3, 1}, {9, 6, 3, 0}, {9, 5, 3, 0}, {9, 0, 3, 0},
		{0, 0, 16, 16}, {7, 0, 16, 9}, {15, 0, 16, 1}, {16, 0, 16, 0}, {17, 0, 16, 0},
		// Near the greatest number, where just so many, fewer or no numbers are left.
		{mostNumber - 17, mostNumber - 17, 16, 16}, {mostNumber - 16, mostNumber - 16, 16, 16}, {mostNumber - 15, mostNumber - 15, 16, 15}, {mostNumber - 15, mostNumber - 16, 16, 15},
		{mostNumber - 2, mostNumber - 2, 16, 2}, {mostNumber - 2, mostNumber - 15, 16, 2}, {mostNumber - 2, mostNumber - 16, 16, 2}, {mostNumber - 2, mostNumber - 17, 16, 1}, {mostNumber - 2, mostNumber - 18, 16, 0}, {mostNumber - 2, 0, 16, 0},
		{mostNumber - 1, mostNumber - 1, 1, 1}, {mostNumber - 1, mostNumber - 1, 16, 1}, {mostNumber - 1, mostNumber - 2, 1, 0}, {mostNumber - 1, mostNumber - 2, 2, 1},
		{mostNumber, mostNumber, 1, 0}, {mostNumber, mostNumber, 16, 0}, {mostNumber, mostNumber - 5, 16, 0}, {mostNumber, mostNumber - 16, 16, 0}, {mostNumber, mostNumber - 17, 16, 0}, {mostNumber, 0, 16, 0},
	} {
		wantRoom(t, c.end, c.acked, c.most, just(c.want))
	}
}

func TestAdmitAndRoomOfAllNearby(t *testing.T) {
	for _, span := range aboutTheNumbers() {
		for end := span[0]; end <= span[1]; end++ {
			for acked := span[0] - 2; acked <= span[1]+2; acked++ {
				for most := -2; most <= longest+3; most++ {
					wantAdmit(t, end, acked, most, toldAdmit(end, acked, most))
					wantRoom(t, end, acked, most, toldRoom(end, acked, most))
				}
			}
		}
	}
}

// P15.3

func TestAcked(t *testing.T) {
	for _, c := range []struct{ end, acked, told, want int }{
		// Below 0, at 0, below acked, at acked, between, at the end, above it.
		{8, 5, -1, 5}, {8, 5, -8, 5}, {8, 5, 0, 5}, {8, 5, 1, 5}, {8, 5, 4, 5}, {8, 5, 5, 5}, {8, 5, 6, 6}, {8, 5, 7, 7}, {8, 5, 8, 8}, {8, 5, 9, 8}, {8, 5, 20, 8},
		{8, 5, mostNumber, 8}, {8, 5, mostNumber + 1, 8}, {8, 5, math.MinInt, 5}, {8, 5, math.MinInt + 1, 5}, {8, 5, math.MaxInt, 8}, {8, 5, math.MaxInt - 1, 8},
		// Nothing acked, all acked, no log.
		{8, 0, -1, 0}, {8, 0, 0, 0}, {8, 0, 1, 1}, {8, 0, 8, 8}, {8, 0, 9, 8}, {8, 0, math.MinInt, 0}, {8, 0, math.MaxInt, 8},
		{8, 8, -1, 8}, {8, 8, 0, 8}, {8, 8, 7, 8}, {8, 8, 8, 8}, {8, 8, 9, 8}, {8, 8, math.MinInt, 8}, {8, 8, math.MaxInt, 8},
		{0, 0, -1, 0}, {0, 0, 0, 0}, {0, 0, 1, 0}, {0, 0, math.MinInt, 0}, {0, 0, math.MaxInt, 0},
		// More than any leash at once.
		{100, 0, 99, 99}, {mostNumber, 0, mostNumber - 1, mostNumber - 1}, {mostNumber, 0, mostNumber, mostNumber}, {mostNumber, 0, mostNumber + 1, mostNumber},
		{mostNumber, mostNumber, -1, mostNumber}, {mostNumber, mostNumber - 1, mostNumber, mostNumber}, {mostNumber, 3, math.MinInt, 3}, {mostNumber, 3, math.MaxInt, mostNumber},
	} {
		wantAcked(t, c.end, c.acked, c.told, just(c.want))
	}
}

// Whatever is told, Out's error is answered, with no number beside it.
func TestAckedRefusesWhatOutRefuses(t *testing.T) {
	ends := []struct{ end, acked int }{
		{-1, -1}, {-1, 0}, {-1, -2}, {0, -1}, {0, 1}, {5, -1}, {5, 6}, {5, 7}, {mostNumber, mostNumber + 1}, {mostNumber, -1},
		{mostNumber + 1, 0}, {mostNumber + 1, mostNumber}, {mostNumber + 1, mostNumber + 1}, {mostNumber + 1, mostNumber + 2},
		{math.MinInt, math.MinInt}, {math.MinInt, 0}, {math.MaxInt, 0}, {math.MaxInt, math.MaxInt}, {0, math.MinInt}, {0, math.MaxInt}, {math.MinInt, math.MaxInt}, {math.MaxInt, math.MinInt},
	}
	for _, x := range ends {
		for _, told := range append(edges(), x.end, x.acked) {
			wantAcked(t, x.end, x.acked, told, wrong())
		}
	}
}

func TestAckedOfAllNearby(t *testing.T) {
	for _, span := range aboutTheNumbers() {
		for end := span[0]; end <= span[1]; end++ {
			for acked := span[0] - 2; acked <= span[1]+2; acked++ {
				for told := span[0] - 3; told <= span[1]+3; told++ {
					wantAcked(t, end, acked, told, toldAcked(end, acked, told))
				}
			}
		}
	}
}

// P15.4

// primary is a log on a leash, as a node keeps it.
type primary struct{ end, acked, most int }

func (p *primary) out() int { return p.end - p.acked }

// commit takes one commit more, if Admit takes it, and answers whether it did.
func (p *primary) commit(t *testing.T) bool {
	t.Helper()
	ahead := p.out()
	switch e := leash.Admit(p.end, p.acked, p.most); {
	case e == api.OK:
		p.end++
		if p.out() > p.most || p.end > mostNumber {
			t.Fatalf("a commit was taken: %+v", *p)
		}
		return true
	case e == api.ErrLagging && ahead >= p.most:
	case e == api.ErrArg && p.end == mostNumber && ahead < p.most:
	default:
		t.Fatalf("a commit was refused with %d: %+v", e, *p)
	}
	return false
}

// hear takes what a replica told.
func (p *primary) hear(t *testing.T, told int) {
	t.Helper()
	n, e := leash.Acked(p.end, p.acked, told)
	if e != api.OK || n < p.acked || n > p.end || n < min(told, p.end) || n > max(told, p.acked) {
		t.Fatalf("told %d: %d, %d: %+v", told, n, e, *p)
	}
	p.acked = n
}

// wantRoomIsTaken takes commits of a copy till one is refused.
func (p primary) wantRoomIsTaken(t *testing.T) {
	t.Helper()
	taken := 0
	for x := p; x.commit(t); {
		taken++
	}
	wantRoom(t, p.end, p.acked, p.most, just(taken))
}

// wantAsReckoned looks at what the other calls tell of it.
func (p primary) wantAsReckoned(t *testing.T) {
	t.Helper()
	wantOut(t, p.end, p.acked, just(p.out()))
	p.wantRoomIsTaken(t)
}

// onEachLeash plays a test from each of some beginnings on: no log, one that is far behind, and logs near the greatest number.
func onEachLeash(t *testing.T, play func(t *testing.T, p primary)) {
	for most := 1; most <= longest; most++ {
		for _, p := range []primary{
			{0, 0, most}, {3, 3, most}, {most, 0, most}, {100, 60, most}, {mostNumber - 40, mostNumber - 40, most},
			{mostNumber - most - 1, mostNumber - most - 1, most}, {mostNumber - most, mostNumber - most - 1, most}, {mostNumber - 1, 0, most}, {mostNumber, mostNumber - most, most},
		} {
			play(t, p)
			if t.Failed() {
				return
			}
		}
	}
}

// playAll plays each script of so many acts: a commit, commits till one is refused, and each kind of what a replica tells.
func (p primary) playAll(t *testing.T, acts int) {
	t.Helper()
	p.wantAsReckoned(t)
	if acts == 0 {
		return
	}
	one, all := p, p
	one.commit(t)
	one.playAll(t, acts-1)
	for all.commit(t) {
	}
	all.playAll(t, acts-1)
	for _, told := range []int{-1, p.acked - 1, p.acked, p.acked + 1, (p.acked + p.end) / 2, p.end - 1, p.end, p.end + 1} {
		heard := p
		heard.hear(t, told)
		heard.playAll(t, acts-1)
	}
}

func TestEveryShortScript(t *testing.T) {
	onEachLeash(t, func(t *testing.T, p primary) { p.playAll(t, 3) })
}

// The first most commits of a log are taken, and no more, if nothing is told: P5 as far as it speaks of these calls.
func TestTheFirstCommitsAreTaken(t *testing.T) {
	for most := 1; most <= longest; most++ {
		p := primary{most: most}
		for at := range 3 * most {
			if taken := p.commit(t); taken != (at < most) {
				t.Errorf("on the leash %d, the commit %d: taken %t", most, at, taken)
			}
			p.hear(t, 0)
			p.hear(t, -1)
		}
		wantAdmit(t, p.end, p.acked, most, api.ErrLagging)
		p.hear(t, p.end)
		wantRoom(t, p.end, p.acked, most, just(most))
	}
}

// With an ack of each commit, as many are taken as there are numbers, on the shortest leash too.
func TestAllNumbersAreTakenWithAcks(t *testing.T) {
	for _, most := range []int{1, 16} {
		p := primary{most: most}
		for p.commit(t) {
			p.hear(t, p.end)
		}
		if p.end != mostNumber {
			t.Errorf("on the leash %d: %d were taken", most, p.end)
		}
		wantAdmit(t, p.end, p.acked, most, api.ErrArg)
	}
}

// turn is a row of numbers that looks mixed and is always the same.
type turn uint64

func (r *turn) below(n int) int {
	*r = *r*6364136223846793005 + 1442695040888963407
	return int(uint64(*r) >> 33 % uint64(n))
}

// told answers what a replica may tell of its end, old and wrong news too.
func (r *turn) told(p primary) int {
	switch r.below(8) {
	case 0:
		return edges()[r.below(len(edges()))]
	case 1:
		return p.acked - r.below(30)
	case 2:
		return p.end + r.below(30)
	}
	return p.acked + r.below(p.out()+1)
}

func TestLongScripts(t *testing.T) {
	r := turn(15)
	onEachLeash(t, func(t *testing.T, p primary) {
		for range 400 {
			ahead := p
			if r.below(3) > 0 {
				p.commit(t)
			} else {
				p.hear(t, r.told(p))
			}
			if p.acked < ahead.acked || p.out() > max(p.most, ahead.out()) {
				t.Fatalf("%+v, behind %+v", p, ahead)
			}
			p.wantAsReckoned(t)
		}
	})
}

// A replica that takes a first part of the log and tells of it, in letters that are lost, held back, doubled and turned about: what it does not have is never more than the leash.
func TestWhatAReplicaLacks(t *testing.T) {
	r := turn(4)
	for most := 1; most <= longest; most++ {
		p, replica, flight := primary{most: most}, 0, []int{}
		for range 2000 {
			switch r.below(4) {
			case 0, 1:
				p.commit(t)
			case 2:
				replica = min(replica+r.below(5), p.end)
				flight = append(flight, replica)
			case 3:
				if len(flight) > 0 {
					p.hear(t, flight[r.below(len(flight))])
				}
			}
			if p.acked > replica || p.end-replica > most {
				t.Fatalf("the replica's end is %d: %+v", replica, p)
			}
		}
		if p.end < 5*most {
			t.Errorf("only %d commits were taken on the leash %d", p.end, most)
		}
	}
}

// What is told twice, or told in another order, comes to the same.
func TestAckedOfWhatIsToldTwiceOrTurnedAbout(t *testing.T) {
	for end := range 12 {
		for acked := range end + 1 {
			for a := -2; a <= end+2; a++ {
				for b := -2; b <= end+2; b++ {
					p, other := primary{end, acked, 1}, primary{end, acked, 1}
					p.hear(t, a)
					p.hear(t, b)
					other.hear(t, b)
					other.hear(t, a)
					other.hear(t, b)
					if p != other {
						t.Errorf("%d and %d told: %+v and %+v", a, b, p, other)
					}
				}
			}
		}
	}
}

// P1

// Each edge beside each other one, at all places; gone through twice, the second time backward, as no answer hangs on a call ahead.
func TestAllCallsEndAtAllEdges(t *testing.T) {
	l := edges()
	for range 2 {
		for _, end := range l {
			for _, acked := range l {
				for _, x := range l {
					wantAsTold(t, end, acked, x)
				}
			}
		}
		slices.Reverse(l)
	}
}

func TestMixedNumbers(t *testing.T) {
	r := turn(1)
	for range 200000 {
		end := r.below(mostNumber + 50)
		acked := max(end-r.below(25), r.below(4)-2)
		wantAsTold(t, end, acked, r.below(longest+3))
		wantAsTold(t, end, acked, acked+r.below(60)-30)
		wantAsTold(t, end, r.below(end+2), r.below(mostNumber+2))
		if t.Failed() {
			return
		}
	}
}

// The chapter's examples.

func TestExamples(t *testing.T) {
	wantOut(t, 7, 5, just(2))
	wantOut(t, 5, 7, wrong())
	wantAdmit(t, 7, 5, 3, api.OK)
	wantAdmit(t, 8, 5, 3, api.ErrLagging)
	wantAdmit(t, 0, 0, 17, api.ErrArg)
	wantAcked(t, 8, 5, 7, just(7))
	wantAcked(t, 8, 5, 4, just(5))
	wantAcked(t, 8, 5, 20, just(8))
	wantAcked(t, 8, 5, -1, just(5))
	wantRoom(t, 8, 5, 3, just(0))
	wantRoom(t, 8, 8, 3, just(3))
}

// DOC.md's first two examples of the whole, as far as they speak of these calls.
func TestExamplesOfTheWhole(t *testing.T) {
	p := primary{most: 2}
	if !p.commit(t) || !p.commit(t) || p.commit(t) {
		t.Errorf("two are taken: %+v", p)
	}
	wantAdmit(t, 2, 0, 2, api.ErrLagging)
	p.hear(t, 2)
	wantOut(t, 2, p.acked, just(0))
	if !p.commit(t) || p.end != 3 {
		t.Errorf("the third is taken: %+v", p)
	}
}

func FuzzCalls(f *testing.F) {
	f.Add(7, 5, 3)
	f.Add(8, 5, 20)
	f.Add(mostNumber, mostNumber-1, 1)
	f.Add(mostNumber-2, mostNumber-2, longest)
	f.Add(math.MinInt, math.MaxInt, -1)
	f.Fuzz(func(t *testing.T, end, acked, x int) {
		wantAsTold(t, end, acked, x)
		// Most numbers are far out of their bounds: these are near them.
		near := end%(mostNumber+40) - 10
		wantAsTold(t, near, near-acked%25, x%20)
		wantAsTold(t, near, near-acked%25, near+x%40)
	})
}
