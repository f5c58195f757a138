package starts_test

import (
	"math"
	"slices"
	"testing"

	"lagleash/api"
	"lagleash/commit"
	"lagleash/starts"
)

const most = 1048576 // the greatest epoch and number, as the document writes it

// list makes starts of pairs: an epoch, its first number.
func list(pairs ...int) []api.Start {
	var l []api.Start
	for at := 0; at < len(pairs); at += 2 {
		l = append(l, api.Start{Epoch: pairs[at], First: pairs[at+1]})
	}
	return l
}

// one is a commit of a small batch.
func one(epoch, number int) api.Commit {
	return api.Commit{Epoch: epoch, Number: number, Ops: []api.Op{{Put: true, Key: "a", Value: "1"}}}
}

// logOf makes a log with these epochs.
func logOf(epochs ...int) []api.Commit {
	var l []api.Commit
	for at, epoch := range epochs {
		l = append(l, one(epoch, at+1))
	}
	return l
}

// The second telling of the layer: a log is the list of its commits' epochs, and all is told by going through it.

// startsOf lists where a number's epoch is not the one ahead's.
func startsOf(epochs []int) []api.Start {
	var l []api.Start
	for at, epoch := range epochs {
		if at == 0 || epochs[at-1] != epoch {
			l = append(l, api.Start{Epoch: epoch, First: at + 1})
		}
	}
	return l
}

// epochsOf tells each number's epoch from starts that may be.
func epochsOf(l []api.Start, end int) []int {
	epochs := make([]int, end)
	for _, s := range l {
		for at := s.First - 1; at < end; at++ {
			epochs[at] = s.Epoch
		}
	}
	return epochs
}

// forkOf tries all numbers that both have.
func forkOf(a, b []int) int {
	fork := 0
	for at := range min(len(a), len(b)) {
		if a[at] == b[at] {
			fork = at + 1
		}
	}
	return fork
}

// mayBe goes through the chapter's words one by one.
func mayBe(l []api.Start, end int) bool {
	if end < 0 || end > most {
		return false
	}
	if end == 0 {
		return len(l) == 0
	}
	if len(l) == 0 {
		return false
	}
	if l[0].First != 1 {
		return false
	}
	for at, s := range l {
		if s.Epoch < 1 || s.Epoch > most || s.First > end {
			return false
		}
		for _, later := range l[at+1:] {
			if later.Epoch <= s.Epoch || later.First <= s.First {
				return false
			}
		}
	}
	return true
}

// everyLog calls do with every list of at most length epochs from 1 to top that never fall.
func everyLog(length, top int, do func(epochs []int)) {
	var further func(epochs []int)
	further = func(epochs []int) {
		do(slices.Clone(epochs))
		if len(epochs) == length {
			return
		}
		least := 1
		if len(epochs) > 0 {
			least = epochs[len(epochs)-1]
		}
		for epoch := least; epoch <= top; epoch++ {
			further(append(slices.Clone(epochs), epoch))
		}
	}
	further(nil)
}

// turn is a row of numbers that looks mixed and is the same each time.
type turn uint64

func (x *turn) below(n int) int {
	*x = *x*6364136223846793005 + 1442695040888963407
	return int(uint64(*x)>>33) % n
}

// mixedLog answers the epochs of a log of at most length commits, few of which begin an epoch.
func (x *turn) mixedLog(length int) []int {
	epochs := []int{}
	epoch := 1 + x.below(3)
	for range x.below(length + 1) {
		if x.below(4) == 0 {
			epoch += 1 + x.below(3)
		}
		epochs = append(epochs, epoch)
	}
	return epochs
}

// What is asked of the calls.

func wantCheck(t *testing.T, what string, l []api.Start, end int, e api.Errno) {
	t.Helper()
	if now := starts.Check(l, end); now != e {
		t.Errorf("%s: Check(%v, %d) = %d, not %d", what, l, end, now, e)
	}
}

func wantOf(t *testing.T, what string, l []api.Commit, want []api.Start) {
	t.Helper()
	if now, f := starts.Of(l); f != (api.Fault{}) || !slices.Equal(now, want) {
		t.Errorf("%s: Of = %v, %+v, not %v", what, now, f, want)
	}
}

func wantFault(t *testing.T, what string, l []api.Commit, want api.Fault) {
	t.Helper()
	now, f := starts.Of(l)
	if f != want || now != nil {
		t.Errorf("%s: Of = %v, %+v, not %+v", what, now, f, want)
	}
	if other := commit.Follows(0, 0, l); f != other {
		t.Errorf("%s: Of tells %+v, Follows %+v", what, f, other)
	}
}

func wantAt(t *testing.T, l []api.Start, end, n, epoch int, e api.Errno) {
	t.Helper()
	if now, err := starts.At(l, end, n); now != epoch || err != e {
		t.Errorf("At(%v, %d, %d) = %d, %d, not %d, %d", l, end, n, now, err, epoch, e)
	}
}

// wantFork asks in either order.
func wantFork(t *testing.T, a []api.Start, ae int, b []api.Start, be, fork int, e api.Errno) {
	t.Helper()
	if now, err := starts.Fork(a, ae, b, be); now != fork || err != e {
		t.Errorf("Fork(%v, %d, %v, %d) = %d, %d, not %d, %d", a, ae, b, be, now, err, fork, e)
	}
	if now, err := starts.Fork(b, be, a, ae); now != fork || err != e {
		t.Errorf("Fork(%v, %d, %v, %d) = %d, %d, not %d, %d", b, be, a, ae, now, err, fork, e)
	}
}

func wantGrown(t *testing.T, l []api.Start, end int, c api.Commit, want []api.Start, e api.Errno) {
	t.Helper()
	now, err := starts.Grown(l, end, c)
	if err != e || !slices.Equal(now, want) {
		t.Errorf("Grown(%v, %d, %+v) = %v, %d, not %v, %d", l, end, c, now, err, want, e)
	}
	if e != api.OK && now != nil {
		t.Errorf("Grown(%v, %d, %+v): starts beside its error", l, end, c)
	}
}

func wantTrimmed(t *testing.T, l []api.Start, end, to int, want []api.Start, e api.Errno) {
	t.Helper()
	now, err := starts.Trimmed(l, end, to)
	if err != e || !slices.Equal(now, want) {
		t.Errorf("Trimmed(%v, %d, %d) = %v, %d, not %v, %d", l, end, to, now, err, want, e)
	}
	if e != api.OK && now != nil {
		t.Errorf("Trimmed(%v, %d, %d): starts beside its error", l, end, to)
	}
}

// pair is starts with an end.
type pair struct {
	what string
	l    []api.Start
	end  int
}

// steepest is a log of the greatest end in which each commit has an epoch of its own.
func steepest() []api.Start {
	l := make([]api.Start, most)
	for at := range l {
		l[at] = api.Start{Epoch: at + 1, First: at + 1}
	}
	return l
}

// may lists starts and ends that may be.
func may() []pair {
	return []pair{
		{"none", nil, 0},
		{"none, not nil", []api.Start{}, 0},
		{"none of many", list(1, 1, 2, 2)[:0], 0},
		{"one start, one commit", list(1, 1), 1},
		{"one start, many commits", list(1, 1), 9},
		{"a first epoch above 1", list(7, 1), 3},
		{"two", list(1, 1, 2, 2), 9},
		{"two, with a gap between the epochs", list(1, 1, 3, 4), 5},
		{"three", list(2, 1, 5, 4, 6, 9), 20},
		{"the last First is the end", list(1, 1, 3, 5), 5},
		{"each First its own number", list(1, 1, 2, 2, 3, 3, 4, 4), 4},
		{"an epoch below its number", list(1, 1, 2, 100), 100},
		{"the greatest end", list(1, 1), most},
		{"the greatest First", list(1, 1, 2, most), most},
		{"the greatest Epoch", list(most, 1), 1},
		{"the greatest Epoch behind others", list(1, 1, 2, 2, most, 3), 3},
		{"the greatest of all", list(most-1, 1, most, most), most},
		{"the most starts", steepest(), most},
	}
}

// mayNot lists starts and ends that may not be, each but for one reason.
func mayNot() []pair {
	l := []pair{
		{"none with the end 1", nil, 1},
		{"none, not nil, with the end 1", []api.Start{}, 1},
		{"none with a greater end", nil, 5},
		{"none with the greatest end", nil, most},
		{"none with an end below 0", nil, -1},
		{"none with the least end", nil, math.MinInt},
		{"none with an end above the greatest", nil, most + 1},
		{"one with the end 0", list(1, 1), 0},
		{"two with the end 0", list(1, 1, 2, 2), 0},
		{"an end below 0", list(1, 1), -1},
		{"the least end", list(1, 1), math.MinInt},
		{"an end one above the greatest", list(1, 1), most + 1},
		{"an end above 32 bits", list(1, 1), 1<<32 + 1},
		{"the greatest int as end", list(1, 1), math.MaxInt},
		{"Epochs alike", list(1, 1, 1, 3), 5},
		{"Epochs alike, the last two", list(1, 1, 2, 2, 2, 3), 5},
		{"Epochs that fall", list(2, 1, 1, 3), 5},
		{"Epochs that fall, the last two", list(1, 1, 5, 2, 4, 3), 5},
		{"Epochs that fall below the first", list(3, 1, 4, 2, 2, 3, 5, 4), 5},
		{"the first First 2", list(1, 2), 3},
		{"the first First 2, the end", list(1, 2), 2},
		{"the first First 0", list(1, 0), 3},
		{"the first First 0, the second 1", list(1, 0, 2, 1), 3},
		{"the first First below 0", list(1, -1), 3},
		{"the least int as First", list(1, math.MinInt), 3},
		{"the first First 2, others behind", list(1, 2, 2, 3), 5},
		{"Firsts alike", list(1, 1, 2, 1), 5},
		{"Firsts alike, the last two", list(1, 1, 2, 3, 3, 3), 5},
		{"Firsts that fall", list(1, 1, 2, 4, 3, 3), 5},
		{"Firsts that fall to 0", list(1, 1, 2, 0), 5},
		{"Firsts that fall in the midst", list(1, 1, 2, 4, 3, 2, 4, 5), 5},
		{"a First one beyond the end", list(1, 1, 2, 6), 5},
		{"a First in the midst and the last one beyond the end", list(1, 1, 2, 6, 3, 7), 5},
		{"the first First beyond the end below", list(1, 1, 2, 2), 1},
		{"a First above the greatest, with the greatest end", list(1, 1, 2, most+1), most},
		{"the greatest int as First", list(1, 1, 2, math.MaxInt), most},
		{"the first one again behind others", list(1, 1, 2, 2, 1, 1), 5},
		{"all zero", make([]api.Start, 1), 1},
		{"all zero, behind one", list(1, 1, 0, 0), 5},
	}
	for _, bad := range []int{0, -1, -most, math.MinInt, most + 1, 2 * most, 1 << 31, 1<<32 + 1, math.MaxInt} {
		l = append(l, pair{"an only Epoch out of bounds", list(bad, 1), 5})
		l = append(l, pair{"a first Epoch out of bounds", list(bad, 1, most, 2), 5})
		l = append(l, pair{"a last Epoch out of bounds", list(1, 1, bad, 2), 5})
	}
	return l
}

// P8.1

func TestCheckOfWhatMayBe(t *testing.T) {
	for _, x := range may() {
		wantCheck(t, x.what, x.l, x.end, api.OK)
	}
}

func TestCheckOfWhatMayNotBe(t *testing.T) {
	for _, x := range mayNot() {
		wantCheck(t, x.what, x.l, x.end, api.ErrBad)
	}
}

func TestCheckFindsOneWrongAmongTheMost(t *testing.T) {
	for _, at := range []int{0, 1, most / 2, most - 2, most - 1} {
		l := steepest()
		l[at].Epoch = 0
		wantCheckShort(t, l)
		l = steepest()
		l[at].First++
		wantCheckShort(t, l)
	}
	wantCheckShort(t, append(steepest(), api.Start{Epoch: most, First: most}))
	wantCheckShort(t, append(steepest(), api.Start{Epoch: most + 1, First: most + 1}))
}

// wantCheckShort does not tell the list, which is long.
func wantCheckShort(t *testing.T, l []api.Start) {
	t.Helper()
	if e := starts.Check(l, most); e != api.ErrBad {
		t.Errorf("Check = %d", e)
	}
}

// Every list of at most three starts with small numbers, with every small end.
func TestCheckAgainstTheWords(t *testing.T) {
	var further func(l []api.Start)
	further = func(l []api.Start) {
		for end := -1; end <= 5; end++ {
			want := api.ErrBad
			if mayBe(l, end) {
				want = api.OK
			}
			wantCheck(t, "every short list", l, end, want)
		}
		if len(l) == 3 {
			return
		}
		for epoch := -1; epoch <= 4; epoch++ {
			for first := -1; first <= 5; first++ {
				further(append(slices.Clone(l), api.Start{Epoch: epoch, First: first}))
			}
		}
	}
	further(nil)
}

// Starts of a log may be, with its end.
func TestCheckOfStartsOfLogs(t *testing.T) {
	everyLog(6, 4, func(epochs []int) {
		wantCheck(t, "a log's", startsOf(epochs), len(epochs), api.OK)
	})
}

// What is wrong with the starts is answered ahead of all else that is wrong with the call.
func TestStartsThatMayNotBeAreRefusedFirst(t *testing.T) {
	numbers := []int{math.MinInt, -1, 0, 1, 2, 5, 6, most, most + 1, math.MaxInt}
	commits := []api.Commit{{}, one(0, 0), one(1, 1), one(4, 6), one(most, most), one(most+1, 6), one(9, 6),
		{Epoch: 9, Number: 6}, {Epoch: 9, Number: 6, Ops: make([]api.Op, 9)}}
	for _, x := range mayNot() {
		for _, n := range append(slices.Clone(numbers), x.end, x.end-1, x.end+1) {
			wantAt(t, x.l, x.end, n, 0, api.ErrBad)
			wantTrimmed(t, x.l, x.end, n, nil, api.ErrBad)
			wantGrown(t, x.l, x.end, one(most, n), nil, api.ErrBad)
		}
		for _, c := range commits {
			wantGrown(t, x.l, x.end, c, nil, api.ErrBad)
		}
	}
}

func TestForkRefusesEitherOne(t *testing.T) {
	good := may()
	good = good[:len(good)-1] // all but the longest one, which would be told and gone through very often
	for _, bad := range mayNot() {
		for _, x := range good {
			wantFork(t, bad.l, bad.end, x.l, x.end, 0, api.ErrBad)
		}
		wantFork(t, bad.l, bad.end, bad.l, bad.end, 0, api.ErrBad)
		for _, other := range mayNot() {
			wantFork(t, bad.l, bad.end, other.l, other.end, 0, api.ErrBad)
		}
	}
}

// P8.2

func TestOf(t *testing.T) {
	for _, x := range []struct {
		what   string
		epochs []int
		want   []api.Start
	}{
		{"none", nil, nil},
		{"one", []int{1}, list(1, 1)},
		{"one of a late epoch", []int{9}, list(9, 1)},
		{"one of the greatest epoch", []int{most}, list(most, 1)},
		{"many of one epoch", []int{4, 4, 4, 4, 4, 4}, list(4, 1)},
		{"two epochs", []int{1, 2}, list(1, 1, 2, 2)},
		{"two epochs with a gap", []int{1, 1, 1, 3, 3}, list(1, 1, 3, 4)},
		{"several epochs with gaps", []int{2, 2, 3, 7, 7, 7, 9}, list(2, 1, 3, 3, 7, 4, 9, 7)},
		{"an epoch a commit", []int{1, 2, 3, 4}, list(1, 1, 2, 2, 3, 3, 4, 4)},
		{"up to the greatest epoch", []int{1, most - 1, most, most}, list(1, 1, most-1, 2, most, 3)},
	} {
		wantOf(t, x.what, logOf(x.epochs...), x.want)
	}
	wantOf(t, "none, not nil", []api.Commit{}, nil)
}

func TestOfAgainstTheModel(t *testing.T) {
	everyLog(7, 4, func(epochs []int) {
		wantOf(t, "every short log", logOf(epochs...), startsOf(epochs))
	})
	x := turn(2)
	for range 300 {
		epochs := x.mixedLog(60)
		wantOf(t, "a mixed log", logOf(epochs...), startsOf(epochs))
	}
}

// Of each commit's ops nothing is told but whether they may be.
func TestOfDoesNotHangOnOps(t *testing.T) {
	l := logOf(1, 1, 3)
	l[0].Ops = []api.Op{{Key: "z"}}
	l[1].Ops = slices.Repeat([]api.Op{{Key: "k"}}, 8)
	wantOf(t, "other ops", l, list(1, 1, 3, 3))
}

func TestOfTheGreatestLog(t *testing.T) {
	ops := []api.Op{{Key: "a"}}
	l := make([]api.Commit, most, most+1)
	for at := range l {
		l[at] = api.Commit{Epoch: 1 + at/(most/2), Number: at + 1, Ops: ops}
	}
	wantOf(t, "the greatest end", l, list(1, 1, 2, most/2+1))
	l = append(l, api.Commit{Epoch: 2, Number: most + 1, Ops: ops})
	if s, f := starts.Of(l); s != nil || f != (api.Fault{Err: api.ErrArg, At: most}) {
		t.Errorf("beyond the greatest end: %v, %+v", s, f)
	}
}

// refusal is a commit with the error that it has at some place.
type refusal struct {
	c api.Commit
	e api.Errno
}

// wrongAt lists what may not stand behind the end (epoch, number).
func wrongAt(epoch, number int) []refusal {
	next := number + 1
	l := []refusal{
		{api.Commit{}, api.ErrArg},
		{one(0, next), api.ErrArg},
		{one(-1, next), api.ErrArg},
		{one(most+1, next), api.ErrArg},
		{one(most, 0), api.ErrArg},
		{one(most, -next), api.ErrArg},
		{one(most, most+1), api.ErrArg},
		{api.Commit{Epoch: most, Number: next}, api.ErrArg},
		{api.Commit{Epoch: most, Number: next, Ops: make([]api.Op, 1)}, api.ErrArg},
		{api.Commit{Epoch: most, Number: next, Ops: make([]api.Op, 9)}, api.ErrLong},
		{api.Commit{Epoch: most, Number: next + 1, Ops: make([]api.Op, 9)}, api.ErrLong},
		{one(most, next+1), api.ErrOrder},
		{one(most, most), api.ErrOrder},
	}
	for _, again := range []int{number, number - 1} {
		if again > 0 {
			l = append(l, refusal{one(most, again), api.ErrOrder})
		}
	}
	for _, earlier := range []int{epoch - 1, 1} {
		if earlier > 0 && earlier < epoch {
			l = append(l, refusal{one(earlier, next), api.ErrOrder})
		}
	}
	return l
}

func TestOfCommitsThatDoNotFollow(t *testing.T) {
	epochs := []int{2, 2, 3, 5, 5, 6}
	for at := range epochs {
		epoch := 0
		if at > 0 {
			epoch = epochs[at-1]
		}
		for _, wrong := range wrongAt(epoch, at) {
			l := logOf(epochs...)
			l[at] = wrong.c
			wantFault(t, "one wrong", l, api.Fault{Err: wrong.e, At: at})
			wantFault(t, "one wrong, the last", l[:at+1], api.Fault{Err: wrong.e, At: at})
			if at+1 < len(l) {
				l[at+1] = api.Commit{}
				wantFault(t, "two wrong", l, api.Fault{Err: wrong.e, At: at})
			}
		}
	}
	wantFault(t, "a log's rest", logOf(1, 1, 1)[1:], api.Fault{Err: api.ErrOrder, At: 0})
	wantFault(t, "a log twice", slices.Concat(logOf(1, 2), logOf(1, 2)), api.Fault{Err: api.ErrOrder, At: 2})
	wantFault(t, "one missing", slices.Delete(logOf(1, 1, 1), 1, 2), api.Fault{Err: api.ErrOrder, At: 1})
}

// sameCommits compares field by field, without the calls of the program.
func sameCommits(a, b []api.Commit) bool {
	return slices.EqualFunc(a, b, func(x, y api.Commit) bool {
		return x.Epoch == y.Epoch && x.Number == y.Number && slices.Equal(x.Ops, y.Ops)
	})
}

// roomy is a log with commits in its spare room, and ops in the spare room of each commit.
func roomy(epochs ...int) (l, whole []api.Commit) {
	whole = append(logOf(epochs...), one(9, 99), one(9, 98), one(8, 97))
	for at := range whole {
		ops := append(whole[at].Ops, api.Op{Key: "spare"}, api.Op{Put: true, Key: "room"})
		whole[at].Ops = ops[:1]
	}
	return whole[:len(epochs)], whole
}

// deep copies commits with all their ops' room.
func deep(l []api.Commit) []api.Commit {
	out := slices.Clone(l)
	for at := range out {
		ops := out[at].Ops
		out[at].Ops = slices.Clone(ops[:cap(ops)])
	}
	return out
}

// open tells commits with all their ops' room, in the same memory.
func open(l []api.Commit) []api.Commit {
	out := slices.Clone(l)
	for at := range out {
		out[at].Ops = out[at].Ops[:cap(out[at].Ops)]
	}
	return out
}

func TestOfLeavesAloneWhatIsHandedIn(t *testing.T) {
	for _, epochs := range [][]int{{}, {1}, {1, 1, 1, 3, 3}, {1, 2, 3, 4, 5, 6, 7}, {3, 2}, {0}} {
		l, whole := roomy(epochs...)
		keep := deep(whole)
		first, f := starts.Of(l)
		second, _ := starts.Of(l)
		if !sameCommits(open(whole), keep) {
			t.Errorf("%v: what was handed in was changed", epochs)
		}
		want := slices.Clone(second)
		overwrite(first)
		if !slices.Equal(second, want) {
			t.Errorf("%v: two answers share memory", epochs)
		}
		if !sameCommits(open(whole), keep) {
			t.Errorf("%v: the answer shares memory with what was handed in", epochs)
		}
		for at := range whole {
			whole[at] = one(77, 77)
		}
		if !slices.Equal(second, want) {
			t.Errorf("%v: an answer was changed later", epochs)
		}
		if f != (api.Fault{}) && first != nil {
			t.Errorf("%v: starts beside a fault", epochs)
		}
	}
}

// P8.3

func TestAt(t *testing.T) {
	three := list(2, 1, 5, 4, 6, 9)
	for n, epoch := range []int{0, 2, 2, 2, 5, 5, 5, 5, 5, 6, 6, 6} {
		wantAt(t, three, 11, n, epoch, api.OK)
	}
	wantAt(t, nil, 0, 0, 0, api.OK)
	wantAt(t, []api.Start{}, 0, 0, 0, api.OK)
	wantAt(t, list(7, 1), 1, 0, 0, api.OK)
	wantAt(t, list(7, 1), 1, 1, 7, api.OK)
	wantAt(t, list(1, 1, 2, 2), 2, 2, 2, api.OK)
	wantAt(t, list(1, 1), most, most, 1, api.OK)
	wantAt(t, list(1, 1, most, most), most, most-1, 1, api.OK)
	wantAt(t, list(1, 1, most, most), most, most, most, api.OK)
}

func TestAtOfNumbersThatTheLogHasNot(t *testing.T) {
	for _, x := range may() {
		if len(x.l) > 10 {
			continue
		}
		for _, n := range []int{-1, -2, math.MinInt, x.end + 1, x.end + 2, most + 1, math.MaxInt} {
			wantAt(t, x.l, x.end, n, 0, api.ErrArg)
		}
		wantAt(t, x.l, x.end, 0, 0, api.OK)
	}
}

func TestAtOfTheMostStarts(t *testing.T) {
	l := steepest()
	for _, n := range []int{0, 1, 2, 3, most/2 - 1, most / 2, most/2 + 1, 700001, most - 1, most} {
		if epoch, e := starts.At(l, most, n); epoch != n || e != api.OK {
			t.Errorf("At %d = %d, %d", n, epoch, e)
		}
	}
}

func TestAtAgainstTheModel(t *testing.T) {
	ask := func(epochs []int) {
		l := startsOf(epochs)
		wantAt(t, l, len(epochs), -1, 0, api.ErrArg)
		wantAt(t, l, len(epochs), 0, 0, api.OK)
		for at, epoch := range epochs {
			wantAt(t, l, len(epochs), at+1, epoch, api.OK)
		}
		wantAt(t, l, len(epochs), len(epochs)+1, 0, api.ErrArg)
	}
	everyLog(7, 4, ask)
	x := turn(3)
	for range 300 {
		ask(x.mixedLog(80))
	}
}

func TestFork(t *testing.T) {
	for _, x := range []struct {
		what string
		a, b []int
		want int
	}{
		{"none and none", nil, nil, 0},
		{"one and none", []int{1}, nil, 0},
		{"many and none", []int{1, 1, 2, 5}, nil, 0},
		{"alike, one commit", []int{1}, []int{1}, 1},
		{"alike, one epoch", []int{4, 4, 4}, []int{4, 4, 4}, 3},
		{"alike, several epochs", []int{1, 1, 3, 4, 4}, []int{1, 1, 3, 4, 4}, 5},
		{"a front part of the last epoch", []int{1, 1, 3, 3, 3}, []int{1, 1, 3}, 3},
		{"a front part that ends with an epoch", []int{1, 1, 3, 3, 3}, []int{1, 1}, 2},
		{"a front part within the first epoch", []int{1, 1, 3, 3, 3}, []int{1}, 1},
		{"parted in an epoch, ends alike", []int{1, 1, 1, 1}, []int{1, 1, 2, 2}, 2},
		{"parted in an epoch, the longer one goes on", []int{1, 1, 1, 1, 1, 1}, []int{1, 1, 2, 2}, 2},
		{"parted in an epoch, the shorter one goes on", []int{1, 1, 1, 1}, []int{1, 1, 2, 2, 2, 2, 2}, 2},
		{"parted where both begin an epoch", []int{1, 1, 1, 3, 3}, []int{1, 1, 2, 2}, 2},
		{"parted at the first commit", []int{1, 1}, []int{2, 2}, 0},
		{"parted at the first commit, many epochs", []int{1, 3, 5, 7}, []int{2, 4, 6, 8}, 0},
		{"parted behind several epochs", []int{1, 2, 4, 4, 6}, []int{1, 2, 4, 5}, 3},
		{"parted, and one epoch again", []int{1, 1, 3, 3}, []int{2, 2, 3}, 3},
		{"parted, and one epoch again, begun at unlike numbers", []int{1, 1, 1, 3, 3}, []int{2, 3, 3, 3, 3}, 5},
		{"parted, one epoch again, and parted again", []int{1, 3, 3, 3, 6}, []int{2, 3, 3, 5, 5}, 3},
		{"parted twice, one epoch at the end again", []int{1, 3, 3, 4, 6}, []int{2, 3, 3, 5, 6}, 5},
		{"one epoch at unlike numbers alone", []int{1, 1, 1, 1, 3, 3}, []int{3, 3}, 0},
		{"one epoch at unlike numbers, ends alike", []int{1, 1, 1, 3}, []int{3, 4, 4, 4}, 0},
		{"one epoch at unlike numbers, behind a front part", []int{1, 1, 1, 1, 3, 3}, []int{1, 2, 3, 4, 4, 4}, 1},
		{"one epoch that ends where the other's begins", []int{1, 3, 3, 4, 4}, []int{1, 2, 2, 3, 4}, 5},
		{"one epoch that ends ahead of the other's", []int{1, 3, 3, 4, 4}, []int{1, 2, 2, 3, 5}, 1},
		{"one that is the other's last", []int{1, 1, 1, 1}, []int{1}, 1},
		{"a late epoch alone", []int{9, 9, 9}, []int{9, 9}, 2},
		{"the greatest epoch", []int{1, most}, []int{1, most, most}, 2},
	} {
		if forkOf(x.a, x.b) != x.want {
			t.Errorf("%s: the model tells %d", x.what, forkOf(x.a, x.b))
		}
		wantFork(t, startsOf(x.a), len(x.a), startsOf(x.b), len(x.b), x.want, api.OK)
	}
}

func TestForkOfLongLogs(t *testing.T) {
	wantFork(t, list(1, 1), most, list(1, 1), most, most, api.OK)
	wantFork(t, list(1, 1), most, list(1, 1), most-1, most-1, api.OK)
	wantFork(t, list(1, 1), most, list(1, 1, 2, most), most, most-1, api.OK)
	wantFork(t, list(1, 1), most, list(2, 1), most, 0, api.OK)
	wantFork(t, list(1, 1, 3, most), most, list(2, 1, 3, most), most, most, api.OK)
	wantFork(t, list(1, 1, 7, 500), 1000, nil, 0, 0, api.OK)
	steep := steepest()
	for _, x := range []struct {
		l         []api.Start
		end, want int
	}{
		{list(1, 1), most, 1}, {list(most, 1), most, most}, {list(most, 1), most - 1, 0}, {list(500, 1), 600, 500},
		{list(500, 1), 499, 0}, {list(1, 1, 700, 600), 800, 700}, {steep, most, most}, {steep[:99], 99, 99}, {nil, 0, 0},
	} {
		a, e := starts.Fork(steep, most, x.l, x.end)
		b, f := starts.Fork(x.l, x.end, steep, most)
		if a != x.want || b != x.want || e != api.OK || f != api.OK {
			t.Errorf("with the end %d: %d, %d, not %d; %d, %d", x.end, a, b, x.want, e, f)
		}
	}
}

func TestForkAgainstTheModel(t *testing.T) {
	var logs [][]int
	everyLog(5, 4, func(epochs []int) { logs = append(logs, epochs) })
	for _, a := range logs {
		for _, b := range logs {
			wantFork(t, startsOf(a), len(a), startsOf(b), len(b), forkOf(a, b), api.OK)
		}
	}
	x := turn(4)
	for range 5000 {
		a, b := x.mixedLog(40), x.mixedLog(40)
		wantFork(t, startsOf(a), len(a), startsOf(b), len(b), forkOf(a, b), api.OK)
	}
}

// One and the same memory may be handed in twice.
func TestForkOfOneListTwice(t *testing.T) {
	l := list(1, 1, 3, 4, 5, 9)
	for ae := 9; ae <= 12; ae++ {
		for be := 9; be <= 12; be++ {
			wantFork(t, l, ae, l, be, min(ae, be), api.OK)
		}
	}
	wantFork(t, l, 12, l[:2], 12, 8, api.OK)
	wantFork(t, l, 12, l[:1], 12, 3, api.OK)
	wantFork(t, l, 12, l[:0], 0, 0, api.OK)
}

func TestAtAndForkLeaveAloneWhatIsHandedIn(t *testing.T) {
	for _, end := range []int{3, 9, 12} {
		a, wholeA := spared(list(1, 1, 3, 4, 5, 9))
		b, wholeB := spared(list(1, 1, 2, 3, 5, 6))
		keepA, keepB := slices.Clone(wholeA), slices.Clone(wholeB)
		starts.Check(a, end)
		starts.At(a, end, 5)
		starts.Fork(a, end, b, 9)
		starts.Fork(b, 9, a, end)
		if !slices.Equal(wholeA, keepA) || !slices.Equal(wholeB, keepB) {
			t.Errorf("with the end %d what was handed in was changed: %v, %v", end, wholeA, wholeB)
		}
	}
}

// P8.4

// spare is what the spare room of a list is filled with.
var spare = api.Start{Epoch: 4242, First: 2424}

// spared is l with spare room behind it; whole is both.
func spared(l []api.Start) (with, whole []api.Start) {
	whole = slices.Clip(append(slices.Clone(l), spare, spare, spare, spare))
	return whole[:len(l)], whole
}

// overwrite changes a list and all its room.
func overwrite(l []api.Start) {
	l = l[:cap(l)]
	for at := range l {
		l[at] = api.Start{Epoch: -5, First: -6}
	}
}

func TestGrown(t *testing.T) {
	two := list(1, 1, 3, 4)
	wantGrown(t, nil, 0, one(1, 1), list(1, 1), api.OK)
	wantGrown(t, []api.Start{}, 0, one(1, 1), list(1, 1), api.OK)
	wantGrown(t, two[:0], 0, one(9, 1), list(9, 1), api.OK)
	wantGrown(t, nil, 0, one(most, 1), list(most, 1), api.OK)
	wantGrown(t, list(1, 1), 1, one(1, 2), list(1, 1), api.OK)
	wantGrown(t, list(1, 1), 1, one(2, 2), list(1, 1, 2, 2), api.OK)
	wantGrown(t, two, 5, one(3, 6), two, api.OK)
	wantGrown(t, two, 5, one(4, 6), list(1, 1, 3, 4, 4, 6), api.OK)
	wantGrown(t, two, 5, one(9, 6), list(1, 1, 3, 4, 9, 6), api.OK)
	wantGrown(t, two, 5, one(most, 6), list(1, 1, 3, 4, most, 6), api.OK)
	wantGrown(t, two, 4, one(3, 5), two, api.OK)
	wantGrown(t, two, 4, one(4, 5), list(1, 1, 3, 4, 4, 5), api.OK)
	wantGrown(t, list(most, 1), 3, one(most, 4), list(most, 1), api.OK)
	wantGrown(t, list(1, 1), most-1, one(1, most), list(1, 1), api.OK)
	wantGrown(t, list(1, 1), most-1, one(2, most), list(1, 1, 2, most), api.OK)
}

func TestGrownByCommitsThatDoNotFollow(t *testing.T) {
	for _, x := range []pair{{"", nil, 0}, {"", list(1, 1), 1}, {"", list(1, 1, 3, 4), 5}, {"", list(1, 1, 3, 4), 4},
		{"", list(2, 1, 7, 3), 9}, {"", list(2, 1, 7, 3, 8, 500), 500}} {
		epochs := epochsOf(x.l, x.end)
		last := 0
		if len(epochs) > 0 {
			last = epochs[len(epochs)-1]
		}
		for _, wrong := range wrongAt(last, x.end) {
			wantGrown(t, x.l, x.end, wrong.c, nil, wrong.e)
		}
		wantGrown(t, x.l, x.end, one(most, x.end+2), nil, api.ErrOrder)
		wantGrown(t, x.l, x.end, one(most, most), nil, api.ErrOrder)
	}
	wantGrown(t, list(1, 1, 3, 4), 5, one(2, 6), nil, api.ErrOrder)
	wantGrown(t, list(1, 1, 3, 4), 5, one(1, 6), nil, api.ErrOrder)
	wantGrown(t, list(1, 1, 3, 4), 5, one(3, 5), nil, api.ErrOrder)
	wantGrown(t, list(1, 1, 3, 4), 5, one(3, 1), nil, api.ErrOrder)
}

// Commits that may not be are refused as such, also where they would not follow.
func TestGrownByCommitsThatMayNotBe(t *testing.T) {
	l := list(1, 1, 3, 4)
	for _, number := range []int{1, 5, 6, 7, most} {
		for _, epoch := range []int{1, 2, 3, 4} {
			wantGrown(t, l, 5, api.Commit{Epoch: epoch, Number: number}, nil, api.ErrArg)
			wantGrown(t, l, 5, api.Commit{Epoch: epoch, Number: number, Ops: []api.Op{{}}}, nil, api.ErrArg)
			wantGrown(t, l, 5, api.Commit{Epoch: epoch, Number: number, Ops: make([]api.Op, 9)}, nil, api.ErrLong)
		}
		for _, epoch := range []int{math.MinInt, -1, 0, most + 1, math.MaxInt} {
			wantGrown(t, l, 5, one(epoch, number), nil, api.ErrArg)
			wantGrown(t, l, 5, one(number, epoch), nil, api.ErrArg)
			wantGrown(t, l, 5, api.Commit{Epoch: epoch, Number: number, Ops: make([]api.Op, 9)}, nil, api.ErrArg)
		}
	}
}

func TestGrownAtTheGreatestEnd(t *testing.T) {
	for _, l := range [][]api.Start{list(1, 1), list(1, 1, 2, most), list(1, 1, most, 7)} {
		wantGrown(t, l, most, one(most, most+1), nil, api.ErrArg)
		wantGrown(t, l, most, one(most, most), nil, api.ErrOrder)
		wantGrown(t, l, most, one(most, 1), nil, api.ErrOrder)
		wantGrown(t, l, most, one(1, most), nil, api.ErrOrder)
		wantGrown(t, l, most, one(most, 0), nil, api.ErrArg)
	}
}

func TestTrimmed(t *testing.T) {
	l := list(2, 1, 5, 4, 6, 9)
	for to := range 12 {
		switch {
		case to == 0:
			wantTrimmed(t, l, 11, to, nil, api.OK)
		case to <= 3:
			wantTrimmed(t, l, 11, to, list(2, 1), api.OK)
		case to <= 8:
			wantTrimmed(t, l, 11, to, list(2, 1, 5, 4), api.OK)
		default:
			wantTrimmed(t, l, 11, to, l, api.OK)
		}
	}
	wantTrimmed(t, nil, 0, 0, nil, api.OK)
	wantTrimmed(t, []api.Start{}, 0, 0, nil, api.OK)
	wantTrimmed(t, list(1, 1), 1, 0, nil, api.OK)
	wantTrimmed(t, list(1, 1), 1, 1, list(1, 1), api.OK)
	wantTrimmed(t, list(1, 1, 2, 2), 2, 1, list(1, 1), api.OK)
	wantTrimmed(t, list(1, 1, 2, 2), 2, 2, list(1, 1, 2, 2), api.OK)
	wantTrimmed(t, list(1, 1, 2, most), most, most, list(1, 1, 2, most), api.OK)
	wantTrimmed(t, list(1, 1, 2, most), most, most-1, list(1, 1), api.OK)
}

func TestTrimmedToNumbersThatTheLogHasNot(t *testing.T) {
	for _, x := range may() {
		if len(x.l) > 10 {
			continue
		}
		for _, to := range []int{-1, -2, math.MinInt, x.end + 1, x.end + 2, most + 1, math.MaxInt} {
			wantTrimmed(t, x.l, x.end, to, nil, api.ErrArg)
		}
		wantTrimmed(t, x.l, x.end, 0, nil, api.OK)
		wantTrimmed(t, x.l, x.end, x.end, x.l, api.OK)
	}
}

func TestTrimmedOfTheMostStarts(t *testing.T) {
	l := steepest()
	for _, to := range []int{0, 1, 2, most/2 - 1, most / 2, most - 1, most} {
		if now, e := starts.Trimmed(l, most, to); e != api.OK || !slices.Equal(now, l[:to]) {
			t.Errorf("Trimmed to %d: %d starts, %d", to, len(now), e)
		}
	}
}

func TestGrownAndTrimmedAgainstTheModel(t *testing.T) {
	ask := func(epochs []int) {
		l, end := startsOf(epochs), len(epochs)
		for to := range end + 1 {
			wantTrimmed(t, l, end, to, startsOf(epochs[:to]), api.OK)
		}
		wantTrimmed(t, l, end, -1, nil, api.ErrArg)
		wantTrimmed(t, l, end, end+1, nil, api.ErrArg)
		for epoch := range 7 {
			for number := end - 1; number <= end+2; number++ {
				more := append(slices.Clone(epochs), epoch)
				switch {
				case epoch == 0 || number < 1:
					wantGrown(t, l, end, one(epoch, number), nil, api.ErrArg)
				case number != end+1 || !slices.IsSorted(more):
					wantGrown(t, l, end, one(epoch, number), nil, api.ErrOrder)
				default:
					wantGrown(t, l, end, one(epoch, number), startsOf(more), api.OK)
				}
			}
		}
	}
	everyLog(6, 4, ask)
	x := turn(5)
	for range 200 {
		ask(x.mixedLog(40))
	}
}

// wantNewMemory asks call twice for starts made of l, which has spare room: what is overwritten must not be seen anywhere else.
func wantNewMemory(t *testing.T, what string, l []api.Start, call func(l []api.Start) []api.Start) {
	t.Helper()
	l, whole := spared(l)
	keep := slices.Clone(whole)
	first, second := call(l), call(l)
	if !slices.Equal(whole, keep) {
		t.Errorf("%s: what was handed in was changed: %v, not %v", what, whole, keep)
	}
	if slices.Contains(first[:cap(first)], spare) {
		t.Errorf("%s: the spare room was handed out: %v", what, first[:cap(first)])
	}
	want := slices.Clone(second)
	overwrite(first)
	if !slices.Equal(whole, keep) {
		t.Errorf("%s: the answer shares memory with what was handed in", what)
	}
	if !slices.Equal(second, want) {
		t.Errorf("%s: two answers share memory", what)
	}
	overwrite(whole)
	if !slices.Equal(second, want) {
		t.Errorf("%s: an answer was changed later", what)
	}
}

func TestGrownAndTrimmedAreNewMemory(t *testing.T) {
	for _, x := range []pair{{"none", nil, 0}, {"one", list(1, 1), 3}, {"two", list(1, 1, 3, 4), 5},
		{"many", list(1, 1, 2, 2, 3, 3, 4, 4, 5, 5, 6, 6, 7, 7), 9}} {
		for epoch := range 9 {
			for number := x.end; number <= x.end+2; number++ {
				wantNewMemory(t, "Grown of "+x.what, x.l, func(l []api.Start) []api.Start {
					now, _ := starts.Grown(l, x.end, one(epoch, number))
					return now
				})
			}
		}
		for to := -1; to <= x.end+1; to++ {
			wantNewMemory(t, "Trimmed of "+x.what, x.l, func(l []api.Start) []api.Start {
				now, _ := starts.Trimmed(l, x.end, to)
				return now
			})
		}
	}
	for _, x := range mayNot() {
		wantNewMemory(t, "Grown of what may not be", x.l, func(l []api.Start) []api.Start {
			now, _ := starts.Grown(l, x.end, one(9, x.end+1))
			return now
		})
		wantNewMemory(t, "Trimmed of what may not be", x.l, func(l []api.Start) []api.Start {
			now, _ := starts.Trimmed(l, x.end, x.end)
			return now
		})
	}
}

func TestGrownLeavesTheCommitAlone(t *testing.T) {
	for _, c := range []api.Commit{one(1, 6), one(3, 6), one(4, 6), one(4, 7), one(0, 6)} {
		whole := append(slices.Clone(c.Ops), api.Op{Key: "spare"}, api.Op{Put: true, Key: "room"})
		keep := slices.Clone(whole)
		c.Ops = whole[:1]
		starts.Grown(list(1, 1, 3, 4), 5, c)
		if !slices.Equal(whole, keep) {
			t.Errorf("%+v: its ops, or the room behind them, were changed", c)
		}
	}
}

// P8.5

func TestForkOfALogAndAFirstPart(t *testing.T) {
	everyLog(6, 4, func(epochs []int) {
		l, end := startsOf(epochs), len(epochs)
		for to := range end + 1 {
			part, e := starts.Trimmed(l, end, to)
			if e != api.OK {
				t.Fatalf("Trimmed to %d: %d", to, e)
			}
			wantFork(t, l, end, part, to, to, api.OK)
		}
	})
}

// told is a commit that tells whose it is, so that two with one epoch and number may differ.
func told(epoch, number int, who string) api.Commit {
	return api.Commit{Epoch: epoch, Number: number, Ops: []api.Op{{Put: true, Key: "a", Value: who}}}
}

func grownBy(l []api.Commit, epochs []int, who string) []api.Commit {
	l = slices.Clone(l)
	for _, epoch := range epochs {
		l = append(l, told(epoch, len(l)+1, who))
	}
	return l
}

func isLog(l []api.Commit) bool { return commit.Follows(0, 0, l) == api.Fault{} }

// Logs as sites make them: a common front part, behind which each one goes on in epochs that the other does not have there.
func TestLogsThatPartAreTheSameUpToTheFork(t *testing.T) {
	var tails [][]int
	everyLog(3, 6, func(epochs []int) { tails = append(tails, epochs) })
	x := turn(6)
	for range 6000 {
		front := grownBy(nil, x.mixedLog(8), "both")
		a := grownBy(front, raised(tails[x.below(len(tails))], front, 0), "one")
		b := grownBy(front, raised(tails[x.below(len(tails))], front, 1), "other")
		if !isLog(a) || !isLog(b) {
			t.Fatalf("no logs: %+v, %+v", a, b)
		}
		wantParted(t, a, b, len(front))
	}
}

// raised puts the epochs behind those of front; those with odd are odd ones, the others even ones.
func raised(epochs []int, front []api.Commit, odd int) []int {
	least := 0
	if len(front) > 0 {
		least = front[len(front)-1].Epoch
	}
	least += least % 2
	out := []int{}
	for _, epoch := range epochs {
		out = append(out, least+2*epoch+odd)
	}
	return out
}

func wantParted(t *testing.T, a, b []api.Commit, front int) {
	t.Helper()
	as, _ := starts.Of(a)
	bs, _ := starts.Of(b)
	wantFork(t, as, len(a), bs, len(b), front, api.OK)
	fork, _ := starts.Fork(as, len(a), bs, len(b))
	if !slices.EqualFunc(a[:fork], b[:fork], commit.Same) {
		t.Errorf("up to the fork %d they are not the same: %+v, %+v", fork, a, b)
	}
	if len(a) > fork && len(b) > fork && commit.Same(a[fork], b[fork]) {
		t.Errorf("behind the fork %d they are the same: %+v, %+v", fork, a, b)
	}
}

// One site goes on in the epoch that both had, the other one in a later one.
func TestADeposedLogPartsWhereTheNewEpochBegins(t *testing.T) {
	for shared := range 6 {
		for lost := range 5 {
			for taken := range 5 {
				front := grownBy(nil, slices.Repeat([]int{1}, shared), "both")
				a := grownBy(front, slices.Repeat([]int{1}, lost), "deposed")
				b := grownBy(front, slices.Repeat([]int{2}, taken), "new")
				wantParted(t, a, b, shared)
			}
		}
	}
}

func TestTrimmedOfGrownGivesBack(t *testing.T) {
	everyLog(6, 4, func(epochs []int) {
		l, end := startsOf(epochs), len(epochs)
		for epoch := 1; epoch <= 6; epoch++ {
			grown, e := starts.Grown(l, end, one(epoch, end+1))
			if e == api.ErrOrder {
				continue
			}
			wantCheck(t, "grown", grown, end+1, api.OK)
			wantTrimmed(t, grown, end+1, end, l, api.OK)
			wantTrimmed(t, grown, end+1, end+1, grown, api.OK)
		}
	})
}

func TestGrownCommitByCommitIsOfTheWhole(t *testing.T) {
	grow := func(epochs []int) {
		log := logOf(epochs...)
		var l []api.Start
		for end, c := range log {
			var e api.Errno
			if l, e = starts.Grown(l, end, c); e != api.OK {
				t.Fatalf("Grown by %+v: %d", c, e)
			}
			part, f := starts.Of(log[:end+1])
			if f != (api.Fault{}) || !slices.Equal(l, part) {
				t.Errorf("%v up to %d: %v grown, %v of the whole, %+v", epochs, end+1, l, part, f)
			}
		}
	}
	everyLog(7, 4, grow)
	x := turn(7)
	for range 100 {
		grow(x.mixedLog(60))
	}
}

// Starts and an end tell each commit's epoch, and nothing else tells the same.
func TestStartsAndEpochsTellTheSame(t *testing.T) {
	everyLog(6, 4, func(epochs []int) {
		l, f := starts.Of(logOf(epochs...))
		if f != (api.Fault{}) || !slices.Equal(epochsOf(l, len(epochs)), epochs) {
			t.Errorf("%v: %v, %+v", epochs, l, f)
		}
	})
}

// The chapter's examples.

func TestExamples(t *testing.T) {
	two := list(1, 1, 3, 4)
	wantOf(t, "the example", logOf(1, 1, 1, 3, 3), two)
	wantAt(t, two, 5, 0, 0, api.OK)
	wantAt(t, two, 5, 3, 1, api.OK)
	wantAt(t, two, 5, 4, 3, api.OK)
	wantAt(t, two, 5, 6, 0, api.ErrArg)
	wantFork(t, two, 5, list(1, 1, 2, 3), 4, 2, api.OK)
	wantFork(t, list(1, 1), 7, list(1, 1, 2, 5), 9, 4, api.OK)
	wantFork(t, list(1, 1), 7, nil, 0, 0, api.OK)
	wantFork(t, list(1, 1, 2, 5), 9, nil, 0, 0, api.OK)
	for end := range 10 {
		wantCheck(t, "(1, 2)", list(1, 2), end, api.ErrBad)
		wantCheck(t, "(1, 1) (1, 3)", list(1, 1, 1, 3), end, api.ErrBad)
	}
	wantCheck(t, "(1, 1) with 0", list(1, 1), 0, api.ErrBad)
	wantCheck(t, "none with 0", nil, 0, api.OK)
	wantTrimmed(t, two, 5, 3, list(1, 1), api.OK)
	wantTrimmed(t, two, 5, 0, nil, api.OK)
}

// P1

// Any starts, whether they may be or not: each call ends, and is refused just if the words say so.
func FuzzStarts(f *testing.F) {
	f.Add([]byte{1, 1, 3, 4}, 5, []byte{1, 1, 2, 3}, 4, 3)
	f.Add([]byte{1, 1}, 7, []byte{1, 1, 2, 5}, 9, 0)
	f.Add([]byte{}, 0, []byte{1, 2}, 3, -1)
	f.Add([]byte{1, 1, 1, 3}, 5, []byte{9}, -4, 6)
	f.Fuzz(func(t *testing.T, as []byte, ae int, bs []byte, be, n int) {
		if ae > 300 || be > 300 {
			ae, be = ae%300, be%300
		}
		a, b := ofBytes(as), ofBytes(bs)
		mayA, mayB := mayBe(a, ae), mayBe(b, be)
		if !mayA || !mayB {
			wantFork(t, a, ae, b, be, 0, api.ErrBad)
		} else {
			wantFork(t, a, ae, b, be, forkOf(epochsOf(a, ae), epochsOf(b, be)), api.OK)
		}
		if !mayA {
			wantCheck(t, "any", a, ae, api.ErrBad)
			wantAt(t, a, ae, n, 0, api.ErrBad)
			wantTrimmed(t, a, ae, n, nil, api.ErrBad)
			wantGrown(t, a, ae, one(be, n), nil, api.ErrBad)
			return
		}
		epochs := epochsOf(a, ae)
		wantCheck(t, "any", a, ae, api.OK)
		wantOf(t, "any", logOf(epochs...), a)
		switch {
		case n < 0 || n > ae:
			wantAt(t, a, ae, n, 0, api.ErrArg)
			wantTrimmed(t, a, ae, n, nil, api.ErrArg)
		case n == 0:
			wantAt(t, a, ae, 0, 0, api.OK)
			wantTrimmed(t, a, ae, 0, nil, api.OK)
		default:
			wantAt(t, a, ae, n, epochs[n-1], api.OK)
			wantTrimmed(t, a, ae, n, startsOf(epochs[:n]), api.OK)
		}
	})
}

// ofBytes makes starts of small numbers; a byte above 250 stands for a number far out.
func ofBytes(b []byte) []api.Start {
	number := func(x byte) int {
		switch {
		case x == 255:
			return math.MinInt
		case x == 254:
			return math.MaxInt
		case x > 250:
			return int(x) - 253
		}
		return int(x)
	}
	var l []api.Start
	for len(b) >= 2 {
		l = append(l, api.Start{Epoch: number(b[0]), First: number(b[1])})
		b = b[2:]
	}
	return l
}
