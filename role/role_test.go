package role_test

import (
	"math"
	"slices"
	"testing"

	"lagleash/api"
	"lagleash/page"
	"lagleash/role"
)

// The greatest epoch, position and fork, and the greatest base, as the document writes them.
const (
	most     = 1048576
	mostBase = 1073741824
)

func primary(epoch, acked int) api.Page {
	return api.Page{Epoch: epoch, Role: api.Primary, Acked: acked}
}

func replica(epoch int) api.Page { return api.Page{Epoch: epoch, Role: api.Replica} }

func heard(epoch int) api.Page {
	return api.Page{Epoch: epoch, Role: api.Deposed, Phase: api.Heard}
}

func forked(epoch, fork, base int) api.Page {
	return api.Page{Epoch: epoch, Role: api.Deposed, Phase: api.Forked, Fork: fork, Base: base}
}

func filed(epoch, fork, base int) api.Page {
	return api.Page{Epoch: epoch, Role: api.Deposed, Phase: api.Filed, Fork: fork, Base: base}
}

func cut(epoch, fork, base int) api.Page {
	return api.Page{Epoch: epoch, Role: api.Deposed, Phase: api.Cut, Fork: fork, Base: base}
}

// ofEpoch lists a page of each role and phase.
func ofEpoch(epoch int) []api.Page {
	return []api.Page{primary(epoch, 5), replica(epoch), heard(epoch), forked(epoch, 8, 3), filed(epoch, 8, 3), cut(epoch, 8, 3)}
}

// deposedOf lists a deposed page in each phase.
func deposedOf(epoch int) []api.Page { return ofEpoch(epoch)[2:] }

// answer is all that a call answers; more is false of one that answers no bool.
type answer struct {
	p    api.Page
	more bool
	e    api.Errno
}

func just(p api.Page) answer { return answer{p: p} }

func another(p api.Page) answer { return answer{p: p, more: true} }

func refused(e api.Errno) answer { return answer{e: e} }

// call is one of the nine: how it is asked, with numbers of which it takes as many as it has, and a second telling of what it answers.
type call struct {
	name string
	ask  func(p api.Page, x, y int) answer
	told func(p api.Page, x, y int) answer
}

// The nine calls.
const (
	promote = iota
	hear
	fork
	file
	cutLog
	rejoin
	acked
	writes
	reads
)

func calls() []call {
	return []call{
		promote: {"Promote", func(p api.Page, x, _ int) answer { return paged(role.Promote(p, x)) }, toldPromote},
		hear:    {"Hear", func(p api.Page, x, _ int) answer { return whole(role.Hear(p, x)) }, toldHear},
		fork:    {"Fork", func(p api.Page, x, y int) answer { return paged(role.Fork(p, x, y)) }, toldFork},
		file:    {"File", func(p api.Page, _, _ int) answer { return paged(role.File(p)) }, toldFile},
		cutLog:  {"Cut", func(p api.Page, _, _ int) answer { return paged(role.Cut(p)) }, toldCut},
		rejoin:  {"Rejoin", func(p api.Page, _, _ int) answer { return paged(role.Rejoin(p)) }, toldRejoin},
		acked:   {"Acked", func(p api.Page, x, _ int) answer { return whole(role.Acked(p, x)) }, toldAcked},
		writes:  {"Writes", func(p api.Page, _, _ int) answer { return refused(role.Writes(p)) }, toldWrites},
		reads:   {"Reads", func(p api.Page, _, _ int) answer { return refused(role.Reads(p)) }, toldReads},
	}
}

func paged(p api.Page, e api.Errno) answer { return answer{p: p, e: e} }

func whole(p api.Page, more bool, e api.Errno) answer { return answer{p, more, e} }

func (c call) want(t *testing.T, p api.Page, x, y int, want answer) {
	t.Helper()
	given := p
	if now := c.ask(given, x, y); now != want {
		t.Errorf("%s(%+v, %d, %d): %+v, want %+v", c.name, p, x, y, now, want)
	}
	if given != p {
		t.Errorf("%s(%+v, %d, %d) made it %+v", c.name, p, x, y, given)
	}
}

func wantPromote(t *testing.T, p api.Page, end int, want answer) {
	t.Helper()
	calls()[promote].want(t, p, end, 0, want)
}

func wantHear(t *testing.T, p api.Page, epoch int, want answer) {
	t.Helper()
	calls()[hear].want(t, p, epoch, 0, want)
}

func wantFork(t *testing.T, p api.Page, at, base int, want answer) {
	t.Helper()
	calls()[fork].want(t, p, at, base, want)
}

func wantFile(t *testing.T, p api.Page, want answer) {
	t.Helper()
	calls()[file].want(t, p, 0, 0, want)
}

func wantCut(t *testing.T, p api.Page, want answer) {
	t.Helper()
	calls()[cutLog].want(t, p, 0, 0, want)
}

func wantRejoin(t *testing.T, p api.Page, want answer) {
	t.Helper()
	calls()[rejoin].want(t, p, 0, 0, want)
}

func wantAcked(t *testing.T, p api.Page, n int, want answer) {
	t.Helper()
	calls()[acked].want(t, p, n, 0, want)
}

func wantWrites(t *testing.T, p api.Page, want api.Errno) {
	t.Helper()
	calls()[writes].want(t, p, 0, 0, refused(want))
}

func wantReads(t *testing.T, p api.Page, want api.Errno) {
	t.Helper()
	calls()[reads].want(t, p, 0, 0, refused(want))
}

// A second telling: pages as rows of numbers, by the document's words, and with its numbers.

func within(x, least, greatest int) bool { return least <= x && x <= greatest }

// fits answers whether p has that role and phase, and no field is above its bound.
func fits(p api.Page, role, acked, phase, fork, base int) bool {
	return int(p.Role) == role && int(p.Phase) == phase && within(p.Epoch, 1, most) && within(p.Acked, 0, acked) && within(p.Fork, 0, fork) && within(p.Base, 0, base)
}

// mayBe is the table of chapter 10.
func mayBe(p api.Page) bool {
	return fits(p, 1, most, 0, 0, 0) || fits(p, 2, 0, 0, 0, 0) || fits(p, 3, 0, 1, 0, 0) ||
		fits(p, 3, 0, 2, most, mostBase) || fits(p, 3, 0, 3, most, mostBase) || fits(p, 3, 0, 4, most, mostBase)
}

func toldPromote(p api.Page, end, _ int) answer {
	switch {
	case !mayBe(p), !within(end, 0, most):
		return refused(2)
	case p.Role == 1:
		return refused(10)
	case p.Role == 3:
		return refused(9)
	case p.Epoch == most:
		return refused(2)
	}
	return just(api.Page{Epoch: p.Epoch + 1, Role: 1, Acked: end})
}

func toldHear(p api.Page, epoch, _ int) answer {
	switch {
	case !mayBe(p), !within(epoch, 1, most):
		return refused(2)
	case epoch > p.Epoch:
		return another(api.Page{Epoch: epoch, Role: 3, Phase: 1})
	}
	return just(p)
}

func toldFork(p api.Page, fork, base int) answer {
	switch {
	case !mayBe(p), !within(fork, 0, most), !within(base, 0, mostBase):
		return refused(2)
	case p.Role != 3 || p.Phase != 1:
		return refused(15)
	}
	return just(api.Page{Epoch: p.Epoch, Role: 3, Phase: 2, Fork: fork, Base: base})
}

// toldPhase answers p in the phase behind that one, if it is in that one.
func toldPhase(p api.Page, phase api.Phase) answer {
	switch {
	case !mayBe(p):
		return refused(2)
	case p.Phase != phase:
		return refused(15)
	}
	return just(api.Page{Epoch: p.Epoch, Role: 3, Phase: phase + 1, Fork: p.Fork, Base: p.Base})
}

func toldFile(p api.Page, _, _ int) answer { return toldPhase(p, 2) }

func toldCut(p api.Page, _, _ int) answer { return toldPhase(p, 3) }

func toldRejoin(p api.Page, _, _ int) answer {
	switch {
	case !mayBe(p):
		return refused(2)
	case p.Phase != 4:
		return refused(15)
	}
	return just(api.Page{Epoch: p.Epoch, Role: 2})
}

func toldAcked(p api.Page, n, _ int) answer {
	switch {
	case !mayBe(p), !within(n, 0, most):
		return refused(2)
	case p.Role != 1:
		return refused(15)
	case n > p.Acked:
		return another(api.Page{Epoch: p.Epoch, Role: 1, Acked: n})
	}
	return just(p)
}

func toldWrites(p api.Page, _, _ int) answer {
	if !mayBe(p) {
		return refused(2)
	}
	return refused([]api.Errno{1: 0, 2: 11, 3: 9}[p.Role])
}

func toldReads(p api.Page, _, _ int) answer {
	if !mayBe(p) {
		return refused(2)
	}
	return refused([]api.Errno{1: 0, 2: 0, 3: 9}[p.Role])
}

// wantAsTold holds all calls of a page and numbers against the second telling.
func wantAsTold(t *testing.T, p api.Page, x, y int) {
	t.Helper()
	for _, c := range calls() {
		c.want(t, p, x, y, c.told(p, x, y))
	}
}

// What is gone through.

// above lists numbers above that one: the next ones, the greatest, and those that would be within bounds, cut down to fewer bits.
func above(x int) []int {
	return []int{x + 1, x + 2, 1 << 31, 1<<32 - 1, 1 << 32, 1<<32 + 1, 1<<32 + 5, 1<<32 + most, 1 << 62, 1<<62 + 5, math.MaxInt - 1, math.MaxInt}
}

// below lists numbers below that one, likewise.
func below(x int) []int {
	return []int{x - 1, x - 2, -1 << 31, -1 << 32, 1 - 1<<32, 5 - 1<<32, most - 1<<32, 5 - 1<<62, math.MinInt + 5, math.MinInt + 1, math.MinInt}
}

// outOf lists numbers that are not from 0 to that one.
func outOf(x int) []int { return slices.Concat(below(0), above(x)) }

// edges lists the numbers at which an answer may turn, and those that are out of all bounds.
func edges() []int {
	l := []int{0, 1, 2, 3, 4, 5, 6, 7, 8, 9, most - 2, most - 1, most, most + 1, mostBase - 1, mostBase}
	return slices.Concat(l, outOf(mostBase))
}

// pages lists pages that may be, of each role and phase, at the edges of all fields.
func pages() []api.Page {
	var l []api.Page
	for _, epoch := range []int{1, 2, 3, 7, most - 1, most} {
		l = append(l, replica(epoch), heard(epoch))
		for _, acked := range []int{0, 1, 5, 8, most - 1, most} {
			l = append(l, primary(epoch, acked))
		}
		for _, fork := range []int{0, 1, 8, most} {
			for _, base := range []int{0, 1, 3, mostBase} {
				l = append(l, forked(epoch, fork, base), filed(epoch, fork, base), cut(epoch, fork, base))
			}
		}
	}
	return l
}

// somePages lists fewer of them.
func somePages() []api.Page {
	l := slices.Concat(ofEpoch(1), ofEpoch(2), ofEpoch(most))
	return append(l, primary(1, 0), primary(most, most), forked(1, 0, 0), forked(most, most, mostBase), filed(1, 0, 0), filed(most, most, mostBase), cut(1, 0, 0), cut(most, most, mostBase))
}

// spoilt lists p with one field that it may not have.
func spoilt(p api.Page) []api.Page {
	var l []api.Page
	for _, x := range append(outOf(most), 0, 1, mostBase) {
		for _, field := range []func(*api.Page) *int{
			func(p *api.Page) *int { return &p.Epoch },
			func(p *api.Page) *int { return &p.Acked },
			func(p *api.Page) *int { return &p.Fork },
			func(p *api.Page) *int { return &p.Base },
		} {
			other := p
			*field(&other) = x
			l = append(l, other)
		}
	}
	for _, base := range outOf(mostBase) {
		other := p
		other.Base = base
		l = append(l, other)
	}
	for x := range 256 {
		ofRole, ofPhase := p, p
		ofRole.Role, ofPhase.Phase = api.Role(x), api.Phase(x)
		l = append(l, ofRole, ofPhase)
	}
	return slices.DeleteFunc(l, mayBe)
}

func TestLimits(t *testing.T) {
	if api.MaxNumber != most {
		t.Errorf("%d", api.MaxNumber)
	}
	if api.Primary != 1 || api.Replica != 2 || api.Deposed != 3 || api.None != 0 || api.Heard != 1 || api.Forked != 2 || api.Filed != 3 || api.Cut != 4 {
		t.Error("the roles and the phases are numbered otherwise")
	}
	for e, right := range map[api.Errno]int{api.OK: 0, api.ErrArg: 2, api.ErrDeposed: 9, api.ErrAlreadyPrimary: 10, api.ErrReplica: 11, api.ErrOrder: 15} {
		if int(e) != right {
			t.Errorf("%d, not %d", e, right)
		}
	}
}

// The chapter's examples.
func TestExamples(t *testing.T) {
	wantPromote(t, api.Page{Epoch: 1, Role: api.Replica}, 8, just(api.Page{Epoch: 2, Role: api.Primary, Acked: 8}))
	wantPromote(t, primary(1, 5), 8, refused(api.ErrAlreadyPrimary))
	for _, p := range deposedOf(1) {
		wantPromote(t, p, 8, refused(api.ErrDeposed))
	}
	wantHear(t, api.Page{Epoch: 1, Role: api.Primary, Acked: 5}, 2, another(api.Page{Epoch: 2, Role: api.Deposed, Phase: api.Heard}))
	for _, p := range ofEpoch(2) {
		wantHear(t, p, 2, just(p))
	}
	wantFork(t, api.Page{Epoch: 2, Role: api.Deposed, Phase: api.Heard}, 8, 0, just(api.Page{Epoch: 2, Role: api.Deposed, Phase: api.Forked, Fork: 8}))
	wantFile(t, api.Page{Epoch: 2, Role: api.Deposed, Phase: api.Forked, Fork: 8}, just(api.Page{Epoch: 2, Role: api.Deposed, Phase: api.Filed, Fork: 8}))
	wantCut(t, api.Page{Epoch: 2, Role: api.Deposed, Phase: api.Filed, Fork: 8}, just(api.Page{Epoch: 2, Role: api.Deposed, Phase: api.Cut, Fork: 8}))
	wantRejoin(t, api.Page{Epoch: 2, Role: api.Deposed, Phase: api.Cut, Fork: 8}, just(api.Page{Epoch: 2, Role: api.Replica}))
	wantFile(t, api.Page{Epoch: 2, Role: api.Deposed, Phase: api.Heard}, refused(api.ErrOrder))
}

// mustBe answers the page of an answer that is no refusal.
func mustBe(t *testing.T, now answer) api.Page {
	t.Helper()
	if now.e != api.OK {
		t.Fatalf("refused: %+v", now)
	}
	return now.p
}

// DOC.md's examples 3, 4 and 6 of the whole, as far as they speak of these calls.
func TestExamplesOfTheWhole(t *testing.T) {
	zero, _ := page.First(0)
	one, _ := page.First(1)
	one = mustBe(t, paged(role.Promote(one, 2)))
	if zero.Role != api.Primary || one != primary(2, 2) {
		t.Errorf("both are primary: %+v, %+v", zero, one)
	}
	wantWrites(t, zero, api.OK)
	wantWrites(t, one, api.OK)
	zero = mustBe(t, whole(role.Hear(zero, one.Epoch)))
	wantReads(t, zero, api.ErrDeposed)
	for _, next := range []api.Page{forked(2, 2, 0), filed(2, 2, 0), cut(2, 2, 0), replica(2)} {
		wantPromote(t, zero, 2, refused(api.ErrDeposed))
		wantPromote(t, one, 2, refused(api.ErrAlreadyPrimary))
		wantHear(t, one, 1, just(one))
		for _, c := range calls()[fork:acked] {
			if now := c.ask(zero, 2, 0); now.e == api.OK {
				zero = now.p
				break
			}
		}
		if zero != next {
			t.Fatalf("%+v, want %+v", zero, next)
		}
	}
	wantPromote(t, zero, 2, just(primary(3, 2)))
}

// A page that may not be: its error is ahead of all others.

func TestAPageThatMayNotBe(t *testing.T) {
	for what, list := range map[string][]api.Page{
		"nothing in it": {{}},
		"an epoch": {
			primary(0, 5), primary(-1, 5), primary(most+1, 5), primary(math.MinInt, 5), primary(math.MaxInt, 5),
			replica(0), replica(-1), replica(most + 1), replica(math.MinInt), replica(math.MaxInt),
			heard(0), heard(most + 1), forked(0, 8, 3), forked(most+1, 8, 3), filed(0, 8, 3), filed(most+1, 8, 3), cut(0, 8, 3), cut(most+1, 8, 3),
		},
		"a role":                      {{Epoch: 1}, {Epoch: 1, Role: 4}, {Epoch: 1, Role: 255}, {Epoch: 1, Role: 4, Phase: api.Heard}, {Epoch: 1, Phase: api.Cut}, {Epoch: 1, Acked: 5}},
		"an acked position":           {primary(1, -1), primary(1, most+1), primary(1, math.MinInt), primary(1, math.MaxInt)},
		"an acked position of others": {{Epoch: 1, Role: 2, Acked: 1}, {Epoch: 1, Role: 3, Acked: 1, Phase: 1}, {Epoch: 1, Role: 3, Acked: 1, Phase: 2}, {Epoch: 1, Role: 3, Acked: 1, Phase: 3}, {Epoch: 1, Role: 3, Acked: 1, Phase: 4}, {Epoch: 1, Role: 2, Acked: -1}},
		"a phase":                     {{Epoch: 1, Role: 3, Phase: 5}, {Epoch: 1, Role: 3, Phase: 255}, {Epoch: 1, Role: 3}},
		"a phase of others":           {{Epoch: 1, Role: 1, Phase: 1}, {Epoch: 1, Role: 1, Phase: 2}, {Epoch: 1, Role: 1, Phase: 3}, {Epoch: 1, Role: 1, Phase: 4}, {Epoch: 1, Role: 2, Phase: 1}, {Epoch: 1, Role: 2, Phase: 2}, {Epoch: 1, Role: 2, Phase: 3}, {Epoch: 1, Role: 2, Phase: 4}},
		"a fork":                      {forked(1, -1, 3), forked(1, most+1, 3), filed(1, -1, 3), filed(1, most+1, 3), cut(1, -1, 3), cut(1, most+1, 3)},
		"a fork of others":            {{Epoch: 1, Role: 1, Fork: 1}, {Epoch: 1, Role: 2, Fork: 1}, {Epoch: 1, Role: 3, Phase: 1, Fork: 1}},
		"a base":                      {forked(1, 8, -1), forked(1, 8, mostBase+1), filed(1, 8, -1), filed(1, 8, mostBase+1), cut(1, 8, -1), cut(1, 8, mostBase+1)},
		"a base of others":            {{Epoch: 1, Role: 1, Base: 1}, {Epoch: 1, Role: 2, Base: 1}, {Epoch: 1, Role: 3, Phase: 1, Base: 1}},
		"several at once":             {{Epoch: -1, Role: 9, Acked: -1, Phase: 9, Fork: -1, Base: -1}, {Epoch: most + 1, Role: 2, Acked: 1, Phase: 4}},
	} {
		t.Run(what, func(t *testing.T) {
			for _, p := range list {
				wantErrArg(t, p)
			}
		})
	}
}

// wantErrArg: each call refuses p with ErrArg, whatever the numbers are.
func wantErrArg(t *testing.T, p api.Page) {
	t.Helper()
	for _, c := range calls() {
		for _, x := range []int{1, 2, 0, 8, most, -1, most + 1, math.MinInt, math.MaxInt} {
			for _, y := range []int{0, mostBase, -1, mostBase + 1} {
				c.want(t, p, x, y, refused(api.ErrArg))
			}
		}
	}
}

func TestEachFieldThatMayNotBe(t *testing.T) {
	count := 0
	for _, p := range somePages() {
		for _, other := range spoilt(p) {
			wantErrArg(t, other)
			count++
		}
		if t.Failed() {
			return
		}
	}
	if count < 10000 {
		t.Errorf("just %d pages", count)
	}
}

// The error is page.Check's own.
func TestErrorsAsPageCheckTellsThem(t *testing.T) {
	for _, p := range somePages() {
		for _, other := range append(spoilt(p), p) {
			e := page.Check(other)
			for _, c := range calls() {
				if now := c.ask(other, 1, 0); e != api.OK && now != refused(e) {
					t.Fatalf("%s(%+v): %+v, want %d", c.name, other, now, e)
				}
			}
		}
	}
}

// P20.1

func TestPromoteAtEachEnd(t *testing.T) {
	for end, want := range map[int]answer{
		-1: refused(api.ErrArg), -2: refused(api.ErrArg), math.MinInt: refused(api.ErrArg), math.MinInt + 1: refused(api.ErrArg),
		0: just(primary(2, 0)), 1: just(primary(2, 1)), 8: just(primary(2, 8)), most - 1: just(primary(2, most-1)), most: just(primary(2, most)),
		most + 1: refused(api.ErrArg), most + 2: refused(api.ErrArg), mostBase: refused(api.ErrArg), math.MaxInt - 1: refused(api.ErrArg), math.MaxInt: refused(api.ErrArg),
	} {
		wantPromote(t, replica(1), end, want)
	}
	for _, end := range outOf(most) {
		wantPromote(t, replica(3), end, refused(api.ErrArg))
	}
}

func TestPromoteInEachEpoch(t *testing.T) {
	for _, epoch := range []int{1, 2, 3, 100, most - 2, most - 1} {
		wantPromote(t, replica(epoch), 8, just(api.Page{Epoch: epoch + 1, Role: api.Primary, Acked: 8}))
		wantPromote(t, replica(epoch), 0, just(api.Page{Epoch: epoch + 1, Role: api.Primary}))
	}
	for _, end := range []int{0, 1, 8, most} {
		wantPromote(t, replica(most), end, refused(api.ErrArg))
		wantPromote(t, replica(most-1), end, just(primary(most, end)))
	}
}

func TestPromoteOfOthers(t *testing.T) {
	for _, epoch := range []int{1, 2, most - 1} {
		for _, end := range []int{0, 5, 8, most} {
			wantPromote(t, primary(epoch, 5), end, refused(api.ErrAlreadyPrimary))
			wantPromote(t, primary(epoch, 0), end, refused(api.ErrAlreadyPrimary))
			wantPromote(t, primary(epoch, most), end, refused(api.ErrAlreadyPrimary))
			for _, p := range deposedOf(epoch) {
				wantPromote(t, p, end, refused(api.ErrDeposed))
			}
		}
	}
}

// Of two errors the first counts: the page's, the end's, the role's, the last epoch's.
func TestPromoteWithTwoErrors(t *testing.T) {
	for _, end := range []int{-1, most + 1, math.MinInt, math.MaxInt} {
		wantPromote(t, api.Page{}, end, refused(api.ErrArg))
		wantPromote(t, replica(most), end, refused(api.ErrArg))
		for _, p := range append(ofEpoch(1), ofEpoch(most)...) {
			wantPromote(t, p, end, refused(api.ErrArg))
		}
	}
	wantPromote(t, primary(1, -1), 8, refused(api.ErrArg))
	wantPromote(t, primary(most+1, 0), 8, refused(api.ErrArg))
	wantPromote(t, heard(0), 8, refused(api.ErrArg))
	wantPromote(t, cut(1, 8, -1), 8, refused(api.ErrArg))
	wantPromote(t, api.Page{Epoch: most, Role: api.Replica, Acked: 1}, 8, refused(api.ErrArg))
	wantPromote(t, primary(most, 5), 8, refused(api.ErrAlreadyPrimary))
	for _, p := range deposedOf(most) {
		wantPromote(t, p, 8, refused(api.ErrDeposed))
	}
}

// P20.2

func TestHearOfAnEpochThatIsNone(t *testing.T) {
	for _, p := range somePages() {
		for _, epoch := range append(outOf(most), 0) {
			wantHear(t, p, epoch, refused(api.ErrArg))
		}
	}
	for _, epoch := range []int{0, -1, most + 1, math.MinInt, math.MaxInt} {
		wantHear(t, replica(1), epoch, refused(api.ErrArg))
		wantHear(t, api.Page{}, epoch, refused(api.ErrArg))
	}
}

func TestHearOfEachEpoch(t *testing.T) {
	for _, p := range ofEpoch(7) {
		for _, epoch := range []int{1, 2, 5, 6, 7} {
			wantHear(t, p, epoch, just(p))
		}
		for _, epoch := range []int{8, 9, 100, most - 1, most} {
			wantHear(t, p, epoch, another(api.Page{Epoch: epoch, Role: api.Deposed, Phase: api.Heard}))
		}
	}
}

func TestHearOfTheFirstAndTheLastEpoch(t *testing.T) {
	for _, p := range ofEpoch(1) {
		wantHear(t, p, 1, just(p))
		wantHear(t, p, 2, another(heard(2)))
		wantHear(t, p, most, another(heard(most)))
	}
	for _, p := range ofEpoch(most - 1) {
		wantHear(t, p, most-2, just(p))
		wantHear(t, p, most-1, just(p))
		wantHear(t, p, most, another(heard(most)))
	}
	for _, p := range ofEpoch(most) {
		wantHear(t, p, 1, just(p))
		wantHear(t, p, most-1, just(p))
		wantHear(t, p, most, just(p))
		wantHear(t, p, most+1, refused(api.ErrArg))
	}
}

// Nothing of a page is left but what the new epoch says: no acked position, no fork, no base.
func TestHearLeavesNothing(t *testing.T) {
	for _, p := range pages() {
		if p.Epoch < most {
			wantHear(t, p, p.Epoch+1, another(heard(p.Epoch+1)))
		}
		wantHear(t, p, p.Epoch, just(p))
		if p.Epoch > 1 {
			wantHear(t, p, p.Epoch-1, just(p))
		}
	}
}

// P20.3

func TestForkAtEachForkAndBase(t *testing.T) {
	for _, at := range []int{0, 1, 8, most - 1, most} {
		for _, base := range []int{0, 1, 3, most + 1, mostBase - 1, mostBase} {
			wantFork(t, heard(2), at, base, just(api.Page{Epoch: 2, Role: api.Deposed, Phase: api.Forked, Fork: at, Base: base}))
			wantFork(t, heard(most), at, base, just(api.Page{Epoch: most, Role: api.Deposed, Phase: api.Forked, Fork: at, Base: base}))
		}
		for _, base := range []int{-1, mostBase + 1, math.MinInt, math.MaxInt} {
			wantFork(t, heard(2), at, base, refused(api.ErrArg))
		}
		for _, base := range outOf(mostBase) {
			wantFork(t, heard(2), at, base, refused(api.ErrArg))
		}
	}
	for _, base := range []int{0, 1, 3, mostBase} {
		for _, at := range []int{-1, most + 1, mostBase, math.MinInt, math.MaxInt} {
			wantFork(t, heard(2), at, base, refused(api.ErrArg))
		}
		for _, at := range outOf(most) {
			wantFork(t, heard(2), at, base, refused(api.ErrArg))
		}
	}
}

func TestForkOfOthers(t *testing.T) {
	for _, epoch := range []int{1, 2, most} {
		for _, p := range []api.Page{primary(epoch, 5), replica(epoch), forked(epoch, 8, 3), forked(epoch, 0, 0), filed(epoch, 8, 3), cut(epoch, 8, 3)} {
			wantFork(t, p, 8, 3, refused(api.ErrOrder))
			wantFork(t, p, 0, 0, refused(api.ErrOrder))
			wantFork(t, p, most, mostBase, refused(api.ErrOrder))
		}
	}
}

// Of two errors the first counts: the page's, the fork's and the base's, the order.
func TestForkWithTwoErrors(t *testing.T) {
	for _, wrong := range []struct{ fork, base int }{{-1, 3}, {most + 1, 3}, {8, -1}, {8, mostBase + 1}, {-1, -1}, {most + 1, mostBase + 1}, {-1, mostBase + 1}, {math.MinInt, math.MaxInt}, {math.MaxInt, math.MinInt}} {
		for _, p := range append(ofEpoch(1), ofEpoch(most)...) {
			wantFork(t, p, wrong.fork, wrong.base, refused(api.ErrArg))
		}
		wantFork(t, api.Page{}, wrong.fork, wrong.base, refused(api.ErrArg))
		wantFork(t, heard(0), wrong.fork, wrong.base, refused(api.ErrArg))
	}
	for _, p := range []api.Page{{}, primary(1, -1), replica(0), forked(1, -1, 0), filed(1, 0, -1), cut(most+1, 0, 0)} {
		wantFork(t, p, 8, 3, refused(api.ErrArg))
	}
}

func TestFileOfEachRoleAndPhase(t *testing.T) {
	for _, p := range []api.Page{primary(2, 5), replica(2), heard(2), filed(2, 8, 3), cut(2, 8, 3)} {
		wantFile(t, p, refused(api.ErrOrder))
	}
	for _, x := range []struct{ epoch, fork, base int }{{2, 8, 3}, {1, 0, 0}, {2, 0, 3}, {2, 8, 0}, {most, most, mostBase}} {
		wantFile(t, forked(x.epoch, x.fork, x.base), just(api.Page{Epoch: x.epoch, Role: api.Deposed, Phase: api.Filed, Fork: x.fork, Base: x.base}))
	}
	for _, p := range []api.Page{{}, forked(0, 8, 3), forked(2, -1, 3), forked(2, 8, mostBase+1), replica(0), heard(0), filed(2, -1, 0)} {
		wantFile(t, p, refused(api.ErrArg))
	}
}

func TestCutOfEachRoleAndPhase(t *testing.T) {
	for _, p := range []api.Page{primary(2, 5), replica(2), heard(2), forked(2, 8, 3), cut(2, 8, 3)} {
		wantCut(t, p, refused(api.ErrOrder))
	}
	for _, x := range []struct{ epoch, fork, base int }{{2, 8, 3}, {1, 0, 0}, {2, 0, 3}, {2, 8, 0}, {most, most, mostBase}} {
		wantCut(t, filed(x.epoch, x.fork, x.base), just(api.Page{Epoch: x.epoch, Role: api.Deposed, Phase: api.Cut, Fork: x.fork, Base: x.base}))
	}
	for _, p := range []api.Page{{}, filed(0, 8, 3), filed(2, -1, 3), filed(2, 8, mostBase+1), primary(0, 5), heard(most + 1), cut(2, -1, 0)} {
		wantCut(t, p, refused(api.ErrArg))
	}
}

func TestRejoinOfEachRoleAndPhase(t *testing.T) {
	for _, p := range []api.Page{primary(2, 5), replica(2), heard(2), forked(2, 8, 3), filed(2, 8, 3)} {
		wantRejoin(t, p, refused(api.ErrOrder))
	}
	for _, x := range []struct{ epoch, fork, base int }{{2, 8, 3}, {1, 0, 0}, {2, 0, 3}, {2, 8, 0}, {most, most, mostBase}} {
		wantRejoin(t, cut(x.epoch, x.fork, x.base), just(api.Page{Epoch: x.epoch, Role: api.Replica}))
	}
	for _, p := range []api.Page{{}, cut(0, 8, 3), cut(2, -1, 3), cut(2, 8, mostBase+1), replica(most + 1), heard(0), filed(2, -1, 0)} {
		wantRejoin(t, p, refused(api.ErrArg))
	}
}

// P20.4

func TestAckedAtEachNumber(t *testing.T) {
	for _, c := range []struct {
		p    api.Page
		n    int
		want answer
	}{
		// Below, at and above what it has.
		{primary(1, 5), 0, just(primary(1, 5))}, {primary(1, 5), 4, just(primary(1, 5))}, {primary(1, 5), 5, just(primary(1, 5))}, {primary(1, 5), 6, another(primary(1, 6))}, {primary(1, 5), 7, another(primary(1, 7))}, {primary(1, 5), most, another(primary(1, most))},
		// The least and the greatest that it may have.
		{primary(3, 0), 0, just(primary(3, 0))}, {primary(3, 0), 1, another(primary(3, 1))}, {primary(3, 0), most - 1, another(primary(3, most-1))}, {primary(3, 0), most, another(primary(3, most))},
		{primary(most, most), 0, just(primary(most, most))}, {primary(most, most), most - 1, just(primary(most, most))}, {primary(most, most), most, just(primary(most, most))},
		{primary(most, most-1), most - 2, just(primary(most, most-1))}, {primary(most, most-1), most - 1, just(primary(most, most-1))}, {primary(most, most-1), most, another(primary(most, most))},
	} {
		wantAcked(t, c.p, c.n, c.want)
	}
}

func TestAckedAtANumberThatIsNone(t *testing.T) {
	for _, p := range somePages() {
		for _, n := range []int{-1, most + 1, math.MinInt, math.MaxInt} {
			wantAcked(t, p, n, refused(api.ErrArg))
		}
		for _, n := range outOf(most) {
			wantAcked(t, p, n, refused(api.ErrArg))
		}
	}
	for _, n := range []int{-1, 0, 5, most, most + 1} {
		for _, p := range []api.Page{{}, primary(0, 5), primary(1, -1), primary(1, most+1), replica(0), heard(0), {Epoch: 1, Role: api.Replica, Acked: 5}} {
			wantAcked(t, p, n, refused(api.ErrArg))
		}
	}
}

func TestAckedOfOthers(t *testing.T) {
	for _, epoch := range []int{1, 2, most} {
		for _, p := range append(deposedOf(epoch), replica(epoch), forked(epoch, 0, 0)) {
			for _, n := range []int{0, 1, 5, 8, most} {
				wantAcked(t, p, n, refused(api.ErrOrder))
			}
		}
	}
}

// P20.5

func TestWritesAndReads(t *testing.T) {
	for _, epoch := range []int{1, 2, 100, most - 1, most} {
		for _, p := range []api.Page{primary(epoch, 0), primary(epoch, 5), primary(epoch, most)} {
			wantWrites(t, p, api.OK)
			wantReads(t, p, api.OK)
		}
		wantWrites(t, replica(epoch), api.ErrReplica)
		wantReads(t, replica(epoch), api.OK)
		for _, p := range append(deposedOf(epoch), forked(epoch, 0, 0), filed(epoch, 0, 0), cut(epoch, most, mostBase)) {
			wantWrites(t, p, api.ErrDeposed)
			wantReads(t, p, api.ErrDeposed)
		}
	}
}

// P20.6

// kind is a page's role and phase.
type kind struct {
	role  api.Role
	phase api.Phase
}

func kindOf(p api.Page) kind { return kind{p.Role, p.Phase} }

// ways lists how a page goes on: by which call, from what to what. Hearing of a higher epoch is not among them.
func ways() map[int][2]kind {
	return map[int][2]kind{
		promote: {{api.Replica, api.None}, {api.Primary, api.None}},
		fork:    {{api.Deposed, api.Heard}, {api.Deposed, api.Forked}},
		file:    {{api.Deposed, api.Forked}, {api.Deposed, api.Filed}},
		cutLog:  {{api.Deposed, api.Filed}, {api.Deposed, api.Cut}},
		rejoin:  {{api.Deposed, api.Cut}, {api.Replica, api.None}},
		acked:   {{api.Primary, api.None}, {api.Primary, api.None}},
	}
}

// wantWay looks at what a call came to, by what follows of the promises alone.
func wantWay(t *testing.T, which int, ahead api.Page, now answer) {
	t.Helper()
	behind, name := now.p, calls()[which].name
	if now.e != api.OK {
		if now != refused(now.e) {
			t.Fatalf("%s of %+v: %+v", name, ahead, now)
		}
		return
	}
	if which >= writes {
		return
	}
	way, fixed := ways()[which]
	switch {
	case page.Check(behind) != api.OK, behind.Epoch < ahead.Epoch:
		t.Fatalf("%s of %+v: %+v", name, ahead, now)
	case !fixed && behind != ahead && (behind != heard(behind.Epoch) || behind.Epoch == ahead.Epoch):
		t.Fatalf("%s of %+v: %+v", name, ahead, now)
	case fixed && way != [2]kind{kindOf(ahead), kindOf(behind)}:
		t.Fatalf("%s of %+v: %+v", name, ahead, now)
	case which == promote && behind.Epoch != ahead.Epoch+1, fixed && which != promote && behind.Epoch != ahead.Epoch:
		t.Fatalf("%s of %+v: %+v", name, ahead, now)
	case (which == file || which == cutLog) && (behind.Fork != ahead.Fork || behind.Base != ahead.Base):
		t.Fatalf("%s of %+v: %+v", name, ahead, now)
	case behind.Acked < ahead.Acked && behind.Role == api.Primary:
		t.Fatalf("%s of %+v: %+v", name, ahead, now)
	}
}

func TestWaysOfAllPages(t *testing.T) {
	numbers := edges()
	for _, p := range pages() {
		for which, c := range calls() {
			for _, x := range append(numbers, p.Epoch, p.Epoch+1) {
				for _, y := range []int{0, 3, mostBase} {
					wantWay(t, which, p, c.ask(p, x, y))
				}
			}
		}
	}
}

// Of each kind of page just the calls that are listed go on, with numbers that are within all bounds.
func TestWhichCallsGoOn(t *testing.T) {
	for _, p := range append(ofEpoch(2), ofEpoch(7)...) {
		for which, way := range ways() {
			now := calls()[which].ask(p, 6, 6)
			if (now.e == api.OK) != (way[0] == kindOf(p)) {
				t.Errorf("%s of %+v: %+v", calls()[which].name, p, now)
			}
		}
		wantHear(t, p, p.Epoch+1, another(heard(p.Epoch+1)))
	}
}

// reached lists all pages that can be come to from the first pages, in epochs up to that one, with few forks, bases and positions.
func reached(t *testing.T, lastEpoch int) map[api.Page]int {
	t.Helper()
	zero, _ := page.First(0)
	one, _ := page.First(1)
	steps := map[api.Page]int{zero: 0, one: 0}
	for list := []api.Page{zero, one}; len(list) > 0; list = list[1:] {
		for which, c := range calls()[:writes] {
			for x := range lastEpoch + 1 {
				for y := range 2 {
					now := c.ask(list[0], x, y)
					wantWay(t, which, list[0], now)
					if _, met := steps[now.p]; now.e == api.OK && !met && now.p.Epoch <= lastEpoch {
						steps[now.p] = steps[list[0]] + 1
						list = append(list, now.p)
					}
				}
			}
		}
	}
	return steps
}

func TestAllPagesThatAreReached(t *testing.T) {
	steps := reached(t, 3)
	// In each of three epochs: positions and forks from 0 to 3, bases 0 and 1. But in the first epoch nobody is deposed.
	if want := 3*(4+1) + 2*(1+3*4*2); len(steps) != want {
		t.Errorf("%d pages, want %d", len(steps), want)
	}
	for p, want := range map[api.Page]int{
		primary(1, 0): 0, replica(1): 0, primary(1, 3): 1, heard(2): 1, heard(3): 1, primary(2, 3): 1, forked(2, 3, 1): 2, filed(2, 3, 1): 3, cut(2, 3, 1): 4, replica(2): 5, primary(3, 2): 6, replica(3): 5,
	} {
		if n, met := steps[p]; !met || n != want {
			t.Errorf("%+v is reached by %d steps: %t, want %d", p, n, met, want)
		}
	}
}

// From deposed to replica there is no other way than the four phases, each once and in order.
func TestTheFourPhasesInOrder(t *testing.T) {
	way := []api.Page{heard(4), forked(4, 8, 3), filed(4, 8, 3), cut(4, 8, 3), replica(4)}
	for at, p := range way[:4] {
		for i, c := range calls()[fork:acked] {
			want := refused(api.ErrOrder)
			if i == at {
				want = just(way[at+1])
			}
			c.want(t, p, 8, 3, want)
		}
		wantHear(t, p, 5, another(heard(5)))
	}
	for _, p := range []api.Page{replica(4), primary(4, 8)} {
		for _, c := range calls()[fork:acked] {
			c.want(t, p, 8, 3, refused(api.ErrOrder))
		}
	}
}

// turn is a row of numbers that looks mixed and is always the same.
type turn uint64

func (t *turn) below(n int) int {
	*t = *t*6364136223846793005 + 1442695040888963407
	return int(uint64(*t) >> 33 % uint64(n))
}

// number answers one that is small, near a page's own, or of the edges.
func (t *turn) number(p api.Page) int {
	switch t.below(8) {
	case 0:
		l := edges()
		return l[t.below(len(l))]
	case 1, 2:
		return p.Epoch + t.below(3) - 1
	case 3, 4:
		return p.Acked + t.below(3) - 1
	}
	return t.below(20)
}

// Mixed calls from the first pages on: whatever is answered OK is the next page.
func TestMixedWalks(t *testing.T) {
	from := turn(20)
	promotions, rejoins := 0, 0
	for walk := range 400 {
		p, _ := page.First(walk % 2)
		for range 300 {
			which := from.below(writes + 2)
			c := calls()[which]
			x, y := from.number(p), from.below(9)
			now := c.ask(p, x, y)
			wantWay(t, which, p, now)
			c.want(t, p, x, y, c.told(p, x, y))
			switch {
			case now.e != api.OK || which >= writes:
				continue
			case which == promote:
				promotions++
			case which == rejoin:
				rejoins++
			}
			p = now.p
		}
	}
	if promotions < 500 || rejoins < 500 {
		t.Errorf("just %d promotions and %d pages of replicas", promotions, rejoins)
	}
}

// Two pages that hear of each other's epochs, late or never: no two promotions make the same epoch, and of the greatest one there is always just one primary (P6, as far as it speaks of these calls).
func TestTwoPagesThatHearOfEachOther(t *testing.T) {
	from := turn(6)
	made := 0
	for range 200 {
		made += wantOneWriter(t, &from)
	}
	if made < 500 {
		t.Errorf("just %d promotions", made)
	}
}

func wantOneWriter(t *testing.T, from *turn) int {
	t.Helper()
	zero, _ := page.First(0)
	one, _ := page.First(1)
	site := [2]api.Page{zero, one}
	sent := [2][]int{{1}, {1}}
	madeBy := map[int]int{1: 1}
	for range 300 {
		at := from.below(2)
		which := from.below(writes)
		x := from.below(9)
		if which == hear {
			letters := sent[1-at]
			x = letters[from.below(len(letters))]
		}
		now := calls()[which].ask(site[at], x, 0)
		if now.e != api.OK {
			continue
		}
		site[at] = now.p
		sent[at] = append(sent[at], now.p.Epoch)
		if which == promote {
			madeBy[now.p.Epoch]++
		}
		wantOneOfTheGreatest(t, site)
	}
	for epoch, n := range madeBy {
		if n != 1 {
			t.Fatalf("the epoch %d was made by %d promotions", epoch, n)
		}
	}
	return len(madeBy) - 1
}

func wantOneOfTheGreatest(t *testing.T, site [2]api.Page) {
	t.Helper()
	count := 0
	for _, p := range site {
		if p.Epoch == max(site[0].Epoch, site[1].Epoch) && role.Writes(p) == api.OK {
			count++
		}
	}
	if count != 1 {
		t.Fatalf("%d primaries of the greatest epoch: %+v", count, site)
	}
}

// Rules 2 and 3, and P1.

// Beside an error there is nothing, whatever is wrong.
func TestZeroBesideAnError(t *testing.T) {
	for _, p := range append(somePages(), api.Page{}, primary(1, -1), forked(1, -1, 3), cut(most+1, 8, 3)) {
		for _, c := range calls() {
			for _, x := range edges() {
				if now := c.ask(p, x, -1); now.e != api.OK && now != refused(now.e) {
					t.Errorf("%s(%+v, %d, -1): %+v", c.name, p, x, now)
				}
			}
		}
	}
}

// What is answered is a page of its own: a change to one is seen in no other.
func TestAPageThatIsChangedLater(t *testing.T) {
	p := heard(2)
	first, _ := role.Fork(p, 8, 3)
	p.Epoch, first.Fork = 9, 7
	second, _ := role.Fork(heard(2), 8, 3)
	if second != forked(2, 8, 3) || first != forked(2, 7, 3) || p != heard(9) {
		t.Errorf("%+v, %+v, %+v", p, first, second)
	}
}

// Each page beside each edge, at all places; gone through twice, the second time backward, as no answer hangs on a call ahead.
func TestAllCallsAtAllEdges(t *testing.T) {
	list, numbers := pages(), edges()
	for range 2 {
		for _, p := range list {
			for at, x := range numbers {
				for _, y := range []int{0, 3, mostBase, mostBase + 1, -1, x, numbers[len(numbers)-1-at]} {
					wantAsTold(t, p, x, y)
				}
			}
			if t.Failed() {
				return
			}
		}
		slices.Reverse(list)
		slices.Reverse(numbers)
	}
}

// All roles and phases there are, with and without the fields that some have.
func TestAllRolesAndPhases(t *testing.T) {
	for x := range 256 * 256 {
		for _, rest := range [][3]int{{0, 0, 0}, {1, 0, 0}, {0, 1, 1}} {
			p := api.Page{Epoch: 3, Role: api.Role(x / 256), Acked: rest[0], Phase: api.Phase(x % 256), Fork: rest[1], Base: rest[2]}
			wantAsTold(t, p, 2, 0)
			wantAsTold(t, p, 4, 9)
		}
		if t.Failed() {
			return
		}
	}
}

// All small numbers in all fields and at all places.
func TestAllSmallPages(t *testing.T) {
	for x := range 4 * 5 * 3 * 6 * 3 * 3 {
		p := api.Page{Epoch: x % 4, Role: api.Role(x / 4 % 5), Acked: x/20%3 - 1, Phase: api.Phase(x / 60 % 6), Fork: x/360%3 - 1, Base: x/1080%3 - 1}
		for y := range 6 * 3 {
			wantAsTold(t, p, y%6-1, y/6-1)
		}
	}
}

// mixedPage answers a page that may be, or that nearly may be.
func (t *turn) mixedPage() api.Page {
	l := pages()
	p := l[t.below(len(l))]
	p.Epoch = 1 + t.below(most)
	if t.below(10) == 0 {
		wrong := spoilt(p)
		p = wrong[t.below(len(wrong))]
	}
	return p
}

func TestMixedPages(t *testing.T) {
	from := turn(1)
	for range 20000 {
		p := from.mixedPage()
		wantAsTold(t, p, from.number(p), from.below(mostBase+9)-4)
		wantAsTold(t, p, from.below(most+2), from.number(p))
		if t.Failed() {
			return
		}
	}
}

func FuzzCalls(f *testing.F) {
	f.Add(1, uint8(1), 5, uint8(0), 0, 0, 2, 0)
	f.Add(1, uint8(2), 0, uint8(0), 0, 0, 8, 0)
	f.Add(2, uint8(3), 0, uint8(1), 0, 0, 8, 3)
	f.Add(most, uint8(3), 0, uint8(4), most, mostBase, most, mostBase)
	f.Add(math.MinInt, uint8(255), math.MaxInt, uint8(255), -1, -1, math.MinInt, math.MaxInt)
	f.Fuzz(func(t *testing.T, epoch int, ofRole uint8, acked int, phase uint8, fork, base, x, y int) {
		p := api.Page{Epoch: epoch, Role: api.Role(ofRole), Acked: acked, Phase: api.Phase(phase), Fork: fork, Base: base}
		wantAsTold(t, p, x, y)
		// Most of these may not be: this one may, nearly always.
		l := ofEpoch(1 + (epoch%most+most)%most)
		near := l[int(ofRole)%len(l)]
		wantAsTold(t, near, x, y)
		wantAsTold(t, near, x%(most+2), y%(mostBase+2))
		wantAsTold(t, near, near.Epoch+x%3, y)
	})
}
