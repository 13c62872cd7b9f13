package tests

import (
	"math"
	"slices"
	"testing"
	"time"

	"loop.example/g00869/impl"
)

// isZeroWorth reports whether w is the zero Worth.
func isZeroWorth(w impl.Worth) bool { return w.Head == 0 && len(w.Over) == 0 && w.Way == 0 }

// sameWorth reports whether two worths are equal.
func sameWorth(a impl.Worth, b impl.Worth) bool {
	return a.Head == b.Head && sameList(a.Over, b.Over) && a.Way == b.Way
}

// isHeavier says what the document says of two vertices.
func isHeavier(g impl.Parity, x int64, y int64) bool {
	return g.Prio[x] > g.Prio[y] || g.Prio[x] == g.Prio[y] && x > y
}

// heaviest returns the heaviest vertex of a list, or -1 if the list is empty.
func heaviest(g impl.Parity, list ints) int64 {
	best := int64(-1)
	for _, v := range list {
		if best < 0 || isHeavier(g, v, best) {
			best = v
		}
	}
	return best
}

// wantedWorth returns what the document says of the worth of the play of two full plans.
func wantedWorth(g impl.Parity, even ints, odd ints, v int64) impl.Worth {
	var path ints
	for range 2 * len(g.Prio) {
		path = append(path, v)
		v = max(even[v], odd[v])
	}
	// In its second half the path is on its loop, and goes around it at least once.
	w := impl.Worth{Head: heaviest(g, path[len(g.Prio):])}
	for path[w.Way] != w.Head {
		if u := path[w.Way]; isHeavier(g, u, w.Head) {
			w.Over = impl.BothOf(w.Over, ints{u})
		}
		w.Way++
	}
	return w
}

// isWorth says what the document says of WorthOk for a small game.
func isWorth(g impl.Parity, w impl.Worth) bool {
	n := int64(len(g.Prio))
	if w.Head < 0 || w.Head >= n || w.Way < 0 || w.Way > 12 || !impl.SetOk(w.Over, n) {
		return false
	}
	return !slices.ContainsFunc(w.Over, func(v int64) bool { return !isHeavier(g, v, w.Head) })
}

// isBetter says what the document says of two worths of a small game.
func isBetter(g impl.Parity, a impl.Worth, b impl.Worth) bool {
	isEven := func(v int64) bool { return g.Prio[v]%2 == 0 }
	if a.Head != b.Head {
		switch {
		case isEven(a.Head) && isEven(b.Head):
			return isHeavier(g, a.Head, b.Head)
		case !isEven(a.Head) && !isEven(b.Head):
			return isHeavier(g, b.Head, a.Head)
		}
		return isEven(a.Head)
	}
	if !sameList(a.Over, b.Over) {
		x := heaviest(g, impl.BothOf(impl.LessOf(a.Over, b.Over), impl.LessOf(b.Over, a.Over)))
		return isEven(x) && slices.Contains(a.Over, x) || !isEven(x) && slices.Contains(b.Over, x)
	}
	return isEven(a.Head) && a.Way < b.Way || !isEven(a.Head) && b.Way < a.Way
}

// fullPlans calls use with every full plan of who.
func fullPlans(g impl.Parity, who int64, use func(plan ints)) {
	attraction{g.Arena, who, countTo(int64(len(g.Prio))), nil}.plans(who, use)
}

// countPlans returns the number of full plans of who.
func countPlans(g impl.Parity, who int64) int64 {
	count := int64(1)
	for v, next := range g.Next {
		if g.Owner[v] == who {
			count *= int64(len(next))
		}
	}
	return count
}

// wantedWorths returns what the document says of WorthsOf, and how many plans of player 1 attain all
// of these worths.
func wantedWorths(g impl.Parity, plan ints) (least []impl.Worth, attaining int) {
	fullPlans(g, 1, func(odd ints) {
		for v := range g.Prio {
			switch w := wantedWorth(g, plan, odd, int64(v)); {
			case v == len(least):
				least = append(least, w)
			case isBetter(g, least[v], w):
				least[v], attaining = w, 0
			}
		}
		all := true
		for v := range g.Prio {
			all = all && sameWorth(wantedWorth(g, plan, odd, int64(v)), least[v])
		}
		if all {
			attaining++
		}
	})
	return least, attaining
}

// wantedBetter returns what the document says of BetterPlan, where worths has what it says of WorthsOf.
func wantedBetter(g impl.Parity, plan ints, worths []impl.Worth) ints {
	better := noMoves(int64(len(plan)))
	for v, next := range g.Next {
		isBeaten := func(u int64) bool {
			return slices.ContainsFunc(next, func(x int64) bool { return isBetter(g, worths[x], worths[u]) })
		}
		switch {
		case g.Owner[v] == 1:
		case !isBeaten(plan[v]):
			better[v] = plan[v]
		default:
			better[v] = next[slices.IndexFunc(next, func(u int64) bool { return !isBeaten(u) })]
		}
	}
	return better
}

// worthsUpTo returns all worths of a small game with ways up to way.
func worthsUpTo(g impl.Parity, way int64) []impl.Worth {
	var worths []impl.Worth
	for head := range int64(len(g.Prio)) {
		for _, over := range setsUpTo(int64(len(g.Prio))) {
			for w := range way + 1 {
				if w := (impl.Worth{Head: head, Over: over, Way: w}); isWorth(g, w) {
					worths = append(worths, w)
				}
			}
		}
	}
	return worths
}

// worth returns a worth of a small game.
func (d *dice) worth(g impl.Parity) impl.Worth {
	n := int64(len(g.Prio))
	w := impl.Worth{Head: d.below(n), Over: d.subset(n, 1+d.below(3)), Way: d.below(13)}
	w.Over = slices.DeleteFunc(w.Over, func(v int64) bool { return !isHeavier(g, v, w.Head) })
	return w
}

// near returns a worth that differs little from w.
func (d *dice) near(g impl.Parity, w impl.Worth) impl.Worth {
	var over ints
	for v := range int64(len(g.Prio)) {
		if isHeavier(g, v, w.Head) && slices.Contains(w.Over, v) != (d.below(5) == 0) {
			over = append(over, v)
		}
	}
	return impl.Worth{Head: w.Head, Over: over, Way: d.below(13)}
}

// choiceGame returns a game in which player 0 often has more choices than player 1.
func (d *dice) choiceGame(n int64) impl.Parity {
	g := d.mixedGame(n)
	for v := range g.Next {
		for range d.below(4) * (1 - g.Owner[v]) {
			g.Next[v] = impl.BothOf(g.Next[v], ints{d.below(n)})
		}
	}
	return g
}

// replyGame returns a game of the greatest size in which player 1 has as many choices as counts says, one
// number for each of the first vertices; the other vertices belong to player 0.
func replyGame(counts ...int64) impl.Parity {
	g := impl.Parity{}
	for v := range int64(12) {
		g.Owner, g.Next, g.Prio = append(g.Owner, 0), append(g.Next, ints{v, 11}), append(g.Prio, v%5)
		if v == 11 {
			g.Next[v] = ints{0, 11}
		}
		if v < int64(len(counts)) {
			g.Owner[v], g.Next[v] = 1, countTo(counts[v])
		}
	}
	return g
}

func TestImproveExamples(t *testing.T) {
	g := game7()
	if !impl.HeavierIn(g, 3, 1) || impl.HeavierIn(g, 1, 3) || impl.HeavierIn(g, 1, 1) || !impl.HeavierIn(g, 0, 2) {
		t.Error("HeavierIn")
	}
	w, is := impl.WorthOf(g, ints{1, -1, 0, -1}, ints{-1, 3, -1, 3}, 2)
	if !is || !sameWorth(w, impl.Worth{Head: 3, Way: 3}) || !impl.WorthOk(g, w) {
		t.Errorf("WorthOf returns %v, %v", w, is)
	}
	w, is = impl.WorthOf(g, ints{2, -1, 2, -1}, ints{-1, 0, -1, 3}, 1)
	if !is || !sameWorth(w, impl.Worth{Head: 2, Over: ints{0, 1}, Way: 2}) || !impl.WorthOk(g, w) {
		t.Errorf("WorthOf returns %v, %v", w, is)
	}
	late, soon := impl.Worth{Head: 3, Way: 2}, impl.Worth{Head: 3, Way: 0}
	if !impl.BetterIn(g, late, soon) || impl.BetterIn(g, soon, late) || impl.BetterIn(g, late, late) {
		t.Error("BetterIn")
	}
	if got := impl.RepliesIn(g); got != 2 {
		t.Errorf("RepliesIn returns %d", got)
	}
	worths := impl.WorthsOf(g, ints{1, -1, 0, -1})
	want := []impl.Worth{{Head: 3, Way: 2}, {Head: 3, Way: 1}, {Head: 3, Way: 3}, {Head: 3, Way: 0}}
	if !slices.EqualFunc(worths, want, sameWorth) {
		t.Errorf("WorthsOf returns %v", worths)
	}
	if got := impl.BetterPlan(g, ints{1, -1, 0, -1}); !sameList(got, ints{2, -1, 2, -1}) {
		t.Errorf("BetterPlan returns %v", got)
	}
	if got := impl.BestPlan(g); !sameList(got, ints{2, -1, 2, -1}) {
		t.Errorf("BestPlan returns %v", got)
	}
	if got := impl.ImproveWon(g); !sameList(got, ints{0, 1, 0, 1}) {
		t.Errorf("ImproveWon returns %v", got)
	}
}

// TestBetterExamples has pairs of worths for each of the differences that can decide.
func TestBetterExamples(t *testing.T) {
	// From the lightest to the heaviest vertex: 2, 5, 0, 3, 4, 1.
	g := impl.Parity{Arena: ringArena(6), Prio: ints{1, 4, 0, 2, 3, 0}}
	for _, c := range []struct{ good, bad impl.Worth }{
		// An even head is better than an odd one, whatever else the worths have.
		{impl.Worth{Head: 2, Over: ints{4}, Way: 12}, impl.Worth{Head: 4}},
		{impl.Worth{Head: 5}, impl.Worth{Head: 0, Over: ints{1, 3}, Way: 12}},
		// Of even heads the heavier one, also if only its number is greater; of odd heads the lighter one.
		{impl.Worth{Head: 3}, impl.Worth{Head: 5, Over: ints{1, 3}}},
		{impl.Worth{Head: 5, Way: 9}, impl.Worth{Head: 2, Over: ints{1, 5}}},
		{impl.Worth{Head: 0, Over: ints{4}}, impl.Worth{Head: 4, Over: ints{1}, Way: 12}},
		// Only the heaviest vertex counts that is in one of the sets.
		{impl.Worth{Head: 2, Over: ints{1}, Way: 12}, impl.Worth{Head: 2}},
		{impl.Worth{Head: 2, Over: ints{1, 4}}, impl.Worth{Head: 2, Over: ints{3}}},
		{impl.Worth{Head: 2}, impl.Worth{Head: 2, Over: ints{3, 4, 5}}},
		{impl.Worth{Head: 0, Over: ints{3, 4}}, impl.Worth{Head: 0, Over: ints{4}, Way: 12}},
		{impl.Worth{Head: 0, Over: ints{1, 3}}, impl.Worth{Head: 0, Over: ints{1, 3, 4}, Way: 12}},
		{impl.Worth{Head: 2, Over: ints{3, 5}}, impl.Worth{Head: 2, Over: ints{0, 3, 5}}},
		{impl.Worth{Head: 2, Over: ints{5}}, impl.Worth{Head: 2, Over: ints{0, 5}}},
		// The way is short to an even head and long to an odd one.
		{impl.Worth{Head: 2, Over: ints{0, 1}, Way: 3}, impl.Worth{Head: 2, Over: ints{0, 1}, Way: 4}},
		{impl.Worth{Head: 0, Over: ints{3}, Way: 12}, impl.Worth{Head: 0, Over: ints{3}, Way: 11}},
	} {
		if !impl.WorthOk(g, c.good) || !impl.WorthOk(g, c.bad) {
			t.Errorf("WorthOk rejects %v or %v", c.good, c.bad)
		}
		if !impl.BetterIn(g, c.good, c.bad) || impl.BetterIn(g, c.bad, c.good) || impl.BetterIn(g, c.good, c.good) {
			t.Errorf("%v is not better than %v", c.good, c.bad)
		}
	}
}

// TestEqualSuccessors has successors that are worth the same: the plan keeps its own one of the best, and
// else takes the smallest.
func TestEqualSuccessors(t *testing.T) {
	for sign := range int64(2) {
		// Vertices 2 and 3 lead to the head 4; 1 and 5 lead to a head that is worse, be 4 even or odd.
		g := impl.Parity{
			Arena: impl.Arena{Owner: ints{0, 1, 1, 1, 1, 1}, Next: sets{{1, 2, 3, 5}, {5}, {4}, {4}, {4}, {5}}},
			Prio:  ints{0, 7, 0, 0, 4 + sign, 9},
		}
		for from, to := range map[int64]int64{1: 2, 2: 2, 3: 3, 5: 2} {
			got := impl.BetterPlan(g, ints{from, -1, -1, -1, -1, -1})
			if !sameList(got, ints{to, -1, -1, -1, -1, -1}) {
				t.Errorf("BetterPlan returns %v for the successor %d", got, from)
			}
		}
		if got := impl.BestPlan(g); !sameList(got, ints{2, -1, -1, -1, -1, -1}) {
			t.Errorf("BestPlan returns %v", got)
		}
	}
}

// TestHeadsSuccessor has a head that gets another successor, which is nearer to it and so has a better worth,
// although no vertex is then worth more.
func TestHeadsSuccessor(t *testing.T) {
	g := impl.Parity{Arena: impl.Arena{Owner: ints{0, 0}, Next: sets{{1}, {0, 1}}}, Prio: ints{15, 16}}
	if got := impl.BetterPlan(g, ints{1, 0}); !sameList(got, ints{1, 1}) {
		t.Errorf("BetterPlan returns %v", got)
	}
	want := []impl.Worth{{Head: 1, Way: 1}, {Head: 1}}
	for _, plan := range (sets{{1, 0}, {1, 1}}) {
		if got := impl.WorthsOf(g, plan); !slices.EqualFunc(got, want, sameWorth) {
			t.Errorf("WorthsOf returns %v for %v", got, plan)
		}
	}
	if got := impl.BestPlan(g); !sameList(got, ints{1, 1}) {
		t.Errorf("BestPlan returns %v", got)
	}
	// To an odd head the longer way is better.
	g.Prio = ints{16, 17}
	if x, y := impl.BetterPlan(g, ints{1, 0}), impl.BetterPlan(g, ints{1, 1}); !sameList(x, ints{1, 0}) || !sameList(y, ints{1, 0}) {
		t.Errorf("BetterPlan returns %v and %v", x, y)
	}
}

// TestPlayersWithoutVertices has games in which one player makes all choices.
func TestPlayersWithoutVertices(t *testing.T) {
	for owner := range int64(2) {
		for p := range int64(4) {
			g := impl.Parity{Arena: impl.Arena{Owner: ints{owner}, Next: sets{{0}}}, Prio: ints{p}}
			plan := ints{-owner}
			if worths := impl.WorthsOf(g, plan); len(worths) != 1 || !isZeroWorth(worths[0]) || impl.RepliesIn(g) != 1 {
				t.Errorf("WorthsOf returns %v and RepliesIn %d", worths, impl.RepliesIn(g))
			}
			if x, y, won := impl.BetterPlan(g, plan), impl.BestPlan(g), impl.ImproveWon(g); !sameList(x, plan) || !sameList(y, plan) || !sameList(won, ints{p % 2}) {
				t.Errorf("BetterPlan returns %v, BestPlan %v and ImproveWon %v", x, y, won)
			}
		}
		// The player who makes all choices prefers one of the loops at 1 and 2.
		g := impl.Parity{Arena: impl.Arena{Owner: ints{owner, owner, owner}, Next: sets{{1, 2}, {1}, {2}}}, Prio: ints{0, 3 - owner, 2 - owner}}
		best := sets{{2, 1, 2}, {-1, -1, -1}}[owner]
		if x, won := impl.BestPlan(g), impl.ImproveWon(g); !sameList(x, best) || !sameList(won, sets{{0, 1, 0}, {1, 0, 1}}[owner]) {
			t.Errorf("BestPlan returns %v and ImproveWon %v", x, won)
		}
	}
}

// TestHeavierByDefinition compares all vertices, and numbers that are none.
func TestHeavierByDefinition(t *testing.T) {
	d := dice(100)
	for range 300 {
		n := 1 + d.below(12)
		g := d.mixedGame(n)
		for _, x := range append(countTo(n), wildInts...) {
			for _, y := range append(countTo(n), wildInts...) {
				want := min(x, y) >= 0 && max(x, y) < n && isHeavier(g, x, y)
				if got := impl.HeavierIn(g, x, y); got != want {
					t.Fatalf("HeavierIn(%v, %d, %d) is %v", g, x, y, got)
				}
			}
		}
	}
}

// checkWorth compares WorthOf with the document.
func checkWorth(t *testing.T, g impl.Parity, even ints, odd ints, v int64) impl.Worth {
	t.Helper()
	want := wantedWorth(g, even, odd, v)
	if got, is := impl.WorthOf(g, even, odd, v); !is || !sameWorth(got, want) || !impl.WorthOk(g, got) {
		t.Fatalf("WorthOf(%v, %v, %v, %d) returns %v, %v, not %v", g, even, odd, v, got, is, want)
	}
	return want
}

// TestWorthsByDefinition has all plays of small games and random plays of greater ones.
func TestWorthsByDefinition(t *testing.T) {
	d := dice(101)
	over, even, far := 0, 0, 0
	count := func(g impl.Parity, w impl.Worth) {
		if len(w.Over) > 1 {
			over++
		}
		if g.Prio[w.Head]%2 == 0 {
			even++
		}
		if w.Way > 5 {
			far++
		}
	}
	for range 200 {
		g := d.mixedGame(1 + d.below(5))
		fullPlans(g, 0, func(even ints) {
			fullPlans(g, 1, func(odd ints) {
				for v := range g.Prio {
					count(g, checkWorth(t, g, even, odd, int64(v)))
				}
			})
		})
	}
	for range 2000 {
		g := d.mixedGame(6 + d.below(7))
		for v := range g.Prio {
			count(g, checkWorth(t, g, d.plan(g.Arena, 0, 0), d.plan(g.Arena, 1, 0), int64(v)))
		}
	}
	if over < 1000 || even < 1000 || far < 100 {
		t.Errorf("%d plays have more than one vertex above the head, %d an even head, %d a long way to it", over, even, far)
	}
}

// TestWorthOkByDefinition tries all heads, lists and ways within the limits and beyond.
func TestWorthOkByDefinition(t *testing.T) {
	d := dice(102)
	worths := 0
	for range 30 {
		n := 1 + d.below(4)
		g := d.mixedGame(n)
		for length := range int64(4) {
			listsUpTo(length, -1, n, func(over ints) {
				for head := int64(-2); head < n+2; head++ {
					for _, way := range (ints{math.MinInt64, -1, 0, 1, 11, 12, 13, math.MaxInt64}) {
						w := impl.Worth{Head: head, Over: over, Way: way}
						want := isWorth(g, w)
						if got := impl.WorthOk(g, w); got != want {
							t.Fatalf("WorthOk(%v, %v) is %v", g, w, got)
						}
						if want {
							worths++
						} else {
							checkNoWorth(t, "by definition", g, w)
						}
					}
				}
			})
		}
	}
	if worths < 500 {
		t.Errorf("only %d worths", worths)
	}
}

// TestBetterByDefinition compares all worths of small games with each other, and random ones of greater
// games. Of two different worths exactly one is better.
func TestBetterByDefinition(t *testing.T) {
	d := dice(103)
	check := func(g impl.Parity, a impl.Worth, b impl.Worth) {
		x, y := impl.BetterIn(g, a, b), impl.BetterIn(g, b, a)
		if x != isBetter(g, a, b) || y != isBetter(g, b, a) || x && y || (x || y) == sameWorth(a, b) {
			t.Fatalf("BetterIn(%v, %v, %v) is %v, and %v the other way round", g, a, b, x, y)
		}
	}
	for range 30 {
		g := d.mixedGame(1 + d.below(4))
		worths := worthsUpTo(g, 2)
		for _, a := range worths {
			for _, b := range worths {
				check(g, a, b)
			}
		}
	}
	for range 3000 {
		g := d.mixedGame(5 + d.below(8))
		for range 10 {
			a := d.worth(g)
			check(g, a, d.worth(g))
			check(g, a, d.near(g, a))
		}
	}
}

// checkPlan10 compares WorthsOf and BetterPlan with the document for a full plan of player 0, and checks the
// first part of P10. It reports whether the plan was improved.
func checkPlan10(t *testing.T, g impl.Parity, plan ints) bool {
	t.Helper()
	plan = slices.Clone(plan)
	want, attaining := wantedWorths(g, plan)
	worths := impl.WorthsOf(g, plan)
	if !slices.EqualFunc(worths, want, sameWorth) || attaining == 0 {
		t.Fatalf("WorthsOf(%v, %v) returns %v, not %v, which %d plans attain", g, plan, worths, want, attaining)
	}
	better := impl.BetterPlan(g, plan)
	if want := wantedBetter(g, plan, want); !sameList(better, want) {
		t.Fatalf("BetterPlan(%v, %v) returns %v, not %v", g, plan, better, want)
	}
	checkNowhereLess(t, g, plan, better)
	return !sameList(better, plan)
}

// checkNowhereLess checks that an improved plan is nowhere worth less than the plan from which it comes. It may
// be worth the same everywhere, where the head of a loop gets another successor; such a plan is the final one.
func checkNowhereLess(t *testing.T, g impl.Parity, plan ints, better ints) {
	t.Helper()
	before, after := impl.WorthsOf(g, plan), impl.WorthsOf(g, better)
	if len(before) != len(g.Prio) || len(after) != len(g.Prio) {
		t.Fatalf("WorthsOf(%v) returns %v for %v and %v for %v", g, before, plan, after, better)
	}
	more := false
	for v := range g.Prio {
		if isBetter(g, before[v], after[v]) {
			t.Fatalf("%v is improved to %v for %v, but vertex %d is worth %v and then %v", plan, better, g, v, before[v], after[v])
		}
		more = more || isBetter(g, after[v], before[v])
	}
	if next := impl.BetterPlan(g, better); !more && !sameList(next, better) {
		t.Fatalf("%v is improved to %v and to %v for %v, but the worths stay %v", plan, better, next, g, before)
	}
}

// checkImproved checks the second part of P10, where odd is what player 1 wins. It returns how many
// improvements there were.
func checkImproved(t *testing.T, g impl.Parity, odd ints) int {
	t.Helper()
	plan, steps := impl.LeastFull(g.Arena, 0), 0
	for next := impl.BetterPlan(g, plan); !sameList(next, plan); next = impl.BetterPlan(g, plan) {
		checkNowhereLess(t, g, plan, next)
		plan = next
		steps++
	}
	if got := impl.BestPlan(g); !sameList(got, plan) {
		t.Fatalf("BestPlan(%v) returns %v, but the improvements end with %v", g, got, plan)
	}
	even := impl.LessOf(countTo(int64(len(g.Prio))), odd)
	if !impl.FullIn(g.Arena, 0, plan) || !impl.WinsBy(g, 0, even, plan) {
		t.Fatalf("BestPlan(%v) returns %v, which does not win from %v", g, plan, even)
	}
	won := impl.ImproveWon(g)
	if got := impl.RegionOf(impl.Answer{Won: won}, 1); len(won) != len(g.Prio) || !sameList(got, odd) {
		t.Fatalf("ImproveWon(%v) returns %v, but 1 wins %v", g, won, odd)
	}
	for v, w := range impl.WorthsOf(g, plan) {
		if g.Prio[w.Head]%2 != won[v] {
			t.Fatalf("ImproveWon(%v) returns %v, but vertex %d is worth %v", g, won, v, w)
		}
	}
	return steps
}

// TestPlansImproved has every full plan of player 0 in small games, with the worths by all plans of player 1.
func TestPlansImproved(t *testing.T) {
	d := dice(104)
	improved, best := 0, 0
	for range 1000 {
		g := d.choiceGame(1 + d.below(6))
		if countPlans(g, 0)*countPlans(g, 1) > 2000 {
			continue
		}
		if got := impl.RepliesIn(g); got != countPlans(g, 1) {
			t.Fatalf("RepliesIn(%v) returns %d", g, got)
		}
		fullPlans(g, 0, func(plan ints) {
			if checkPlan10(t, g, plan) {
				improved++
			} else {
				best++
			}
		})
	}
	if improved < 5000 || best < 1000 {
		t.Errorf("%d plans are improved and %d are not", improved, best)
	}
}

// TestGreaterPlansImproved is TestPlansImproved for random plans in games up to the limit.
func TestGreaterPlansImproved(t *testing.T) {
	d := dice(105)
	improved, best := 0, 0
	for range 1000 {
		g := d.choiceGame(6 + d.below(7))
		if countPlans(g, 1) > 1000 {
			continue
		}
		if checkPlan10(t, g, d.plan(g.Arena, 0, 0)) {
			improved++
		}
		if !checkPlan10(t, g, impl.BestPlan(g)) {
			best++
		}
	}
	if improved < 300 || best < 300 {
		t.Errorf("%d plans are improved and %d are not", improved, best)
	}
}

// TestBestPlansPlayed plays the final plan against all plans of player 1; the winners are those by all plans.
func TestBestPlansPlayed(t *testing.T) {
	d := dice(106)
	mixed, steps := 0, 0
	for range 1500 {
		g := d.choiceGame(1 + d.below(6))
		odd := wonByPlans(g, 1)
		if checkImproved(t, g, odd) > 1 {
			steps++
		}
		plan := impl.BestPlan(g)
		fullPlans(g, 1, func(reply ints) {
			for v := range int64(len(g.Prio)) {
				play, is := impl.PlayOf(g.Arena, plan, reply, v)
				if winner := impl.PlayWon(g, play); !is || winner != 0 && !slices.Contains(odd, v) {
					t.Fatalf("BestPlan(%v) returns %v, with which %v is won by %d", g, plan, play, winner)
				}
			}
		})
		if len(odd) > 0 && len(odd) < len(g.Prio) {
			mixed++
		}
	}
	if mixed < 200 || steps < 100 {
		t.Errorf("only %d games have two winners, and only %d more than one improvement", mixed, steps)
	}
}

// TestBestPlansOfGreaterGames compares the winners with chapter 7.
func TestBestPlansOfGreaterGames(t *testing.T) {
	d := dice(107)
	mixed, steps, many := 0, 0, 0
	for i := range 3000 {
		n := 1 + d.below(12)
		if i%3 == 0 {
			n = 12
		}
		g := d.choiceGame(n)
		if i%2 == 0 {
			g = d.anyGame(n, 4)
		}
		if countPlans(g, 1) > 4096 {
			many++
			checkNoReplies(t, "many replies", g)
			continue
		}
		odd := impl.WonBy(g, 1)
		if checkImproved(t, g, odd) > 2 {
			steps++
		}
		if len(odd) > 0 && len(odd) < int(n) {
			mixed++
		}
	}
	if mixed < 500 || steps < 100 || many < 10 {
		t.Errorf("%d games have two winners, %d more than two improvements, %d too many replies", mixed, steps, many)
	}
}

// TestImproveLimits has games of the greatest size and those beyond.
func TestImproveLimits(t *testing.T) {
	for n := int64(11); n < 15; n++ {
		g, small := ring8(n), n <= 12
		for v := range n {
			g.Owner[v] = v % 2
		}
		plan, reply := impl.LeastFull(g.Arena, 0), impl.LeastFull(g.Arena, 1)
		if impl.HeavierIn(g, 1, 0) != small || impl.WorthOk(g, impl.Worth{}) != small {
			t.Errorf("HeavierIn or WorthOk is not %v for %d vertices", small, n)
		}
		if impl.BetterIn(g, impl.Worth{Way: 12}, impl.Worth{}) != small {
			t.Errorf("BetterIn is not %v for %d vertices", small, n)
		}
		if w, is := impl.WorthOf(g, plan, reply, 0); is != small || is && !sameWorth(w, impl.Worth{Head: n - 1, Way: n - 1}) {
			t.Errorf("WorthOf returns %v, %v for %d vertices", w, is, n)
		}
		if got := impl.RepliesIn(g); small && got != 1 || !small && got != -1 {
			t.Errorf("RepliesIn returns %d for %d vertices", got, n)
		}
		if !small {
			checkNoImprove(t, "a ring", g)
			continue
		}
		worths := impl.WorthsOf(g, plan)
		for v, w := range worths {
			if !sameWorth(w, impl.Worth{Head: n - 1, Way: n - 1 - int64(v)}) {
				t.Errorf("WorthsOf returns %v", worths)
			}
		}
		if x, y := impl.BetterPlan(g, plan), impl.BestPlan(g); len(worths) != int(n) || !sameList(x, plan) || !sameList(y, plan) {
			t.Errorf("BetterPlan returns %v and BestPlan %v", x, y)
		}
		if got := impl.ImproveWon(g); !sameList(got, slices.Repeat(ints{1}, int(n))) {
			t.Errorf("ImproveWon returns %v", got)
		}
	}
	for _, n := range (ints{13, 255, 256}) {
		g := ring8(n, slices.Repeat(ints{1}, int(n))...)
		if !impl.ParityOk(g) {
			t.Errorf("the ring of %d is not valid", n)
		}
		checkNoImprove(t, "a great game", g)
	}
}

// TestMostReplies has games with the greatest number of replies, and with more.
func TestMostReplies(t *testing.T) {
	for _, c := range []struct {
		counts ints
		want   int64
	}{
		{ints{}, 1}, {ints{1, 1}, 1}, {ints{12}, 12}, {ints{12, 12, 12}, 1728}, {ints{9, 5, 7, 12}, 3780}, {ints{9, 9, 5, 10}, 4050},
		{ints{8, 8, 8, 8}, 4096}, {ints{2, 2, 2, 2, 2, 2, 2, 2, 2, 2, 2, 2}, 4096}, {ints{1, 4, 1, 4, 4, 4, 4, 1, 4}, 4096},
		// There is no number of replies between the limit and 4116.
		{ints{12, 7, 7, 7}, -1}, {ints{3, 2, 2, 2, 2, 2, 2, 2, 2, 2, 2, 2}, -1}, {ints{12, 12, 12, 12}, -1}, {ints{9, 9, 9, 9}, -1},
		{ints{12, 12, 12, 12, 12, 12, 12, 12, 12, 12, 12, 12}, -1},
	} {
		g := replyGame(c.counts...)
		if got := impl.RepliesIn(g); got != c.want {
			t.Errorf("RepliesIn(%v) returns %d, not %d", g, got, c.want)
		}
		if c.want == -1 {
			checkNoReplies(t, "many replies", g)
			continue
		}
		checkImproved(t, g, impl.WonBy(g, 1))
		checkPlan10(t, g, impl.LeastFull(g.Arena, 0))
	}
}

// TestLongestImprovements has games of the greatest size with many replies and many plans of player 0.
func TestLongestImprovements(t *testing.T) {
	d := dice(108)
	steps := 0
	for i := range 300 {
		g := d.game(12, 12, 0, 41)
		for v := range g.Next {
			if g.Owner[v] == 1 {
				g.Next[v] = impl.BothOf(ints{d.below(12)}, ints{d.below(12)})
			} else if i%2 == 0 {
				g.Next[v] = countTo(12)
			}
		}
		start := time.Now()
		steps = max(steps, checkImproved(t, g, impl.WonBy(g, 1)))
		if took := time.Since(start); took > 5*time.Second {
			t.Fatalf("%v takes %v", g, took)
		}
	}
	if steps < 3 {
		t.Errorf("at most %d improvements", steps)
	}
	g := impl.Parity{Arena: impl.Arena{Owner: slices.Repeat(ints{1}, 12)}, Prio: countTo(12)}
	for v := range int64(12) {
		g.Next = append(g.Next, impl.BothOf(ints{(v + 1) % 12}, ints{(v + 5) % 12}))
	}
	checkImproved(t, g, impl.WonBy(g, 1))
}

// checkNoWorth checks that a worth is rejected, on each side of a comparison.
func checkNoWorth(t *testing.T, what string, g impl.Parity, w impl.Worth) {
	t.Helper()
	if impl.WorthOk(g, w) {
		t.Errorf("%s: WorthOk(%v) is true", what, w)
	}
	for v := range int64(len(g.Prio)) {
		x := impl.Worth{Head: v}
		if impl.BetterIn(g, w, x) || impl.BetterIn(g, x, w) {
			t.Errorf("%s: BetterIn compares %v and %v", what, w, x)
		}
	}
	if impl.BetterIn(g, w, w) {
		t.Errorf("%s: BetterIn compares %v with itself", what, w)
	}
}

// checkNoPlan10 checks that a list is not taken for a full plan of player 0.
func checkNoPlan10(t *testing.T, what string, g impl.Parity, plan ints) {
	t.Helper()
	for v := range int64(len(g.Prio)) + 1 {
		if w, is := impl.WorthOf(g, plan, impl.LeastFull(g.Arena, 1), v); is || !isZeroWorth(w) {
			t.Errorf("%s: WorthOf returns %v, %v for %v", what, w, is, plan)
		}
	}
	if x, y := impl.WorthsOf(g, plan), impl.BetterPlan(g, plan); len(x)+len(y) != 0 {
		t.Errorf("%s: WorthsOf returns %v and BetterPlan %v for %v", what, x, y, plan)
	}
}

// checkNoReplies checks what rejects a small game with too many replies, and what does not.
func checkNoReplies(t *testing.T, what string, g impl.Parity) {
	t.Helper()
	plan, reply := impl.LeastFull(g.Arena, 0), impl.LeastFull(g.Arena, 1)
	if got := impl.RepliesIn(g); got != -1 {
		t.Errorf("%s: RepliesIn returns %d", what, got)
	}
	if x, y := impl.WorthsOf(g, plan), impl.BetterPlan(g, plan); len(x)+len(y) != 0 {
		t.Errorf("%s: WorthsOf returns %v and BetterPlan %v", what, x, y)
	}
	if x, y := impl.BestPlan(g), impl.ImproveWon(g); len(x)+len(y) != 0 {
		t.Errorf("%s: BestPlan returns %v and ImproveWon %v", what, x, y)
	}
	w := checkWorth(t, g, plan, reply, 1)
	if impl.BetterIn(g, w, w) || !impl.HeavierIn(g, heaviest(g, ints{0, 1}), 1-heaviest(g, ints{0, 1})) {
		t.Errorf("%s: BetterIn or HeavierIn", what)
	}
}

// checkNoImprove checks that every function rejects a game.
func checkNoImprove(t *testing.T, what string, g impl.Parity) {
	t.Helper()
	if got := impl.RepliesIn(g); got != -1 {
		t.Errorf("%s: RepliesIn returns %d", what, got)
	}
	if x, y := impl.BestPlan(g), impl.ImproveWon(g); len(x)+len(y) != 0 {
		t.Errorf("%s: BestPlan returns %v and ImproveWon %v", what, x, y)
	}
	for x := range int64(4) {
		for y := range int64(4) {
			if impl.HeavierIn(g, x, y) {
				t.Errorf("%s: HeavierIn(%d, %d) is true", what, x, y)
			}
		}
		checkNoWorth(t, what, g, impl.Worth{Head: x})
		checkNoWorth(t, what, g, impl.Worth{Head: x, Over: ints{3}, Way: 1})
	}
	plan, reply := impl.LeastFull(g.Arena, 0), impl.LeastFull(g.Arena, 1)
	if w, is := impl.WorthOf(g, plan, reply, 0); is || !isZeroWorth(w) {
		t.Errorf("%s: WorthOf returns %v, %v", what, w, is)
	}
	for _, plan := range append(wildLists(), plan, reply, ints{1, -1, 0, -1}, even5(), noMoves(int64(len(g.Owner)))) {
		checkNoPlan10(t, what, g, plan)
	}
}

// badPlans10 returns lists that are no full plans of player 0 for game7.
func badPlans10() sets {
	return sets{
		nil, {}, {1}, {1, -1, 0}, {1, -1, 0, -1, -1}, {2, -1, 2, -1, 0}, noMoves(4), {1, -1, -1, -1}, {-1, -1, 0, -1}, {0, -1, 0, -1}, {1, -1, 1, -1},
		{3, -1, 0, -1}, {4, -1, 0, -1}, {-2, -1, 0, -1}, {1, 0, 0, -1}, {1, -1, 0, 3}, {1, 3, 0, 3}, {-1, 3, -1, 3}, {1, -2, 0, -1}, {1, -1, 0, 4},
		{math.MaxInt64, -1, 0, -1}, {1, -1, math.MinInt64, -1}, {1, math.MinInt64, 0, math.MaxInt64}, countTo(257), noMoves(256),
	}
}

func TestImproveRejects(t *testing.T) {
	for what, g := range badGames() {
		checkNoImprove(t, what, g)
	}
	g := game7()
	even, odd := ints{1, -1, 0, -1}, ints{-1, 3, -1, 3}
	for _, plan := range badPlans10() {
		checkNoPlan10(t, "a wrong plan", g, plan)
	}
	for _, reply := range (sets{
		nil, {}, {-1, 3, -1}, {-1, 3, -1, 3, -1}, even, noMoves(4), {-1, -1, -1, 3}, {-1, 3, -1, -1}, {-1, 1, -1, 3}, {-1, 3, -1, 0}, {-1, 4, -1, 3},
		{-1, -2, -1, 3}, {1, 3, -1, 3}, {-1, 3, 0, 3}, {-2, 3, -1, 3}, {-1, math.MaxInt64, -1, 3}, {-1, math.MinInt64, -1, 3}, countTo(257),
	}) {
		for v := range int64(5) {
			if w, is := impl.WorthOf(g, even, reply, v); is || !isZeroWorth(w) {
				t.Errorf("WorthOf returns %v, %v for the plan %v of player 1", w, is, reply)
			}
		}
	}
	if w, is := impl.WorthOf(g, odd, even, 0); is || !isZeroWorth(w) {
		t.Errorf("WorthOf returns %v, %v for exchanged plans", w, is)
	}
	for _, v := range wildInts {
		want := v >= 0 && v < 4
		if w, is := impl.WorthOf(g, even, odd, v); is != want || !is && !isZeroWorth(w) {
			t.Errorf("WorthOf returns %v, %v from %d", w, is, v)
		}
		for _, w := range []impl.Worth{{Head: v}, {Head: 2, Way: v}, {Head: 2, Over: ints{v}}, {Head: 2, Over: ints{1, v}}} {
			if want := isWorth(g, w); impl.WorthOk(g, w) != want {
				t.Errorf("WorthOk(%v) is not %v", w, want)
			} else if !want {
				checkNoWorth(t, "a wrong number", g, w)
			}
		}
	}
	for _, over := range append(wildLists(), ints{3, 1}, ints{1, 1}, ints{0, 1, 2}, ints{1, 3, 4}) {
		if w := (impl.Worth{Head: 2, Over: over}); !isWorth(g, w) {
			checkNoWorth(t, "a wrong list", g, w)
		}
	}
}

// TestImproveKeepsMemory calls every function of the chapter with valid and invalid arguments.
func TestImproveKeepsMemory(t *testing.T) {
	d := dice(109)
	games := []impl.Parity{game7(), game8(), example4(), ring8(12), ring8(13), d.splitGame(9), replyGame(8, 8, 8), replyGame(12, 7, 7, 7)}
	for _, g := range badGames() {
		games = append(games, g)
	}
	for _, g := range games {
		guardedCall(t, "RepliesIn", impl.RepliesIn, g)
		guardedCall(t, "BestPlan", impl.BestPlan, g)
		guardedCall(t, "ImproveWon", impl.ImproveWon, g)
		plan, reply := impl.LeastFull(g.Arena, 0), impl.LeastFull(g.Arena, 1)
		for _, v := range wildInts {
			guardedCall(t, "HeavierIn", impl.HeavierIn, g, v, int64(1))
			guardedCall(t, "HeavierIn", impl.HeavierIn, g, int64(0), v)
			guardedCall(t, "WorthOf", impl.WorthOf, g, plan, reply, v)
			guardedCall(t, "WorthOk", impl.WorthOk, g, impl.Worth{Head: v, Over: ints{2, 3}, Way: v})
		}
		for _, list := range append(wildLists(), plan, reply, ints{1, -1, 0, -1}, ints{2, 3}) {
			guardedCall(t, "WorthOf", impl.WorthOf, g, list, reply, int64(0))
			guardedCall(t, "WorthOf", impl.WorthOf, g, plan, list, int64(2))
			guardedCall(t, "WorthsOf", impl.WorthsOf, g, list)
			guardedCall(t, "BetterPlan", impl.BetterPlan, g, list)
			for _, n := range (ints{math.MinInt64, -1, 0, 2, 12, 13, math.MaxInt64}) {
				w := impl.Worth{Head: 2, Over: list, Way: n}
				guardedCall(t, "WorthOk", impl.WorthOk, g, w)
				guardedCall(t, "BetterIn", impl.BetterIn, g, w, impl.Worth{Head: n, Over: ints{3}})
				guardedCall(t, "BetterIn", impl.BetterIn, g, impl.Worth{Head: n}, w)
			}
		}
	}
}
