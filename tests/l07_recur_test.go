package tests

import (
	"fmt"
	"math"
	"slices"
	"testing"
	"time"

	"loop.example/g00869/impl"
)

// game7 returns the game G of chapter 7.
func game7() impl.Parity {
	return impl.Parity{Arena: impl.Arena{Owner: ints{0, 1, 0, 1}, Next: sets{{1, 2}, {0, 3}, {0, 2}, {3}}}, Prio: ints{1, 2, 0, 3}}
}

// isZeroAnswer reports whether ans is the zero Answer.
func isZeroAnswer(ans impl.Answer) bool { return len(ans.Won)+len(ans.Plan) == 0 }

// sameAnswer reports whether two answers are equal.
func sameAnswer(got impl.Answer, want impl.Answer) bool {
	return sameList(got.Won, want.Won) && sameList(got.Plan, want.Plan)
}

// wantedOnly returns what the document says of OnlyBy.
func wantedOnly(g impl.Parity, picks ints) (impl.Parity, bool) {
	only := impl.Parity{Arena: impl.Arena{Owner: g.Owner}, Prio: g.Prio}
	if !impl.ParityOk(g) || len(picks) != len(g.Prio) {
		return impl.Parity{}, false
	}
	for v, u := range picks {
		switch {
		case u == -1:
			only.Next = append(only.Next, g.Next[v])
		case slices.Contains(g.Next[v], u):
			only.Next = append(only.Next, ints{u})
		default:
			return impl.Parity{}, false
		}
	}
	return only, true
}

// A keeper says whether every vertex of a game keeps its winner with some picks.
type keeper func(picks ints) bool

// keeperByPlans returns a keeper that plays all plans against each other.
func keeperByPlans(g impl.Parity) keeper {
	won, seen := wonByPlans(g, 0), map[string]bool{}
	return func(picks ints) bool {
		key := fmt.Sprint(picks)
		keeps, is := seen[key]
		if !is {
			only, valid := wantedOnly(g, picks)
			keeps = valid && sameList(wonByPlans(only, 0), won)
			seen[key] = keeps
		}
		return keeps
	}
}

// wantedPlan returns what the document says of PlanFrom; odd is what player 1 wins.
func wantedPlan(g impl.Parity, odd ints, picks ints, keeps keeper) (impl.Answer, bool) {
	if !keeps(picks) {
		return impl.Answer{}, false
	}
	ans := impl.Answer{Won: make(ints, len(picks)), Plan: slices.Clone(picks)}
	for _, v := range odd {
		ans.Won[v] = 1
	}
	for v, winner := range ans.Won {
		if winner != g.Owner[v] && picks[v] != -1 {
			return impl.Answer{}, false
		}
	}
	for v, winner := range ans.Won {
		if winner != g.Owner[v] || picks[v] != -1 {
			continue
		}
		for _, u := range g.Next[v] {
			ans.Plan[v] = u
			if keeps(ans.Plan) {
				break
			}
		}
	}
	return ans, true
}

// picks returns picks for a game; a vertex has none with the odds of k-1 to k.
func (d *dice) picks(g impl.Parity, k int64) ints {
	picks := noMoves(int64(len(g.Prio)))
	for v, next := range g.Next {
		if v < len(picks) && len(next) > 0 && d.below(k) == 0 {
			picks[v] = next[d.below(int64(len(next)))]
		}
	}
	return picks
}

// checkWinners checks every function that tells winners; odd is what player 1 wins.
func checkWinners(t *testing.T, g impl.Parity, odd ints) {
	t.Helper()
	all := countTo(int64(len(g.Prio)))
	even := impl.LessOf(all, odd)
	if x, y := impl.WonBy(g, 0), impl.WonBy(g, 1); !sameList(x, even) || !sameList(y, odd) {
		t.Fatalf("WonBy returns %v and %v for %v, where 1 wins %v", x, y, g, odd)
	}
	if x, y := impl.WonIn(g, all); !sameList(x, even) || !sameList(y, odd) {
		t.Fatalf("WonIn returns %v and %v for %v, where 1 wins %v", x, y, g, odd)
	}
	for v := range all {
		sure, winner := g.Next[v], int64(0)
		if slices.Contains(odd, int64(v)) {
			winner = 1
		}
		if winner == g.Owner[v] {
			sure = impl.MeetOf(sure, sets{even, odd}[winner])
		}
		if got := impl.WinnerAt(g, int64(v)); got != winner {
			t.Fatalf("WinnerAt(%v, %d) returns %d", g, v, got)
		}
		if got := impl.SureIn(g, int64(v)); !sameList(got, sure) {
			t.Fatalf("SureIn(%v, %d) returns %v, not %v", g, v, got, sure)
		}
	}
}

func TestRecurExamples(t *testing.T) {
	g := game7()
	checkWinners(t, g, ints{1, 3})
	if impl.WinnerAt(g, 2) != 0 || !sameList(impl.WonBy(g, 1), ints{1, 3}) {
		t.Errorf("WinnerAt %d, WonBy %v", impl.WinnerAt(g, 2), impl.WonBy(g, 1))
	}
	if got := impl.SureIn(g, 0); !sameList(got, ints{2}) {
		t.Errorf("SureIn returns %v", got)
	}
	want := impl.Answer{Won: ints{0, 1, 0, 1}, Plan: ints{2, 3, 2, 3}}
	if got := impl.Solved(g); !sameAnswer(got, want) {
		t.Errorf("Solved returns %v", got)
	}
	if got, is := impl.PlanFrom(g, ints{-1, -1, 2, -1}); !is || !sameAnswer(got, want) {
		t.Errorf("PlanFrom returns %v, %v", got, is)
	}
	only, is := impl.OnlyBy(g, ints{2, -1, -1, -1})
	if !is || !sameLists(only.Next, sets{{2}, {0, 3}, {0, 2}, {3}}) || !sameList(only.Owner, g.Owner) || !sameList(only.Prio, g.Prio) {
		t.Errorf("OnlyBy returns %v, %v", only, is)
	}
	for _, c := range []struct {
		picks ints
		want  bool
	}{
		{ints{2, 3, 2, 3}, true}, {ints{1, -1, -1, -1}, false}, {noMoves(4), true}, {ints{-1, -1, 0, -1}, false},
		{ints{2, 0, 2, -1}, false}, {ints{2, 3, 0, 3}, false}, {ints{-1, 3, -1, 3}, true}, {ints{2, -1, 2, -1}, true},
	} {
		if impl.KeepsWon(g, c.picks) != c.want {
			t.Errorf("KeepsWon %v is not %v", c.picks, c.want)
		}
	}
	for _, c := range []struct{ in, even, odd ints }{
		{ints{0, 2}, ints{0, 2}, nil},
		{ints{0, 1}, ints{0, 1}, nil},
		{ints{2}, ints{2}, nil},
		{ints{3}, nil, ints{3}},
		{ints{1, 3}, nil, ints{1, 3}},
		{ints{2, 3}, ints{2}, ints{3}},
		{ints{0, 1, 3}, nil, ints{0, 1, 3}},
		{ints{0, 3}, nil, nil},
		{ints{1}, nil, nil},
		{ints{0, 1, 2}, ints{0, 1, 2}, nil},
		{nil, nil, nil},
		{ints{}, nil, nil},
	} {
		if even, odd := impl.WonIn(g, c.in); !sameList(even, c.even) || !sameList(odd, c.odd) {
			t.Errorf("WonIn(%v) returns %v and %v", c.in, even, odd)
		}
	}
}

// TestLosersEntries has a game in which some owners lose: they have no entry in the plan, all of
// their successors are sure, and an entry in the picks is refused even if it changes no winner.
func TestLosersEntries(t *testing.T) {
	g := example4()
	checkWinners(t, g, ints{0, 1, 2})
	if got := impl.Solved(g); !sameAnswer(got, impl.Answer{Won: ints{1, 1, 1, 0, 0}, Plan: ints{-1, 0, 2, 4, -1}}) {
		t.Errorf("Solved returns %v", got)
	}
	for v, want := range (sets{{1, 2}, {0}, {2}, {4}, {3}}) {
		if got := impl.SureIn(g, int64(v)); !sameList(got, want) {
			t.Errorf("SureIn(%d) returns %v", v, got)
		}
	}
	for _, picks := range (sets{{1, -1, -1, -1, -1}, {2, -1, -1, -1, -1}, {-1, -1, -1, -1, 3}, {-1, 0, 2, 4, 3}}) {
		if !impl.KeepsWon(g, picks) {
			t.Errorf("KeepsWon %v is false", picks)
		}
		if got, is := impl.PlanFrom(g, picks); is || !isZeroAnswer(got) {
			t.Errorf("PlanFrom %v returns %v, %v", picks, got, is)
		}
	}
	if got, is := impl.PlanFrom(g, ints{-1, 0, 2, 4, -1}); !is || !sameAnswer(got, impl.Solved(g)) {
		t.Errorf("PlanFrom of a whole plan returns %v, %v", got, is)
	}
}

// TestPicksBindBoth has picks that are good for each vertex alone, but not together.
func TestPicksBindBoth(t *testing.T) {
	g := impl.Parity{Arena: impl.Arena{Owner: ints{0, 0, 0}, Next: sets{{1, 2}, {0, 2}, {0, 1, 2}}}, Prio: ints{1, 1, 2}}
	checkWinners(t, g, nil)
	for _, c := range []struct {
		picks, plan ints
	}{
		{noMoves(3), ints{1, 2, 0}},
		{ints{-1, 0, -1}, ints{2, 0, 0}},
		{ints{2, -1, -1}, ints{2, 0, 0}},
		{ints{-1, -1, 2}, ints{1, 2, 2}},
		{ints{2, 0, 1}, ints{2, 0, 1}},
		{ints{1, 0, -1}, nil},
		{ints{1, 0, 2}, nil},
	} {
		got, is := impl.PlanFrom(g, c.picks)
		if is != (c.plan != nil) || !sameList(got.Plan, c.plan) || len(got.Won) != len(c.plan) {
			t.Errorf("PlanFrom %v returns %v, %v", c.picks, got, is)
		}
	}
	if got := impl.Solved(g).Plan; !sameList(got, ints{1, 2, 0}) {
		t.Errorf("Solved has the plan %v", got)
	}
}

// checkPicks compares OnlyBy, KeepsWon and PlanFrom with the document, and returns whether PlanFrom
// has an answer.
func checkPicks(t *testing.T, g impl.Parity, odd ints, picks ints, keeps keeper) bool {
	t.Helper()
	only, valid := wantedOnly(g, picks)
	got, is := impl.OnlyBy(g, picks)
	if is != valid || is && !impl.SameParity(got, only) || !is && !isZeroGame(got) {
		t.Fatalf("OnlyBy(%v, %v) returns %v, %v", g, picks, got, is)
	}
	if want := keeps(picks); impl.KeepsWon(g, picks) != want {
		t.Fatalf("KeepsWon(%v, %v) is not %v", g, picks, want)
	}
	want, meant := wantedPlan(g, odd, picks, keeps)
	ans, is := impl.PlanFrom(g, picks)
	if is != meant || !sameAnswer(ans, want) {
		t.Fatalf("PlanFrom(%v, %v) returns %v, %v, not %v", g, picks, ans, is, want)
	}
	return is
}

// TestWinnersByPlans checks the winners of small games, and of their parts, by playing all plans
// against each other.
func TestWinnersByPlans(t *testing.T) {
	d := dice(70)
	mixed, parts := 0, 0
	for range 3000 {
		g := d.anyGame(1+d.below(6), 3)
		odd := wonByPlans(g, 1)
		checkWinners(t, g, odd)
		if len(odd) > 0 && len(odd) < len(g.Prio) {
			mixed++
		}
		in := d.subset(int64(len(g.Prio)), 2)
		even, odd := impl.WonIn(g, in)
		part, is := impl.SubgameOf(g, in)
		if !is {
			if len(even)+len(odd) != 0 {
				t.Fatalf("WonIn(%v, %v) returns %v and %v", g, in, even, odd)
			}
			continue
		}
		for who, got := range (sets{even, odd}) {
			var want ints
			for _, v := range wonByPlans(part, int64(who)) {
				want = append(want, in[v])
			}
			if !sameList(got, want) {
				t.Fatalf("WonIn(%v, %v) returns %v for %d, not %v", g, in, got, who, want)
			}
		}
		if len(even) > 0 && len(odd) > 0 {
			parts++
		}
	}
	if mixed < 300 || parts < 100 {
		t.Errorf("only %d games and %d parts have two winners", mixed, parts)
	}
}

// TestPlansByKeeping tries all picks of small games, valid or not.
func TestPlansByKeeping(t *testing.T) {
	d := dice(71)
	answers, none := 0, 0
	try := func(g impl.Parity) {
		odd, keeps := wonByPlans(g, 1), keeperByPlans(g)
		n := int64(len(g.Prio))
		listsUpTo(n, -1, n, func(picks ints) {
			if checkPicks(t, g, odd, picks, keeps) {
				answers++
			} else {
				none++
			}
		})
		if want, _ := wantedPlan(g, odd, noMoves(n), keeps); !sameAnswer(impl.Solved(g), want) {
			t.Fatalf("Solved(%v) returns %v, not %v", g, impl.Solved(g), want)
		}
	}
	try(game7())
	for range 300 {
		try(d.anyGame(1+d.below(4), 3))
	}
	for range 200 {
		g := d.anyGame(5+d.below(2), 3)
		keeps := keeperByPlans(g)
		checkPicks(t, g, wonByPlans(g, 1), d.picks(g, 4), keeps)
		checkPicks(t, g, wonByPlans(g, 1), noMoves(int64(len(g.Prio))), keeps)
	}
	if answers < 1000 || none < 1000 {
		t.Errorf("only %d answers, and %d picks without one", answers, none)
	}
}

// TestSolvedPlays checks P7 with every play of small games: what a player is reported to win he wins
// with the reported plan, whatever the opponent does.
func TestSolvedPlays(t *testing.T) {
	d := dice(72)
	plays := 0
	for range 1000 {
		g := d.anyGame(1+d.below(7), 3)
		ans := impl.Solved(g)
		for who := range int64(2) {
			claimOf(g, ans, who).lassos(func(l impl.Lasso) {
				plays++
				if impl.PlayWon(g, l) != who {
					t.Fatalf("Solved(%v) returns %v, but %d loses the play %v", g, ans, who, l)
				}
			})
		}
		if len(ans.Won) != len(g.Prio) || !isForm(g, ans) {
			t.Fatalf("Solved(%v) returns %v", g, ans)
		}
	}
	if plays < 3000 {
		t.Errorf("only %d plays", plays)
	}
}

// solvedInTime returns what Solved returns within a minute, where it should need less than a second.
func solvedInTime(t *testing.T, g impl.Parity) impl.Answer {
	t.Helper()
	done := make(chan impl.Answer, 1)
	go func() { done <- impl.Solved(g) }()
	select {
	case ans := <-done:
		return ans
	case <-time.After(time.Minute):
		t.Fatalf("Solved(%v) takes too long", g)
		return impl.Answer{}
	}
}

// checkSolved checks P7 with the strategy checker: each player wins with the plan what he is reported
// to win. Then all winners are right, because no vertex has two.
func checkSolved(t *testing.T, g impl.Parity) impl.Answer {
	t.Helper()
	ans := solvedInTime(t, g)
	if !impl.AnswerOk(g, ans) {
		t.Fatalf("Solved(%v) returns %v", g, ans)
	}
	for who := range int64(2) {
		// The definition takes long for great games.
		if c := claimOf(g, ans, who); len(g.Prio) < 40 && !c.wantedWins() {
			t.Fatalf("Solved(%v) returns %v, which is wrong for %d", g, ans, who)
		}
	}
	return ans
}

// TestSolvedGreaterGames checks greater games by the strategy checker, and their plans by KeepsWon.
func TestSolvedGreaterGames(t *testing.T) {
	d := dice(73)
	mixed, answers := 0, 0
	for range 150 {
		g := d.anyGame(7+d.below(24), 2+d.below(2))
		ans := checkSolved(t, g)
		odd := impl.RegionOf(ans, 1)
		checkWinners(t, g, odd)
		if len(odd) > 0 && len(odd) < len(g.Prio) {
			mixed++
		}
		keeps := keeper(func(picks ints) bool { return impl.KeepsWon(g, picks) })
		checkPicks(t, g, odd, noMoves(int64(len(g.Prio))), keeps)
		// Some entries of a right plan are good picks, whether it is the least one or not.
		some := d.picks(g, 8)
		for v, u := range ans.Plan {
			if d.below(3) == 0 || u == -1 {
				some[v] = u
			}
		}
		if checkPicks(t, g, odd, some, keeps) {
			answers++
		}
		checkPicks(t, g, odd, d.picks(g, 12), keeps)
	}
	if mixed < 60 || answers < 40 {
		t.Errorf("only %d games have two winners, and only %d picks an answer", mixed, answers)
	}
}

// TestSolvedChangedGames checks that compressed games have the same winners and that dual games have
// the other ones.
func TestSolvedChangedGames(t *testing.T) {
	d := dice(74)
	for range 200 {
		g := d.anyGame(1+d.below(60), 3)
		flipped, _ := impl.Flipped(g)
		even, odd := impl.WonBy(g, 0), impl.WonBy(g, 1)
		if !sameList(impl.WonBy(impl.Pressed(g), 0), even) || !sameList(impl.WonBy(impl.Pressed(g), 1), odd) {
			t.Fatalf("Pressed(%v) has other winners", g)
		}
		if !sameList(impl.WonBy(flipped, 1), even) || !sameList(impl.WonBy(flipped, 0), odd) {
			t.Fatalf("in Flipped(%v) the winners are not exchanged", g)
		}
	}
}

// steepGame returns a game of some levels of three vertices. If the algorithm does not keep what it
// has solved, each level makes it take 1.6 times as long.
func steepGame(levels int64) impl.Parity {
	var g impl.Parity
	for i := range levels {
		a, b, c := 3*i, 3*i+1, 3*i+2
		g.Owner = append(g.Owner, i%2, (i+1)%2, (i+1)%2)
		g.Prio = append(g.Prio, (i+1)%2, i+2, (i+1)%2)
		for _, next := range (sets{{a, c, b + 3}, {a - 3, b - 3, a, c}, {c - 3, a, b, c + 3}}) {
			g.Next = append(g.Next, slices.DeleteFunc(next, func(u int64) bool { return u < 0 || u >= 3*levels }))
		}
	}
	return g
}

func TestSteepGames(t *testing.T) {
	for _, levels := range (ints{1, 2, 3, 10, 39}) {
		checkSolved(t, steepGame(levels))
	}
}

// TestLongestGames has games with the greatest numbers of vertices, successors and priorities.
func TestLongestGames(t *testing.T) {
	for k, winner := range map[int64]int64{41: 0, 40: 1, 1: 0} {
		ring := steppedGame(k)
		ans := checkSolved(t, ring)
		if ans.Won[0] != winner || len(impl.WonBy(ring, winner)) != 256 || len(impl.WonBy(ring, 1-winner)) != 0 {
			t.Errorf("the ring with %d priorities: %v", k, ans)
		}
		if got := impl.SureIn(ring, 255); !sameList(got, ints{0}) || impl.WinnerAt(ring, 255) != winner {
			t.Errorf("the ring with %d priorities: SureIn returns %v", k, got)
		}
	}
	wide := impl.Parity{Arena: widestArena(), Prio: slices.Repeat(ints{40}, 256)}
	ans := checkSolved(t, wide)
	want := impl.LeastFull(wide.Arena, 0)
	if !sameList(ans.Plan, want) || !impl.KeepsWon(wide, want) || len(impl.SureIn(wide, 0)) != 16 {
		t.Errorf("the widest game: %v", ans)
	}
	if even, odd := impl.WonIn(wide, countTo(256)); len(even) != 256 || len(odd) != 0 {
		t.Error("the widest game is not won by 0")
	}
	// Each component is one vertex, and the winner is told at the end of all edges.
	chain := impl.Parity{Arena: ringArena(256), Prio: countTo(256)}
	for v := range chain.Next {
		chain.Prio[v] %= 41
		chain.Next[v] = ints{int64(v), int64(v) + 1}
	}
	chain.Next[255] = ints{255}
	checkSolved(t, chain)
	d := dice(75)
	for range 30 {
		g := d.game(256, 1+d.below(16), 0, 1+d.below(41))
		ans := checkSolved(t, g)
		checkWinners(t, g, impl.RegionOf(ans, 1))
		if got, is := impl.PlanFrom(g, ans.Plan); !is || !sameAnswer(got, ans) {
			t.Fatalf("PlanFrom(%v) of the whole plan returns %v, %v", g, got, is)
		}
	}
}

// checkNoVertex checks that the functions that take a vertex reject it.
func checkNoVertex(t *testing.T, what string, g impl.Parity, v int64) {
	t.Helper()
	if got := impl.WinnerAt(g, v); got != -1 {
		t.Errorf("%s: WinnerAt(%d) returns %d", what, v, got)
	}
	if got := impl.SureIn(g, v); len(got) != 0 {
		t.Errorf("%s: SureIn(%d) returns %v", what, v, got)
	}
}

// checkNoPicks checks that the functions that take picks reject them.
func checkNoPicks(t *testing.T, what string, g impl.Parity, picks ints) {
	t.Helper()
	if got, is := impl.OnlyBy(g, picks); is || !isZeroGame(got) {
		t.Errorf("%s: OnlyBy(%v) returns %v, %v", what, picks, got, is)
	}
	if impl.KeepsWon(g, picks) {
		t.Errorf("%s: KeepsWon(%v)", what, picks)
	}
	if got, is := impl.PlanFrom(g, picks); is || !isZeroAnswer(got) {
		t.Errorf("%s: PlanFrom(%v) returns %v, %v", what, picks, got, is)
	}
}

// checkNoIn checks that WonIn rejects a list.
func checkNoIn(t *testing.T, what string, g impl.Parity, in ints) {
	t.Helper()
	if even, odd := impl.WonIn(g, in); len(even)+len(odd) != 0 {
		t.Errorf("%s: WonIn(%v) returns %v and %v", what, in, even, odd)
	}
}

func TestRecurRejectsGames(t *testing.T) {
	for what, g := range badGames() {
		n := int64(len(g.Owner))
		for _, v := range wildInts {
			checkNoVertex(t, what, g, v)
			if got := impl.WonBy(g, v); len(got) != 0 {
				t.Errorf("%s: WonBy(%d) returns %v", what, v, got)
			}
		}
		for _, list := range append(wildLists(), noMoves(n), countTo(n), even5(), ints{2, 3}, ints{1, 3, 4}) {
			checkNoIn(t, what, g, list)
			checkNoPicks(t, what, g, list)
		}
		if got := impl.Solved(g); !isZeroAnswer(got) {
			t.Errorf("%s: Solved returns %v", what, got)
		}
	}
}

func TestRecurRejectsArguments(t *testing.T) {
	for _, v := range append(slices.Clone(wildInts), 5) {
		if v < 0 || v > 3 {
			checkNoVertex(t, "no vertex", game7(), v)
		}
		if got := impl.WonBy(game7(), v); v != 0 && v != 1 && len(got) != 0 {
			t.Errorf("WonBy(%d) returns %v", v, got)
		}
	}
	checkNoVertex(t, "vertex 256", steppedGame(41), 256)
	for _, in := range (sets{
		{4}, {0, 4}, {2, 4}, {-1}, {-1, 2}, {2, 0}, {2, 2}, {3, 2}, {0, 0, 2}, {0, 2, 1}, countTo(5), countTo(257), make(ints, 4), make(ints, 300),
		{math.MinInt64}, {math.MinInt64, 2}, {math.MaxInt64}, {2, math.MaxInt64}, {math.MaxInt64, 2},
		// Vertex 1 has no successor in these, nor vertex 0.
		{1}, {1, 2}, {0, 3}, {0}, {1, 2, 4},
	}) {
		checkNoIn(t, "a wrong list", game7(), in)
	}
	checkNoIn(t, "vertex 256", steppedGame(41), append(countTo(255), 256))
	checkNoIn(t, "a gap", steppedGame(41), countTo(255))
	for _, picks := range (sets{
		nil, {}, {-1}, {-1, -1, -1}, {2, 3, 2}, {-1, -1, -1, -1, -1}, {2, 3, 2, 3, -1}, noMoves(256), make(ints, 4), make(ints, 100000),
		{0, -1, -1, -1}, {3, -1, -1, -1}, {-1, 1, -1, -1}, {-1, -1, 1, -1}, {-1, -1, -1, 0}, {-1, -1, -1, 4},
		{-2, -1, -1, -1}, {-1, -1, -1, -2}, {math.MinInt64, -1, -1, -1}, {-1, math.MaxInt64, -1, -1}, {2, 3, 2, math.MaxInt64},
	}) {
		checkNoPicks(t, "wrong picks", game7(), picks)
	}
	// These are picks, but some vertex does not keep its winner.
	for _, picks := range (sets{{1, -1, -1, -1}, {-1, 0, -1, -1}, {-1, -1, 0, -1}, {2, 0, 2, 3}, {2, 3, 0, 3}}) {
		if _, is := impl.OnlyBy(game7(), picks); !is || impl.KeepsWon(game7(), picks) {
			t.Errorf("OnlyBy(%v) fails or KeepsWon is true", picks)
		}
		if got, is := impl.PlanFrom(game7(), picks); is || !isZeroAnswer(got) {
			t.Errorf("PlanFrom(%v) returns %v, %v", picks, got, is)
		}
	}
}

// TestRecurKeepsMemory calls every function of the chapter with valid and invalid arguments.
func TestRecurKeepsMemory(t *testing.T) {
	d := dice(76)
	games := []impl.Parity{game7(), example4(), steppedGame(41), steepGame(5), d.anyGame(9, 4)}
	for _, g := range badGames() {
		games = append(games, g)
	}
	for _, g := range games {
		n := int64(len(g.Owner))
		guardedCall(t, "Solved", impl.Solved, g)
		for _, v := range wildInts {
			guardedCall(t, "WinnerAt", impl.WinnerAt, g, v)
			guardedCall(t, "WonBy", impl.WonBy, g, v)
			guardedCall(t, "SureIn", impl.SureIn, g, v)
		}
		for _, list := range append(wildLists(), noMoves(n), countTo(n), impl.Solved(g).Plan, impl.LeastFull(g.Arena, 0), d.picks(g, 2), ints{0, 2}) {
			guardedCall(t, "WonIn", impl.WonIn, g, list)
			guardedCall(t, "OnlyBy", impl.OnlyBy, g, list)
			guardedCall(t, "KeepsWon", impl.KeepsWon, g, list)
			guardedCall(t, "PlanFrom", impl.PlanFrom, g, list)
		}
	}
}
