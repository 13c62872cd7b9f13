package tests

import (
	"math"
	"slices"
	"testing"

	"loop.example/g00869/impl"
)

// A claim says that a plan of a player wins a region of a game.
type claim struct {
	game         impl.Parity
	who          int64
	region, plan ints
}

// closed, loops, clean and wins call the functions of the chapter.
func (c claim) closed() bool { return impl.ClosedIn(c.game.Arena, c.who, c.region, c.plan) }
func (c claim) loops() ints  { return impl.BadLoops(c.game, c.who, c.region, c.plan) }
func (c claim) clean() bool  { return impl.CleanIn(c.game, c.who, c.region, c.plan) }
func (c claim) wins() bool   { return impl.WinsBy(c.game, c.who, c.region, c.plan) }

// has reports whether v is in the region.
func (c claim) has(v int64) bool { return slices.Contains(c.region, v) }

// followed returns the arena of the plays that follow the plan.
func (c claim) followed() impl.Arena {
	a := impl.Arena{Owner: c.game.Owner}
	for v, next := range c.game.Next {
		if c.plan[v] >= 0 {
			next = ints{c.plan[v]}
		}
		a.Next = append(a.Next, next)
	}
	return a
}

// wantedClosed says what the document says of ClosedIn.
func (c claim) wantedClosed() bool {
	for _, v := range c.region {
		if c.game.Owner[v] == c.who && !c.has(c.plan[v]) {
			return false
		}
		for _, u := range c.game.Next[v] {
			if c.game.Owner[v] != c.who && !c.has(u) {
				return false
			}
		}
	}
	return true
}

// wantedLoops returns what the document says of BadLoops, from the ways back to each vertex.
func (c claim) wantedLoops() ints {
	var bad ints
	for _, v := range c.region {
		if c.game.Prio[v]%2 == c.who {
			continue
		}
		low := slices.DeleteFunc(slices.Clone(c.region), func(u int64) bool { return c.game.Prio[u] > c.game.Prio[v] })
		if waysIn(c.followed(), low)[v][v] {
			bad = append(bad, v)
		}
	}
	return bad
}

// wantedWins says what the document says of WinsBy.
func (c claim) wantedWins() bool { return c.wantedClosed() && len(c.wantedLoops()) == 0 }

// check compares the results with the document.
func (c claim) check(t *testing.T) {
	t.Helper()
	closed, loops := c.wantedClosed(), c.wantedLoops()
	if c.closed() != closed {
		t.Fatalf("ClosedIn%v is not %v", c, closed)
	}
	if got := c.loops(); !sameList(got, loops) {
		t.Fatalf("BadLoops%v returns %v, not %v", c, got, loops)
	}
	if c.clean() != (len(loops) == 0) || c.wins() != (closed && len(loops) == 0) {
		t.Fatalf("CleanIn%v returns %v and WinsBy %v, but the bad loops are %v", c, c.clean(), c.wins(), loops)
	}
}

// checkNone checks that the functions reject the claim; ClosedIn does not see the priorities.
func (c claim) checkNone(t *testing.T, what string) {
	t.Helper()
	if impl.ArenaOk(c.game.Arena) && impl.PlanOk(c.game.Arena, c.who, c.plan) && impl.SetOk(c.region, int64(len(c.game.Owner))) {
		if c.closed() != c.wantedClosed() {
			t.Errorf("%s: ClosedIn%v", what, c)
		}
	} else if c.closed() {
		t.Errorf("%s: ClosedIn%v is true", what, c)
	}
	if got := c.loops(); len(got) != 0 || c.clean() || c.wins() {
		t.Errorf("%s: %v is clean: %v, or wins: %v, or has the bad loops %v", what, c, c.clean(), c.wins(), got)
	}
}

// lassos calls use with every play from the region, whether it stays there or not, that follows the
// plan and repeats no vertex before its loop is closed.
func (c claim) lassos(use func(l impl.Lasso)) {
	followed := c.followed()
	var walk func(path ints)
	walk = func(path ints) {
		for _, u := range followed.Next[path[len(path)-1]] {
			if i := slices.Index(path, u); i >= 0 {
				use(impl.Lasso{Stem: slices.Clone(path[:i]), Loop: slices.Clone(path[i:])})
			} else {
				walk(append(slices.Clone(path), u))
			}
		}
	}
	for _, v := range c.region {
		walk(ints{v})
	}
}

// claim returns a claim on a random game, in which most priorities favour the player.
func (d *dice) claim(n int64, out int64) claim {
	c := claim{game: d.anyGame(n, out), who: d.below(2), region: countTo(n)}
	c.plan = d.plan(c.game.Arena, c.who, d.below(2)*8)
	for v, p := range c.game.Prio {
		if p%2 != c.who && d.below(4) > 0 {
			c.game.Prio[v]++
		}
	}
	return c
}

// claims returns a claim for each region and each player, with several plans.
func (d *dice) claims(g impl.Parity, use func(c claim)) {
	n := int64(len(g.Owner))
	listsUpTo(n, 0, 1, func(picked ints) {
		region := impl.RegionOf(impl.Answer{Won: picked}, 1)
		for who := range int64(2) {
			for k := range int64(4) {
				use(claim{g, who, region, d.plan(g.Arena, who, k)})
			}
		}
	})
}

func TestClaimExamples(t *testing.T) {
	none := noMoves(5)
	stay, back, odd := ints{2, -1, -1, 4, -1}, ints{1, -1, -1, 1, -1}, ints{-1, 3, -1, -1, 3}
	low, mixed, high := ints{1, 2, 4, 1, 2}, ints{3, 2, 4, 1, 0}, ints{3, 1, 4, 1, 0}
	for _, e := range []struct {
		who                       int64
		prios, region, plan, bads ints
		closed                    bool
	}{
		{0, low, ints{3, 4}, stay, nil, true},
		{0, low, ints{0, 2}, stay, nil, true},
		{0, low, ints{0, 1}, stay, nil, false},
		{0, low, countTo(5), stay, nil, true},
		{0, low, ints{3, 4}, ints{2, -1, -1, -1, -1}, nil, false},
		{0, low, countTo(5), back, nil, true},
		{0, low, ints{0, 1, 3}, back, nil, true},
		{0, mixed, countTo(5), back, ints{0}, true},
		{0, mixed, ints{0, 2, 3, 4}, back, nil, false},
		{0, mixed, ints{3, 4}, stay, ints{3}, true},
		{0, mixed, ints{0, 2}, stay, nil, true},
		{1, high, ints{1, 3, 4}, odd, nil, true},
		{1, high, ints{2}, ints{-1, -1, 2, -1, -1}, ints{2}, true},
		{1, high, ints{2}, none, ints{2}, false},
		// Without a move in the plan every edge makes loops; 0 and 3 are not on one without greater ones.
		{0, mixed, countTo(5), none, ints{0, 3}, false},
		{0, ints{3, 2, 4, 1, 2}, countTo(5), none, ints{0}, false},
		{1, low, countTo(5), none, ints{1, 2, 4}, false},
		// What leaves the region does not hide a loop, and a loop through the outside is none.
		{0, mixed, ints{0, 1}, ints{1, -1, -1, -1, -1}, ints{0}, false},
		{0, mixed, ints{0}, ints{1, -1, -1, -1, -1}, nil, false},
		{0, mixed, ints{0, 1}, ints{2, -1, -1, -1, -1}, nil, false},
		// The greatest priority of a loop counts, also where two vertices have it.
		{1, ints{0, 0, 0, 0, 0}, countTo(5), ints{-1, 3, 2, -1, 3}, ints{1, 2, 3, 4}, true},
		{1, ints{0, 39, 0, 40, 38}, countTo(5), ints{-1, 0, 2, -1, 3}, ints{2, 3}, true},
		{0, ints{39, 39, 40, 37, 1}, countTo(5), ints{1, -1, -1, 4, -1}, ints{0, 1, 3}, true},
		{0, ints{1, 1, 1, 1, 1}, nil, none, nil, true},
		{1, ints{0, 0, 0, 0, 0}, ints{}, none, nil, true},
	} {
		c := claim{withPrios(e.prios...), e.who, e.region, e.plan}
		if got := c.loops(); !sameList(got, e.bads) {
			t.Errorf("BadLoops%v returns %v, not %v", c, got, e.bads)
		}
		if c.closed() != e.closed || c.clean() != (len(e.bads) == 0) || c.wins() != (e.closed && len(e.bads) == 0) {
			t.Errorf("%v is closed: %v, clean: %v, wins: %v", c, c.closed(), c.clean(), c.wins())
		}
		c.check(t)
	}
	if impl.ClosedIn(example1(), 1, ints{2}, stay) {
		t.Error("ClosedIn with the plan of the other player")
	}
}

// TestClaimsByDefinition tries all regions of small games with all plans or random ones, and random
// regions of greater games.
func TestClaimsByDefinition(t *testing.T) {
	d := dice(60)
	for range 150 {
		g := d.anyGame(1+d.below(5), 3)
		d.claims(g, func(c claim) { c.check(t) })
	}
	listsUpTo(5, 0, 1, func(picked ints) {
		region := impl.RegionOf(impl.Answer{Won: picked}, 1)
		for who := range int64(2) {
			listsUpTo(5, -1, 4, func(list ints) {
				if impl.PlanOk(example1(), who, list) {
					claim{example4(), who, region, list}.check(t)
				}
			})
		}
	})
	for range 100 {
		c := d.claim(1+d.below(24), 3)
		c.check(t)
		c.region = d.subset(int64(len(c.plan)), 2)
		c.check(t)
	}
}

// TestWonClaims checks P6 with every play of small games: a claim that WinsBy accepts is true, and a
// closed region for which it is not true has a play that is lost.
func TestWonClaims(t *testing.T) {
	d := dice(61)
	won, lost := 0, 0
	check := func(c claim) {
		wins, closed, allWon := c.wins(), c.closed(), true
		c.lassos(func(l impl.Lasso) {
			if !impl.LassoOk(c.game.Arena, l) {
				t.Fatalf("%v has no play %v", c, l)
			}
			stays := !slices.ContainsFunc(slices.Concat(l.Stem, l.Loop), func(v int64) bool { return !c.has(v) })
			loses := impl.PlayWon(c.game, l) != c.who
			if wins && (!stays || loses) || closed && !stays {
				t.Fatalf("WinsBy%v is %v, but the play %v stays: %v, is lost: %v", c, wins, l, stays, loses)
			}
			allWon = allWon && stays && !loses
		})
		if closed && !wins && allWon {
			t.Fatalf("WinsBy%v is false, but every play is won", c)
		}
		if wins && len(c.region) > 1 {
			won++
		}
		if closed && !wins {
			lost++
		}
	}
	for range 300 {
		c := d.claim(1+d.below(6), 3)
		check(c)
		d.claims(c.game, check)
	}
	if won < 1000 || lost < 1000 {
		t.Errorf("only %d claims are true and %d false", won, lost)
	}
}

// greatest returns the claim for the vertices from which no bad loop can be reached.
func (c claim) greatest() claim {
	bad := c.wantedLoops()
	followed := c.followed()
	var region ints
	for v := range int64(len(c.plan)) {
		if len(impl.MeetOf(impl.ReachOf(followed, ints{v}), bad)) == 0 {
			region = append(region, v)
		}
	}
	c.region = region
	return c
}

// walk returns a play from v that follows the plan for some random steps and closes a loop, which
// may repeat vertices.
func (d *dice) walk(c claim, v int64) impl.Lasso {
	followed := c.followed()
	path := ints{v}
	for steps := 1 + d.below(100); ; steps-- {
		next := followed.Next[path[len(path)-1]]
		u := next[d.below(int64(len(next)))]
		if i := slices.Index(path, u); i >= 0 && (steps <= 0 || len(path) == 256) {
			return impl.Lasso{Stem: path[:i], Loop: path[i:]}
		}
		path = append(path, u)
	}
}

// TestGreatestClaims checks P6 for plans of greater games: the plan wins where no bad loop can be
// reached, the opponent loses there however he moves, and the plan wins no other vertex.
func TestGreatestClaims(t *testing.T) {
	d := dice(62)
	parts := 0
	for range 300 {
		c := d.claim(1+d.below(16), 2)
		c.plan = d.plan(c.game.Arena, c.who, 0)
		c = c.greatest()
		if !c.wins() {
			t.Fatalf("WinsBy%v is false", c)
		}
		for range 10 * len(c.region) {
			l := d.walk(c, c.region[d.below(int64(len(c.region)))])
			if impl.LassoOk(c.game.Arena, l) && impl.PlayWon(c.game, l) != c.who {
				t.Fatalf("WinsBy%v is true, but the play %v is lost", c, l)
			}
		}
		all := countTo(int64(len(c.plan)))
		if len(c.region) > 0 && len(c.region) < len(all) {
			parts++
		}
		for _, v := range impl.LessOf(all, c.region) {
			more := c
			more.region = impl.BothOf(d.subset(int64(len(all)), 3), ints{v})
			if more.wins() {
				t.Fatalf("WinsBy%v is true, but %d is not won", more, v)
			}
		}
	}
	if parts < 30 {
		t.Errorf("only %d claims are true for a part of the vertices", parts)
	}
}

// TestLongestClaims has games with the greatest number of vertices, successors and priorities.
func TestLongestClaims(t *testing.T) {
	ring, all := steppedGame(41), countTo(256)
	even, odd := impl.LeastFull(ring.Arena, 0), impl.LeastFull(ring.Arena, 1)
	if c := (claim{ring, 0, all, even}); !c.wins() || len(c.loops()) != 0 {
		t.Errorf("the ring with 40 has the bad loops %v", c.loops())
	}
	if c := (claim{ring, 1, all, odd}); c.wins() || c.clean() || !c.closed() || !sameList(c.loops(), ints{40, 81, 122, 163, 204, 245}) {
		t.Errorf("the ring with 40 has the bad loops %v", c.loops())
	}
	if c := (claim{ring, 0, countTo(255), even}); c.wins() || !c.clean() || c.closed() {
		t.Errorf("a part of the ring")
	}
	wide := impl.Parity{Arena: widestArena(), Prio: slices.Repeat(ints{40}, 256)}
	for who := range int64(2) {
		c := claim{wide, who, all, impl.LeastFull(wide.Arena, who)}
		if c.wins() != (who == 0) || !c.closed() || c.clean() != (who == 0) {
			t.Errorf("the widest game for %d has the bad loops %v", who, c.loops())
		}
	}
}

func TestClaimsRejected(t *testing.T) {
	good := claim{withPrios(1, 2, 4, 1, 2), 0, ints{0, 2}, ints{2, -1, -1, 4, -1}}
	if !good.wins() {
		t.Fatalf("%v is not accepted", good)
	}
	for name, g := range badGames() {
		for _, region := range (sets{nil, {0}, {0, 2}, {3, 4}, countTo(5)}) {
			claim{g, 0, region, good.plan}.checkNone(t, name)
			claim{g, 1, region, ints{-1, 3, 2, -1, 3}}.checkNone(t, name)
			claim{g, 1, region, noMoves(int64(len(g.Owner)))}.checkNone(t, name)
		}
	}
	for _, who := range append(slices.Clone(wildInts), 1) {
		for _, region := range (sets{nil, {0, 2}, countTo(5)}) {
			if who != 0 {
				claim{good.game, who, region, good.plan}.checkNone(t, "the plan of another player")
			}
			if who < 0 || who > 1 {
				claim{good.game, who, region, noMoves(5)}.checkNone(t, "a wrong player")
			}
		}
	}
	for _, region := range (sets{
		{5}, {0, 5}, {-1}, {-1, 0}, {2, 0}, {0, 0}, {0, 2, 2}, {0, 256}, countTo(6), countTo(257), make(ints, 5), make(ints, 300),
		{math.MinInt64}, {math.MinInt64, 2}, {math.MaxInt64}, {2, math.MaxInt64}, {math.MaxInt64, 0},
	}) {
		claim{good.game, 0, region, good.plan}.checkNone(t, "a wrong region")
	}
	claim{steppedGame(1), 0, ints{256}, noMoves(256)}.checkNone(t, "vertex 256")
	for _, plan := range (sets{
		nil, {}, {2, -1, -1, 4}, {2, -1, -1, 4, -1, -1}, {3, -1, -1, 4, -1}, {2, 0, -1, 4, -1}, {2, -1, -1, 4, 3}, {2, -1, 2, 4, -1},
		{-2, -1, -1, 4, -1}, {2, -1, -1, -2, -1}, {5, -1, -1, 4, -1}, {2, -1, -1, 5, -1}, make(ints, 5), make(ints, 100000),
		{math.MinInt64, -1, -1, 4, -1}, {2, -1, -1, math.MaxInt64, -1}, {2, -1, -1, 4, math.MinInt64},
	}) {
		for _, region := range (sets{nil, {0, 2}, {3, 4}}) {
			claim{good.game, 0, region, plan}.checkNone(t, "a wrong plan")
		}
	}
}

// isForm says what the document says of the form of an Answer.
func isForm(g impl.Parity, ans impl.Answer) bool {
	if !impl.ParityOk(g) || len(ans.Won) != len(g.Prio) || len(ans.Plan) != len(g.Prio) {
		return false
	}
	for v, winner := range ans.Won {
		if winner != 0 && winner != 1 {
			return false
		}
		if winner == g.Owner[v] && !impl.EdgeIn(g.Arena, int64(v), ans.Plan[v]) {
			return false
		}
		if winner != g.Owner[v] && ans.Plan[v] != -1 {
			return false
		}
	}
	return true
}

// claimOf returns what an answer of the right form claims for a player.
func claimOf(g impl.Parity, ans impl.Answer, who int64) claim {
	c := claim{game: g, who: who}
	for v, u := range ans.Plan {
		if g.Owner[v] != who {
			u = -1
		}
		c.plan = append(c.plan, u)
		if ans.Won[v] == who {
			c.region = append(c.region, int64(v))
		}
	}
	return c
}

// checkAnswer compares AnswerOk, PartOf and RegionOf with the document, and returns AnswerOk.
func checkAnswer(t *testing.T, g impl.Parity, ans impl.Answer) bool {
	t.Helper()
	want := isForm(g, ans)
	for who := range int64(2) {
		var c claim
		if isForm(g, ans) {
			c = claimOf(g, ans, who)
			want = want && c.wantedWins()
			if got := impl.RegionOf(ans, who); !sameList(got, c.region) {
				t.Fatalf("RegionOf(%v, %d) returns %v, not %v", ans, who, got, c.region)
			}
		}
		if got := impl.PartOf(g, ans, who); !sameList(got, c.plan) {
			t.Fatalf("PartOf(%v, %v, %d) returns %v, not %v", g, ans, who, got, c.plan)
		}
	}
	if impl.AnswerOk(g, ans) != want {
		t.Fatalf("AnswerOk(%v, %v) is not %v", g, ans, want)
	}
	return want
}

// game6 and answer6 return a game with the arena of chapter 1 and a right answer for it.
func game6() impl.Parity { return withPrios(3, 1, 4, 1, 0) }
func answer6() impl.Answer {
	return impl.Answer{Won: ints{0, 1, 0, 1, 1}, Plan: ints{2, 3, -1, -1, 3}}
}

func TestAnswerExamples(t *testing.T) {
	if !checkAnswer(t, game6(), answer6()) {
		t.Error("the answer is not right")
	}
	for _, c := range []struct {
		who          int64
		region, part ints
	}{
		{0, ints{0, 2}, ints{2, -1, -1, -1, -1}},
		{1, ints{1, 3, 4}, ints{-1, 3, -1, -1, 3}},
		{2, nil, nil},
		{-1, nil, nil},
		{math.MaxInt64, nil, nil},
		{math.MinInt64, nil, nil},
	} {
		if got := impl.RegionOf(answer6(), c.who); !sameList(got, c.region) {
			t.Errorf("RegionOf %d returns %v", c.who, got)
		}
		if got := impl.PartOf(game6(), answer6(), c.who); !sameList(got, c.part) {
			t.Errorf("PartOf %d returns %v", c.who, got)
		}
	}
	// An answer can have the right form and still be wrong, for the one player or for the other.
	for what, ans := range map[string]impl.Answer{
		"a move to a lost vertex": {Won: ints{0, 1, 0, 1, 1}, Plan: ints{1, 3, -1, -1, 3}},
		"a losing move":           {Won: ints{0, 1, 0, 1, 1}, Plan: ints{2, 0, -1, -1, 3}},
		"all for 0":               {Won: ints{0, 0, 0, 0, 0}, Plan: ints{2, -1, -1, 4, -1}},
		"all for 1":               {Won: ints{1, 1, 1, 1, 1}, Plan: ints{-1, 3, 2, -1, 3}},
		"2 for 1":                 {Won: ints{0, 1, 1, 1, 1}, Plan: ints{2, 3, 2, -1, 3}},
		"4 for 0":                 {Won: ints{0, 1, 0, 1, 0}, Plan: ints{2, 3, -1, -1, -1}},
	} {
		if !isForm(game6(), ans) || checkAnswer(t, game6(), ans) || len(impl.PartOf(game6(), ans, 0)) != 5 {
			t.Errorf("%s: AnswerOk is true, or the form is wrong", what)
		}
	}
}

func TestAnswersRejected(t *testing.T) {
	for what, change := range map[string]func(ans *impl.Answer){
		"a winner 2":             func(ans *impl.Answer) { ans.Won[4] = 2 },
		"a winner -1":            func(ans *impl.Answer) { ans.Won[2] = -1 },
		"a winner far above":     func(ans *impl.Answer) { ans.Won[2] = math.MaxInt64 },
		"a winner missing":       func(ans *impl.Answer) { ans.Won = ans.Won[:4] },
		"the first one missing":  func(ans *impl.Answer) { ans.Won = ans.Won[1:] },
		"a winner more":          func(ans *impl.Answer) { ans.Won = append(ans.Won, 0) },
		"no winners":             func(ans *impl.Answer) { ans.Won = nil },
		"a move missing":         func(ans *impl.Answer) { ans.Plan[1] = -1 },
		"a move more":            func(ans *impl.Answer) { ans.Plan[2] = 2 },
		"a move of a loser":      func(ans *impl.Answer) { ans.Plan[3] = 4 },
		"a vertex not successor": func(ans *impl.Answer) { ans.Plan[0] = 4 },
		"a move far above":       func(ans *impl.Answer) { ans.Plan[0] = math.MaxInt64 },
		"the entry -2":           func(ans *impl.Answer) { ans.Plan[2] = -2 },
		"the entry -2 of winner": func(ans *impl.Answer) { ans.Plan[4] = -2 },
		"the entry 5":            func(ans *impl.Answer) { ans.Plan[3] = 5 },
		"an entry missing":       func(ans *impl.Answer) { ans.Plan = ans.Plan[:4] },
		"an entry more":          func(ans *impl.Answer) { ans.Plan = append(ans.Plan, -1) },
		"no plan":                func(ans *impl.Answer) { ans.Plan = nil },
		"nothing":                func(ans *impl.Answer) { *ans = impl.Answer{} },
		"too much":               func(ans *impl.Answer) { ans.Won, ans.Plan = make(ints, 100000), make(ints, 100000) },
	} {
		ans := answer6()
		change(&ans)
		if isForm(game6(), ans) || checkAnswer(t, game6(), ans) || len(impl.PartOf(game6(), ans, 0)) != 0 {
			t.Errorf("%s: accepted", what)
		}
	}
	for name, g := range badGames() {
		n := int64(len(g.Prio))
		for _, ans := range []impl.Answer{answer6(), {}, {Won: make(ints, n), Plan: noMoves(n)}, {Won: make(ints, n), Plan: make(ints, n)}} {
			if checkAnswer(t, g, ans) || len(impl.PartOf(g, ans, 0))+len(impl.PartOf(g, ans, 1)) != 0 {
				t.Errorf("%s: accepted", name)
			}
		}
	}
}

func TestRegionOf(t *testing.T) {
	// RegionOf knows no game: any number can be asked for, and Plan does not count.
	odd := impl.Answer{Won: ints{7, -1, 7, 0, math.MinInt64, 1, math.MaxInt64}}
	for _, c := range []struct {
		who  int64
		want ints
	}{
		{7, ints{0, 2}}, {-1, ints{1}}, {0, ints{3}}, {1, ints{5}}, {2, nil}, {math.MinInt64, ints{4}}, {math.MaxInt64, ints{6}},
	} {
		if got := impl.RegionOf(odd, c.who); !sameList(got, c.want) {
			t.Errorf("RegionOf %d returns %v", c.who, got)
		}
	}
	if got := impl.RegionOf(impl.Answer{Plan: ints{1, 2}}, 0); len(got) != 0 {
		t.Errorf("RegionOf without winners returns %v", got)
	}
	if got := impl.RegionOf(impl.Answer{Won: make(ints, 256), Plan: make(ints, 300)}, 0); !sameList(got, countTo(256)) {
		t.Errorf("RegionOf 256 vertices returns %v", got)
	}
	for _, n := range (ints{257, 300, 100000}) {
		if got := impl.RegionOf(impl.Answer{Won: make(ints, n)}, 0); len(got) != 0 {
			t.Errorf("RegionOf %d vertices returns %v", n, got)
		}
	}
}

// TestAnswersByDefinition tries all lists as the winners and the plan of small games.
func TestAnswersByDefinition(t *testing.T) {
	d := dice(63)
	forms, right := 0, 0
	for range 30 {
		n := 1 + d.below(2)
		g := d.anyGame(n, 2)
		listsUpTo(2*n, -2, 2, func(list ints) {
			ans := impl.Answer{Won: list[:n], Plan: list[n:]}
			if isForm(g, ans) {
				forms++
			}
			if checkAnswer(t, g, ans) {
				right++
			}
		})
	}
	if forms < 100 || right < 30 {
		t.Errorf("only %d forms and %d right answers", forms, right)
	}
}

// TestRightAnswers checks that an answer is right only if it states the winners, which are found by
// playing all plans against each other, and that each game has a right answer.
func TestRightAnswers(t *testing.T) {
	d := dice(64)
	mixed := 0
	for range 250 {
		g := d.anyGame(1+d.below(5), 3)
		n := int64(len(g.Prio))
		odd := wonByPlans(g, 1)
		right := 0
		listsUpTo(n, 0, 1, func(won ints) {
			// The plans of the winners are those of one player in an arena where losers own nothing.
			q := attraction{arena: impl.Arena{Next: g.Next}, in: countTo(n)}
			for v, winner := range won {
				q.arena.Owner = append(q.arena.Owner, (winner+g.Owner[v])%2)
			}
			q.plans(0, func(plan ints) {
				ans := impl.Answer{Won: won, Plan: plan}
				if !checkAnswer(t, g, ans) {
					return
				}
				right++
				if got := impl.RegionOf(ans, 1); !sameList(got, odd) {
					t.Fatalf("AnswerOk(%v, %v) is true, but 1 wins %v", g, ans, odd)
				}
			})
		})
		if right == 0 {
			t.Fatalf("%v has no right answer", g)
		}
		if len(odd) > 0 && int64(len(odd)) < n {
			mixed++
		}
	}
	if mixed < 30 {
		t.Errorf("only %d games have two winners", mixed)
	}
}

// TestChecksKeepMemory calls every function of the chapter with valid and invalid arguments.
func TestChecksKeepMemory(t *testing.T) {
	d := dice(65)
	games := []impl.Parity{game6(), example4(), steppedGame(41), d.anyGame(9, 4)}
	for _, g := range badGames() {
		games = append(games, g)
	}
	call := func(c claim) {
		guardedCall(t, "ClosedIn", impl.ClosedIn, c.game.Arena, c.who, c.region, c.plan)
		guardedCall(t, "BadLoops", impl.BadLoops, c.game, c.who, c.region, c.plan)
		guardedCall(t, "CleanIn", impl.CleanIn, c.game, c.who, c.region, c.plan)
		guardedCall(t, "WinsBy", impl.WinsBy, c.game, c.who, c.region, c.plan)
	}
	for _, g := range games {
		none := noMoves(int64(len(g.Owner)))
		for _, list := range append(wildLists(), even5(), odd5(), impl.LeastFull(g.Arena, 0), answer6().Plan) {
			for who := int64(-1); who < 3; who++ {
				call(claim{g, who, list, none})
				call(claim{g, who, countTo(int64(len(g.Owner))), list})
			}
			for _, ans := range []impl.Answer{{Won: list}, {Won: list, Plan: list}, {Won: answer6().Won, Plan: list}, {Won: list, Plan: answer6().Plan}} {
				guardedCall(t, "AnswerOk", impl.AnswerOk, g, ans)
				guardedCall(t, "RegionOf", impl.RegionOf, ans, int64(0))
				guardedCall(t, "PartOf", impl.PartOf, g, ans, int64(0))
			}
		}
		for _, n := range wildInts {
			call(claim{g, n, ints{0, 2}, none})
			guardedCall(t, "RegionOf", impl.RegionOf, answer6(), n)
			guardedCall(t, "PartOf", impl.PartOf, g, answer6(), n)
		}
	}
	guardedCall(t, "AnswerOk", impl.AnswerOk, game6(), answer6())
	guardedCall(t, "BadLoops", impl.BadLoops, withPrios(3, 2, 4, 1, 0), int64(0), countTo(5), ints{1, -1, -1, 1, -1})
}
