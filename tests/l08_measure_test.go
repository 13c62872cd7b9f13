package tests

import (
	"math"
	"slices"
	"testing"

	"loop.example/g00869/impl"
)

// game8 and wonGame8 return the games M and M' of chapter 8.
func game8() impl.Parity {
	return impl.Parity{Arena: impl.Arena{Owner: ints{0, 1, 0}, Next: sets{{0, 1}, {0, 2}, {2}}}, Prio: ints{1, 2, 3}}
}
func wonGame8() impl.Parity {
	g := game8()
	g.Prio[2] = 4
	return g
}

// zeros8 returns the table of game8 with three measures [0 0 0].
func zeros8() sets { return sets{{0, 0, 0}, {0, 0, 0}, {0, 0, 0}} }

// wantedOdds returns what the document says of the odds of a valid game.
func wantedOdds(g impl.Parity) ints {
	var odds ints
	for p := int64(impl.MaxPrio - 1); p > 0; p -= 2 {
		if slices.Contains(g.Prio, p) {
			odds = append(odds, p)
		}
	}
	return odds
}

// countOf returns how many vertices have the priority p.
func countOf(g impl.Parity, p int64) int64 {
	count := int64(0)
	for _, q := range g.Prio {
		if q == p {
			count++
		}
	}
	return count
}

// isMeasure says what the document says of a measure of a small game.
func isMeasure(g impl.Parity, m ints) bool {
	odds := wantedOdds(g)
	if len(m) == 1 && m[0] == 1 {
		return true
	}
	if len(m) != len(odds)+1 || m[0] != 0 {
		return false
	}
	for i, p := range odds {
		if m[i+1] < 0 || m[i+1] > countOf(g, p) {
			return false
		}
	}
	return true
}

// isTable says what the document says of a table of a small game.
func isTable(g impl.Parity, rows sets) bool {
	return len(rows) == len(g.Prio) && !slices.ContainsFunc(rows, func(m ints) bool { return !isMeasure(g, m) })
}

// isAtLeast says whether the measure a is not less than b from p on.
func isAtLeast(g impl.Parity, a ints, b ints, p int64) bool {
	if a[0] != b[0] || a[0] == 1 {
		return a[0] >= b[0]
	}
	for i, odd := range wantedOdds(g) {
		if odd >= p && a[i+1] != b[i+1] {
			return a[i+1] > b[i+1]
		}
	}
	return true
}

// measuresOf returns all measures of a small game in ascending order.
func measuresOf(g impl.Parity) sets {
	all := sets{{0}}
	for _, p := range wantedOdds(g) {
		var longer sets
		for _, m := range all {
			for number := range countOf(g, p) + 1 {
				longer = append(longer, append(slices.Clone(m), number))
			}
		}
		all = longer
	}
	return append(all, ints{1})
}

// A climb has what the document says of the measures of a small game.
type climb struct {
	game impl.Parity
	all  sets // the measures in ascending order
}

// climbOf returns the climb of a small game.
func climbOf(g impl.Parity) climb { return climb{g, measuresOf(g)} }

// asked returns what the document says of AskedBy: the first one that is good of all measures.
func (c climb) asked(v int64, m ints) ints {
	p := c.game.Prio[v]
	for _, x := range c.all {
		if p%2 == 0 && isAtLeast(c.game, x, m, p) || p%2 == 1 && !isAtLeast(c.game, m, x, p) {
			return x
		}
	}
	return ints{1}
}

// demand returns what the document says of the demand of a vertex.
func (c climb) demand(rows sets, v int64) ints {
	var best ints
	for _, u := range c.game.Next[v] {
		x := c.asked(v, rows[u])
		if best == nil || isAtLeast(c.game, x, best, 0) == (c.game.Owner[v] == 1) {
			best = x
		}
	}
	return best
}

// lifted returns what the document says of LiftedAt.
func (c climb) lifted(rows sets, v int64) sets {
	lifted := slices.Clone(rows)
	if demand := c.demand(rows, v); !isAtLeast(c.game, rows[v], demand, 0) {
		lifted[v] = demand
	}
	return lifted
}

// steady says what the document says of SteadyIn.
func (c climb) steady(rows sets) bool {
	for v := range rows {
		if !isAtLeast(c.game, rows[v], c.demand(rows, int64(v)), 0) {
			return false
		}
	}
	return true
}

// tables calls use with every table of the game.
func (c climb) tables(use func(rows sets)) {
	n := int64(len(c.game.Prio))
	listsUpTo(n, 0, int64(len(c.all)-1), func(picked ints) {
		rows := make(sets, n)
		for v, i := range picked {
			rows[v] = c.all[i]
		}
		use(rows)
	})
}

// table returns a random table of the game.
func (d *dice) table(c climb) sets {
	var rows sets
	for range c.game.Prio {
		rows = append(rows, c.all[d.below(int64(len(c.all)))])
	}
	return rows
}

// smallGame returns a game of at most MaxSmall vertices that has at most k measures.
func (d *dice) smallGame(n int64, out int64, k int) impl.Parity {
	for {
		g := d.anyGame(n, out)
		count := 2
		for _, p := range wantedOdds(g) {
			count *= int(countOf(g, p)) + 1
		}
		if count <= k {
			return g
		}
	}
}

// splitGame returns a game in which most vertices do not belong to the player whom their priorities
// favour, so that both players often win something.
func (d *dice) splitGame(n int64) impl.Parity {
	g := d.anyGame(n, 1)
	for v := range g.Owner {
		if d.below(3) > 0 {
			g.Owner[v] = 1 - g.Prio[v]%2
		}
	}
	return g
}

func TestMeasureExamples(t *testing.T) {
	g, won := game8(), wonGame8()
	if got := impl.OddsOf(g); !sameList(got, ints{3, 1}) {
		t.Errorf("OddsOf returns %v", got)
	}
	if !impl.MeasureOk(g, ints{0, 1, 1}) || impl.MeasureOk(g, ints{0, 2, 0}) {
		t.Error("MeasureOk")
	}
	if !impl.AtLeastIn(g, ints{0, 1, 0}, ints{0, 1, 1}, 2) || impl.AtLeastIn(g, ints{0, 1, 0}, ints{0, 1, 1}, 1) {
		t.Error("AtLeastIn")
	}
	for _, c := range []struct {
		v       int64
		m, want ints
	}{
		{0, ints{0, 0, 0}, ints{0, 0, 1}}, {0, ints{0, 0, 1}, ints{0, 1, 0}}, {0, ints{0, 1, 1}, ints{1}}, {0, ints{1}, ints{1}},
		{1, ints{0, 0, 1}, ints{0, 0, 0}}, {1, ints{0, 1, 1}, ints{0, 1, 0}}, {1, ints{1}, ints{1}},
		{2, ints{0, 0, 1}, ints{0, 1, 0}}, {2, ints{0, 1, 0}, ints{1}}, {2, ints{1}, ints{1}},
	} {
		if got := impl.AskedBy(g, c.v, c.m); !sameList(got, c.want) {
			t.Errorf("AskedBy(%d, %v) returns %v", c.v, c.m, got)
		}
	}
	if !impl.TableOk(g, zeros8()) || impl.SteadyIn(g, zeros8()) {
		t.Error("TableOk or SteadyIn")
	}
	if got := impl.LiftedAt(g, zeros8(), 2); !sameLists(got, sets{{0, 0, 0}, {0, 0, 0}, {0, 1, 0}}) {
		t.Errorf("LiftedAt returns %v", got)
	}
	if got := impl.LeastTable(g); !sameLists(got, sets{{1}, {1}, {1}}) || !impl.SteadyIn(g, got) {
		t.Errorf("LeastTable returns %v", got)
	}
	if got := impl.LeastTable(won); !sameLists(got, sets{{0, 1}, {0, 0}, {0, 0}}) || !impl.SteadyIn(won, got) {
		t.Errorf("LeastTable returns %v for the game that is won", got)
	}
	if got := impl.MeasurePlan(won); !sameList(got, ints{1, -1, 2}) {
		t.Errorf("MeasurePlan returns %v for the game that is won", got)
	}
	if got := impl.MeasurePlan(g); !sameList(got, noMoves(3)) {
		t.Errorf("MeasurePlan returns %v", got)
	}
	if x, y := impl.MeasureWon(g), impl.MeasureWon(won); !sameList(x, ints{1, 1, 1}) || !sameList(y, ints{0, 0, 0}) {
		t.Errorf("MeasureWon returns %v and %v", x, y)
	}
	checkMeasures(t, g)
	checkMeasures(t, won)
}

// TestMeasuresWithoutOdds has a game with even priorities only: [0] is its only measure beside lost.
func TestMeasuresWithoutOdds(t *testing.T) {
	g := withPrios(4, 2, 0, 2, 40)
	zeros := slices.Repeat(sets{{0}}, 5)
	if got := impl.OddsOf(g); len(got) != 0 {
		t.Errorf("OddsOf returns %v", got)
	}
	if !impl.MeasureOk(g, ints{0}) || !impl.MeasureOk(g, ints{1}) || impl.MeasureOk(g, ints{0, 0}) || impl.MeasureOk(g, nil) {
		t.Error("MeasureOk")
	}
	if got := impl.LeastTable(g); !sameLists(got, zeros) || !impl.SteadyIn(g, zeros) {
		t.Errorf("LeastTable returns %v", got)
	}
	if got := impl.MeasurePlan(g); !sameList(got, ints{1, -1, -1, 1, -1}) {
		t.Errorf("MeasurePlan returns %v", got)
	}
	if got := impl.LiftedAt(g, sets{{0}, {1}, {0}, {0}, {0}}, 0); !sameLists(got, sets{{0}, {1}, {0}, {0}, {0}}) {
		t.Errorf("LiftedAt returns %v", got)
	}
	if got := impl.LiftedAt(g, sets{{0}, {0}, {0}, {1}, {0}}, 1); !sameLists(got, sets{{0}, {1}, {0}, {1}, {0}}) {
		t.Errorf("LiftedAt returns %v", got)
	}
	checkMeasures(t, g)
}

// checkMeasures compares the functions for measures with the document, for all measures of a game
// and all priorities.
func checkMeasures(t *testing.T, g impl.Parity) {
	t.Helper()
	c := climbOf(g)
	if got := impl.OddsOf(g); !sameList(got, wantedOdds(g)) {
		t.Fatalf("OddsOf(%v) returns %v", g, got)
	}
	for i, a := range c.all {
		if !impl.MeasureOk(g, a) {
			t.Fatalf("MeasureOk(%v, %v) is false", g, a)
		}
		for j, b := range c.all {
			if impl.AtLeastIn(g, a, b, 0) != (i >= j) {
				t.Fatalf("AtLeastIn(%v, %v, %v, 0) is not %v", g, a, b, i >= j)
			}
			for _, p := range append(ints{-1, 41, math.MinInt64, math.MaxInt64, 1, 2, 39, 40}, g.Prio...) {
				if want := isAtLeast(g, a, b, p); impl.AtLeastIn(g, a, b, p) != want {
					t.Fatalf("AtLeastIn(%v, %v, %v, %d) is not %v", g, a, b, p, want)
				}
			}
		}
		for v := range g.Prio {
			if got, want := impl.AskedBy(g, int64(v), a), c.asked(int64(v), a); !sameList(got, want) {
				t.Fatalf("AskedBy(%v, %d, %v) returns %v, not %v", g, v, a, got, want)
			}
		}
	}
}

// checkTable compares the functions for tables with the document.
func checkTable(t *testing.T, c climb, rows sets) {
	t.Helper()
	if !impl.TableOk(c.game, rows) {
		t.Fatalf("TableOk(%v, %v) is false", c.game, rows)
	}
	if want := c.steady(rows); impl.SteadyIn(c.game, rows) != want {
		t.Fatalf("SteadyIn(%v, %v) is not %v", c.game, rows, want)
	}
	for v := range int64(len(rows)) {
		if got, want := impl.LiftedAt(c.game, rows, v), c.lifted(rows, v); !sameLists(got, want) {
			t.Fatalf("LiftedAt(%v, %v, %d) returns %v, not %v", c.game, rows, v, got, want)
		}
	}
}

func TestMeasuresByDefinition(t *testing.T) {
	d := dice(80)
	for range 300 {
		checkMeasures(t, d.smallGame(1+d.below(12), 3, 40))
	}
	for range 60 {
		g := d.smallGame(1+d.below(3), 3, 20)
		for n := range int64(5) {
			listsUpTo(n, -1, 3, func(m ints) {
				if want := isMeasure(g, m); impl.MeasureOk(g, m) != want {
					t.Fatalf("MeasureOk(%v, %v) is not %v", g, m, want)
				}
			})
		}
	}
}

// TestLeastTablesByDefinition tries all tables of small games, and takes the least measure that each
// vertex has in any steady one.
func TestLeastTablesByDefinition(t *testing.T) {
	d := dice(81)
	kept, parts := 0, 0
	for range 600 {
		n := 1 + d.below(4)
		c := climbOf(d.smallGame(n, 3, []int{42, 42, 17, 9}[n-1]))
		least := slices.Repeat(sets{{1}}, int(n))
		c.tables(func(rows sets) {
			if d.below(20) == 0 {
				checkTable(t, c, rows)
			}
			if !c.steady(rows) {
				return
			}
			for v, m := range rows {
				if !isAtLeast(c.game, m, least[v], 0) {
					least[v] = m
				}
			}
		})
		if got := impl.LeastTable(c.game); !sameLists(got, least) {
			t.Fatalf("LeastTable(%v) returns %v, not %v", c.game, got, least)
		}
		checkTable(t, c, least)
		lost := 0
		for _, m := range least {
			if m[0] == 1 {
				lost++
			} else if slices.Max(m) > 0 {
				kept++
			}
		}
		if lost > 0 && lost < int(n) {
			parts++
		}
	}
	if kept < 80 || parts < 30 {
		t.Errorf("only %d measures are between zeros and lost, and only %d games are lost in part", kept, parts)
	}
}

// TestTablesByDefinition tries random tables, and climbs by lifting random vertices: whatever the
// order, the climb ends at the least steady table.
func TestTablesByDefinition(t *testing.T) {
	d := dice(82)
	others := 0
	for range 200 {
		c := climbOf(d.smallGame(1+d.below(12), 3, 100))
		n := int64(len(c.game.Prio))
		for range 5 {
			checkTable(t, c, d.table(c))
		}
		rows := slices.Repeat(sets{c.all[0]}, int(n))
		for !c.steady(rows) {
			rows = c.lifted(rows, d.below(n))
		}
		checkTable(t, c, rows)
		if got := impl.LeastTable(c.game); !sameLists(got, rows) {
			t.Fatalf("LeastTable(%v) returns %v, not %v", c.game, got, rows)
		}
		from := d.table(c)
		for !c.steady(from) {
			from = c.lifted(from, d.below(n))
		}
		checkTable(t, c, from)
		if !sameLists(from, rows) && !sameLists(from, slices.Repeat(sets{{1}}, int(n))) {
			others++
		}
		for v := range from {
			if !isAtLeast(c.game, from[v], rows[v], 0) {
				t.Fatalf("LeastTable(%v) returns %v, but %v is steady", c.game, rows, from)
			}
		}
	}
	if others < 50 {
		t.Errorf("only %d steady tables are neither the least nor the greatest", others)
	}
}

// checkMeasured checks P8 with the strategy checker and its definition, and the plan, the winners and
// the table against each other. It returns the claim of player 0.
func checkMeasured(t *testing.T, g impl.Parity) claim {
	t.Helper()
	rows, plan, won := impl.LeastTable(g), impl.MeasurePlan(g), impl.MeasureWon(g)
	if !impl.SteadyIn(g, rows) || len(won) != len(g.Prio) || len(plan) != len(g.Prio) {
		t.Fatalf("LeastTable(%v) returns %v, MeasureWon %v, MeasurePlan %v", g, rows, won, plan)
	}
	c := claim{game: g, plan: plan}
	for v, m := range rows {
		lost, move := sameList(m, ints{1}), int64(-1)
		if !lost {
			c.region = append(c.region, int64(v))
			if won[v] != 0 {
				t.Fatalf("MeasureWon(%v) returns %v, but the table is %v", g, won, rows)
			}
		} else if won[v] != 1 {
			t.Fatalf("MeasureWon(%v) returns %v, but the table is %v", g, won, rows)
		}
		for _, u := range slices.Backward(g.Next[v]) {
			if !lost && g.Owner[v] == 0 && impl.AtLeastIn(g, m, impl.AskedBy(g, int64(v), rows[u]), 0) {
				move = u
			}
		}
		if plan[v] != move {
			t.Fatalf("MeasurePlan(%v) returns %v, but the table is %v", g, plan, rows)
		}
	}
	if !c.wins() || !c.wantedWins() {
		t.Fatalf("MeasurePlan(%v) returns %v, which does not win %v", g, plan, c.region)
	}
	if even, odd := impl.WonBy(g, 0), impl.WonBy(g, 1); !sameList(c.region, even) || len(odd)+len(even) != len(won) {
		t.Fatalf("MeasureWon(%v) returns %v, but 0 wins %v", g, won, even)
	}
	return c
}

// TestMeasuredPlays checks P8 with all plans and with every play of small games.
func TestMeasuredPlays(t *testing.T) {
	d := dice(83)
	plays, mixed := 0, 0
	for i := range 1200 {
		g := d.anyGame(1+d.below(6), 3)
		if i%2 == 0 {
			g = d.splitGame(1 + d.below(6))
		}
		c := checkMeasured(t, g)
		if even := wonByPlans(g, 0); !sameList(c.region, even) {
			t.Fatalf("MeasureWon(%v) returns %v, but 0 wins %v", g, impl.MeasureWon(g), even)
		}
		c.lassos(func(l impl.Lasso) {
			plays++
			if impl.PlayWon(g, l) != 0 {
				t.Fatalf("MeasurePlan(%v) returns %v, but 0 loses the play %v", g, c.plan, l)
			}
		})
		if len(c.region) > 0 && len(c.region) < len(g.Prio) {
			mixed++
		}
	}
	if plays < 2000 || mixed < 150 {
		t.Errorf("only %d plays, and only %d games have two winners", plays, mixed)
	}
}

// TestMeasuredGreaterGames checks P8 for games up to the limit, and their tables by random climbs.
func TestMeasuredGreaterGames(t *testing.T) {
	d := dice(84)
	mixed := 0
	for i := range 400 {
		n := 7 + d.below(6)
		g := d.splitGame(n)
		if i%2 == 0 {
			g = d.anyGame(n, 1+d.below(12))
		}
		c := checkMeasured(t, g)
		if len(c.region) > 0 && len(c.region) < len(g.Prio) {
			mixed++
		}
		if i%20 > 0 {
			continue
		}
		rows := slices.Repeat(sets{make(ints, 1+len(wantedOdds(g)))}, int(n))
		for !impl.SteadyIn(g, rows) {
			for range n {
				rows = impl.LiftedAt(g, rows, d.below(n))
			}
		}
		if got := impl.LeastTable(g); !sameLists(got, rows) {
			t.Fatalf("LeastTable(%v) returns %v, not %v", g, got, rows)
		}
	}
	if mixed < 60 {
		t.Errorf("only %d games have two winners", mixed)
	}
}

// ring8 returns a ring of n vertices with priorities; without any, these are 1, 3, 5 and so on.
func ring8(n int64, prios ...int64) impl.Parity {
	g := impl.Parity{Arena: ringArena(n), Prio: prios}
	for v := range n {
		if len(prios) == 0 {
			g.Prio = append(g.Prio, 2*v+1)
		}
	}
	return g
}

// TestMeasureLimits has the greatest games, numbers and priorities, and those beyond the limits.
func TestMeasureLimits(t *testing.T) {
	g := ring8(12)
	long := append(ints{0}, slices.Repeat(ints{1}, 12)...)
	if got := impl.OddsOf(g); !sameList(got, ints{23, 21, 19, 17, 15, 13, 11, 9, 7, 5, 3, 1}) {
		t.Errorf("OddsOf returns %v", got)
	}
	if !impl.MeasureOk(g, long) || impl.MeasureOk(g, append(long, 0)) || impl.MeasureOk(g, long[:12]) {
		t.Error("MeasureOk of the longest measure")
	}
	if got := impl.AskedBy(g, 0, long); !sameList(got, ints{1}) {
		t.Errorf("AskedBy of the longest measure returns %v", got)
	}
	if got := impl.AskedBy(g, 11, append(ints{0, 0}, long[2:]...)); !sameList(got, append(ints{0, 1}, make(ints, 11)...)) {
		t.Errorf("AskedBy of the longest measure returns %v", got)
	}
	if got := impl.LeastTable(g); !sameLists(got, slices.Repeat(sets{{1}}, 12)) {
		t.Errorf("LeastTable returns %v", got)
	}
	same := ring8(12, slices.Repeat(ints{39}, 12)...)
	if !sameList(impl.OddsOf(same), ints{39}) || !impl.MeasureOk(same, ints{0, 12}) || impl.MeasureOk(same, ints{0, 13}) {
		t.Error("MeasureOk of the greatest number")
	}
	if x, y := impl.AskedBy(same, 3, ints{0, 11}), impl.AskedBy(same, 3, ints{0, 12}); !sameList(x, ints{0, 12}) || !sameList(y, ints{1}) {
		t.Errorf("AskedBy returns %v and %v", x, y)
	}
	same.Prio[5] = 40
	rows := impl.LeastTable(same)
	for v := range int64(12) {
		if want := (4 - v + 12) % 12; v != 5 && !sameList(rows[v], ints{0, want + 1}) || v == 5 && !sameList(rows[v], ints{0, 0}) {
			t.Errorf("LeastTable returns %v, but %v for vertex %d is not right", rows, rows[v], v)
		}
	}
	checkMeasured(t, same)
	mixed := game8()
	mixed.Prio = ints{1, 39, 40}
	if !sameList(impl.OddsOf(mixed), ints{39, 1}) || !impl.AtLeastIn(mixed, ints{0, 0, 1}, ints{0, 0, 1}, 1) {
		t.Error("OddsOf with the greatest priorities")
	}
	checkMeasures(t, mixed)
	for _, n := range (ints{13, 14, 256}) {
		g := ring8(n, slices.Repeat(ints{1}, int(n))...)
		if !impl.ParityOk(g) {
			t.Errorf("the ring of %d is not valid", n)
		}
		checkNoMeasures(t, "a great game", g)
		g.Prio[0] = 2
		checkNoMeasures(t, "a great game", g)
	}
}

// TestLongestClimbs has games of the greatest size with the most measures, so that the climb is long.
func TestLongestClimbs(t *testing.T) {
	g := ring8(12)
	for v := range g.Next {
		g.Next[v] = countTo(12)
	}
	for owner := range int64(2) {
		g.Owner = slices.Repeat(ints{owner}, 12)
		for _, top := range (ints{23, 24, 0, 12}) {
			g.Prio[11] = top
			c := checkMeasured(t, g)
			// Player 1 can stay at vertex 0, and player 0 at the only vertex with an even priority.
			if want := 12 * (1 - owner) * (1 - top%2); int64(len(c.region)) != want {
				t.Errorf("with the priority %d, player %d owns all and 0 wins %v", top, owner, c.region)
			}
		}
	}
	d := dice(85)
	for range 40 {
		g := d.game(12, 11, 0, 1)
		for v := range g.Prio {
			g.Prio[v] = 2*int64(v) + 1 - d.below(5)/4
		}
		checkMeasured(t, g)
	}
}

// checkNoMeasures checks that every function rejects a game.
func checkNoMeasures(t *testing.T, what string, g impl.Parity) {
	t.Helper()
	n := len(g.Owner)
	if x, y, z := impl.OddsOf(g), impl.MeasurePlan(g), impl.MeasureWon(g); len(x)+len(y)+len(z) != 0 {
		t.Errorf("%s: OddsOf returns %v, MeasurePlan %v, MeasureWon %v", what, x, y, z)
	}
	if got := impl.LeastTable(g); len(got) != 0 {
		t.Errorf("%s: LeastTable returns %v", what, got)
	}
	for _, m := range (sets{nil, {}, {1}, {0}, {0, 0}, {0, 1}, {0, 0, 0}}) {
		checkNoMeasure(t, what, g, m)
		checkNoTable(t, what, g, slices.Repeat(sets{m}, n))
		checkNoTable(t, what, g, slices.Repeat(sets{m}, len(g.Prio)))
	}
	for _, rows := range []sets{nil, {}, zeros8(), {{1}, {1}, {1}}} {
		checkNoTable(t, what, g, rows)
	}
}

// checkNoMeasure checks that the functions that take a measure reject a list.
func checkNoMeasure(t *testing.T, what string, g impl.Parity, m ints) {
	t.Helper()
	if impl.MeasureOk(g, m) {
		t.Errorf("%s: MeasureOk accepts %v", what, m)
	}
	for _, p := range wildInts {
		for _, other := range (sets{m, {1}, make(ints, 1+len(impl.OddsOf(g)))}) {
			if impl.AtLeastIn(g, m, other, p) || impl.AtLeastIn(g, other, m, p) {
				t.Errorf("%s: AtLeastIn accepts %v with %v from %d on", what, m, other, p)
			}
		}
		if got := impl.AskedBy(g, p, m); len(got) != 0 {
			t.Errorf("%s: AskedBy(%d, %v) returns %v", what, p, m, got)
		}
	}
}

// checkNoTable checks that the functions that take a table reject it.
func checkNoTable(t *testing.T, what string, g impl.Parity, rows sets) {
	t.Helper()
	if impl.TableOk(g, rows) || impl.SteadyIn(g, rows) {
		t.Errorf("%s: TableOk or SteadyIn accepts %v", what, rows)
	}
	for _, v := range wildInts {
		if got := impl.LiftedAt(g, rows, v); len(got) != 0 {
			t.Errorf("%s: LiftedAt(%v, %d) returns %v", what, rows, v, got)
		}
	}
}

// badMeasures are lists that are not measures of game8.
func badMeasures() sets {
	return sets{
		nil, {}, {0}, {2}, {-1}, {math.MinInt64}, {math.MaxInt64}, {0, 0}, {1, 0}, {1, 1}, {0, 1}, {0, 0, 0, 0}, {0, 0, 0, 1}, {0, 1, 1, 0},
		{1, 0, 0}, {1, 1, 1}, {2, 0, 0}, {-1, 0, 0}, {0, 2, 0}, {0, 0, 2}, {0, -1, 0}, {0, 0, -1}, {0, 1, 2}, {0, 2, 1}, {0, 1, -1},
		{math.MinInt64, 0, 0}, {math.MaxInt64, 0, 0}, {0, math.MaxInt64, 0}, {0, 0, math.MaxInt64}, {0, math.MinInt64, 0}, {0, 0, math.MinInt64},
		make(ints, 13), make(ints, 14), make(ints, 100000), append(ints{1}, make(ints, 12)...),
	}
}

func TestMeasuresReject(t *testing.T) {
	for what, g := range badGames() {
		checkNoMeasures(t, what, g)
	}
	g := game8()
	for _, m := range badMeasures() {
		checkNoMeasure(t, "a wrong measure", g, m)
		for v := range 3 {
			rows := zeros8()
			rows[v] = m
			checkNoTable(t, "a wrong measure", g, rows)
		}
	}
	for _, rows := range []sets{
		nil, {}, zeros8()[:2], append(zeros8(), ints{0, 0, 0}), append(zeros8(), ints{1}), slices.Repeat(sets{{1}}, 13), make(sets, 3), make(sets, 100000),
	} {
		checkNoTable(t, "a wrong number of measures", g, rows)
	}
	for _, v := range wildInts {
		if v >= 0 && v < 3 {
			continue
		}
		for _, m := range (sets{{0, 0, 0}, {0, 1, 1}, {1}}) {
			if got := impl.AskedBy(g, v, m); len(got) != 0 {
				t.Errorf("AskedBy(%d, %v) returns %v", v, m, got)
			}
			if got := impl.LiftedAt(g, sets{m, m, m}, v); len(got) != 0 {
				t.Errorf("LiftedAt(%v, %d) returns %v", m, v, got)
			}
		}
	}
	// A measure of one game need not be one of another: the numbers of the vertices count.
	if more := ring8(4, 3, 3, 1, 2); !impl.MeasureOk(more, ints{0, 2, 1}) || impl.MeasureOk(more, ints{0, 1, 2}) || impl.MeasureOk(more, ints{0, 3, 0}) {
		t.Error("MeasureOk with two vertices of one priority")
	}
}

// TestMeasuresKeepMemory calls every function of the chapter with valid and invalid arguments.
func TestMeasuresKeepMemory(t *testing.T) {
	d := dice(86)
	games := []impl.Parity{game8(), wonGame8(), ring8(12), ring8(13), d.smallGame(9, 4, 100), example4()}
	good := len(games)
	for _, g := range badGames() {
		games = append(games, g)
	}
	for i, g := range games {
		numbers := wildInts
		if i >= good {
			numbers = ints{-1, 0, 2}
		}
		guardedCall(t, "OddsOf", impl.OddsOf, g)
		guardedCall(t, "LeastTable", impl.LeastTable, g)
		guardedCall(t, "MeasurePlan", impl.MeasurePlan, g)
		guardedCall(t, "MeasureWon", impl.MeasureWon, g)
		least := impl.LeastTable(g)
		for _, m := range slices.Concat(wildLists(), least, sets{{1}, {0, 0, 0}, {0, 1, 1}, {0, 0, 1}, make(ints, 13)}) {
			guardedCall(t, "MeasureOk", impl.MeasureOk, g, m)
			for _, n := range numbers {
				guardedCall(t, "AtLeastIn", impl.AtLeastIn, g, m, ints{1}, n)
				guardedCall(t, "AtLeastIn", impl.AtLeastIn, g, ints{0, 1, 0}, m, n)
				guardedCall(t, "AskedBy", impl.AskedBy, g, n, m)
			}
		}
		zeros := slices.Repeat(sets{make(ints, 1+len(impl.OddsOf(g)))}, len(g.Owner))
		for _, rows := range []sets{nil, {}, {nil}, least, zeros, zeros8(), slices.Repeat(sets{{1}}, len(g.Owner)), wildLists()} {
			guardedCall(t, "TableOk", impl.TableOk, g, rows)
			guardedCall(t, "SteadyIn", impl.SteadyIn, g, rows)
			for _, n := range numbers {
				guardedCall(t, "LiftedAt", impl.LiftedAt, g, rows, n)
			}
		}
	}
}
