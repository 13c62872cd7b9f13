package tests

import (
	"math"
	"slices"
	"testing"

	"loop.example/g00869/impl"
)

// An attraction is one question to the functions that take a goal.
type attraction struct {
	arena impl.Arena
	who   int64
	in    ints
	goal  ints
}

// ranks, attract and pull call the functions of the chapter.
func (q attraction) ranks() ints   { return impl.RanksIn(q.arena, q.who, q.in, q.goal) }
func (q attraction) attract() ints { return impl.Attract(q.arena, q.who, q.in, q.goal) }
func (q attraction) pull() ints    { return impl.PullIn(q.arena, q.who, q.in, q.goal) }

// inner returns the successors of v in in.
func (q attraction) inner(v int64) ints {
	var list ints
	for _, u := range q.arena.Next[v] {
		if slices.Contains(q.in, u) {
			list = append(list, u)
		}
	}
	return list
}

// within reports from which vertices of in who can force a visit of the goal, given those from
// which it can be forced in one step less. It follows the moves of a game, not the ranks.
func (q attraction) within(can []bool) []bool {
	more := make([]bool, len(can))
	for _, v := range q.in {
		inner := q.inner(v)
		good := slices.DeleteFunc(slices.Clone(inner), func(u int64) bool { return !can[u] })
		more[v] = slices.Contains(q.goal, v) || len(good) > 0 && (q.arena.Owner[v] == q.who || len(good) == len(inner))
	}
	return more
}

// wantedRanks returns the least number of steps within which who can force a visit, or -1.
func (q attraction) wantedRanks() ints {
	ranks := slices.Repeat(ints{-1}, len(q.arena.Owner))
	can := make([]bool, len(ranks))
	for steps := range ranks {
		can = q.within(can)
		for v := range ranks {
			if can[v] && ranks[v] < 0 {
				ranks[v] = int64(steps)
			}
		}
	}
	return ranks
}

// wantedPull returns what the document says of the attractor strategy for these ranks.
func (q attraction) wantedPull(ranks ints) ints {
	var plan ints
	for v, rank := range ranks {
		plan = append(plan, -1)
		if rank <= 0 || q.arena.Owner[v] != q.who {
			continue
		}
		for _, u := range slices.Backward(q.inner(int64(v))) {
			if ranks[u] == rank-1 {
				plan[v] = u
			}
		}
	}
	return plan
}

// check compares the results with the game, and the three functions with each other.
func (q attraction) check(t *testing.T) {
	t.Helper()
	ranks := q.ranks()
	if want := q.wantedRanks(); !sameList(ranks, want) {
		t.Fatalf("RanksIn%v returns %v, not %v", q, ranks, want)
	}
	var list ints
	for v, rank := range ranks {
		if rank >= 0 {
			list = append(list, int64(v))
		}
	}
	if got := q.attract(); !sameList(got, list) {
		t.Fatalf("Attract%v returns %v", q, got)
	}
	if got, want := q.pull(), q.wantedPull(ranks); !sameList(got, want) {
		t.Fatalf("PullIn%v returns %v, not %v", q, got, want)
	}
}

// attraction returns a question on a random arena; often in has all vertices.
func (d *dice) attraction(n int64, out int64) attraction {
	q := attraction{arena: d.arena(n, out), who: d.below(2), in: countTo(n), goal: d.subset(n, 2+d.below(4))}
	if d.below(2) == 0 {
		q.in = slices.DeleteFunc(q.in, func(int64) bool { return d.below(4) == 0 })
	}
	return q
}

func TestAttractExamples(t *testing.T) {
	a := example1()
	all := countTo(5)
	for _, c := range []struct {
		who                             int64
		in, goal, ranks, attract, plans ints
	}{
		{0, all, ints{2}, ints{1, -1, 0, -1, -1}, ints{0, 2}, ints{2, -1, -1, -1, -1}},
		{1, all, ints{3}, ints{-1, 1, -1, 0, 1}, ints{1, 3, 4}, ints{-1, 3, -1, -1, 3}},
		{0, all, ints{0, 4}, ints{0, 2, -1, 1, 0}, ints{0, 1, 3, 4}, ints{-1, -1, -1, 4, -1}},
		{1, all, ints{2}, ints{-1, -1, 0, -1, -1}, ints{2}, ints{-1, -1, -1, -1, -1}},
		{1, all, ints{0}, ints{0, 1, -1, -1, -1}, ints{0, 1}, ints{-1, 0, -1, -1, -1}},
		{0, all, ints{1}, ints{1, 0, -1, 1, 2}, ints{0, 1, 3, 4}, ints{1, -1, -1, 1, -1}},
		{1, all, ints{1, 2}, ints{1, 0, 0, -1, -1}, ints{0, 1, 2}, ints{-1, -1, -1, -1, -1}},
		// The goal beyond in does not count, nor do successors beyond it.
		{1, ints{0, 1, 3}, ints{2, 3}, ints{2, 1, -1, 0, -1}, ints{0, 1, 3}, ints{-1, 3, -1, -1, -1}},
		{0, ints{0, 1, 3, 4}, ints{2}, ints{-1, -1, -1, -1, -1}, nil, ints{-1, -1, -1, -1, -1}},
		{0, ints{1, 2, 4}, ints{3}, ints{-1, -1, -1, -1, -1}, nil, ints{-1, -1, -1, -1, -1}},
		// A vertex of the goal has rank 0 also where it has no successor in in; others then have none.
		{0, ints{0, 4}, ints{0}, ints{0, -1, -1, -1, -1}, ints{0}, ints{-1, -1, -1, -1, -1}},
		{1, ints{0, 4}, ints{0}, ints{0, -1, -1, -1, -1}, ints{0}, ints{-1, -1, -1, -1, -1}},
		{0, ints{4}, ints{4}, ints{-1, -1, -1, -1, 0}, ints{4}, ints{-1, -1, -1, -1, -1}},
		{0, all, all, ints{0, 0, 0, 0, 0}, all, ints{-1, -1, -1, -1, -1}},
		{1, all, nil, ints{-1, -1, -1, -1, -1}, nil, ints{-1, -1, -1, -1, -1}},
		{1, nil, all, ints{-1, -1, -1, -1, -1}, nil, ints{-1, -1, -1, -1, -1}},
		{0, ints{}, ints{}, ints{-1, -1, -1, -1, -1}, nil, ints{-1, -1, -1, -1, -1}},
	} {
		q := attraction{a, c.who, c.in, c.goal}
		if got := q.ranks(); !sameList(got, c.ranks) {
			t.Errorf("RanksIn%v returns %v, not %v", q, got, c.ranks)
		}
		if got := q.attract(); !sameList(got, c.attract) {
			t.Errorf("Attract%v returns %v, not %v", q, got, c.attract)
		}
		if got := q.pull(); !sameList(got, c.plans) {
			t.Errorf("PullIn%v returns %v, not %v", q, got, c.plans)
		}
		q.check(t)
	}
}

func TestRanksInOrder(t *testing.T) {
	// Vertices 1, 2 and 3 have the ranks 1, 2 and 3; vertex 4 can move to the goal itself or to each
	// of them, so its rank is 1 for its owner and 4 for the opponent.
	a := impl.Arena{Owner: ints{0, 0, 0, 0, 0}, Next: sets{{0}, {0}, {1}, {2}, {0, 1, 2, 3}}}
	if got := (attraction{a, 0, countTo(5), ints{0}}).ranks(); !sameList(got, ints{0, 1, 2, 3, 1}) {
		t.Errorf("the ranks of the owner are %v", got)
	}
	if got := (attraction{a, 1, countTo(5), ints{0}}).ranks(); !sameList(got, ints{0, 1, 2, 3, 4}) {
		t.Errorf("the ranks of the opponent are %v", got)
	}
	// The smallest successor, 1, has a rank, but not the one that is one less; 3 and 4 have it.
	b := impl.Arena{Owner: ints{0, 0, 0, 0, 0, 0}, Next: sets{{0}, {2}, {0}, {0}, {0}, {1, 3, 4}}}
	q := attraction{b, 0, countTo(6), ints{0}}
	if got := q.ranks(); !sameList(got, ints{0, 2, 1, 1, 1, 2}) {
		t.Errorf("the ranks are %v", got)
	}
	if got := q.pull(); !sameList(got, ints{-1, 2, 0, 0, 0, 3}) {
		t.Errorf("the strategy is %v", got)
	}
	// Without the vertices 2, 3 and 4 no way leads to the goal, though each vertex has a way in b.
	if got := (attraction{b, 0, ints{0, 1, 5}, ints{0}}).ranks(); !sameList(got, ints{0, -1, -1, -1, -1, -1}) {
		t.Errorf("the ranks in a part are %v", got)
	}
}

func TestAttractAtTheLimits(t *testing.T) {
	ring, last := ringArena(impl.MaxV), int64(impl.MaxV-1)
	all := countTo(impl.MaxV)
	for who := range int64(2) {
		q := attraction{ring, who, all, ints{last}}
		ranks, plan := q.ranks(), q.pull()
		for v := range last {
			if ranks[v] != last-v || (plan[v] == v+1) != (v%2 == who) || plan[v] != v+1 && plan[v] != -1 {
				t.Fatalf("vertex %d of the longest ring has rank %d and the entry %d", v, ranks[v], plan[v])
			}
		}
		if ranks[last] != 0 || plan[last] != -1 || !sameList(q.attract(), all) {
			t.Error("the goal of the longest ring")
		}
		q.in = all[1:]
		q.goal = ints{1}
		if !sameList(q.attract(), ints{1}) {
			t.Errorf("Attract in a broken ring returns %v", q.attract())
		}
		attraction{widestArena(), who, all, ints{0, 255}}.check(t)
		if !impl.TrapIn(ring, who, all) || len(impl.EscapesIn(ring, who, all)) != 0 {
			t.Error("all vertices of the longest ring")
		}
		if got := impl.EscapesIn(ring, who, all[:last]); !sameList(got, ints{last - 1}) {
			t.Errorf("EscapesIn a broken ring returns %v", got)
		}
		long := ringArena(impl.MaxV + 1)
		if len(impl.RanksIn(long, who, ints{0}, ints{0})) != 0 || impl.TrapIn(long, who, countTo(257)) {
			t.Error("257 vertices are accepted")
		}
		wide, wider := wideVertex(impl.MaxOut), wideVertex(impl.MaxOut+1)
		if len(impl.RanksIn(wide, who, all, ints{0})) != impl.MaxV || len(impl.RanksIn(wider, who, all, ints{0})) != 0 {
			t.Error("the limit of the successors")
		}
	}
}

func TestRanksAreForcedVisits(t *testing.T) {
	d := dice(30)
	deep, partial := 0, 0
	for range 2000 {
		q := d.attraction(1+d.below(14), 1+d.below(4))
		q.check(t)
		turned := attraction{impl.Turned(q.arena), 1 - q.who, q.in, q.goal}
		if !sameList(q.ranks(), turned.ranks()) || !sameList(q.pull(), turned.pull()) {
			t.Fatalf("%v has other results with the players exchanged", q)
		}
		if slices.Max(append(q.ranks(), -1)) > 2 {
			deep++
		}
		if k := len(q.attract()); k > 0 && k < len(q.in) {
			partial++
		}
	}
	if deep < 100 || partial < 300 {
		t.Errorf("only %d deep and %d partial attractors", deep, partial)
	}
}

// plans calls use with every choice of one successor in in for each vertex of a player. A vertex
// without one has -1.
func (q attraction) plans(player int64, use func(plan ints)) {
	plan := slices.Repeat(ints{-1}, len(q.arena.Owner))
	var choose func(v int64)
	choose = func(v int64) {
		if v == int64(len(plan)) {
			use(plan)
			return
		}
		if q.arena.Owner[v] != player || !slices.Contains(q.in, v) || len(q.inner(v)) == 0 {
			choose(v + 1)
			return
		}
		for _, u := range q.inner(v) {
			plan[v] = u
			choose(v + 1)
		}
		plan[v] = -1
	}
	choose(0)
}

// visits returns the vertices of in from which the play of two plans visits the goal.
func (q attraction) visits(mine ints, yours ints) ints {
	var list ints
	for _, v := range q.in {
		u := v
		for range q.arena.Owner {
			if u >= 0 && !slices.Contains(q.goal, u) {
				u = max(mine[u], yours[u])
			}
		}
		if slices.Contains(q.goal, u) {
			list = append(list, v)
		}
	}
	return list
}

// surely returns the vertices of in from which every plan of the opponent leads to a visit.
func (q attraction) surely(mine ints) ints {
	list := slices.Clone(q.in)
	q.plans(1-q.who, func(yours ints) { list = impl.MeetOf(list, q.visits(mine, yours)) })
	return list
}

// TestForceByAllPlans plays every plan against every other one, without any use of ranks.
func TestForceByAllPlans(t *testing.T) {
	d := dice(31)
	partial := 0
	for range 1000 {
		q := d.attraction(1+d.below(7), 3)
		var won ints
		q.plans(q.who, func(mine ints) { won = impl.BothOf(won, q.surely(mine)) })
		if got := q.attract(); !sameList(got, won) {
			t.Fatalf("Attract%v returns %v, but the goal is forced from %v", q, got, won)
		}
		// PullIn has no entry for a vertex from which there is nothing to force.
		if got := q.surely(q.pull()); !sameList(got, won) {
			t.Fatalf("PullIn%v forces a visit from %v only, not %v", q, got, won)
		}
		if len(won) > len(impl.MeetOf(q.in, q.goal)) && len(won) < len(q.in) {
			partial++
		}
	}
	if partial < 100 {
		t.Errorf("only %d partial attractors", partial)
	}
}

func TestAttractInAPart(t *testing.T) {
	d := dice(32)
	done := 0
	for range 1000 {
		q := d.attraction(2+d.below(12), 3)
		part, is := impl.InsideOf(q.arena, q.in)
		if !is || len(part.Owner) == len(q.arena.Owner) {
			continue
		}
		done++
		var goal, ranks ints
		for i, v := range q.in {
			if slices.Contains(q.goal, v) {
				goal = append(goal, int64(i))
			}
			ranks = append(ranks, q.ranks()[v])
		}
		if got := impl.RanksIn(part, q.who, countTo(int64(len(q.in))), goal); !sameList(got, ranks) {
			t.Fatalf("the ranks of %v are %v, those of its part %v", q, ranks, got)
		}
	}
	if done < 50 {
		t.Errorf("only %d parts", done)
	}
}

func TestTraps(t *testing.T) {
	a := example1()
	for _, c := range []struct {
		who     int64
		s, want ints
	}{
		{0, ints{1, 3, 4}, nil},
		{1, ints{1, 3, 4}, ints{1}},
		{0, ints{2}, nil},
		{1, ints{2}, nil},
		{0, ints{3, 4}, ints{3}},
		{1, ints{3, 4}, nil},
		{1, ints{0, 4}, ints{0, 4}},
		{0, ints{0, 4}, ints{0, 4}},
		{0, ints{0, 2}, ints{0}},
		{1, ints{0, 2}, nil},
		{0, ints{1}, ints{1}},
		{1, ints{3}, ints{3}},
		{0, countTo(5), nil},
		{1, countTo(5), nil},
		{0, nil, nil},
		{1, ints{}, nil},
	} {
		if got := impl.EscapesIn(a, c.who, c.s); !sameList(got, c.want) {
			t.Errorf("EscapesIn for %d and %v returns %v, not %v", c.who, c.s, got, c.want)
		}
		if got := impl.TrapIn(a, c.who, c.s); got != (len(c.want) == 0) {
			t.Errorf("TrapIn for %d and %v returns %v", c.who, c.s, got)
		}
	}
}

func TestTrapsByDefinition(t *testing.T) {
	d := dice(33)
	traps := 0
	for range 2000 {
		q := d.attraction(1+d.below(10), 1+d.below(3))
		var want ints
		for _, v := range q.in {
			k := len(q.inner(v))
			if q.arena.Owner[v] == q.who && k < len(q.arena.Next[v]) || q.arena.Owner[v] != q.who && k == 0 {
				want = append(want, v)
			}
		}
		if got := impl.EscapesIn(q.arena, q.who, q.in); !sameList(got, want) {
			t.Fatalf("EscapesIn(%v, %d, %v) returns %v, not %v", q.arena, q.who, q.in, got, want)
		}
		if impl.TrapIn(q.arena, q.who, q.in) != (len(want) == 0) {
			t.Fatalf("TrapIn(%v, %d, %v) returns %v", q.arena, q.who, q.in, len(want) != 0)
		}
		if len(want) == 0 {
			traps++
		}
		// Whoever cannot force a visit can be kept away from the goal for ever.
		q.in = countTo(int64(len(q.arena.Owner)))
		rest := impl.LessOf(q.in, q.attract())
		if !impl.TrapIn(q.arena, q.who, rest) || len(impl.MeetOf(rest, q.goal)) != 0 {
			t.Fatalf("the rest %v of %v is no trap", rest, q)
		}
	}
	if traps < 300 {
		t.Errorf("only %d traps", traps)
	}
}

// checkNothing checks that the functions with a goal reject the arguments.
func checkNothing(t *testing.T, what string, a impl.Arena, who int64, in ints, goal ints) {
	t.Helper()
	q := attraction{a, who, in, goal}
	if len(q.ranks()) != 0 || len(q.attract()) != 0 || len(q.pull()) != 0 {
		t.Errorf("%s: %v, %v, %v for the player %d, %v and %v", what, q.ranks(), q.attract(), q.pull(), who, in, goal)
	}
}

// checkNoTrap checks that the functions of traps reject the arguments.
func checkNoTrap(t *testing.T, what string, a impl.Arena, who int64, s ints) {
	t.Helper()
	if impl.TrapIn(a, who, s) || len(impl.EscapesIn(a, who, s)) != 0 {
		t.Errorf("%s: a trap or escapes for the player %d and %v", what, who, s)
	}
}

func TestAttractRejects(t *testing.T) {
	good := sets{nil, {}, {0}, {2}, {0, 1, 2}}
	for name, a := range badArenas() {
		for who := int64(-1); who < 3; who++ {
			for _, s := range good {
				checkNothing(t, name, a, who, s, s)
				checkNothing(t, name, a, who, ints{0, 1, 2}, s)
				checkNoTrap(t, name, a, who, s)
			}
		}
	}
	a := example1()
	for _, who := range wildInts {
		if who == 0 || who == 1 {
			continue
		}
		for _, s := range append(good, countTo(5)) {
			checkNothing(t, "the player", a, who, countTo(5), s)
			checkNothing(t, "the player", a, who, s, s)
			checkNoTrap(t, "the player", a, who, s)
		}
	}
	bad := sets{
		{5}, {0, 5}, {-1}, {-1, 0}, {1, 0}, {0, 0}, {0, 1, 1}, {0, 2, 1}, {4, 5}, countTo(6), countTo(257), make(ints, 5), make(ints, 300),
		{math.MinInt64}, {math.MinInt64, 2}, {math.MaxInt64}, {2, math.MaxInt64}, {math.MaxInt64, 0},
	}
	for who := range int64(2) {
		for _, s := range bad {
			checkNoTrap(t, "no set", a, who, s)
			checkNothing(t, "no set", a, who, s, s)
			for _, other := range append(good, countTo(5)) {
				checkNothing(t, "in is no set", a, who, s, other)
				checkNothing(t, "the goal is no set", a, who, other, s)
			}
		}
		checkNothing(t, "vertex 256", ringArena(impl.MaxV), who, ints{0, 256}, ints{0})
		checkNothing(t, "vertex 256", ringArena(impl.MaxV), who, ints{0}, ints{256})
		checkNoTrap(t, "vertex 256", ringArena(impl.MaxV), who, countTo(257))
	}
}

// TestAttractKeepsMemory calls every function of the chapter with valid and invalid arguments.
func TestAttractKeepsMemory(t *testing.T) {
	d := dice(34)
	arenas := []impl.Arena{example1(), widestArena(), ringArena(impl.MaxV), d.arena(9, 4), d.arena(256, 15)}
	for _, a := range badArenas() {
		arenas = append(arenas, a)
	}
	call := func(a impl.Arena, who int64, in ints, goal ints) {
		guardedCall(t, "RanksIn", impl.RanksIn, a, who, in, goal)
		guardedCall(t, "Attract", impl.Attract, a, who, in, goal)
		guardedCall(t, "PullIn", impl.PullIn, a, who, in, goal)
	}
	for _, a := range arenas {
		all := countTo(int64(len(a.Owner)))
		for _, who := range wildInts {
			call(a, who, all, ints{0})
			guardedCall(t, "TrapIn", impl.TrapIn, a, who, all)
			guardedCall(t, "EscapesIn", impl.EscapesIn, a, who, ints{0})
		}
		for who := range int64(2) {
			for _, s := range wildLists() {
				call(a, who, s, s)
				call(a, who, all, s)
				call(a, who, s, ints{0})
				guardedCall(t, "TrapIn", impl.TrapIn, a, who, s)
				guardedCall(t, "EscapesIn", impl.EscapesIn, a, who, s)
			}
		}
	}
}
