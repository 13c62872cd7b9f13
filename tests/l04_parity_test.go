package tests

import (
	"math"
	"slices"
	"testing"

	"loop.example/g00869/impl"
)

// example4 returns the game g of chapter 4.
func example4() impl.Parity {
	return impl.Parity{Arena: example1(), Prio: ints{5, 2, 3, 2, 8}}
}

// withPrios returns the game of chapter 4 with other priorities.
func withPrios(prios ...int64) impl.Parity { return impl.Parity{Arena: example1(), Prio: prios} }

// steppedGame returns the longest ring with the priorities 0, ..., k-1, repeated.
func steppedGame(k int64) impl.Parity {
	g := impl.Parity{Arena: ringArena(impl.MaxV)}
	for v := range int64(impl.MaxV) {
		g.Prio = append(g.Prio, v%k)
	}
	return g
}

// game returns a valid game on a random arena; its priorities are from low to low+k-1.
func (d *dice) game(n int64, out int64, low int64, k int64) impl.Parity {
	g := impl.Parity{Arena: d.arena(n, out)}
	for range n {
		g.Prio = append(g.Prio, low+d.below(k))
	}
	return g
}

// anyGame returns a game in which the priorities are close together or far apart, but not MaxPrio.
func (d *dice) anyGame(n int64, out int64) impl.Parity {
	k := 1 + d.below(impl.MaxPrio)
	if d.below(2) == 0 {
		k = 1 + d.below(6)
	}
	return d.game(n, out, d.below(1+impl.MaxPrio-k), k)
}

// badGames returns games that are not valid, by what is wrong with them.
func badGames() map[string]impl.Parity {
	games := map[string]impl.Parity{
		"the zero game":        {},
		"no arena":             {Prio: ints{5, 2, 3, 2, 8}},
		"priority 41":          withPrios(5, 2, 3, 2, 41),
		"priority 41 at first": withPrios(41, 2, 3, 2, 8),
		"priority -1":          withPrios(5, -1, 3, 2, 8),
		"far above":            withPrios(5, 2, math.MaxInt64, 2, 8),
		"far below":            withPrios(5, 2, 3, math.MinInt64, 8),
		"a priority missing":   withPrios(5, 2, 3, 2),
		"a priority more":      withPrios(5, 2, 3, 2, 8, 0),
		"nil priorities":       withPrios(),
		"empty priorities":     withPrios(ints{}...),
		"too many priorities":  withPrios(make(ints, 100000)...),
		"41 in a long ring":    steppedGame(impl.MaxPrio + 2),
	}
	for name, a := range badArenas() {
		games[name] = impl.Parity{Arena: a, Prio: make(ints, len(a.Owner))}
		games[name+", priorities for the successors"] = impl.Parity{Arena: a, Prio: make(ints, len(a.Next))}
	}
	return games
}

// isZeroGame reports whether g is the zero Parity.
func isZeroGame(g impl.Parity) bool { return len(g.Owner)+len(g.Next)+len(g.Prio) == 0 }

func TestParityOk(t *testing.T) {
	good := map[string]impl.Parity{
		"the example":       example4(),
		"one vertex":        {Arena: impl.Arena{Owner: ints{1}, Next: sets{{0}}}, Prio: ints{40}},
		"priority 40":       withPrios(40, 2, 3, 2, 40),
		"priority 0":        withPrios(0, 0, 0, 0, 0),
		"both limits":       withPrios(0, 1, 39, 40, 20),
		"all priorities":    steppedGame(impl.MaxPrio + 1),
		"the widest arena":  {Arena: widestArena(), Prio: make(ints, impl.MaxV)},
		"spare slice space": {Arena: example1(), Prio: ints{5, 2, 3, 2, 8, 41}[:5]},
	}
	for name, g := range good {
		if !impl.ParityOk(g) || !impl.SameParity(g, g) {
			t.Errorf("%s: not accepted", name)
		}
	}
	for name, g := range badGames() {
		if impl.ParityOk(g) {
			t.Errorf("%s: accepted", name)
		}
	}
}

func TestBadGames(t *testing.T) {
	for name, g := range badGames() {
		if impl.SameParity(g, g) || impl.SameParity(g, example4()) || impl.SameParity(example4(), g) {
			t.Errorf("%s: SameParity", name)
		}
		if x, is := impl.Flipped(g); is || !isZeroGame(x) {
			t.Errorf("%s: Flipped returns %v, %v", name, x, is)
		}
		if x := impl.Pressed(g); !isZeroGame(x) {
			t.Errorf("%s: Pressed returns %v", name, x)
		}
		for _, in := range (sets{nil, {}, {0}, {2}, {0, 1, 2}, countTo(5)}) {
			checkNoPart(t, name, g, in)
		}
	}
}

// checkNoPart checks that the functions that take a set of vertices reject the arguments.
func checkNoPart(t *testing.T, name string, g impl.Parity, in ints) {
	t.Helper()
	if got := impl.TopIn(g, in); got != -1 {
		t.Errorf("%s: TopIn(%v) returns %d", name, in, got)
	}
	for p := int64(-1); p <= 8; p++ {
		if got := impl.WithPrio(g, in, p); len(got) != 0 {
			t.Errorf("%s: WithPrio(%v, %d) returns %v", name, in, p, got)
		}
	}
	if got := impl.PriosIn(g, in); len(got) != 0 {
		t.Errorf("%s: PriosIn(%v) returns %v", name, in, got)
	}
	if x, is := impl.SubgameOf(g, in); is || !isZeroGame(x) {
		t.Errorf("%s: SubgameOf(%v) returns %v, %v", name, in, x, is)
	}
}

func TestPartsOfGamesReject(t *testing.T) {
	bad := sets{
		{5}, {0, 5}, {-1}, {-1, 0}, {1, 0}, {0, 0}, {0, 1, 1}, {2, 1, 3}, {0, 2, 1}, countTo(6), countTo(257), make(ints, 5),
		make(ints, 300), {math.MinInt64}, {math.MinInt64, 2}, {math.MaxInt64}, {2, math.MaxInt64}, {math.MaxInt64, 0},
	}
	for _, in := range bad {
		checkNoPart(t, "the example", example4(), in)
	}
	checkNoPart(t, "vertex 256", steppedGame(2), ints{256})
	checkNoPart(t, "257 vertices", steppedGame(2), countTo(257))
	checkNoPart(t, "no vertices", example4(), nil)
	checkNoPart(t, "empty", example4(), ints{})
}

func TestSameParity(t *testing.T) {
	if !impl.SameParity(example4(), example4()) || !impl.SameParity(steppedGame(41), steppedGame(41)) {
		t.Error("equal games differ")
	}
	turned := impl.Parity{Arena: impl.Turned(example1()), Prio: example4().Prio}
	others := map[string]impl.Parity{
		"first priority": withPrios(4, 2, 3, 2, 8),
		"last priority":  withPrios(5, 2, 3, 2, 7),
		"exchanged":      withPrios(5, 3, 2, 2, 8),
		"the owners":     turned,
		"an edge":        {Arena: changed(func(a *impl.Arena) { a.Next[4] = ints{2} }), Prio: example4().Prio},
		"vertex less":    {Arena: impl.Arena{Owner: ints{0, 1, 1, 0}, Next: sets{{1, 2}, {0, 3}, {2}, {1}}}, Prio: ints{5, 2, 3, 2}},
	}
	for name, g := range others {
		if !impl.ParityOk(g) || impl.SameParity(g, example4()) || impl.SameParity(example4(), g) {
			t.Errorf("%s: the same", name)
		}
	}
}

func TestPrioritiesOfSets(t *testing.T) {
	g := example4()
	for _, c := range []struct {
		in, prios ints
		top       int64
	}{
		{ints{0, 1, 2}, ints{2, 3, 5}, 5},
		{ints{0, 1, 3, 4}, ints{2, 5, 8}, 8},
		{ints{1, 3}, ints{2}, 2},
		{ints{2}, ints{3}, 3},
		{ints{1, 2, 3}, ints{2, 3}, 3},
		{countTo(5), ints{2, 3, 5, 8}, 8},
		{nil, nil, -1},
		{ints{}, nil, -1},
	} {
		if got := impl.TopIn(g, c.in); got != c.top {
			t.Errorf("TopIn(%v) returns %d", c.in, got)
		}
		if got := impl.PriosIn(g, c.in); !sameList(got, c.prios) {
			t.Errorf("PriosIn(%v) returns %v", c.in, got)
		}
	}
	for _, c := range []struct {
		in   ints
		p    int64
		want ints
	}{
		{ints{0, 1, 3}, 2, ints{1, 3}}, {ints{0, 1}, 2, ints{1}}, {ints{0, 4}, 2, nil}, {countTo(5), 8, ints{4}},
		{countTo(5), 7, nil}, {countTo(5), -1, nil}, {countTo(5), 41, nil}, {countTo(5), math.MinInt64, nil}, {nil, 2, nil},
	} {
		if got := impl.WithPrio(g, c.in, c.p); !sameList(got, c.want) {
			t.Errorf("WithPrio(%v, %d) returns %v", c.in, c.p, got)
		}
	}
	if zeros := withPrios(0, 0, 0, 0, 0); impl.TopIn(zeros, ints{3}) != 0 || !sameList(impl.WithPrio(zeros, countTo(5), 0), countTo(5)) {
		t.Error("the priority 0")
	}
	longest := steppedGame(41)
	if impl.TopIn(longest, countTo(256)) != 40 || !sameList(impl.PriosIn(longest, countTo(256)), countTo(41)) {
		t.Error("the longest ring")
	}
	if got := impl.WithPrio(longest, countTo(256), 40); !sameList(got, ints{40, 81, 122, 163, 204, 245}) {
		t.Errorf("WithPrio of the longest ring returns %v", got)
	}
}

func TestPrioritiesByDefinition(t *testing.T) {
	d := dice(40)
	for range 500 {
		g := d.anyGame(1+d.below(30), 3)
		in := d.subset(int64(len(g.Prio)), 1+d.below(3))
		var prios ints
		for p := int64(-1); p <= impl.MaxPrio+1; p++ {
			var want ints
			for _, v := range in {
				if g.Prio[v] == p {
					want = append(want, v)
				}
			}
			if len(want) > 0 {
				prios = append(prios, p)
			}
			if got := impl.WithPrio(g, in, p); !sameList(got, want) {
				t.Fatalf("WithPrio(%v, %v, %d) returns %v", g, in, p, got)
			}
		}
		if got := impl.PriosIn(g, in); !sameList(got, prios) {
			t.Fatalf("PriosIn(%v, %v) returns %v", g, in, got)
		}
		if got := impl.TopIn(g, in); got != slices.Max(append(prios, -1)) {
			t.Fatalf("TopIn(%v, %v) returns %d", g, in, got)
		}
	}
}

func TestFlipped(t *testing.T) {
	got, is := impl.Flipped(example4())
	if !is || !sameList(got.Prio, ints{6, 3, 4, 3, 9}) || !impl.SameArena(got.Arena, impl.Turned(example1())) {
		t.Errorf("Flipped returns %v, %v", got, is)
	}
	got, is = impl.Flipped(withPrios(39, 0, 39, 1, 38))
	if !is || !sameList(got.Prio, ints{40, 1, 40, 2, 39}) || !impl.ParityOk(got) {
		t.Errorf("Flipped with the priority 39 returns %v, %v", got, is)
	}
	for v := range 5 {
		g := withPrios(39, 0, 39, 1, 38)
		g.Prio[v] = impl.MaxPrio
		if got, is := impl.Flipped(g); is || !isZeroGame(got) {
			t.Errorf("Flipped with the priority 40 at %d returns %v, %v", v, got, is)
		}
	}
	if got, is := impl.Flipped(steppedGame(41)); is || !isZeroGame(got) {
		t.Error("Flipped of the longest ring with all priorities succeeds")
	}
	if got, is := impl.Flipped(steppedGame(40)); !is || impl.TopIn(got, countTo(256)) != 40 || got.Prio[0] != 1 || got.Owner[0] != 1 {
		t.Error("Flipped of the longest ring fails")
	}
}

// pressedPrios returns what the document says of compressed priorities.
func pressedPrios(prios ints) ints {
	becomes := map[int64]int64{}
	before := int64(-1)
	for p := range int64(impl.MaxPrio + 1) {
		if !slices.Contains(prios, p) {
			continue
		}
		switch {
		case before < 0:
			becomes[p] = p % 2
		case p%2 == before%2:
			becomes[p] = becomes[before]
		default:
			becomes[p] = becomes[before] + 1
		}
		before = p
	}
	var list ints
	for _, p := range prios {
		list = append(list, becomes[p])
	}
	return list
}

func TestPressed(t *testing.T) {
	for _, c := range []struct{ prios, want ints }{
		{ints{5, 2, 3, 2, 8}, ints{1, 0, 1, 0, 2}},
		{ints{7, 3, 4, 9, 4}, ints{3, 1, 2, 3, 2}},
		{ints{0, 0, 0, 0, 0}, ints{0, 0, 0, 0, 0}},
		{ints{1, 1, 1, 1, 1}, ints{1, 1, 1, 1, 1}},
		{ints{40, 40, 40, 40, 40}, ints{0, 0, 0, 0, 0}},
		{ints{39, 39, 39, 39, 39}, ints{1, 1, 1, 1, 1}},
		{ints{39, 40, 39, 40, 39}, ints{1, 2, 1, 2, 1}},
		{ints{40, 0, 39, 1, 20}, ints{4, 0, 3, 1, 2}},
		{ints{0, 2, 4, 6, 40}, ints{0, 0, 0, 0, 0}},
		{ints{1, 3, 5, 39, 40}, ints{1, 1, 1, 1, 2}},
		{ints{0, 1, 2, 3, 4}, ints{0, 1, 2, 3, 4}},
		{ints{6, 5, 4, 3, 2}, ints{4, 3, 2, 1, 0}},
		{ints{0, 2, 3, 5, 6}, ints{0, 0, 1, 1, 2}},
	} {
		got := impl.Pressed(withPrios(c.prios...))
		if !sameList(got.Prio, c.want) || !impl.SameArena(got.Arena, example1()) {
			t.Errorf("Pressed with the priorities %v returns %v", c.prios, got)
		}
	}
	if all := steppedGame(41); !impl.SameParity(impl.Pressed(all), all) {
		t.Error("Pressed with all priorities changes the game")
	}
	d := dice(41)
	fewer := 0
	for range 500 {
		g := d.anyGame(1+d.below(40), 3)
		got := impl.Pressed(g)
		if !sameList(got.Prio, pressedPrios(g.Prio)) || !impl.SameArena(got.Arena, g.Arena) {
			t.Fatalf("Pressed(%v) returns %v", g, got)
		}
		if !impl.SameParity(impl.Pressed(got), got) {
			t.Fatalf("Pressed(%v) can be compressed again: %v", g, got)
		}
		if slices.Max(got.Prio) < slices.Max(g.Prio)-1 {
			fewer++
		}
	}
	if fewer < 100 {
		t.Errorf("only %d games with much smaller priorities", fewer)
	}
}

// TestTopsOfChangedGames checks P4 for each play: the winner of a play is told by the greatest
// priority of a set of vertices, whichever these are.
func TestTopsOfChangedGames(t *testing.T) {
	d := dice(42)
	for range 300 {
		g := d.anyGame(1+d.below(impl.MaxV), 3)
		pressed := impl.Pressed(g)
		flipped, is := impl.Flipped(g)
		if !is {
			t.Fatalf("%v is not flipped", g)
		}
		for range 20 {
			in := d.subset(int64(len(g.Prio)), 1+d.below(40))
			top := impl.TopIn(g, in)
			if len(in) == 0 {
				continue
			}
			if impl.TopIn(pressed, in)%2 != top%2 || impl.TopIn(flipped, in) != top+1 {
				t.Fatalf("the vertices %v of %v have other tops in %v or %v", in, g, pressed, flipped)
			}
		}
		for v, owner := range g.Owner {
			if pressed.Owner[v] != owner || flipped.Owner[v] != 1-owner || !sameList(pressed.Next[v], g.Next[v]) || !sameList(flipped.Next[v], g.Next[v]) {
				t.Fatalf("vertex %d of %v has another owner or other successors in %v or %v", v, g, pressed, flipped)
			}
		}
	}
}

// playWinner returns the winner of the play from v in which each player follows a plan.
func playWinner(g impl.Parity, mine ints, yours ints, v int64) int64 {
	step := func() { v = max(mine[v], yours[v]) }
	for range g.Prio {
		step()
	}
	// By now the play is on its loop, which another round of as many steps covers.
	top := int64(0)
	for range g.Prio {
		step()
		top = max(top, g.Prio[v])
	}
	return top % 2
}

// wonByPlans returns the vertices from which a plan of who wins against every plan of the opponent.
func wonByPlans(g impl.Parity, who int64) ints {
	all := countTo(int64(len(g.Prio)))
	q := attraction{g.Arena, who, all, nil}
	var won ints
	q.plans(who, func(mine ints) {
		left := slices.Clone(all)
		q.plans(1-who, func(yours ints) {
			left = slices.DeleteFunc(left, func(v int64) bool { return playWinner(g, mine, yours, v) != who })
		})
		won = impl.BothOf(won, left)
	})
	return won
}

// TestWinnersOfChangedGames plays every plan against every other one in the game, the compressed
// game and the dual game.
func TestWinnersOfChangedGames(t *testing.T) {
	d := dice(43)
	mixed := 0
	for range 600 {
		g := d.anyGame(1+d.below(6), 3)
		pressed := impl.Pressed(g)
		flipped, is := impl.Flipped(g)
		if !is {
			t.Fatalf("%v is not flipped", g)
		}
		even, odd := wonByPlans(g, 0), wonByPlans(g, 1)
		if len(even)+len(odd) != len(g.Prio) || len(impl.MeetOf(even, odd)) != 0 {
			t.Fatalf("%v is won from %v and %v", g, even, odd)
		}
		if !sameList(wonByPlans(pressed, 0), even) || !sameList(wonByPlans(pressed, 1), odd) {
			t.Fatalf("Pressed(%v) returns %v, which has other winners", g, pressed)
		}
		if !sameList(wonByPlans(flipped, 1), even) || !sameList(wonByPlans(flipped, 0), odd) {
			t.Fatalf("Flipped(%v) returns %v, in which the winners are not exchanged", g, flipped)
		}
		if len(even) > 0 && len(odd) > 0 && !impl.SameParity(pressed, g) {
			mixed++
		}
	}
	if mixed < 100 {
		t.Errorf("only %d games have two winners", mixed)
	}
}

func TestSubgameOf(t *testing.T) {
	got, is := impl.SubgameOf(example4(), ints{1, 3, 4})
	want := impl.Parity{Arena: impl.Arena{Owner: ints{1, 0, 1}, Next: sets{{1}, {0, 2}, {1}}}, Prio: ints{2, 2, 8}}
	if !is || !impl.SameParity(got, want) {
		t.Errorf("SubgameOf returns %v, %v", got, is)
	}
	for _, set := range (sets{nil, {}, {0}, {0, 3}, {1, 2}, {0, 1, 4}}) {
		if got, is := impl.SubgameOf(example4(), set); is || !isZeroGame(got) {
			t.Errorf("SubgameOf(%v) returns %v, %v", set, got, is)
		}
	}
	if got, is := impl.SubgameOf(steppedGame(41), countTo(256)); !is || !impl.SameParity(got, steppedGame(41)) {
		t.Error("SubgameOf with all vertices is not the game")
	}
	d := dice(44)
	done := 0
	for range 500 {
		g := d.anyGame(1+d.below(12), 4)
		set := d.subset(int64(len(g.Prio)), 2)
		inside, inner := impl.InsideOf(g.Arena, set)
		got, is := impl.SubgameOf(g, set)
		if is != inner || is != impl.ParityOk(got) || !is && !isZeroGame(got) {
			t.Fatalf("SubgameOf(%v, %v) returns %v, %v", g, set, got, is)
		}
		if !is {
			continue
		}
		done++
		if !impl.SameArena(got.Arena, inside) || len(got.Prio) != len(set) {
			t.Fatalf("SubgameOf(%v, %v) returns %v", g, set, got)
		}
		for i, v := range set {
			if got.Prio[i] != g.Prio[v] {
				t.Fatalf("SubgameOf(%v, %v) has the priorities %v", g, set, got.Prio)
			}
		}
	}
	if done < 100 {
		t.Errorf("only %d subgames", done)
	}
}

// TestGamesKeepMemory calls every function of the chapter with valid and invalid arguments.
func TestGamesKeepMemory(t *testing.T) {
	d := dice(45)
	games := []impl.Parity{example4(), steppedGame(41), steppedGame(40), {Arena: widestArena(), Prio: make(ints, 256)}, d.anyGame(9, 4), d.anyGame(256, 15)}
	for _, g := range badGames() {
		games = append(games, g)
	}
	for _, g := range games {
		guardedCall(t, "ParityOk", impl.ParityOk, g)
		guardedCall(t, "SameParity", impl.SameParity, g, g)
		guardedCall(t, "SameParity", impl.SameParity, g, example4())
		guardedCall(t, "SameParity", impl.SameParity, example4(), g)
		guardedCall(t, "Flipped", impl.Flipped, g)
		guardedCall(t, "Pressed", impl.Pressed, g)
		for _, p := range wildInts {
			guardedCall(t, "WithPrio", impl.WithPrio, g, ints{0}, p)
		}
		for _, in := range wildLists() {
			guardedCall(t, "TopIn", impl.TopIn, g, in)
			guardedCall(t, "WithPrio", impl.WithPrio, g, in, int64(2))
			guardedCall(t, "PriosIn", impl.PriosIn, g, in)
			guardedCall(t, "SubgameOf", impl.SubgameOf, g, in)
		}
	}
}
