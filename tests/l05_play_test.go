package tests

import (
	"math"
	"slices"
	"testing"

	"loop.example/g00869/impl"
)

// even5 and odd5 return the plans of chapter 5; the arena is that of chapter 1.
func even5() ints { return ints{1, -1, -1, 4, -1} }
func odd5() ints  { return ints{-1, 3, 2, -1, 3} }

// noMoves returns the plan without any successor.
func noMoves(n int64) ints { return slices.Repeat(ints{-1}, int(n)) }

// plan returns a plan of who; a vertex of who has no successor in it with the odds of 1 to k, and
// never if k is 0.
func (d *dice) plan(a impl.Arena, who int64, k int64) ints {
	plan := noMoves(int64(len(a.Owner)))
	for v, next := range a.Next {
		if a.Owner[v] == who && (k == 0 || d.below(k) > 0) {
			plan[v] = next[d.below(int64(len(next)))]
		}
	}
	return plan
}

// isZeroArena and isZeroLasso report whether a value is the zero value.
func isZeroArena(a impl.Arena) bool { return len(a.Owner)+len(a.Next) == 0 }
func isZeroLasso(l impl.Lasso) bool { return len(l.Stem)+len(l.Loop) == 0 }

// listsUpTo calls use with every list of n numbers from low to high.
func listsUpTo(n int64, low int64, high int64, use func(list ints)) {
	list := slices.Repeat(ints{low}, int(n))
	for {
		use(list)
		i := len(list) - 1
		for ; i >= 0 && list[i] == high; i-- {
			list[i] = low
		}
		if i < 0 {
			return
		}
		list[i]++
	}
}

// planKind says what the document says of a list: whether it is a plan of who, and a full one.
func planKind(a impl.Arena, who int64, list ints) (is bool, full bool) {
	is, full = len(list) == len(a.Owner), len(list) == len(a.Owner)
	for v := range min(len(list), len(a.Owner)) {
		successor := impl.EdgeIn(a, int64(v), list[v])
		mine := a.Owner[v] == who
		is = is && (list[v] == -1 || mine && successor)
		full = full && (mine && successor || !mine && list[v] == -1)
	}
	return is, full
}

// checkPlan compares PlanOk, FullIn and FixedBy with the document.
func checkPlan(t *testing.T, a impl.Arena, who int64, list ints) {
	t.Helper()
	is, full := planKind(a, who, list)
	if impl.PlanOk(a, who, list) != is || impl.FullIn(a, who, list) != full {
		t.Fatalf("PlanOk(%v, %d, %v) is not %v or FullIn is not %v", a, who, list, is, full)
	}
	fixed, got := impl.FixedBy(a, who, list)
	if got != is || got != impl.ArenaOk(fixed) || !got && !isZeroArena(fixed) {
		t.Fatalf("FixedBy(%v, %d, %v) returns %v, %v", a, who, list, fixed, got)
	}
	if !is {
		return
	}
	want := sets{}
	for v, next := range a.Next {
		if list[v] >= 0 {
			next = ints{list[v]}
		}
		want = append(want, next)
	}
	if !sameList(fixed.Owner, a.Owner) || !sameLists(fixed.Next, want) {
		t.Fatalf("FixedBy(%v, %d, %v) returns %v", a, who, list, fixed)
	}
}

// checkNoPlan checks that a list is not taken for a plan, whatever else is valid.
func checkNoPlan(t *testing.T, what string, a impl.Arena, who int64, list ints) {
	t.Helper()
	if impl.PlanOk(a, who, list) || impl.FullIn(a, who, list) {
		t.Errorf("%s: PlanOk or FullIn", what)
	}
	if x, is := impl.FixedBy(a, who, list); is || !isZeroArena(x) {
		t.Errorf("%s: FixedBy returns %v, %v", what, x, is)
	}
}

// checkNoPlay checks that PlayOf rejects the arguments.
func checkNoPlay(t *testing.T, what string, a impl.Arena, even ints, odd ints, v int64) {
	t.Helper()
	if x, is := impl.PlayOf(a, even, odd, v); is || !isZeroLasso(x) {
		t.Errorf("%s: PlayOf returns %v, %v", what, x, is)
	}
}

func TestPlanExamples(t *testing.T) {
	a := example1()
	if !impl.PlanOk(a, 0, even5()) || impl.PlanOk(a, 1, even5()) || !impl.PlanOk(a, 1, odd5()) || impl.PlanOk(a, 0, odd5()) {
		t.Error("PlanOk for the plans of the chapter")
	}
	if !impl.FullIn(a, 0, even5()) || impl.FullIn(a, 1, even5()) || !impl.FullIn(a, 1, odd5()) || impl.FullIn(a, 0, odd5()) {
		t.Error("FullIn for the plans of the chapter")
	}
	if impl.FullIn(a, 0, ints{1, -1, -1, -1, -1}) || !impl.PlanOk(a, 0, ints{1, -1, -1, -1, -1}) {
		t.Error("a plan that is not full")
	}
	for who := range int64(2) {
		checkPlan(t, a, who, even5())
		checkPlan(t, a, who, odd5())
		checkPlan(t, a, who, noMoves(5))
		if impl.FullIn(a, who, noMoves(5)) {
			t.Errorf("no moves are a full plan of %d", who)
		}
	}
	// A player without a vertex has one plan, and it is full.
	lone := impl.Arena{Owner: ints{1}, Next: sets{{0}}}
	if !impl.FullIn(lone, 0, ints{-1}) || impl.FullIn(lone, 1, ints{-1}) || !impl.FullIn(lone, 1, ints{0}) || impl.PlanOk(lone, 0, ints{0}) {
		t.Error("a player without a vertex")
	}
	if got := impl.LeastFull(lone, 0); !sameList(got, ints{-1}) {
		t.Errorf("LeastFull without a vertex returns %v", got)
	}
}

// TestPlansByDefinition tries all lists for small arenas, and random plans for greater ones.
func TestPlansByDefinition(t *testing.T) {
	d := dice(50)
	for who := range int64(2) {
		listsUpTo(5, -2, 5, func(list ints) { checkPlan(t, example1(), who, list) })
		for range 20 {
			a := d.arena(1+d.below(3), 3)
			for n := range int64(len(a.Owner) + 2) {
				listsUpTo(n, -2, 4, func(list ints) { checkPlan(t, a, who, list) })
			}
		}
	}
	for range 500 {
		a := d.arena(1+d.below(256), 15)
		who := d.below(2)
		plan := d.plan(a, who, d.below(4))
		checkPlan(t, a, who, plan)
		plan[d.below(int64(len(plan)))] = d.below(258) - 1
		checkPlan(t, a, who, plan)
	}
}

func TestPlansRejected(t *testing.T) {
	for _, who := range wildInts {
		if who == 0 || who == 1 {
			continue
		}
		for _, plan := range (sets{even5(), odd5(), noMoves(5), {1, 3, 2, 4, 3}, nil}) {
			checkNoPlan(t, "a wrong player", example1(), who, plan)
		}
		if got := impl.LeastFull(example1(), who); len(got) != 0 {
			t.Errorf("LeastFull for the player %d returns %v", who, got)
		}
	}
	for what, list := range map[string]ints{
		"nothing":                    nil,
		"an empty list":              {},
		"an entry missing":           {1, -1, -1, 4},
		"an entry more":              {1, -1, -1, 4, -1, -1},
		"a vertex more":              {1, -1, -1, 4, -1, 0},
		"a vertex not a successor":   {3, -1, -1, 4, -1},
		"a move of the opponent":     {1, 0, -1, 4, -1},
		"the last move of another":   {1, -1, -1, 4, 3},
		"the entry -2":               {1, -1, -1, -2, -1},
		"the entry -2 of another":    {1, -2, -1, 4, -1},
		"the entry 5":                {5, -1, -1, 4, -1},
		"an entry far above":         {math.MaxInt64, -1, -1, 4, -1},
		"an entry far below":         {1, -1, -1, math.MinInt64, -1},
		"an entry far below at last": {1, -1, -1, 4, math.MinInt64},
		"zeros":                      make(ints, 5),
		"a long list":                make(ints, 100000),
	} {
		checkNoPlan(t, what, example1(), 0, list)
		checkNoPlay(t, what+" as even", example1(), list, odd5(), 0)
		checkNoPlay(t, what+" as odd", impl.Turned(example1()), odd5(), list, 0)
	}
	for what, a := range badArenas() {
		n := int64(len(a.Owner))
		for who := range int64(2) {
			for _, list := range (sets{even5(), odd5(), nil, make(ints, n), noMoves(n), noMoves(5)}) {
				checkNoPlan(t, what, a, who, list)
				checkNoPlay(t, what, a, list, list, 0)
			}
			if got := impl.LeastFull(a, who); len(got) != 0 {
				t.Errorf("%s: LeastFull returns %v", what, got)
			}
		}
		checkNoPlay(t, what, a, even5(), odd5(), 0)
	}
}

func TestLeastFull(t *testing.T) {
	a := example1()
	if got := impl.LeastFull(a, 0); !sameList(got, ints{1, -1, -1, 1, -1}) {
		t.Errorf("LeastFull for 0 returns %v", got)
	}
	if got := impl.LeastFull(a, 1); !sameList(got, ints{-1, 0, 2, -1, 3}) {
		t.Errorf("LeastFull for 1 returns %v", got)
	}
	d := dice(51)
	for range 300 {
		a, who := d.arena(1+d.below(256), 15), d.below(2)
		got := impl.LeastFull(a, who)
		if !impl.FullIn(a, who, got) {
			t.Fatalf("LeastFull(%v, %d) returns %v", a, who, got)
		}
		for v, u := range got {
			for _, other := range a.Next[v] {
				if other < u {
					t.Fatalf("LeastFull(%v, %d) returns %v, but %d has a smaller successor", a, who, got, v)
				}
			}
		}
	}
}

// isPlay says what the document says of a play, edge by edge.
func isPlay(a impl.Arena, l impl.Lasso) bool {
	if len(l.Stem) > 256 || len(l.Loop) < 1 || len(l.Loop) > 256 {
		return false
	}
	for i := 1; i < len(l.Stem); i++ {
		if !impl.EdgeIn(a, l.Stem[i-1], l.Stem[i]) {
			return false
		}
	}
	if len(l.Stem) > 0 && !impl.EdgeIn(a, l.Stem[len(l.Stem)-1], l.Loop[0]) {
		return false
	}
	for i := range l.Loop {
		if !impl.EdgeIn(a, l.Loop[i], l.Loop[(i+1)%len(l.Loop)]) {
			return false
		}
	}
	return true
}

func TestLassoOk(t *testing.T) {
	a := example1()
	twos := slices.Repeat(ints{2}, 256)
	pairs := slices.Repeat(ints{3, 4}, 128)
	for what, l := range map[string]impl.Lasso{
		"the play of the plans":   {Stem: ints{0, 1}, Loop: ints{3, 4}},
		"no stem":                 {Loop: ints{3, 4}},
		"an empty stem":           {Stem: ints{}, Loop: ints{2}},
		"a repeated loop":         {Loop: ints{2, 2, 2}},
		"loop begins in the stem": {Stem: ints{0, 2, 2}, Loop: ints{2}},
		"a repeated stem":         {Stem: ints{1, 0, 1, 0, 1}, Loop: ints{0, 1}},
		"a loop through a vertex": {Stem: ints{4}, Loop: ints{3, 4, 3, 1}},
		"a stem of 256":           {Stem: twos, Loop: ints{2}},
		"a loop of 256":           {Loop: pairs},
		"both of 256":             {Stem: pairs, Loop: pairs},
	} {
		if !impl.LassoOk(a, l) {
			t.Errorf("%s: rejected", what)
		}
	}
	for what, l := range map[string]impl.Lasso{
		"the zero Lasso":             {},
		"a stem only":                {Stem: ints{0, 2, 2}},
		"an empty loop":              {Stem: ints{3, 4}, Loop: ints{}},
		"no edge to itself":          {Loop: ints{0}},
		"no edge in the stem":        {Stem: ints{0, 4}, Loop: ints{3, 4}},
		"no edge to the loop":        {Stem: ints{0}, Loop: ints{3, 4}},
		"no edge from end to begin":  {Stem: ints{0}, Loop: ints{1, 3, 4}},
		"no edge in the loop":        {Loop: ints{3, 1, 4}},
		"an edge backwards":          {Stem: ints{2, 0}, Loop: ints{1, 0}},
		"no vertex in the loop":      {Loop: ints{5}},
		"no vertex in the stem":      {Stem: ints{5}, Loop: ints{2}},
		"no vertex at last":          {Stem: ints{0, 5}, Loop: ints{2}},
		"-1 in the loop":             {Loop: ints{-1}},
		"-1 in the stem":             {Stem: ints{-1}, Loop: ints{2}},
		"a vertex far below":         {Stem: ints{math.MinInt64}, Loop: ints{2}},
		"a vertex far above":         {Loop: ints{2, math.MaxInt64}},
		"a stem of 257":              {Stem: append(slices.Clone(twos), 2), Loop: ints{2}},
		"a loop of 257":              {Loop: append(slices.Clone(twos), 2)},
		"a loop of 258":              {Loop: append(slices.Clone(pairs), 3, 4)},
		"a long stem":                {Stem: slices.Repeat(ints{2}, 100000), Loop: ints{2}},
		"a long loop":                {Loop: slices.Repeat(ints{2}, 100000)},
		"no edge after 256 vertices": {Loop: append(ints{0}, twos[:255]...)},
	} {
		if impl.LassoOk(a, l) || impl.PlayWon(example4(), l) != -1 {
			t.Errorf("%s: accepted", what)
		}
	}
	for what, b := range badArenas() {
		for _, l := range []impl.Lasso{{Stem: ints{0, 1}, Loop: ints{3, 4}}, {Loop: ints{0}}, {Loop: ints{2}}, {Loop: ints{0, 1}}, {}} {
			if impl.LassoOk(b, l) {
				t.Errorf("%s: LassoOk accepts %v", what, l)
			}
		}
	}
}

// topOf returns the greatest priority of a list of vertices that may contain some of them twice.
func topOf(g impl.Parity, list ints) int64 {
	top := int64(-1)
	for _, v := range list {
		top = max(top, g.Prio[v])
	}
	return top
}

// TestLassosByDefinition tries all short plays of the example, and all of small arenas.
func TestLassosByDefinition(t *testing.T) {
	d := dice(52)
	plays := 0
	check := func(g impl.Parity, l impl.Lasso) {
		want := isPlay(g.Arena, l)
		if got := impl.LassoOk(g.Arena, l); got != want {
			t.Fatalf("LassoOk(%v, %v) returns %v", g.Arena, l, got)
		}
		winner := int64(-1)
		if want {
			winner = topOf(g, l.Loop) % 2
			plays++
		}
		if got := impl.PlayWon(g, l); got != winner {
			t.Fatalf("PlayWon(%v, %v) returns %d", g, l, got)
		}
	}
	for stem := range int64(3) {
		for loop := range int64(4) {
			listsUpTo(stem+loop, -1, 5, func(list ints) { check(example4(), impl.Lasso{Stem: list[:stem], Loop: list[stem:]}) })
		}
	}
	for range 200 {
		g := d.anyGame(1+d.below(3), 3)
		listsUpTo(5, 0, 3, func(list ints) {
			stem := d.below(6)
			check(g, impl.Lasso{Stem: list[:stem], Loop: list[stem:]})
		})
	}
	if plays < 1000 {
		t.Errorf("only %d plays", plays)
	}
}

func TestPlayWon(t *testing.T) {
	l := impl.Lasso{Stem: ints{0, 1}, Loop: ints{3, 4}}
	for _, c := range []struct {
		prios ints
		l     impl.Lasso
		want  int64
	}{
		{ints{9, 9, 4, 2, 3}, l, 1},
		{ints{9, 9, 4, 3, 2}, l, 1},
		{ints{9, 9, 4, 4, 3}, l, 0},
		{ints{40, 40, 40, 0, 0}, l, 0},
		{ints{40, 40, 40, 39, 39}, l, 1},
		{ints{39, 39, 39, 40, 39}, l, 0},
		{ints{9, 9, 4, 2, 3}, impl.Lasso{Stem: ints{0}, Loop: ints{2}}, 0},
		{ints{9, 9, 4, 2, 3}, impl.Lasso{Loop: ints{4, 3, 4, 3, 1, 3}}, 1},
		{ints{9, 10, 4, 2, 3}, impl.Lasso{Loop: ints{4, 3, 4, 3, 1, 3}}, 0},
		{ints{0, 0, 1, 0, 0}, impl.Lasso{Loop: ints{2, 2}}, 1},
	} {
		if got := impl.PlayWon(withPrios(c.prios...), c.l); got != c.want {
			t.Errorf("PlayWon with %v and %v returns %d", c.prios, c.l, got)
		}
	}
	for what, g := range badGames() {
		for _, l := range []impl.Lasso{l, {Loop: ints{2}}, {Loop: ints{0}}, {}} {
			if got := impl.PlayWon(g, l); got != -1 {
				t.Errorf("%s: PlayWon returns %d", what, got)
			}
		}
	}
	ring := impl.Lasso{Loop: countTo(256)}
	if impl.PlayWon(steppedGame(41), ring) != 0 || impl.PlayWon(steppedGame(40), ring) != 1 {
		t.Error("PlayWon of the longest loop")
	}
}

func TestPlayExamples(t *testing.T) {
	a := example1()
	for _, c := range []struct {
		even, odd ints
		v         int64
		want      impl.Lasso
	}{
		{even5(), odd5(), 0, impl.Lasso{Stem: ints{0, 1}, Loop: ints{3, 4}}},
		{even5(), odd5(), 1, impl.Lasso{Stem: ints{1}, Loop: ints{3, 4}}},
		{even5(), odd5(), 2, impl.Lasso{Loop: ints{2}}},
		{even5(), odd5(), 3, impl.Lasso{Loop: ints{3, 4}}},
		{even5(), odd5(), 4, impl.Lasso{Loop: ints{4, 3}}},
		{ints{2, -1, -1, 1, -1}, ints{-1, 0, 2, -1, 3}, 4, impl.Lasso{Stem: ints{4, 3, 1, 0}, Loop: ints{2}}},
		{ints{1, -1, -1, 1, -1}, ints{-1, 0, 2, -1, 3}, 3, impl.Lasso{Stem: ints{3}, Loop: ints{1, 0}}},
	} {
		got, is := impl.PlayOf(a, c.even, c.odd, c.v)
		if !is || !sameList(got.Stem, c.want.Stem) || !sameList(got.Loop, c.want.Loop) {
			t.Errorf("PlayOf(%v, %v, %d) returns %v, %v", c.even, c.odd, c.v, got, is)
		}
	}
	for _, v := range append(slices.Clone(wildInts), 5) {
		if v < 0 || v > 4 {
			checkNoPlay(t, "no vertex", a, even5(), odd5(), v)
		}
	}
	checkNoPlay(t, "plans exchanged", a, odd5(), even5(), 0)
	checkNoPlay(t, "a plan twice", a, even5(), even5(), 3)
	checkNoPlay(t, "even not full", a, ints{1, -1, -1, -1, -1}, odd5(), 0)
	// The play would not come to the vertex without a successor.
	checkNoPlay(t, "odd not full elsewhere", a, even5(), ints{-1, 3, -1, -1, 3}, 0)
	checkNoPlay(t, "even not full elsewhere", a, ints{-1, -1, -1, 4, -1}, odd5(), 3)
	if f, is := impl.FixedBy(a, 0, ints{-1, -1, -1, 4, -1}); !is || !sameLists(f.Next, sets{{1, 2}, {0, 3}, {2}, {4}, {3}}) {
		t.Errorf("FixedBy returns %v, %v", f, is)
	}
}

// checkPlay checks the play of two full plans from v against one that is made step by step.
func checkPlay(t *testing.T, a impl.Arena, even ints, odd ints, v int64) impl.Lasso {
	t.Helper()
	l, is := impl.PlayOf(a, even, odd, v)
	path := slices.Concat(l.Stem, l.Loop)
	if !is || len(path) == 0 || len(path) > len(a.Owner) {
		t.Fatalf("PlayOf(%v, %v, %v, %d) returns %v, %v", a, even, odd, v, l, is)
	}
	seen := make([]bool, len(a.Owner))
	for _, u := range path {
		if u != v || seen[u] {
			t.Fatalf("PlayOf(%v, %v, %v) returns %v with %d where %d is next", a, even, odd, l, u, v)
		}
		seen[u] = true
		v = even[u]
		if a.Owner[u] == 1 {
			v = odd[u]
		}
	}
	if v != l.Loop[0] {
		t.Fatalf("PlayOf(%v, %v, %v) returns %v, but %d is next", a, even, odd, l, v)
	}
	return l
}

// checkPlays checks the play from each vertex, and that it is one of the arena fixed by one of the
// plans, and the only one if it is fixed by both.
func checkPlays(t *testing.T, a impl.Arena, even ints, odd ints) {
	t.Helper()
	byEven, one := impl.FixedBy(a, 0, even)
	byOdd, two := impl.FixedBy(a, 1, odd)
	byBoth, three := impl.FixedBy(byEven, 1, odd)
	again, four := impl.FixedBy(byOdd, 0, even)
	if !one || !two || !three || !four || !impl.SameArena(byBoth, again) {
		t.Fatalf("FixedBy(%v) with %v and %v fails", a, even, odd)
	}
	for v, next := range byBoth.Next {
		if len(next) != 1 {
			t.Fatalf("vertex %d of %v has %v", v, byBoth, next)
		}
		l := checkPlay(t, a, even, odd, int64(v))
		if !impl.LassoOk(a, l) || !impl.LassoOk(byEven, l) || !impl.LassoOk(byOdd, l) || !impl.LassoOk(byBoth, l) {
			t.Fatalf("%v is no play of %v fixed by %v or %v", l, a, even, odd)
		}
		only, is := impl.PlayOf(byBoth, impl.LeastFull(byBoth, 0), impl.LeastFull(byBoth, 1), int64(v))
		if !is || !sameList(only.Stem, l.Stem) || !sameList(only.Loop, l.Loop) {
			t.Fatalf("%v has the play %v, not %v", byBoth, only, l)
		}
	}
}

// TestPlansDetermineOnePlay tries all pairs of plans of small arenas, and random ones of others.
func TestPlansDetermineOnePlay(t *testing.T) {
	d := dice(53)
	for range 60 {
		a := d.arena(1+d.below(6), 3)
		q := attraction{arena: a, in: countTo(int64(len(a.Owner)))}
		q.plans(0, func(even ints) { q.plans(1, func(odd ints) { checkPlays(t, a, even, odd) }) })
	}
	for range 60 {
		a := d.arena(1+d.below(256), 1+d.below(15))
		checkPlays(t, a, d.plan(a, 0, 0), d.plan(a, 1, 0))
	}
	wide := widestArena()
	checkPlays(t, wide, impl.LeastFull(wide, 0), impl.LeastFull(wide, 1))
}

// TestLongestPlays has the longest loop and the longest stem that a play can have.
func TestLongestPlays(t *testing.T) {
	ring := ringArena(impl.MaxV)
	l := checkPlay(t, ring, impl.LeastFull(ring, 0), impl.LeastFull(ring, 1), 0)
	if len(l.Stem) != 0 || len(l.Loop) != 256 || !impl.LassoOk(ring, l) {
		t.Errorf("the play of the ring is %v", l)
	}
	line := ringArena(impl.MaxV)
	line.Next[255] = ints{255}
	l = checkPlay(t, line, impl.LeastFull(line, 0), impl.LeastFull(line, 1), 0)
	if len(l.Stem) != 255 || len(l.Loop) != 1 || !impl.LassoOk(line, l) {
		t.Errorf("the play of the line is %v", l)
	}
	checkPlays(t, ring, impl.LeastFull(ring, 0), impl.LeastFull(ring, 1))
	checkPlays(t, line, impl.LeastFull(line, 0), impl.LeastFull(line, 1))
}

// TestPlaysKeepMemory calls every function of the chapter with valid and invalid arguments.
func TestPlaysKeepMemory(t *testing.T) {
	d := dice(54)
	arenas := []impl.Arena{example1(), ringArena(256), widestArena(), d.arena(9, 4)}
	for _, a := range badArenas() {
		arenas = append(arenas, a)
	}
	for _, a := range arenas {
		even, odd := impl.LeastFull(a, 0), impl.LeastFull(a, 1)
		guardedCall(t, "PlayOf", impl.PlayOf, a, even5(), odd5(), int64(0))
		for _, list := range append(wildLists(), even5(), odd5(), even, odd) {
			for who := int64(-1); who < 3; who++ {
				guardedCall(t, "PlanOk", impl.PlanOk, a, who, list)
				guardedCall(t, "FullIn", impl.FullIn, a, who, list)
				guardedCall(t, "FixedBy", impl.FixedBy, a, who, list)
			}
			guardedCall(t, "PlayOf", impl.PlayOf, a, even, list, int64(0))
			guardedCall(t, "PlayOf", impl.PlayOf, a, list, odd, int64(0))
			for _, l := range []impl.Lasso{{Loop: list}, {Stem: list, Loop: ints{0}}, {Stem: ints{0, 1}, Loop: list}} {
				guardedCall(t, "LassoOk", impl.LassoOk, a, l)
				guardedCall(t, "PlayWon", impl.PlayWon, impl.Parity{Arena: a, Prio: make(ints, len(a.Owner))}, l)
			}
		}
		for _, n := range wildInts {
			guardedCall(t, "LeastFull", impl.LeastFull, a, n)
			guardedCall(t, "PlayOf", impl.PlayOf, a, even, odd, n)
			guardedCall(t, "PlanOk", impl.PlanOk, a, n, even)
			guardedCall(t, "FullIn", impl.FullIn, a, n, even)
			guardedCall(t, "FixedBy", impl.FixedBy, a, n, even)
		}
	}
	for _, g := range badGames() {
		guardedCall(t, "PlayWon", impl.PlayWon, g, impl.Lasso{Stem: ints{0, 1}, Loop: ints{3, 4}})
	}
}
