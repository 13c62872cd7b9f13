package tests

import (
	"math"
	"slices"
	"testing"

	"loop.example/g00869/impl"
)

// example1 returns the arena a of chapter 1.
func example1() impl.Arena {
	return impl.Arena{Owner: ints{0, 1, 1, 0, 1}, Next: sets{{1, 2}, {0, 3}, {2}, {1, 4}, {3}}}
}

// ringArena returns an arena of n vertices, each of which leads to the next one.
func ringArena(n int64) impl.Arena {
	var a impl.Arena
	for v := range n {
		a.Owner = append(a.Owner, v%2)
		a.Next = append(a.Next, ints{(v + 1) % n})
	}
	return a
}

// widestArena returns an arena with the greatest numbers of vertices and of successors.
func widestArena() impl.Arena {
	a := ringArena(impl.MaxV)
	for v := range a.Next {
		a.Next[v] = nil
		for u := range int64(impl.MaxOut) {
			a.Next[v] = append(a.Next[v], u*16+int64(v)%16)
		}
	}
	return a
}

// changed returns the arena of chapter 1 after a change.
func changed(change func(a *impl.Arena)) impl.Arena {
	a := example1()
	change(&a)
	return a
}

// badArenas returns arenas that are not valid, by what is wrong with them.
func badArenas() map[string]impl.Arena {
	return map[string]impl.Arena{
		"no vertices":          {},
		"empty slices":         {Owner: ints{}, Next: sets{}},
		"257 vertices":         ringArena(impl.MaxV + 1),
		"owner 2":              changed(func(a *impl.Arena) { a.Owner[4] = 2 }),
		"owner -1":             changed(func(a *impl.Arena) { a.Owner[0] = -1 }),
		"owner far below":      changed(func(a *impl.Arena) { a.Owner[3] = math.MinInt64 }),
		"an owner missing":     changed(func(a *impl.Arena) { a.Owner = a.Owner[:4] }),
		"an owner more":        changed(func(a *impl.Arena) { a.Owner = append(a.Owner, 0) }),
		"no owners":            changed(func(a *impl.Arena) { a.Owner = nil }),
		"successors missing":   changed(func(a *impl.Arena) { a.Next = a.Next[:4] }),
		"successors more":      changed(func(a *impl.Arena) { a.Next = append(a.Next, ints{0}) }),
		"no successor lists":   changed(func(a *impl.Arena) { a.Next = nil }),
		"no successor":         changed(func(a *impl.Arena) { a.Next[2] = nil }),
		"an empty successor":   changed(func(a *impl.Arena) { a.Next[4] = ints{} }),
		"successor 5":          changed(func(a *impl.Arena) { a.Next[3] = ints{1, 5} }),
		"successor -1":         changed(func(a *impl.Arena) { a.Next[0] = ints{-1, 1} }),
		"successor far above":  changed(func(a *impl.Arena) { a.Next[0] = ints{1, math.MaxInt64} }),
		"successor far below":  changed(func(a *impl.Arena) { a.Next[0] = ints{math.MinInt64, 1} }),
		"descending":           changed(func(a *impl.Arena) { a.Next[1] = ints{3, 0} }),
		"repeated":             changed(func(a *impl.Arena) { a.Next[1] = ints{0, 0} }),
		"repeated at the end":  changed(func(a *impl.Arena) { a.Next[1] = ints{0, 3, 3} }),
		"17 successors":        wideVertex(impl.MaxOut + 1),
		"256 successors":       wideVertex(impl.MaxV),
		"huge successor lists": changed(func(a *impl.Arena) { a.Next[4] = make(ints, 100000) }),
	}
}

// wideVertex returns a valid arena but for the number of successors of its last vertex.
func wideVertex(out int64) impl.Arena {
	a := ringArena(impl.MaxV)
	a.Next[impl.MaxV-1] = countTo(out)
	return a
}

func TestArenaOk(t *testing.T) {
	good := map[string]impl.Arena{
		"the example":   example1(),
		"one vertex":    {Owner: ints{1}, Next: sets{{0}}},
		"256 vertices":  ringArena(impl.MaxV),
		"16 successors": wideVertex(impl.MaxOut),
		"both limits":   widestArena(),
		"last vertex":   changed(func(a *impl.Arena) { a.Next[2] = ints{4} }),
	}
	for name, a := range good {
		if !impl.ArenaOk(a) {
			t.Errorf("%s: not accepted", name)
		}
	}
	for name, a := range badArenas() {
		if impl.ArenaOk(a) {
			t.Errorf("%s: accepted", name)
		}
	}
}

func TestBadArenas(t *testing.T) {
	for name, a := range badArenas() {
		if impl.SameArena(a, a) || impl.SameArena(a, example1()) || impl.SameArena(example1(), a) {
			t.Errorf("%s: SameArena", name)
		}
		if impl.EdgeIn(a, 0, 1) || impl.EdgeIn(a, 1, 0) || impl.EdgeIn(a, 255, 0) {
			t.Errorf("%s: EdgeIn", name)
		}
		if len(impl.PredsOf(a, 0)) != 0 || len(impl.PredsOf(a, 1)) != 0 {
			t.Errorf("%s: PredsOf", name)
		}
		if x := impl.Turned(a); len(x.Owner) != 0 || len(x.Next) != 0 {
			t.Errorf("%s: Turned returns %v", name, x)
		}
		for _, set := range (sets{nil, {0}, {1}, {0, 1}, {2}}) {
			if got := impl.ReachOf(a, set); len(got) != 0 {
				t.Errorf("%s: ReachOf returns %v", name, got)
			}
			if got := impl.LoopsOf(a, set); len(got) != 0 {
				t.Errorf("%s: LoopsOf returns %v", name, got)
			}
			if x, is := impl.InsideOf(a, set); is || len(x.Owner) != 0 || len(x.Next) != 0 {
				t.Errorf("%s: InsideOf returns %v, %v", name, x, is)
			}
		}
	}
}

func TestBadVertices(t *testing.T) {
	for name, a := range map[string]impl.Arena{"example": example1(), "ring": ringArena(impl.MaxV), "widest": widestArena()} {
		n := int64(len(a.Owner))
		for _, v := range wildInts {
			if v >= 0 && v < n {
				continue
			}
			for _, u := range append(wildInts, a.Next[0]...) {
				if impl.EdgeIn(a, v, u) || impl.EdgeIn(a, u, v) {
					t.Errorf("%s: EdgeIn with %d and %d", name, v, u)
				}
			}
			if got := impl.PredsOf(a, v); len(got) != 0 {
				t.Errorf("%s: PredsOf(%d) returns %v", name, v, got)
			}
		}
	}
}

func TestBadSets(t *testing.T) {
	bad := sets{
		{5}, {0, 5}, {-1}, {-1, 0}, {1, 0}, {0, 0}, {0, 1, 1}, {2, 1, 3}, {0, 1, 2, 3, 4, 5}, {math.MinInt64},
		{math.MinInt64, 2}, {math.MaxInt64}, {2, math.MaxInt64}, {0, 2, 1}, make(ints, 5), make(ints, 300), countTo(257),
	}
	for _, set := range bad {
		a := example1()
		if got := impl.ReachOf(a, set); len(got) != 0 {
			t.Errorf("ReachOf(%v) returns %v", set, got)
		}
		if got := impl.LoopsOf(a, set); len(got) != 0 {
			t.Errorf("LoopsOf(%v) returns %v", set, got)
		}
		if x, is := impl.InsideOf(a, set); is || len(x.Owner) != 0 || len(x.Next) != 0 {
			t.Errorf("InsideOf(%v) returns %v, %v", set, x, is)
		}
	}
	if len(impl.ReachOf(ringArena(impl.MaxV), ints{256})) != 0 || len(impl.LoopsOf(ringArena(impl.MaxV), countTo(257))) != 0 {
		t.Error("vertex 256 is accepted")
	}
}

func TestSameArena(t *testing.T) {
	a := example1()
	if !impl.SameArena(a, example1()) || !impl.SameArena(widestArena(), widestArena()) {
		t.Error("equal arenas differ")
	}
	others := map[string]impl.Arena{
		"turned":      impl.Turned(a),
		"one owner":   changed(func(a *impl.Arena) { a.Owner[4] = 0 }),
		"an edge":     changed(func(a *impl.Arena) { a.Next[4] = ints{2} }),
		"edge more":   changed(func(a *impl.Arena) { a.Next[4] = ints{3, 4} }),
		"edge less":   changed(func(a *impl.Arena) { a.Next[0] = ints{1} }),
		"vertex more": changed(func(a *impl.Arena) { a.Owner, a.Next = append(a.Owner, 0), append(a.Next, ints{0}) }),
		"vertex less": {Owner: ints{0, 1, 1, 0}, Next: sets{{1, 2}, {0, 3}, {2}, {1}}},
	}
	for name, b := range others {
		if !impl.ArenaOk(b) || impl.SameArena(a, b) || impl.SameArena(b, a) {
			t.Errorf("%s: the same", name)
		}
	}
}

func TestEdgesAndPreds(t *testing.T) {
	a := example1()
	if !impl.EdgeIn(a, 0, 2) || impl.EdgeIn(a, 2, 0) || !impl.EdgeIn(a, 2, 2) {
		t.Error("EdgeIn of the example")
	}
	for u, want := range (sets{{1}, {0, 3}, {0, 2}, {1, 4}, {3}}) {
		if got := impl.PredsOf(a, int64(u)); !sameList(got, want) {
			t.Errorf("PredsOf(%d) returns %v", u, got)
		}
	}
	if got := impl.PredsOf(impl.Arena{Owner: ints{0, 0}, Next: sets{{1}, {1}}}, 0); len(got) != 0 {
		t.Errorf("PredsOf a vertex that nothing leads to returns %v", got)
	}
	d := dice(1)
	for range 50 {
		b := d.arena(1+d.below(12), 1+d.below(5))
		n := int64(len(b.Owner))
		for u := range n {
			var want ints
			for v := range n {
				if impl.EdgeIn(b, v, u) != slices.Contains(b.Next[v], u) {
					t.Fatalf("EdgeIn(%v, %d, %d)", b, v, u)
				}
				if slices.Contains(b.Next[v], u) {
					want = append(want, v)
				}
			}
			if got := impl.PredsOf(b, u); !sameList(got, want) {
				t.Fatalf("PredsOf(%v, %d) returns %v", b, u, got)
			}
		}
	}
	if got := impl.PredsOf(widestArena(), 17); len(got) != 16 || got[0] != 1 || got[15] != 241 {
		t.Errorf("PredsOf the widest arena returns %v", got)
	}
}

func TestTurned(t *testing.T) {
	if got := impl.Turned(example1()); !sameList(got.Owner, ints{1, 0, 0, 1, 0}) || !sameLists(got.Next, example1().Next) {
		t.Errorf("Turned returns %v", got)
	}
	d := dice(2)
	for range 20 {
		a := d.arena(1+d.below(impl.MaxV), impl.MaxOut)
		if got := impl.Turned(a); !impl.ArenaOk(got) || impl.SameArena(got, a) || !impl.SameArena(impl.Turned(got), a) {
			t.Fatalf("Turned(%v) returns %v", a, got)
		}
	}
}

func TestInsideOf(t *testing.T) {
	x, is := impl.InsideOf(example1(), ints{1, 3, 4})
	if !is || !sameList(x.Owner, ints{1, 0, 1}) || !sameLists(x.Next, sets{{1}, {0, 2}, {1}}) {
		t.Errorf("InsideOf returns %v, %v", x, is)
	}
	x, is = impl.InsideOf(example1(), ints{2})
	if !is || !sameList(x.Owner, ints{1}) || !sameLists(x.Next, sets{{0}}) {
		t.Errorf("InsideOf with one vertex returns %v, %v", x, is)
	}
	if x, is := impl.InsideOf(widestArena(), countTo(256)); !is || !impl.SameArena(x, widestArena()) {
		t.Error("InsideOf with all vertices is not the arena")
	}
	for _, set := range (sets{nil, {}, {0}, {0, 3}, {1, 2}, {0, 1, 4}}) {
		if x, is := impl.InsideOf(example1(), set); is || len(x.Owner) != 0 || len(x.Next) != 0 {
			t.Errorf("InsideOf(%v) returns %v, %v", set, x, is)
		}
	}
}

func TestInsideOfRandom(t *testing.T) {
	d := dice(3)
	done := 0
	for range 400 {
		a := d.arena(1+d.below(10), 4)
		set := d.subset(int64(len(a.Owner)), 2)
		inner := len(set) > 0
		for _, v := range set {
			inner = inner && slices.ContainsFunc(a.Next[v], func(u int64) bool { return slices.Contains(set, u) })
		}
		x, is := impl.InsideOf(a, set)
		if is != inner || is != impl.ArenaOk(x) || is && len(x.Owner) != len(set) || !is && len(x.Owner)+len(x.Next) != 0 {
			t.Fatalf("InsideOf(%v, %v) returns %v, %v", a, set, x, is)
		}
		if !is {
			continue
		}
		done++
		for i, v := range set {
			for j, u := range set {
				if x.Owner[i] != a.Owner[v] || impl.EdgeIn(x, int64(i), int64(j)) != impl.EdgeIn(a, v, u) {
					t.Fatalf("InsideOf(%v, %v) returns %v", a, set, x)
				}
			}
		}
	}
	if done < 50 {
		t.Errorf("only %d arenas were induced", done)
	}
}

// waysIn reports, for each two vertices, whether a way of at least one step within set leads from
// the first to the second. It is computed by another method than the one of the program.
func waysIn(a impl.Arena, set ints) [][]bool {
	n := len(a.Owner)
	ways := make([][]bool, n)
	for v := range ways {
		ways[v] = make([]bool, n)
		for _, u := range a.Next[v] {
			ways[v][u] = slices.Contains(set, int64(v)) && slices.Contains(set, u)
		}
	}
	for m := range n {
		for v := range n {
			for u := range n {
				ways[v][u] = ways[v][u] || ways[v][m] && ways[m][u]
			}
		}
	}
	return ways
}

func TestReachOf(t *testing.T) {
	for _, c := range []struct{ from, want ints }{
		{ints{2}, ints{2}},
		{ints{4}, ints{0, 1, 2, 3, 4}},
		{ints{0, 1, 2, 3, 4}, ints{0, 1, 2, 3, 4}},
		{nil, nil},
		{ints{}, nil},
	} {
		if got := impl.ReachOf(example1(), c.from); !sameList(got, c.want) {
			t.Errorf("ReachOf(%v) returns %v", c.from, got)
		}
	}
	if got := impl.ReachOf(ringArena(impl.MaxV), ints{255}); !sameList(got, countTo(impl.MaxV)) {
		t.Errorf("ReachOf the longest ring returns %v", got)
	}
	split := impl.Arena{Owner: ints{0, 0, 0, 0}, Next: sets{{1}, {0}, {3}, {3}}}
	if !sameList(impl.ReachOf(split, ints{1}), ints{0, 1}) || !sameList(impl.ReachOf(split, ints{0, 3}), ints{0, 1, 3}) {
		t.Error("ReachOf an arena of two parts")
	}
}

func TestReachIsClosed(t *testing.T) {
	d := dice(4)
	for range 300 {
		a := d.arena(1+d.below(20), 1+d.below(3))
		n := int64(len(a.Owner))
		from := d.subset(n, 1+d.below(8))
		ways := waysIn(a, countTo(n))
		var want ints
		for u := range n {
			if slices.Contains(from, u) || slices.ContainsFunc(from, func(v int64) bool { return ways[v][u] }) {
				want = append(want, u)
			}
		}
		got := impl.ReachOf(a, from)
		if !sameList(got, want) {
			t.Fatalf("ReachOf(%v, %v) returns %v", a, from, got)
		}
		for _, v := range got {
			for _, u := range a.Next[v] {
				if !slices.Contains(got, u) {
					t.Fatalf("ReachOf(%v, %v) is not closed: %v", a, from, got)
				}
			}
		}
	}
}

func TestLoopsOf(t *testing.T) {
	for _, c := range []struct {
		set  ints
		want sets
	}{
		{ints{0, 1, 2, 3, 4}, sets{{0, 1, 3, 4}, {2}}},
		{ints{0, 2, 3, 4}, sets{{2}, {3, 4}}},
		{ints{2}, sets{{2}}},
		{ints{0, 4}, nil},
		{ints{0, 1, 4}, sets{{0, 1}}},
		{nil, nil},
		{ints{}, nil},
	} {
		if got := impl.LoopsOf(example1(), c.set); !sameLists(got, c.want) {
			t.Errorf("LoopsOf(%v) returns %v", c.set, got)
		}
	}
	ring := ringArena(impl.MaxV)
	if got := impl.LoopsOf(ring, countTo(impl.MaxV)); !sameLists(got, sets{countTo(impl.MaxV)}) {
		t.Errorf("LoopsOf the longest ring returns %v", got)
	}
	if got := impl.LoopsOf(ring, countTo(impl.MaxV-1)); len(got) != 0 {
		t.Errorf("LoopsOf a broken ring returns %v", got)
	}
	// Two arenas, so that in one of them the components are not found in the order of their
	// smallest vertices.
	split := impl.Arena{Owner: ints{0, 0, 0, 0, 0}, Next: sets{{4}, {3}, {2}, {1}, {0, 1}}}
	if got := impl.LoopsOf(split, countTo(5)); !sameLists(got, sets{{0, 4}, {1, 3}, {2}}) {
		t.Errorf("LoopsOf an arena of three parts returns %v", got)
	}
	split.Next[4], split.Next[1] = ints{0}, ints{0, 3}
	if got := impl.LoopsOf(split, countTo(5)); !sameLists(got, sets{{0, 4}, {1, 3}, {2}}) {
		t.Errorf("LoopsOf the other arena of three parts returns %v", got)
	}
}

func TestLoopsAreDisjoint(t *testing.T) {
	d := dice(5)
	many := 0
	for range 400 {
		a := d.arena(1+d.below(16), 1+d.below(3))
		set := countTo(int64(len(a.Owner)))
		if d.below(3) > 0 {
			set = d.subset(int64(len(a.Owner)), 2)
		}
		ways := waysIn(a, set)
		var want sets
		for _, v := range set {
			if ways[v][v] && !slices.ContainsFunc(want, func(s ints) bool { return slices.Contains(s, v) }) {
				part := slices.DeleteFunc(slices.Clone(set), func(u int64) bool { return !ways[v][u] || !ways[u][v] })
				want = append(want, part)
			}
		}
		got := impl.LoopsOf(a, set)
		if !sameLists(got, want) {
			t.Fatalf("LoopsOf(%v, %v) returns %v, not %v", a, set, got, want)
		}
		all := slices.Concat(got...)
		slices.Sort(all)
		if len(slices.Compact(slices.Clone(all))) != len(all) {
			t.Fatalf("LoopsOf(%v, %v) is not disjoint: %v", a, set, got)
		}
		if len(got) > 1 {
			many++
		}
	}
	if many < 50 {
		t.Errorf("only %d arenas have several components", many)
	}
}

// TestArenasKeepMemory calls every function of the chapter with valid and invalid arguments.
func TestArenasKeepMemory(t *testing.T) {
	d := dice(6)
	arenas := []impl.Arena{example1(), widestArena(), ringArena(impl.MaxV), d.arena(9, 4), d.arena(30, 3)}
	for _, a := range badArenas() {
		arenas = append(arenas, a)
	}
	for _, a := range arenas {
		guardedCall(t, "ArenaOk", impl.ArenaOk, a)
		guardedCall(t, "Turned", impl.Turned, a)
		guardedCall(t, "SameArena", impl.SameArena, a, example1())
		guardedCall(t, "SameArena", impl.SameArena, example1(), a)
		guardedCall(t, "SameArena", impl.SameArena, a, a)
		for i, v := range wildInts {
			guardedCall(t, "PredsOf", impl.PredsOf, a, v)
			guardedCall(t, "EdgeIn", impl.EdgeIn, a, v, v)
			guardedCall(t, "EdgeIn", impl.EdgeIn, a, v, wildInts[len(wildInts)-1-i])
		}
		for _, set := range wildLists() {
			guardedCall(t, "ReachOf", impl.ReachOf, a, set)
			guardedCall(t, "InsideOf", impl.InsideOf, a, set)
			guardedCall(t, "LoopsOf", impl.LoopsOf, a, set)
		}
	}
}
