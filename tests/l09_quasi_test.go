package tests

import (
	"math"
	"slices"
	"testing"
	"time"

	"loop.example/g00869/impl"
)

// A question has the arguments of a query.
type question struct {
	game                    impl.Parity
	in                      ints
	who, depth, mine, yours int64
}

// ok, round and answer ask the program.
func (q question) ok() bool {
	return impl.AskOk(q.game, q.in, q.who, q.depth, q.mine, q.yours)
}
func (q question) round() ints {
	return impl.RoundOf(q.game, q.in, q.who, q.depth, q.mine, q.yours)
}
func (q question) answer() ints {
	return impl.AnsweredTo(q.game, q.in, q.who, q.depth, q.mine, q.yours)
}

// with returns q for other vertices and another bound for the opponent.
func (q question) with(in ints, yours int64) question {
	q.in, q.yours = in, yours
	return q
}

// isQuery says what the document says of a query, if the game is small and in is a set of its vertices.
func (q question) isQuery() bool {
	for _, v := range q.in {
		if q.game.Prio[v] > q.depth || len(impl.MeetOf(q.game.Next[v], q.in)) == 0 {
			return false
		}
	}
	isDepth := q.who == 0 && slices.Contains(ints{0, 2, 4, 6, 8, 10, 12, 14, 16, 18, 20, 22, 24, 26, 28, 30, 32, 34, 36, 38, 40}, q.depth) ||
		q.who == 1 && slices.Contains(ints{1, 3, 5, 7, 9, 11, 13, 15, 17, 19, 21, 23, 25, 27, 29, 31, 33, 35, 37, 39, 41}, q.depth)
	return isDepth && q.mine >= 0 && q.mine <= 12 && q.yours >= 0 && q.yours <= 12
}

// wantedRound returns what the document says of RoundOf for a query.
func (q question) wantedRound() ints {
	if q.depth == 0 {
		return q.in
	}
	tops := impl.WithPrio(q.game, q.in, q.depth)
	rest := impl.LessOf(q.in, impl.Attract(q.game.Arena, q.who, q.in, tops))
	lost := question{q.game, rest, 1 - q.who, q.depth - 1, q.yours, q.mine}.wantedAnswer()
	return impl.LessOf(q.in, impl.Attract(q.game.Arena, 1-q.who, q.in, lost))
}

// settled returns what the rounds of q leave when one of them leaves its set unchanged.
func (q question) settled() ints {
	for {
		left := q.wantedRound()
		if sameList(left, q.in) {
			return left
		}
		q.in = left
	}
}

// wantedAnswer returns what the document says of AnsweredTo for a query.
func (q question) wantedAnswer() ints {
	if len(q.in) == 0 || q.mine == 0 {
		return nil
	}
	left := q.with(q.in, q.yours/2).settled()
	after := q.with(left, q.yours).wantedRound()
	if !sameList(after, left) {
		after = q.with(after, q.yours/2).settled()
	}
	return after
}

// setsUpTo returns the sets of vertices below n.
func setsUpTo(n int64) sets {
	var all sets
	listsUpTo(n, 0, 1, func(picked ints) {
		all = append(all, impl.RegionOf(impl.Answer{Won: picked}, 1))
	})
	return all
}

// A stake is a set of vertices, all of which a player wins in the game restricted to the set.
type stake struct {
	set ints
	who int64
}

// stakesOf returns the stakes in a game, where won tells what a player wins.
func stakesOf(g impl.Parity, won func(g impl.Parity, who int64) ints) []stake {
	var stakes []stake
	for _, set := range setsUpTo(int64(len(g.Prio))) {
		sub, is := impl.SubgameOf(g, set)
		if !is {
			continue
		}
		for who := range int64(2) {
			if len(won(sub, who)) == len(set) {
				stakes = append(stakes, stake{set, who})
			}
		}
	}
	return stakes
}

// isDominion says whether a stake is a dominion within in, which no edge counts that leaves.
func (s stake) isDominion(g impl.Parity, in ints) bool {
	if len(impl.LessOf(s.set, in)) > 0 {
		return false
	}
	for _, v := range s.set {
		next := impl.MeetOf(g.Next[v], in)
		if g.Owner[v] != s.who && len(impl.LessOf(next, s.set)) > 0 || len(impl.MeetOf(next, s.set)) == 0 {
			return false
		}
	}
	return true
}

// checkPromise checks P9 for a query; it returns how many dominions the bounds cover, and how many
// they do not.
func checkPromise(t *testing.T, q question, stakes []stake) (bound int, free int) {
	t.Helper()
	answer := q.answer()
	for _, s := range stakes {
		size := int64(len(s.set))
		switch {
		case !s.isDominion(q.game, q.in):
		case s.who == q.who && size > q.mine || s.who != q.who && size > q.yours:
			free++
		case s.who == q.who && len(impl.LessOf(s.set, answer)) > 0:
			t.Fatalf("AnsweredTo%v returns %v without the dominion %v", q, answer, s)
		case s.who != q.who && len(impl.MeetOf(s.set, answer)) > 0:
			t.Fatalf("AnsweredTo%v returns %v in spite of the dominion %v", q, answer, s)
		default:
			bound++
		}
	}
	return bound, free
}

func TestQuasiExamples(t *testing.T) {
	g, all := game7(), countTo(4)
	for _, c := range []struct {
		who  int64
		set  ints
		want bool
	}{
		{0, ints{0, 2}, true}, {0, ints{0}, false}, {0, ints{2}, true}, {0, ints{}, false}, {0, nil, false}, {0, all, false}, {0, ints{3}, false},
		{1, ints{3}, true}, {1, ints{1, 3}, true}, {1, ints{1}, false}, {1, ints{}, false}, {1, all, false}, {1, ints{0, 2}, false},
		// No player can be kept in these sets, or they have no play in them.
		{1, ints{0, 1, 3}, false}, {0, ints{0, 1, 2}, false}, {0, ints{0, 1}, false}, {1, ints{0, 1}, false},
		{2, ints{3}, false}, {-1, ints{2}, false}, {2, ints{0, 2}, false},
	} {
		if got := impl.DominionIn(g, c.who, c.set); got != c.want {
			t.Errorf("DominionIn(%d, %v) is %v", c.who, c.set, got)
		}
	}
	if !(question{g, all, 1, 3, 4, 4}).ok() || (question{g, all, 0, 3, 4, 4}).ok() {
		t.Error("AskOk")
	}
	for _, c := range []struct {
		q                  question
		round, wantsAnswer ints
	}{
		{question{g, all, 1, 3, 4, 4}, ints{1, 3}, ints{1, 3}},
		{question{g, all, 0, 4, 4, 4}, ints{0, 2}, ints{0, 2}},
		{question{g, all, 1, 3, 0, 4}, ints{1, 3}, ints{}},
		{question{g, all, 1, 3, 4, 0}, all, all},
		{question{g, all, 0, 4, 4, 0}, all, all},
		{question{g, all, 0, 4, 0, 4}, ints{}, ints{}},
		{question{g, ints{}, 1, 3, 4, 4}, ints{}, ints{}},
		{question{g, ints{0, 2}, 0, 2, 4, 4}, ints{0, 2}, ints{0, 2}},
	} {
		if round, answer := c.q.round(), c.q.answer(); !sameList(round, c.round) || !sameList(answer, c.wantsAnswer) {
			t.Errorf("RoundOf%v returns %v and AnsweredTo %v", c.q, round, answer)
		}
	}
	if got := impl.QuasiWon(g); !sameList(got, ints{0, 1, 0, 1}) {
		t.Errorf("QuasiWon returns %v", got)
	}
}

// TestQuasiOneVertex has queries at the least depths: at depth 0 a round removes nothing.
func TestQuasiOneVertex(t *testing.T) {
	for owner := range int64(2) {
		g := impl.Parity{Arena: impl.Arena{Owner: ints{owner}, Next: sets{{0}}}, Prio: ints{0}}
		for mine := range int64(13) {
			for yours := range int64(13) {
				q := question{g, ints{0}, 0, 0, mine, yours}
				if got := q.round(); !q.ok() || !sameList(got, ints{0}) {
					t.Errorf("RoundOf%v returns %v", q, got)
				}
				if got := q.answer(); len(got) != int(min(mine, 1)) {
					t.Errorf("AnsweredTo%v returns %v", q, got)
				}
				// Player 0 has a dominion of one vertex, so that player 1 keeps the vertex if yours is 0.
				q.who, q.depth = 1, 1
				if got := q.round(); !q.ok() || len(got) != int(1-min(yours, 1)) {
					t.Errorf("RoundOf%v returns %v", q, got)
				}
				if got := q.answer(); len(got) != int(min(mine, 1)*(1-min(yours, 1))) {
					t.Errorf("AnsweredTo%v returns %v", q, got)
				}
			}
		}
		if got := impl.QuasiWon(g); !sameList(got, ints{0}) {
			t.Errorf("QuasiWon returns %v", got)
		}
		g.Prio[0] = 1
		if got := impl.QuasiWon(g); !sameList(got, ints{1}) {
			t.Errorf("QuasiWon returns %v with the priority 1", got)
		}
	}
}

// mixedGame returns a game of one of two kinds.
func (d *dice) mixedGame(n int64) impl.Parity {
	if d.below(2) == 0 {
		return d.splitGame(n)
	}
	return d.anyGame(n, 1+d.below(4))
}

// stairs returns stairs of random steps, with up to three random edges and priorities.
func (d *dice) stairs() impl.Parity {
	size, steps := int64(0), ""
	for _, step := range "ssggsgsg" {
		more := map[rune]int64{'s': 2, 'g': 5}[step]
		if d.below(2) == 0 && size+more <= impl.MaxSmall+1 {
			size, steps = size+more, steps+string(step)
		}
	}
	if steps == "" {
		steps = "g"
	}
	g := stairs(steps, d.below(2))
	n := int64(len(g.Prio))
	for range d.below(4) {
		v := d.below(n)
		g.Next[v] = impl.BothOf(g.Next[v], ints{d.below(n)})
		g.Prio[d.below(n)] += d.below(2)
	}
	return g
}

// questions calls use with random queries in a game; every vertex of in has a successor in in.
func (d *dice) questions(g impl.Parity, count int, use func(q question)) {
	n := int64(len(g.Prio))
	for range count {
		in := countTo(n)
		if d.below(2) == 0 {
			// What is left of all vertices by an attractor is a trap, so that nothing in it is stuck.
			in = impl.LessOf(in, impl.Attract(g.Arena, d.below(2), in, d.subset(n, 5)))
		}
		q := question{game: g, in: in, mine: d.below(13), yours: d.below(13)}
		if d.below(2) == 0 {
			q.mine, q.yours = d.below(n+1), d.below(n+1)
		}
		q.depth = max(impl.TopIn(g, in), 0) + d.below(3)
		if d.below(10) == 0 {
			q.depth = 40 + d.below(2)
		}
		q.depth = min(q.depth, impl.MaxPrio+1)
		q.who = q.depth % 2
		use(q)
	}
}

// TestQuasiByDefinition compares rounds and answers with the document. In some of the queries the
// bounds are so small that the answer is not what the player wins.
func TestQuasiByDefinition(t *testing.T) {
	d := dice(90)
	others, bounds := 0, 0
	for i := range 250 {
		g := d.mixedGame(1 + d.below(12))
		if i%10 == 0 {
			g = d.stairs()
		}
		d.questions(g, 10, func(q question) {
			if !q.ok() || !q.isQuery() {
				t.Fatalf("%v is no query", q)
			}
			if got, want := q.round(), q.wantedRound(); !sameList(got, want) {
				t.Fatalf("RoundOf%v returns %v, not %v", q, got, want)
			}
			got, want := q.answer(), q.wantedAnswer()
			if !sameList(got, want) {
				t.Fatalf("AnsweredTo%v returns %v, not %v", q, got, want)
			}
			even, odd := impl.WonIn(g, q.in)
			if won := (sets{even, odd})[q.who]; q.mine > 0 && !sameList(got, won) {
				others++
			}
			if len(got) > 0 && len(got) < len(q.in) {
				bounds++
			}
		})
	}
	if others < 100 || bounds < 100 {
		t.Errorf("only %d answers are not what the player wins, and only %d are a part", others, bounds)
	}
}

// TestDominionsByDefinition has all sets of small games, with winners by all plans.
func TestDominionsByDefinition(t *testing.T) {
	d := dice(91)
	found := 0
	for range 250 {
		g := d.mixedGame(1 + d.below(5))
		n := int64(len(g.Prio))
		dominions := map[int64]sets{}
		for _, s := range stakesOf(g, wonByPlans) {
			if s.isDominion(g, countTo(n)) {
				dominions[s.who] = append(dominions[s.who], s.set)
				found++
			}
		}
		for who := int64(-1); who < 4; who++ {
			for _, set := range setsUpTo(n) {
				want := slices.ContainsFunc(dominions[who], func(s ints) bool { return sameList(s, set) })
				if got := impl.DominionIn(g, who, set); got != want {
					t.Fatalf("DominionIn(%v, %d, %v) is %v", g, who, set, got)
				}
			}
		}
	}
	if found < 500 {
		t.Errorf("only %d dominions", found)
	}
}

// TestAnswersKeepDominions checks P9 for all queries in small games, with winners by all plans.
func TestAnswersKeepDominions(t *testing.T) {
	d := dice(92)
	bound, free := 0, 0
	for range 150 {
		g := d.mixedGame(1 + d.below(5))
		n := int64(len(g.Prio))
		stakes := stakesOf(g, wonByPlans)
		for _, in := range setsUpTo(n) {
			top := max(impl.TopIn(g, in), 0)
			for _, depth := range (ints{top, top + 1, min(top+4, 41)}) {
				for bounds := range (n + 2) * (n + 2) {
					q := question{g, in, depth % 2, depth, bounds / (n + 2), bounds % (n + 2)}
					if !q.isQuery() {
						continue
					}
					x, y := checkPromise(t, q, stakes)
					bound, free = bound+x, free+y
				}
			}
		}
	}
	if bound < 10000 || free < 10000 {
		t.Errorf("the bounds cover %d dominions and leave %d out", bound, free)
	}
}

// TestAnswersKeepGreaterDominions checks P9 in games up to the limit.
func TestAnswersKeepGreaterDominions(t *testing.T) {
	d := dice(93)
	bound, free := 0, 0
	for i := range 60 {
		n := 6 + d.below(4)
		if i%20 == 0 {
			n = 12
		}
		g := d.mixedGame(n)
		stakes := stakesOf(g, impl.WonBy)
		d.questions(g, 40, func(q question) {
			x, y := checkPromise(t, q, stakes)
			bound, free = bound+x, free+y
		})
	}
	if bound < 3000 || free < 3000 {
		t.Errorf("the bounds cover %d dominions and leave %d out", bound, free)
	}
}

// checkQuasi checks QuasiWon for a game; it returns how many vertices player 1 wins.
func checkQuasi(t *testing.T, g impl.Parity, odd ints) int {
	t.Helper()
	won := impl.QuasiWon(g)
	if got := impl.RegionOf(impl.Answer{Won: won}, 1); len(won) != len(g.Prio) || !sameList(got, odd) {
		t.Fatalf("QuasiWon(%v) returns %v, but 1 wins %v", g, won, odd)
	}
	n, top := int64(len(won)), slices.Max(g.Prio)
	answer := question{g, countTo(n), top % 2, top, n, n}.answer()
	if !sameList(answer, impl.LessOf(countTo(n), impl.RegionOf(impl.Answer{Won: won}, 1-top%2))) {
		t.Fatalf("QuasiWon(%v) returns %v, but the answer is %v", g, won, answer)
	}
	return len(odd)
}

// TestQuasiWinners compares the winners with all plans in small games and with chapter 7 in greater
// ones.
func TestQuasiWinners(t *testing.T) {
	d := dice(94)
	mixed := 0
	for i := range 3000 {
		n := 1 + d.below(12)
		if i%2 == 0 {
			n = 1 + d.below(5)
		}
		g := d.mixedGame(n)
		odd := impl.WonBy(g, 1)
		if n < 6 {
			odd = wonByPlans(g, 1)
		}
		if won := checkQuasi(t, g, odd); won > 0 && won < int(n) {
			mixed++
		}
	}
	if mixed < 500 {
		t.Errorf("only %d games have two winners", mixed)
	}
}

// TestAskOkByDefinition tries all lists, depths and bounds within the limits and beyond.
func TestAskOkByDefinition(t *testing.T) {
	d := dice(95)
	numbers := append(slices.Clone(wildInts), 11, 12, 13, 39, 40, 41, 42, 43)
	asked := 0
	for range 60 {
		g := d.game(1+d.below(3), 2, d.below(4)*13, 2)
		n := int64(len(g.Prio))
		for length := range int64(4) {
			listsUpTo(length, -1, n, func(in ints) {
				isSet := impl.SetOk(in, n)
				for _, depth := range numbers {
					q := question{g, in, d.below(4) - 1, depth, numbers[d.below(int64(len(numbers)))], d.below(14)}
					if d.below(2) == 0 {
						q.who, q.mine, q.yours = (depth%2+2)%2, d.below(15)-1, q.mine
					}
					want := isSet && q.isQuery()
					if got := q.ok(); got != want {
						t.Fatalf("AskOk%v is %v", q, got)
					}
					if want {
						asked++
					} else {
						checkNoQuery(t, "by definition", q)
					}
				}
			})
		}
	}
	if asked < 200 {
		t.Errorf("only %d queries", asked)
	}
}

// TestAskedDepths has the depths at the limits: the greatest priority is 40 and the greatest depth 41.
func TestAskedDepths(t *testing.T) {
	g := game7()
	g.Prio = ints{39, 40, 0, 40}
	all := countTo(4)
	for depth := int64(-3); depth < 45; depth++ {
		for who := int64(-2); who < 4; who++ {
			want := depth == 40 && who == 0 || depth == 41 && who == 1
			q := question{g, all, who, depth, 12, 12}
			if got := q.ok(); got != want {
				t.Errorf("AskOk%v is %v", q, got)
			}
			if !want {
				checkNoQuery(t, "a wrong depth", q)
			}
			want = depth >= 0 && depth <= 41 && (depth-who)%2 == 0 && (who == 0 || who == 1)
			for _, in := range (sets{{}, {2}}) {
				if q := (question{g, in, who, depth, 12, 12}); q.ok() != want {
					t.Errorf("AskOk%v is %v", q, !want)
				}
			}
		}
	}
	// Nothing has the priority 41, and player 0 wins vertex 2 by staying there and 3 by its priority.
	for q, want := range map[int64]sets{40: {all, all}, 41: {{}, {}}} {
		q := question{g, all, q % 2, q, 12, 12}
		if round, answer := q.round(), q.answer(); !sameList(round, want[0]) || !sameList(answer, want[1]) {
			t.Errorf("RoundOf%v returns %v, AnsweredTo %v", q, round, answer)
		}
	}
	g.Prio = ints{40, 39, 39, 39}
	for q, want := range map[int64]sets{40: {{0, 2}, {0, 2}}, 41: {{1, 3}, {1, 3}}} {
		q := question{g, all, q % 2, q, 12, 12}
		if round, answer := q.round(), q.answer(); !sameList(round, want[0]) || !sameList(answer, want[1]) {
			t.Errorf("RoundOf%v returns %v, AnsweredTo %v", q, round, answer)
		}
	}
	if got := impl.QuasiWon(g); !sameList(got, ints{0, 1, 0, 1}) {
		t.Errorf("QuasiWon returns %v", got)
	}
}

// TestQuasiLimits has games of the greatest size and the greatest bounds, and those beyond.
func TestQuasiLimits(t *testing.T) {
	for n := int64(11); n < 15; n++ {
		g := ring8(n)
		all, small := countTo(n), n <= 12
		if got := impl.DominionIn(g, 1, all); got != small {
			t.Errorf("DominionIn is %v for %d vertices", got, n)
		}
		if got := len(impl.QuasiWon(g)); got > 0 != small {
			t.Errorf("QuasiWon returns %d winners for %d vertices", got, n)
		}
		for mine := int64(-2); mine < 16; mine++ {
			for yours := int64(-2); yours < 16; yours++ {
				q := question{g, all, 1, 2*n - 1, mine, yours}
				want := small && mine >= 0 && mine <= 12 && yours >= 0 && yours <= 12
				if q.ok() != want || (len(q.round()) > 0) != want || (len(q.answer()) > 0) != (want && mine > 0) {
					t.Errorf("%v: AskOk %v, RoundOf %v, AnsweredTo %v", q, q.ok(), q.round(), q.answer())
				}
			}
		}
	}
	for _, n := range (ints{13, 255, 256}) {
		g := ring8(n, slices.Repeat(ints{1}, int(n))...)
		if !impl.ParityOk(g) {
			t.Errorf("the ring of %d is not valid", n)
		}
		checkNoQuasi(t, "a great game", g)
	}
}

// TestLongestAnswers has games of the greatest size with many priorities, and the greatest depths and
// bounds, so that there are many rounds.
func TestLongestAnswers(t *testing.T) {
	d := dice(96)
	for i := range 1500 {
		g := d.splitGame(12)
		if i%3 == 0 {
			g = d.game(12, 1+d.below(12), 41-12, 12)
		}
		for v := range g.Prio {
			if i%3 == 1 {
				g.Prio[v] = 2*int64(v) + d.below(10)
			}
		}
		start := time.Now()
		checkQuasi(t, g, impl.WonBy(g, 1))
		for _, bound := range (ints{12, 8, 7}) {
			q := question{g, countTo(12), 1, 41, bound, 12}
			if got := q.answer(); bound == 12 && !sameList(got, impl.WonBy(g, 1)) {
				t.Fatalf("AnsweredTo%v returns %v", q, got)
			}
		}
		if took := time.Since(start); took > 5*time.Second {
			t.Fatalf("%v takes %v", g, took)
		}
	}
}

// checkNoQuery checks that the functions that take a query reject the arguments.
func checkNoQuery(t *testing.T, what string, q question) {
	t.Helper()
	if q.ok() {
		t.Errorf("%s: AskOk%v is true", what, q)
	}
	if round, answer := q.round(), q.answer(); len(round)+len(answer) != 0 {
		t.Errorf("%s: RoundOf%v returns %v, AnsweredTo %v", what, q, round, answer)
	}
}

// checkNoQuasi checks that every function rejects a game.
func checkNoQuasi(t *testing.T, what string, g impl.Parity) {
	t.Helper()
	if got := impl.QuasiWon(g); len(got) != 0 {
		t.Errorf("%s: QuasiWon returns %v", what, got)
	}
	for _, in := range append(wildLists(), countTo(int64(len(g.Owner))), ints{2, 3}, ints{1, 3, 4}) {
		for who := range int64(2) {
			if impl.DominionIn(g, who, in) {
				t.Errorf("%s: DominionIn(%d, %v) is true", what, who, in)
			}
			for _, depth := range (ints{who, 8 + who, 40 + who}) {
				checkNoQuery(t, what, question{g, in, who, depth, 4, 4})
				checkNoQuery(t, what, question{g, in, who, depth, 12, 0})
			}
		}
	}
}

func TestQuasiRejects(t *testing.T) {
	for what, g := range badGames() {
		checkNoQuasi(t, what, g)
	}
	g, all := game7(), countTo(4)
	for _, n := range wildInts {
		if impl.DominionIn(g, n, ints{3}) != (n == 1) || impl.DominionIn(g, n, ints{2}) != (n == 0) {
			t.Errorf("DominionIn for player %d", n)
		}
		for _, q := range []question{
			{g, all, n, 3, 4, 4}, {g, all, n, 4, 4, 4}, {g, all, 0, n, 4, 4}, {g, all, 1, n, 4, 4}, {g, all, 1, 3, n, 4}, {g, all, 1, 3, 4, n},
		} {
			want := q.isQuery()
			if q.ok() != want {
				t.Errorf("AskOk%v is %v", q, !want)
			}
			if !want {
				checkNoQuery(t, "a wrong number", q)
			}
		}
	}
	for _, in := range (sets{
		{4}, {0, 4}, {2, 4}, {-1}, {-1, 2}, {2, 0}, {2, 2}, {3, 2}, {0, 0, 2}, {0, 2, 1}, countTo(5), countTo(257), make(ints, 4), make(ints, 300),
		{math.MinInt64}, {math.MinInt64, 2}, {math.MaxInt64}, {2, math.MaxInt64}, {math.MaxInt64, 2}, {63, 64}, {256}, {0, 1, 2, 3, 256},
		// Vertex 1 has no successor in these, nor vertex 0.
		{1}, {1, 2}, {0, 3}, {0},
	}) {
		for who := range int64(2) {
			checkNoQuery(t, "a wrong list", question{g, in, who, 4 - who, 4, 4})
			if impl.DominionIn(g, who, in) {
				t.Errorf("DominionIn(%d, %v) is true", who, in)
			}
		}
	}
}

// TestQuasiKeepsMemory calls every function of the chapter with valid and invalid arguments.
func TestQuasiKeepsMemory(t *testing.T) {
	d := dice(97)
	games := []impl.Parity{game7(), game8(), example4(), ring8(12), ring8(13), d.splitGame(9)}
	good := len(games)
	for _, g := range badGames() {
		games = append(games, g)
	}
	for i, g := range games {
		numbers := ints{math.MinInt64, -1, 0, 1, 3, 4, 12, 13, 40, 41, 42, math.MaxInt64}
		lists := append(wildLists(), countTo(int64(len(g.Owner))), ints{0, 2}, ints{1, 3})
		if i >= good {
			numbers, lists = ints{0, 41}, lists[len(lists)-4:]
		}
		guardedCall(t, "QuasiWon", impl.QuasiWon, g)
		for _, in := range lists {
			for _, n := range numbers {
				guardedCall(t, "DominionIn", impl.DominionIn, g, n, in)
				for _, q := range []question{
					{g, in, n, 3, 4, 4}, {g, in, 0, n, 4, 4}, {g, in, 1, n, 4, 4}, {g, in, 1, 41, n, 4}, {g, in, 0, 40, 4, n}, {g, in, 1, 41, n, n},
				} {
					guardedCall(t, "AskOk", impl.AskOk, q.game, q.in, q.who, q.depth, q.mine, q.yours)
					guardedCall(t, "RoundOf", impl.RoundOf, q.game, q.in, q.who, q.depth, q.mine, q.yours)
					guardedCall(t, "AnsweredTo", impl.AnsweredTo, q.game, q.in, q.who, q.depth, q.mine, q.yours)
				}
			}
		}
	}
}

// stairs returns a game with a step for each letter, all of which the opponent of who wins. A step s
// is one vertex; a step g is a dominion of four vertices that a bound of 1 is too small for. A gate of
// the priority 4 leads from one step back to the one before: while who may hope for the gate, the step
// is not lost in a round, so that the steps are lost one by one.
func stairs(steps string, who int64) impl.Parity {
	var g impl.Parity
	add := func(owner int64, prio int64, next ...int64) {
		g.Owner, g.Prio = append(g.Owner, owner), append(g.Prio, prio+who)
		g.Next = append(g.Next, slices.DeleteFunc(next, func(u int64) bool { return u < 0 }))
	}
	for i, step := range steps {
		if i > 0 {
			gate := int64(len(g.Prio))
			add(1-who, 4, gate-1, gate+1)
		}
		v := int64(len(g.Prio))
		if step == 's' {
			add(who, 1, v-1, v)
			continue
		}
		add(who, 1, v-1, v, v+1)
		add(1-who, 2, v, v+2)
		add(who, 1, v+2, v+3)
		add(who, 3, v)
	}
	return g
}

// leftOf returns, for each number of steps from 0 on, the vertices without these steps and the gates that
// lead to them.
func leftOf(steps string) sets {
	left := sets{countTo(int64(len(stairs(steps, 0).Prio)))}
	for i, step := range steps {
		size := map[rune]int{'s': 2, 'g': 5}[step]
		left = append(left, left[i][min(size, len(left[i])):])
	}
	return left
}

// TestStairs has games in which the answer depends on each of the rounds. From 2 on, the bound 1 is
// among the halves, so that the small steps are lost whenever it is their turn; the great ones need
// the bound 2.
func TestStairs(t *testing.T) {
	for steps, lost := range map[string]ints{
		// How many steps are lost with the bounds 0, 1, 2, 3, 4 and 5.
		"s": {0, 1, 1, 1, 1, 1}, "ss": {0, 1, 2, 2, 2, 2}, "ssssss": {0, 1, 6, 6, 6, 6},
		"g": {0, 0, 1, 1, 1, 1}, "gg": {0, 0, 1, 1, 2, 2}, "sg": {0, 1, 2, 2, 2, 2}, "gs": {0, 0, 2, 2, 2, 2},
		"sgs": {0, 1, 3, 3, 3, 3}, "gsg": {0, 0, 2, 2, 3, 3}, "sgg": {0, 1, 2, 2, 3, 3}, "ggs": {0, 0, 1, 1, 3, 3}, "ssgs": {0, 1, 4, 4, 4, 4},
	} {
		for who := range int64(2) {
			g := stairs(steps, who)
			left := leftOf(steps)
			for yours := range int64(13) {
				// Only the first step is not above a gate.
				inRound := int64(0)
				if yours > 1 || yours == 1 && steps[0] == 's' {
					inRound = 1
				}
				q := question{g, left[0], who, 4 + who, 12, yours}
				if got := q.round(); !sameList(got, left[inRound]) {
					t.Errorf("%s: RoundOf%v returns %v", steps, q, got)
				}
				if got := q.answer(); !sameList(got, left[lost[min(yours, 5)]]) {
					t.Errorf("%s: AnsweredTo%v returns %v", steps, q, got)
				}
			}
			if got := impl.QuasiWon(g); !sameList(got, slices.Repeat(ints{1 - who}, len(left[0]))) {
				t.Errorf("%s: QuasiWon(%v) returns %v", steps, g, got)
			}
		}
	}
}
