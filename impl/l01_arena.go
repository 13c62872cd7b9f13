package impl

import (
	"cmp"
	"slices"
)

const MaxV = 256
const MaxOut = 16

type Arena struct {
	Owner []int64
	Next  [][]int64
}

// size returns the number of vertices.
func (a Arena) size() int64 { return int64(len(a.Owner)) }

// hasVertex reports whether v is a vertex.
func (a Arena) hasVertex(v int64) bool { return v >= 0 && v < a.size() }

// leads reports whether u is a successor of v.
func (a Arena) leads(v int64, u int64) bool { return slices.Contains(a.Next[v], u) }

// clone returns a copy that shares no memory with a.
func (a Arena) clone() Arena {
	clone := Arena{Owner: slices.Clone(a.Owner)}
	for _, next := range a.Next {
		clone.Next = append(clone.Next, slices.Clone(next))
	}
	return clone
}

// preds returns the predecessors of each vertex, in ascending order.
func (a Arena) preds() [][]int64 {
	preds := make([][]int64, a.size())
	for v, next := range a.Next {
		for _, u := range next {
			preds[u] = append(preds[u], int64(v))
		}
	}
	return preds
}

// A cursor follows paths through a graph. It stays among the open vertices and closes each one
// that it enters, so that no path is followed twice.
type cursor struct {
	next [][]int64
	open []bool
	left []int64
}

// newCursor returns a cursor for which the vertices of set are open.
func newCursor(next [][]int64, set []int64) *cursor {
	c := &cursor{next: next, open: make([]bool, len(next))}
	for _, v := range set {
		c.open[v] = true
	}
	return c
}

// follow walks all open paths from v. A vertex is recorded when it is left, not when it is entered,
// because LoopsOf depends on that order.
func (c *cursor) follow(v int64) {
	if !c.open[v] {
		return
	}
	c.open[v] = false
	for _, u := range c.next[v] {
		c.follow(u)
	}
	c.left = append(c.left, v)
}

// take hands over the vertices left since the last call, in the order in which they were left.
func (c *cursor) take() []int64 {
	left := c.left
	c.left = nil
	return left
}

// upTo returns 0, ..., n-1.
func upTo(n int64) []int64 {
	list := make([]int64, n)
	for i := range list {
		list[i] = int64(i)
	}
	return list
}

// isSet reports whether s is strictly increasing and its elements are from 0 to n-1.
func isSet(s []int64, n int64) bool {
	last := int64(-1)
	for _, v := range s {
		if v <= last || v >= n {
			return false
		}
		last = v
	}
	return true
}

// indicesIn returns the indices in set of those elements of list that set contains.
func indicesIn(set []int64, list []int64) []int64 {
	var indices []int64
	for _, v := range list {
		if i, found := slices.BinarySearch(set, v); found {
			indices = append(indices, int64(i))
		}
	}
	return indices
}

// ArenaOk reports whether a is valid.
func ArenaOk(a Arena) bool {
	n := a.size()
	if n < 1 || n > MaxV || len(a.Next) != len(a.Owner) {
		return false
	}
	for v, next := range a.Next {
		if a.Owner[v] != 0 && a.Owner[v] != 1 {
			return false
		}
		if len(next) < 1 || len(next) > MaxOut || !isSet(next, n) {
			return false
		}
	}
	return true
}

// SameArena reports whether a and b are valid and have the same owners and successors.
func SameArena(a Arena, b Arena) bool {
	if !ArenaOk(a) || !ArenaOk(b) {
		return false
	}
	return slices.Equal(a.Owner, b.Owner) && slices.EqualFunc(a.Next, b.Next, slices.Equal)
}

// EdgeIn reports whether a is valid, v is a vertex of it, and u is a successor of v.
func EdgeIn(a Arena, v int64, u int64) bool {
	return ArenaOk(a) && a.hasVertex(v) && a.leads(v, u)
}

// PredsOf returns, in ascending order, the vertices of which u is a successor. It returns nil if
// a is not valid or u is not a vertex.
func PredsOf(a Arena, u int64) []int64 {
	if !ArenaOk(a) || !a.hasVertex(u) {
		return nil
	}
	return a.preds()[u]
}

// Turned returns a with the owners exchanged. It returns the zero Arena if a is not valid.
func Turned(a Arena) Arena {
	if !ArenaOk(a) {
		return Arena{}
	}
	turned := a.clone()
	for v, owner := range a.Owner {
		turned.Owner[v] = 1 - owner
	}
	return turned
}

// ReachOf returns, in ascending order, all vertices that can be reached from an element of from,
// including these. It returns nil if a is not valid or from is not a set of its vertices.
func ReachOf(a Arena, from []int64) []int64 {
	if !ArenaOk(a) || !isSet(from, a.size()) {
		return nil
	}
	c := newCursor(a.Next, upTo(a.size()))
	for _, v := range from {
		c.follow(v)
	}
	reach := c.take()
	slices.Sort(reach)
	return reach
}

// InsideOf returns the arena induced by set, whose vertices are numbered by their indices in set,
// and true. It returns the zero Arena and false if a is not valid, set is not a set of its
// vertices or is empty, or a vertex of set has no successor in set.
func InsideOf(a Arena, set []int64) (Arena, bool) {
	if !ArenaOk(a) || !isSet(set, a.size()) || len(set) == 0 {
		return Arena{}, false
	}
	var inside Arena
	for _, v := range set {
		next := indicesIn(set, a.Next[v])
		if len(next) == 0 {
			return Arena{}, false
		}
		inside.Owner = append(inside.Owner, a.Owner[v])
		inside.Next = append(inside.Next, next)
	}
	return inside, true
}

// LoopsOf returns the non-trivial strongly connected components of the graph induced by set: a
// vertex belongs to one if a way of at least one step within set leads from it back to it, and
// two such vertices are in the same component if ways within set lead from each to the other. The
// components are sets, sorted by their smallest vertices. It returns nil if a is not valid or set
// is not a set of its vertices.
func LoopsOf(a Arena, set []int64) [][]int64 {
	if !ArenaOk(a) || !isSet(set, a.size()) {
		return nil
	}
	ahead := newCursor(a.Next, set)
	for _, v := range set {
		ahead.follow(v)
	}
	// Of the vertices that are still open, the one that was left last lies in a component that no
	// other one leads to, so the open vertices that lead to it are its component.
	var loops [][]int64
	back := newCursor(a.preds(), set)
	for _, v := range slices.Backward(ahead.take()) {
		back.follow(v)
		part := back.take()
		if len(part) > 1 || len(part) == 1 && a.leads(v, v) {
			slices.Sort(part)
			loops = append(loops, part)
		}
	}
	slices.SortFunc(loops, func(x []int64, y []int64) int { return cmp.Compare(x[0], y[0]) })
	return loops
}
