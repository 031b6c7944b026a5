package btree

import (
	"slices"

	"bitemporal/api"
)

// A step is a node on a way through the tree, with the number of its pairs that lie before the way.
type step struct {
	n  *node
	at int
}

// descend returns the way from the root to a pair, and true, or else to the place in a leaf where it belongs.
func (t *Tree) descend(p pair) (path []step, found bool) {
	n := t.root
descent:
	for n != nil {
		low, high := 0, len(n.pairs)
		for low < high {
			middle := (low + high) / 2
			switch c := compare(p, n.pairs[middle]); {
			case c == 0:
				path, found = append(path, step{n, middle}), true
				break descent
			case c < 0:
				high = middle
			default:
				low = middle + 1
			}
		}
		path = append(path, step{n, low})
		n = n.child(low)
	}
	return path, found
}

// insert adds a pair at the end of a way to a leaf. A node that becomes too large is divided, and the pair between the two parts goes to the node above.
func (t *Tree) insert(path []step, p pair) {
	var right *node
	for _, s := range slices.Backward(path) {
		s.n.insert(s.at, p, right)
		if len(s.n.pairs) <= t.order {
			return
		}
		p, right = s.n.split()
	}
	t.root = newRoot(t.root, p, right)
}

// newRoot returns a node with one pair between two trees, which are both nil if it is to be a leaf.
func newRoot(left *node, p pair, right *node) *node {
	n := &node{pairs: []pair{p}}
	if left != nil {
		n.children = []*node{left, right}
	}
	return n
}

// remove removes the pair at the end of a way. If it lies above the leaves, the pair before it, which lies in a leaf, takes its place.
func (t *Tree) remove(path []step) {
	place := path[len(path)-1]
	for n := place.n.child(place.at); n != nil; n = n.child(len(n.pairs)) {
		path = append(path, step{n, len(n.pairs)})
	}
	leaf, at := path[len(path)-1].n, place.at
	if leaf != place.n {
		at = len(leaf.pairs) - 1
		place.n.pairs[place.at] = leaf.pairs[at]
	}
	leaf.pairs = slices.Delete(leaf.pairs, at, at+1)
	t.refill(path)
}

// refill gives the nodes on a way the pairs that they lack, from the leaf up to the root, which goes if it has none.
func (t *Tree) refill(path []step) {
	least := t.order / 2
	for i := len(path) - 1; i > 0 && len(path[i].n.pairs) < least; i-- {
		above := path[i-1]
		above.n.refill(above.at, least)
	}
	if len(t.root.pairs) == 0 {
		t.root = t.root.child(0)
	}
}

// ids returns the identities of the pairs whose key has the place 0, in the order of the pairs. The keys before these have a negative place, the keys after them a positive one.
func (t *Tree) ids(place func(key []api.Value) int) []int {
	if t == nil {
		return nil
	}
	var ids []int
	t.root.search(place, func(p pair) { ids = append(ids, p.id) })
	return ids
}

// isAscending reports whether every pair of the tree is greater than the one before it.
func (t *Tree) isAscending() bool {
	var last *pair
	ascending := true
	all := func([]api.Value) int { return 0 }
	t.root.search(all, func(p pair) {
		ascending = ascending && (last == nil || compare(*last, p) < 0)
		last = &p
	})
	return ascending
}
