package btree

import (
	"cmp"
	"slices"
	"sort"

	"bitemporal/api"
	"bitemporal/tuple"
)

// pair is a key with an identity.
type pair struct {
	key []api.Value
	id  int
}

// compare orders pairs by key, then by identity.
func compare(a, b pair) int {
	return cmp.Or(tuple.Compare(a.key, b.key), cmp.Compare(a.id, b.id))
}

// node is a node of a B-tree: a leaf, without children, or a node with one child more than it has pairs.
type node struct {
	pairs    []pair
	children []*node
}

// child returns the child i, nil for a leaf.
func (n *node) child(i int) *node {
	if len(n.children) == 0 {
		return nil
	}
	return n.children[i]
}

// insert adds a pair at the index i, and behind it a child unless n is a leaf.
func (n *node) insert(i int, p pair, right *node) {
	n.pairs = slices.Insert(n.pairs, i, p)
	if right != nil {
		n.children = slices.Insert(n.children, i+1, right)
	}
}

// split removes the pairs and children behind the middle pair, and returns that pair and a node of the others.
func (n *node) split() (pair, *node) {
	middle := len(n.pairs) / 2
	p := n.pairs[middle]
	right := &node{pairs: slices.Clone(n.pairs[middle+1:])}
	n.pairs = slices.Delete(n.pairs, middle, len(n.pairs))
	if len(n.children) > 0 {
		right.children = slices.Clone(n.children[middle+1:])
		n.children = slices.Delete(n.children, middle+1, len(n.children))
	}
	return p, right
}

// refill gives the child i, which has one pair less than the least number, a pair of a neighbor that has more than that, or else joins it with a neighbor.
func (n *node) refill(i, least int) {
	neighbors := [2]struct {
		at     int
		borrow func(n *node, i int)
	}{{i - 1, (*node).borrowLeft}, {i + 1, (*node).borrowRight}}
	for _, neighbor := range neighbors {
		if neighbor.at >= 0 && neighbor.at < len(n.children) && len(n.children[neighbor.at].pairs) > least {
			neighbor.borrow(n, i)
			return
		}
	}
	n.join(max(i-1, 0))
}

// borrowLeft moves the last pair of the child before i up to n, and the pair that was there to the beginning of the child i.
func (n *node) borrowLeft(i int) {
	from, to := n.children[i-1], n.children[i]
	last := len(from.pairs) - 1
	to.pairs = slices.Insert(to.pairs, 0, n.pairs[i-1])
	n.pairs[i-1] = from.pairs[last]
	from.pairs = slices.Delete(from.pairs, last, last+1)
	if moved := from.child(last + 1); moved != nil {
		to.children = slices.Insert(to.children, 0, moved)
		from.children = slices.Delete(from.children, last+1, last+2)
	}
}

// borrowRight moves the first pair of the child behind i up to n, and the pair that was there to the end of the child i.
func (n *node) borrowRight(i int) {
	from, to := n.children[i+1], n.children[i]
	to.pairs = append(to.pairs, n.pairs[i])
	n.pairs[i] = from.pairs[0]
	from.pairs = slices.Delete(from.pairs, 0, 1)
	if moved := from.child(0); moved != nil {
		to.children = append(to.children, moved)
		from.children = slices.Delete(from.children, 0, 1)
	}
}

// join makes the children i and i + 1 and the pair between them one child.
func (n *node) join(i int) {
	left, right := n.children[i], n.children[i+1]
	left.pairs = append(append(left.pairs, n.pairs[i]), right.pairs...)
	left.children = append(left.children, right.children...)
	n.pairs = slices.Delete(n.pairs, i, i+1)
	n.children = slices.Delete(n.children, i+1, i+2)
}

// search visits the pairs of the tree of n whose key has the place 0, in their order. Keys before these have a negative place, keys after them a positive one.
func (n *node) search(place func(key []api.Value) int, visit func(p pair)) {
	if n == nil {
		return
	}
	first := sort.Search(len(n.pairs), func(i int) bool { return place(n.pairs[i].key) >= 0 })
	for i := first; ; i++ {
		n.child(i).search(place, visit)
		if i == len(n.pairs) || place(n.pairs[i].key) > 0 {
			return
		}
		visit(n.pairs[i])
	}
}

// hasShape reports whether the nodes of the tree of n have at least so many pairs and at most order, one child more or none, and their leaves on one level, the last one.
func (n *node) hasShape(least, order, levels int) bool {
	if len(n.pairs) < least || len(n.pairs) > order {
		return false
	}
	if len(n.children) == 0 {
		return levels == 1
	}
	if len(n.children) != len(n.pairs)+1 {
		return false
	}
	return !slices.ContainsFunc(n.children, func(c *node) bool { return !c.hasShape(order/2, order, levels-1) })
}
