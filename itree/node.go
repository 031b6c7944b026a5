package itree

import (
	"cmp"
	"slices"

	"bitemporal/api"
	"bitemporal/period"
)

// node is an item with the trees of the items before it and after it. The numbers of levels of the two differ by at most one, which keeps the height below 1.5 times the least possible one.
type node struct {
	item     api.Counted
	children [2]*node
	height   int
	// end is the greatest end of a period of this node and those below it: a search skips the trees that end too early.
	end int
}

// left returns the link to the items before n.
func (n *node) left() **node { return &n.children[0] }

// right returns the link to the items after n.
func (n *node) right() **node { return &n.children[1] }

// A side is one of left and right.
type side func(n *node) **node

// key returns the numbers by which items are ordered.
func key(item api.Counted) [3]int {
	return [3]int{item.Period.From, item.Period.To, item.N}
}

// place returns the links from the root to the place of an item. The last one is nil if the tree does not contain the item, and otherwise leads to its node.
func (t *Tree) place(item api.Counted) []**node {
	wanted := key(item)
	link := &t.root
	path := []**node{link}
search:
	for ; *link != nil; path = append(path, link) {
		for i, part := range key((*link).item) {
			switch {
			case wanted[i] < part:
				link = (*link).left()
				continue search
			case wanted[i] > part:
				link = (*link).right()
				continue search
			}
		}
		return path
	}
	return path
}

// unlink removes the item to which a path leads, and returns the links from the root to the place of the node that is gone. If there are items behind it in the tree of its node, that is the node of the next one, which moves to the item's node.
func unlink(path []**node) []**node {
	n := *path[len(path)-1]
	for link := n.right(); *link != nil; link = (*link).left() {
		path = append(path, link)
	}
	last := path[len(path)-1]
	next := *last
	n.item = next.item
	*last = cmp.Or(*next.left(), *next.right())
	return path
}

// rebalance restores the balance of the nodes on a path, from the last one up to the root.
func rebalance(path []**node) {
	for _, link := range slices.Backward(path) {
		if *link != nil {
			*link = (*link).balanced()
		}
	}
}

// balanced returns the tree of n, whose two parts may differ by two levels, in balance.
func (n *node) balanced() *node {
	left, right := (*n.left()).levels(), (*n.right()).levels()
	switch {
	case left > right+1:
		return n.lowered((*node).left, (*node).right)
	case right > left+1:
		return n.lowered((*node).right, (*node).left)
	}
	n.measure()
	return n
}

// lowered returns the tree of n with a level less on the side high. A child that is higher towards the side low is rotated before, as its inner part would otherwise stay as deep as it is.
func (n *node) lowered(high, low side) *node {
	child := high(n)
	if (*high(*child)).levels() < (*low(*child)).levels() {
		*child = (*child).rotated(low, high)
	}
	return n.rotated(high, low)
}

// rotated returns the tree of n with its child of the side up above it.
func (n *node) rotated(up, down side) *node {
	top := *up(n)
	*up(n) = *down(top)
	*down(top) = n
	n.measure()
	top.measure()
	return top
}

// measure computes the height and the end of n from those of its children.
func (n *node) measure() {
	n.height, n.end = 1, n.item.Period.To
	for _, child := range n.children {
		if child != nil {
			n.height = max(n.height, child.height+1)
			n.end = max(n.end, child.end)
		}
	}
}

// levels returns the height of the tree of n.
func (n *node) levels() int {
	if n == nil {
		return 0
	}
	return n.height
}

// search visits the items of the tree of n whose period overlaps p, in their order.
func (n *node) search(p api.Period, visit func(item api.Counted)) {
	if n == nil || n.end <= p.From {
		return
	}
	(*n.left()).search(p, visit)
	if n.item.Period.From >= p.To {
		return
	}
	if period.Overlaps(n.item.Period, p) {
		visit(n.item)
	}
	(*n.right()).search(p, visit)
}
