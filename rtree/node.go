package rtree

import (
	"cmp"
	"iter"
	"slices"

	"bitemporal/api"
	"bitemporal/period"
	"bitemporal/region"
)

// node is a leaf, which has boxes, or a node with children. Its rectangle is the bounding rectangle of these.
type node struct {
	rect     api.Rect
	boxes    []api.Box
	children []*node
}

// pack returns the root of the tree of valid boxes, nil if there are none.
func pack(l []api.Box, width int) *node {
	order := func(a, b api.Box) int {
		return cmp.Or(period.Compare(a.Rect.Valid, b.Rect.Valid), period.Compare(a.Rect.System, b.Rect.System), cmp.Compare(a.ID, b.ID))
	}
	level := grouped(slices.SortedFunc(slices.Values(l), order), width, leaf)
	for len(level) > 1 {
		level = grouped(level, width, parent)
	}
	if len(level) == 0 {
		return nil
	}
	return level[0]
}

// grouped returns a node for each group of so many elements, in their order; the last group may have fewer.
func grouped[E any](l []E, width int, become func(group []E) *node) []*node {
	var nodes []*node
	for group := range slices.Chunk(l, width) {
		nodes = append(nodes, become(group))
	}
	return nodes
}

// leaf returns a node with boxes.
func leaf(boxes []api.Box) *node {
	n := &node{rect: boxes[0].Rect, boxes: boxes}
	for _, b := range boxes {
		n.rect = bounding(n.rect, b.Rect)
	}
	return n
}

// parent returns a node with children.
func parent(children []*node) *node {
	n := &node{rect: children[0].rect, children: children}
	for _, c := range children {
		n.rect = bounding(n.rect, c.rect)
	}
	return n
}

// bounding returns the bounding rectangle of two rectangles.
func bounding(a, b api.Rect) api.Rect {
	return api.Rect{Valid: cover(a.Valid, b.Valid), System: cover(a.System, b.System)}
}

// cover returns the least period that contains two others.
func cover(p, q api.Period) api.Period {
	return api.Period{From: min(p.From, q.From), To: max(p.To, q.To)}
}

// child returns the first child, nil for a leaf.
func (n *node) child() *node {
	if len(n.children) == 0 {
		return nil
	}
	return n.children[0]
}

// search calls examine for n and for each node below it that a search for a valid rectangle examines.
func (n *node) search(r api.Rect, examine func(n *node)) {
	examine(n)
	for child := range n.overlapping(r) {
		child.search(r, examine)
	}
}

// overlapping yields the children whose rectangle overlaps r.
func (n *node) overlapping(r api.Rect) iter.Seq[*node] {
	return func(yield func(child *node) bool) {
		for _, child := range n.children {
			if region.Overlaps(child.rect, r) && !yield(child) {
				return
			}
		}
	}
}

// isValid reports whether both periods of a rectangle are valid.
func isValid(r api.Rect) bool {
	return period.Valid(r.Valid) && period.Valid(r.System)
}
