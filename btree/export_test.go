package btree

import "bitemporal/api"

// A Shape describes a node: its pairs have one number as key and 0 as identity.
type Shape struct {
	Keys     []int
	Children []Shape
}

// Build returns a tree with the nodes of a shape, whether they are those of a B-tree or not.
func Build(order int, s Shape) *Tree { return &Tree{order: order, root: s.node()} }

func (s Shape) node() *node {
	n := &node{}
	for _, k := range s.Keys {
		n.pairs = append(n.pairs, pair{key: []api.Value{{Kind: api.KindInt, Int: k}}})
	}
	for _, c := range s.Children {
		n.children = append(n.children, c.node())
	}
	return n
}
