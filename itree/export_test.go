package itree

// Sound reports whether the items of a tree are in order, and every node has the height and the end of its tree and two parts that are in balance.
func Sound(t *Tree) bool {
	sound, size := true, 0
	var last *node
	var look func(n *node) (height, end int)
	look = func(n *node) (height, end int) {
		if n == nil {
			return 0, 0
		}
		left, leftEnd := look(n.children[0])
		sound = sound && (last == nil || isBefore(key(last.item), key(n.item)))
		last = n
		size++
		right, rightEnd := look(n.children[1])
		sound = sound && n.height == 1+max(left, right) && max(left-right, right-left) <= 1
		sound = sound && n.end == max(leftEnd, n.item.Period.To, rightEnd)
		return n.height, n.end
	}
	look(t.root)
	return sound && size == t.size
}

func isBefore(a, b [3]int) bool {
	for i := range a {
		if a[i] != b[i] {
			return a[i] < b[i]
		}
	}
	return false
}
