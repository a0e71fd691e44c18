package tree

import (
	"slices"

	"waybill/api"
	"waybill/node"
)

// maxSize is the most octets of a node.
const maxSize = 512

// change is a Put or a Delete that is going on. It makes new nodes, and leaves those as they are in whose stead they come, until it went well: where a page can't be read, the tree is what it was.
type change struct {
	t *Tree
	// row is what is put, or has the key that is taken away.
	row api.Row
	del bool
	// made are the nodes that it made, gone those that the tree has no more behind it.
	made, gone []int
}

// change does a change, which makes the keys so many more.
func (t *Tree) change(c *change, more int) api.Errno {
	root, high, e := c.root()
	if e != api.OK {
		t.leave(c.made)
		return e
	}
	t.leave(c.gone)
	t.now = shape{root, t.now.count + more, high}
	return api.OK
}

// hold takes a node to hand, and tells its number.
func (t *Tree) hold(n api.Node) int {
	id := lastNumber - len(t.hand)
	if last := len(t.spare) - 1; last >= 0 {
		id, t.spare = t.spare[last], t.spare[:last]
	}
	t.hand[numberOf(id)] = n
	return id
}

// leave gives nodes up: those at hand are no more, those in the file are for the next Commit to free.
func (t *Tree) leave(ids []int) {
	for _, id := range ids {
		if _, ok := t.hand[numberOf(id)]; ok {
			delete(t.hand, numberOf(id))
			t.spare = append(t.spare, id)
		} else {
			t.gone = append(t.gone, id)
		}
	}
}

// root does the change, and tells the root that the tree has then, and how high it is.
func (c *change) root() (int, int, api.Errno) {
	if c.t.now.root == 0 {
		return c.store(true, []api.Row{c.row}, least)[0].Page, 1, api.OK
	}
	rows, e := c.at(c.t.now.root, whole())
	if e != api.OK {
		return 0, 0, e
	}
	high := c.t.now.high
	for len(rows) > 1 {
		rows = c.store(false, rows, least)
		high++
	}
	return c.sink(rows[0].Page, high)
}

// sink goes down from a root as long as nodes have but one row: none of them is of use.
func (c *change) sink(root, high int) (int, int, api.Errno) {
	for {
		n, e := c.t.node(root)
		if e != api.OK || n.Leaf || len(n.Rows) > 1 {
			return root, high, e
		}
		c.gone = append(c.gone, root)
		root = n.Rows[0].Page
		high--
	}
}

// at does the change from node id down, whose keys lie in s, and tells the rows of the nodes that are there then: none, one or two.
func (c *change) at(id int, s span) ([]api.Row, api.Errno) {
	n, e := c.t.node(id)
	if e != api.OK {
		return nil, e
	}
	c.gone = append(c.gone, id)
	if n.Leaf {
		return c.store(true, c.leaf(n), s.low), api.OK
	}
	rows, out := s.trim(n.Rows)
	if e := c.drop(out); e != api.OK {
		return nil, e
	}
	i, _ := node.Find(api.Node{Rows: rows}, c.row.Key)
	l, e := c.at(rows[i].Page, s.below(rows, i))
	if e != api.OK {
		return nil, e
	}
	rows = slices.Replace(rows, i, i+1, l...)
	if c.del && len(l) == 1 {
		if rows, e = c.join(rows, i, s); e != api.OK {
			return nil, e
		}
	}
	return c.store(false, rows, s.low), api.OK
}

// drop gives up all that is below rows of a node.
func (c *change) drop(rows []api.Row) api.Errno {
	for _, r := range rows {
		n, e := c.t.node(r.Page)
		if e != api.OK {
			return e
		}
		c.gone = append(c.gone, r.Page)
		if n.Leaf {
			continue
		}
		if e := c.drop(n.Rows); e != api.OK {
			return e
		}
	}
	return api.OK
}

// leaf tells the rows of a leaf behind the change.
func (c *change) leaf(n api.Node) []api.Row {
	rows := slices.Clone(n.Rows)
	i, ok := node.Find(n, c.row.Key)
	switch {
	case c.del:
		return slices.Delete(rows, i, i+1)
	case ok:
		rows[i] = c.row
		return rows
	}
	return slices.Insert(rows, i, c.row)
}

// join puts the node of row i together with one beside it, where a page has room for both. One that has a single row is never left so if there is another beside it: such nodes would make a tree high without many keys. (Where both are too much for a page, they are cut in the middle again.)
func (c *change) join(rows []api.Row, i int, s span) ([]api.Row, api.Errno) {
	n, e := c.t.node(rows[i].Page)
	if e != api.OK || node.Size(n) > maxSize/2 {
		return rows, e
	}
	thin := !n.Leaf && len(n.Rows) == 1
	for _, left := range []int{i, i - 1} {
		if left < 0 || left+1 == len(rows) {
			continue
		}
		both, out, e := c.pair(rows, left, s)
		if e != api.OK {
			return nil, e
		}
		if thin || node.Size(both) <= maxSize {
			c.gone = append(c.gone, rows[left].Page, rows[left+1].Page)
			l := c.store(both.Leaf, both.Rows, rows[left].Key)
			return slices.Replace(rows, left, left+2, l...), c.drop(out)
		}
	}
	return rows, api.OK
}

// pair tells the node that those of rows i and i+1 would be together, and the rows that this would lose, as trim says.
func (c *change) pair(rows []api.Row, i int, s span) (api.Node, []api.Row, api.Errno) {
	var both api.Node
	var out []api.Row
	for k := i; k <= i+1; k++ {
		n, e := c.t.node(rows[k].Page)
		if e != api.OK {
			return api.Node{}, nil, e
		}
		if !n.Leaf {
			var lost []api.Row
			n.Rows, lost = s.below(rows, k).trim(n.Rows)
			out = append(out, lost...)
		}
		both = api.Node{Leaf: n.Leaf, Rows: slices.Concat(both.Rows, n.Rows)}
	}
	return both, out, api.OK
}

// store makes nodes of rows, as few as have room for them, and tells the rows that stand for them above; low is the least key that may ever come below them.
func (c *change) store(leaf bool, rows []api.Row, low string) []api.Row {
	var l []api.Row
	for _, part := range parts(api.Node{Leaf: leaf, Rows: rows}) {
		id := c.t.hold(part)
		c.made = append(c.made, id)
		l = append(l, api.Row{Key: part.Rows[0].Key, Page: id})
	}
	if len(l) > 0 {
		l[0].Key = low
	}
	return l
}

// parts cuts a node in as many as it needs room for, each time in the middle: so that behind it no page is nearly empty, and none but a leaf has a single row.
func parts(n api.Node) []api.Node {
	if len(n.Rows) == 0 {
		return nil
	}
	if node.Size(n) <= maxSize {
		return []api.Node{n}
	}
	i := middle(n)
	left, right := n, n
	left.Rows, right.Rows = n.Rows[:i:i], n.Rows[i:]
	return append(parts(left), parts(right)...)
}

// middle tells the row of a node ahead of which both sides are as near to the same size as can be.
func middle(n api.Node) int {
	none := node.Size(api.Node{Leaf: n.Leaf})
	all := node.Size(n) - none
	for i, left := 0, 0; ; i++ {
		size := node.Size(api.Node{Leaf: n.Leaf, Rows: n.Rows[i : i+1]}) - none
		if 2*left+size >= all {
			return i
		}
		left += size
	}
}
