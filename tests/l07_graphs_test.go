package tests

import (
	"math"
	"regexp"
	"slices"
	"strconv"
	"strings"
	"testing"

	"loop.example/g00648/impl"
)

const maxText = 999999999999999

func sameGraphs(a, b impl.Graph) bool {
	return sameNumbers(a.Roots, b.Roots) && slices.EqualFunc(a.Nodes, b.Nodes, sameObj)
}

func node(kind int64, vals ...int64) impl.Obj { return impl.Obj{Type: kind, Vals: vals} }

func graph(roots []int64, nodes ...impl.Obj) impl.Graph {
	return impl.Graph{Roots: roots, Nodes: nodes}
}

// copied shares no memory with g.
func copied(g impl.Graph) impl.Graph {
	h := impl.Graph{Roots: slices.Clone(g.Roots)}
	for _, o := range g.Nodes {
		h.Nodes = append(h.Nodes, node(o.Type, slices.Clone(o.Vals)...))
	}
	return h
}

// someGraph has numbers at the ends of what texts have, and many references that are nothing.
func (d *dice) someGraph(types []string, roots, nodes int64) impl.Graph {
	ref := func() int64 {
		if d.below(3) == 0 {
			return 0
		}
		return d.below(nodes + 1)
	}
	var g impl.Graph
	for range roots {
		g.Roots = append(g.Roots, ref())
	}
	for range nodes {
		o := impl.Obj{Type: d.below(int64(len(types)))}
		for _, kind := range types[o.Type] {
			v := []int64{0, -1, maxText, -maxText, d.below(1 << 30), d.below(9)}[d.below(6)]
			if kind == 'r' {
				v = ref()
			}
			o.Vals = append(o.Vals, v)
		}
		g.Nodes = append(g.Nodes, o)
	}
	return g
}

// reachedBySweeps marks until a sweep over all nodes marks nothing more.
func reachedBySweeps(types []string, g impl.Graph) []int64 {
	marked := make([]bool, len(g.Nodes)+1)
	for _, r := range g.Roots {
		marked[r] = true
	}
	for again := true; again; {
		again = false
		for i, o := range g.Nodes {
			for f, kind := range types[o.Type] {
				if marked[i+1] && kind == 'r' && !marked[o.Vals[f]] {
					marked[o.Vals[f]] = true
					again = true
				}
			}
		}
	}
	var places []int64
	for i := range g.Nodes {
		if marked[i+1] {
			places = append(places, int64(i))
		}
	}
	return places
}

// plainByQueue is what chapter 7 says of Plain, with places in a queue.
func plainByQueue(types []string, g impl.Graph) impl.Graph {
	newRef := map[int64]int64{0: 0}
	var queue []int64
	meet := func(ref int64) int64 {
		if _, ok := newRef[ref]; !ok {
			queue = append(queue, ref-1)
			newRef[ref] = int64(len(queue))
		}
		return newRef[ref]
	}
	var p impl.Graph
	for _, r := range g.Roots {
		p.Roots = append(p.Roots, meet(r))
	}
	for len(p.Nodes) < len(queue) {
		o := g.Nodes[queue[len(p.Nodes)]]
		vals := slices.Clone(o.Vals)
		for i, kind := range types[o.Type] {
			if kind == 'r' {
				vals[i] = meet(vals[i])
			}
		}
		p.Nodes = append(p.Nodes, node(o.Type, vals...))
	}
	return p
}

// shuffled has the nodes of g at other places, and the references to them there.
func (d *dice) shuffled(types []string, g impl.Graph) impl.Graph {
	count := int64(len(g.Nodes))
	places := make([]int64, count)
	for i := range count {
		k := d.below(i + 1)
		places[i], places[k] = places[k], i
	}
	moved := func(ref int64) int64 {
		if ref == 0 {
			return 0
		}
		return places[ref-1] + 1
	}
	h := impl.Graph{Nodes: make([]impl.Obj, count)}
	for _, r := range g.Roots {
		h.Roots = append(h.Roots, moved(r))
	}
	for i, o := range copied(g).Nodes {
		for f, kind := range types[o.Type] {
			if kind == 'r' {
				o.Vals[f] = moved(o.Vals[f])
			}
		}
		h.Nodes[places[i]] = o
	}
	return h
}

func wrongGraph(t *testing.T, what string, types []string, g impl.Graph) {
	t.Helper()
	right := impl.Graph{}
	if impl.GraphOk(types, g) {
		t.Errorf("%s: it is right", what)
	}
	if l := impl.Reached(types, g); len(l) != 0 {
		t.Errorf("%s: Reached = %v", what, l)
	}
	if p := impl.Plain(types, g); !sameGraphs(p, impl.Graph{}) {
		t.Errorf("%s: Plain = %v", what, p)
	}
	if impl.Alike(types, g, g) || impl.Alike(types, g, right) || impl.Alike(types, right, g) {
		t.Errorf("%s: it is alike", what)
	}
	if s := impl.GraphText(types, g); s != "" {
		t.Errorf("%s: GraphText = %q", what, s)
	}
	if n := impl.LinesFor(types, g); n != -1 {
		t.Errorf("%s: LinesFor = %d", what, n)
	}
}

// holdGraph holds all that is asked of a right graph against what chapter 7 says.
func holdGraph(t *testing.T, types []string, g impl.Graph) {
	t.Helper()
	if !impl.GraphOk(types, g) {
		t.Fatalf("%q %v is not right", types, g)
	}
	reached := reachedBySweeps(types, g)
	if l := impl.Reached(types, g); !sameNumbers(l, reached) {
		t.Errorf("Reached(%q, %v) = %v, want %v", types, g, l, reached)
	}
	lines := int64(0)
	for _, place := range reached {
		lines += int64(len(types[g.Nodes[place].Type])/8 + 1)
	}
	if n := impl.LinesFor(types, g); n != lines {
		t.Errorf("LinesFor(%q, %v) = %d, want %d", types, g, n, lines)
	}
	p, want := impl.Plain(types, g), plainByQueue(types, g)
	if !sameGraphs(p, want) {
		t.Errorf("Plain(%q, %v) = %v, want %v", types, g, p, want)
	}
	if !impl.GraphOk(types, p) || len(impl.Reached(types, p)) != len(p.Nodes) || len(p.Nodes) != len(reached) {
		t.Errorf("Plain(%q, %v) = %v, where not all are reached", types, g, p)
	}
	if !impl.Alike(types, g, p) || !impl.Alike(types, p, g) || !impl.Alike(types, g, g) {
		t.Errorf("%q: %v and its plain one are not alike", types, g)
	}
	if again := impl.Plain(types, p); !sameGraphs(again, p) {
		t.Errorf("Plain of the plain %v = %v", p, again)
	}
}

// holdText: a right graph with numbers that are not beyond MaxText comes back.
func holdText(t *testing.T, types []string, g impl.Graph) {
	t.Helper()
	s := impl.GraphText(types, g)
	if back, ok := impl.ReadGraph(types, s); !ok || !sameGraphs(back, g) {
		t.Errorf("%q: %v comes back from %q as %v, %v", types, g, s, back, ok)
	}
}

// chain has n nodes, each of which names the next one; the last one names the first.
func chain(n int64) []impl.Obj {
	var l []impl.Obj
	for i := range n {
		l = append(l, node(0, i, (i+1)%n+1))
	}
	return l
}

func TestP7RightGraphs(t *testing.T) {
	types := []string{"ir", "rri"}
	wide := []string{strings.Repeat("r", 23), strings.Repeat("i", 16), "i", "rrrrrrrr", "iiiiiii"}
	d := &dice{70}
	for _, g := range []impl.Graph{
		{},
		{Roots: []int64{0}},
		{Roots: make([]int64, 40)},
		{Nodes: chain(400)},
		{Roots: []int64{400}, Nodes: chain(400)},
		{Roots: manyRefs(40, 400), Nodes: chain(400)},
		graph([]int64{1}, node(0, 5, 0)),
		graph([]int64{1}, node(0, 5, 1)),
		graph([]int64{1, 1, 0, 1}, node(1, 1, 1, 1)),
		graph([]int64{2}, node(0, 1, 2), node(0, 2, 1)),
		graph([]int64{5, 0, 1, 5}, node(1, 3, 3, 1), node(0, 7, 1), node(0, 8, 5), node(0, 9, 4), node(1, 1, 0, 4)),
		graph([]int64{3, 6}, node(0, 1, 2), node(0, 2, 1), node(0, 3, 4), node(0, 4, 3), node(0, 5, 6), node(0, 6, 6)),
		graph(nil, node(0, 5, 1), node(1, 2, 2, 2)),
	} {
		holdGraph(t, types, g)
		holdText(t, types, g)
		holdGraph(t, types, d.shuffled(types, g))
	}
	for _, v := range append([]int64{maxText + 1, -maxText - 1}, edges...) {
		holdGraph(t, types, graph([]int64{1}, node(0, v, 1)))
	}
	holdGraph(t, wide, d.someGraph(wide, 40, 400))
}

func TestP7AnyGraphs(t *testing.T) {
	d := &dice{71}
	for i := range int64(300) {
		types := d.types(1 + d.below(12))
		if i%2 == 0 {
			types = []string{"ir", "rri", "i"}
		}
		g := d.someGraph(types, d.below(6), d.below(20))
		holdGraph(t, types, g)
		holdText(t, types, g)
		h := d.shuffled(types, g)
		holdGraph(t, types, h)
		if !impl.Alike(types, g, h) {
			t.Errorf("%q: %v and %v are not alike", types, g, h)
		}
	}
}

func TestP7OrderOfPlain(t *testing.T) {
	types := []string{"ir", "rri"}
	for _, r := range []struct{ g, want impl.Graph }{
		// Roots come ahead of what the first root names; fields go in order.
		{
			graph([]int64{4, 0, 2}, node(0, 10, 0), node(1, 5, 3, 20), node(0, 30, 2), node(1, 3, 1, 40), node(0, 50, 4)),
			graph([]int64{1, 0, 2}, node(1, 3, 4, 40), node(1, 5, 3, 20), node(0, 30, 2), node(0, 10, 0), node(0, 50, 1)),
		},
		// Level by level, and not along the first reference to its end.
		{
			graph([]int64{1}, node(1, 2, 3, 0), node(0, 1, 4), node(0, 2, 5), node(0, 3, 0), node(0, 4, 1)),
			graph([]int64{1}, node(1, 2, 3, 0), node(0, 1, 4), node(0, 2, 5), node(0, 3, 0), node(0, 4, 1)),
		},
		// What nothing reaches goes, also a ring of its own, and one that names who is reached.
		{
			graph([]int64{6, 3, 6}, node(0, 1, 2), node(0, 2, 1), node(0, 3, 3), node(0, 4, 3), node(0, 5, 5), node(0, 6, 3)),
			graph([]int64{1, 2, 1}, node(0, 6, 2), node(0, 3, 2)),
		},
		{graph([]int64{0, 0}, node(0, 1, 1)), graph([]int64{0, 0})},
		{graph(nil, node(0, 1, 1)), graph(nil)},
	} {
		if p := impl.Plain(types, r.g); !sameGraphs(p, r.want) {
			t.Errorf("Plain(%v) = %v, want %v", r.g, p, r.want)
		}
		holdGraph(t, types, r.g)
	}
	g := graph([]int64{6, 3, 6}, node(0, 1, 2), node(0, 2, 1), node(0, 3, 3), node(0, 4, 3), node(0, 5, 5), node(0, 6, 3))
	if l := impl.Reached(types, g); !sameNumbers(l, []int64{2, 5}) {
		t.Errorf("Reached = %v", l)
	}
}

func TestP7WrongTypesOfGraphs(t *testing.T) {
	for what, types := range wrongTypes() {
		for _, g := range []impl.Graph{{}, {Roots: []int64{0}}, graph([]int64{1}, node(0, 0))} {
			wrongGraph(t, what, types, g)
		}
		for _, s := range []string{"", "roots\n", "roots 0\n", "roots 1\n0 0\n"} {
			if g, ok := impl.ReadGraph(types, s); ok || !sameGraphs(g, impl.Graph{}) {
				t.Errorf("%s: ReadGraph(%q) = %v, %v", what, s, g, ok)
			}
		}
	}
}

func TestP7WrongGraphs(t *testing.T) {
	types := []string{"ir", "rri"}
	for what, g := range map[string]impl.Graph{
		"41 roots":             {Roots: make([]int64, 41)},
		"41 roots of a node":   graph(manyRefs(41, 1), node(0, 5, 0)),
		"401 nodes":            {Nodes: chain(401)},
		"a root without nodes": {Roots: []int64{1}},
		"the last root":        graph([]int64{1, 0, 2}, node(0, 5, 0)),
		"a root below 0":       graph([]int64{-1}, node(0, 5, 0)),
		"a reference beyond":   graph([]int64{1}, node(0, 5, 2)),
		"a reference below 0":  graph([]int64{1}, node(0, 5, -1)),
		"the second reference": graph([]int64{1}, node(1, 1, 2, 1)),
		"no reached one":       graph([]int64{1}, node(0, 5, 1), node(0, 5, 3)),
		"a Type below 0":       graph([]int64{1}, node(-1, 5, 0)),
		"a Type beyond":        graph([]int64{1}, node(2, 5, 0)),
		"a Type, not reached":  graph([]int64{0}, node(0, 5, 0), node(2, 5, 0)),
		"no Vals":              graph([]int64{1}, node(0)),
		"too few Vals":         graph([]int64{1}, node(0, 5)),
		"too many Vals":        graph([]int64{1}, node(0, 5, 0, 0)),
		"Vals of another":      graph([]int64{1}, node(1, 5, 0)),
		"Vals, not reached":    graph([]int64{1}, node(0, 5, 0), node(1, 0, 0)),
	} {
		wrongGraph(t, what, types, g)
	}
	for _, e := range append([]int64{3, -2, 1<<32 + 1}, edges...) {
		what := "far away: " + strconv.FormatInt(e, 10)
		wrongGraph(t, what, types, graph([]int64{e}, node(0, 5, 0), node(0, 5, 0)))
		wrongGraph(t, what, types, graph([]int64{1}, node(0, 5, e), node(0, 5, 0)))
		wrongGraph(t, what, types, graph([]int64{1}, node(0, 5, 0), node(e, 5, 0)))
	}
}

func TestP7AlikeTellsApart(t *testing.T) {
	types := []string{"ir", "rri", "ii"}
	g := graph([]int64{2, 0, 4}, node(0, 9, 2), node(1, 1, 4, 7), node(0, 8, 3), node(0, 9, 4))
	for what, change := range map[string]func(h *impl.Graph){
		"a number":               func(h *impl.Graph) { h.Nodes[1].Vals[2]++ },
		"a reference, to 0":      func(h *impl.Graph) { h.Nodes[1].Vals[1] = 0 },
		"a reference, elsewhere": func(h *impl.Graph) { h.Nodes[1].Vals[1] = 1 },
		"two references":         func(h *impl.Graph) { h.Nodes[1].Vals[0], h.Nodes[1].Vals[1] = 4, 1 },
		"a root":                 func(h *impl.Graph) { h.Roots[0] = 1 },
		"a root that was 0":      func(h *impl.Graph) { h.Roots[1] = 2 },
		"one root more":          func(h *impl.Graph) { h.Roots = append(h.Roots, 0) },
		"one root less":          func(h *impl.Graph) { h.Roots = h.Roots[:2] },
		"a type":                 func(h *impl.Graph) { h.Nodes[3] = node(2, 9, 4) },
		"a twin":                 func(h *impl.Graph) { h.Nodes[3].Vals[1] = 5; h.Nodes = append(h.Nodes, node(0, 9, 5)) },
	} {
		h := copied(g)
		change(&h)
		if !impl.GraphOk(types, h) || impl.Alike(types, g, h) || impl.Alike(types, h, g) {
			t.Errorf("%s: %v and %v", what, g, h)
		}
	}
	for what, change := range map[string]func(h *impl.Graph){
		"nothing":               func(h *impl.Graph) {},
		"who is not reached":    func(h *impl.Graph) { h.Nodes[2] = node(1, 1, 2, 3) },
		"one more, not reached": func(h *impl.Graph) { h.Nodes = append(h.Nodes, node(0, 5, 1)) },
		"the greatest number":   func(h *impl.Graph) { h.Nodes[2].Vals[0] = math.MaxInt64 },
		"two that change places": func(h *impl.Graph) {
			*h = graph([]int64{3, 0, 4}, node(0, 9, 3), g.Nodes[2], node(1, 1, 4, 7), g.Nodes[3])
		},
		"a plain one in its text": func(h *impl.Graph) { *h, _ = impl.ReadGraph(types, impl.GraphText(types, impl.Plain(types, g))) },
	} {
		h := copied(g)
		change(&h)
		if !impl.Alike(types, g, h) || !impl.Alike(types, h, g) {
			t.Errorf("%s: %v and %v are not alike", what, g, h)
		}
	}
	twins := []string{"ir", "ir"}
	if impl.Alike(twins, graph([]int64{1}, node(0, 5, 1)), graph([]int64{1}, node(1, 5, 1))) {
		t.Error("two types are one")
	}
	if impl.Alike(types, impl.Graph{}, impl.Graph{Roots: []int64{1}}) {
		t.Error("a wrong graph is like the zero value")
	}
}

// TestP7EveryReachedNumberCounts changes the values of graphs one by one.
func TestP7EveryReachedNumberCounts(t *testing.T) {
	d := &dice{72}
	types := []string{"ir", "rri", "i"}
	for range 60 {
		g := d.someGraph(types, 1+d.below(4), 1+d.below(8))
		reached := reachedBySweeps(types, g)
		for i, o := range g.Nodes {
			for f, kind := range types[o.Type] {
				if kind == 'r' {
					continue
				}
				h := copied(g)
				h.Nodes[i].Vals[f] ^= 1
				if impl.Alike(types, g, h) == slices.Contains(reached, int64(i)) {
					t.Errorf("%v and %v, of which %v are reached", g, h, reached)
				}
			}
		}
	}
}

func TestP7GraphTexts(t *testing.T) {
	types := []string{"ir", "rri"}
	for _, r := range []struct {
		g    impl.Graph
		want string
	}{
		{graph(nil), "roots\n"},
		{graph([]int64{0}), "roots 0\n"},
		{graph([]int64{0, 1, 0}, node(0, -5, 1)), "roots 0 1 0\n0 -5 1\n"},
		{graph(nil, node(1, 0, 2, 0), node(0, 10, 0)), "roots\n1 0 2 0\n0 10 0\n"},
		{graph([]int64{1}, node(0, maxText, 0)), "roots 1\n0 999999999999999 0\n"},
		{graph([]int64{1}, node(0, -maxText, 0)), "roots 1\n0 -999999999999999 0\n"},
	} {
		if s := impl.GraphText(types, r.g); s != r.want {
			t.Errorf("GraphText(%v) = %q, want %q", r.g, s, r.want)
		}
		holdText(t, types, r.g)
	}
	for _, v := range append([]int64{maxText + 1, -maxText - 1, 9999999999999999, 10000000000000000}, edges...) {
		if v >= -maxText && v <= maxText {
			continue
		}
		for _, g := range []impl.Graph{graph([]int64{1}, node(0, v, 0)), graph(nil, node(0, 1, 0), node(1, 1, 1, v))} {
			if s := impl.GraphText(types, g); s != "" || !impl.GraphOk(types, g) {
				t.Errorf("GraphText(%v) = %q", g, s)
			}
		}
	}
	holdText(t, types, impl.Graph{Roots: manyRefs(40, 400), Nodes: chain(400)})
}

// wrongTexts are texts of no graph of the types "ir" and "rri".
var wrongTexts = []string{
	"", "\n", "\n\n", " ", "roots", "root\n", "Roots\n", "rootss\n", "roots0\n", "roots1\n0 1 0\n", " roots\n", "roots \n", "\nroots\n", "roots\n\n", "roots\r\n", "roots\x00\n", "roots\t0\n",
	"0 1 0\n", "0 1 0\nroots\n", "roots\nroots\n",
	"roots 00\n", "roots -0\n", "roots +0\n", "roots  0\n", "roots 0 \n", "roots 0  0\n", "roots -1\n", "roots 1\n", "roots x\n", "roots 0x0\n", "roots 0 0", "roots 0,0\n", "roots 1e0\n0 1 0\n", "roots 0.0\n", "roots 0_0\n", "roots ٠\n",
	"roots 2\n0 1 0\n", "roots 01\n0 1 0\n", "roots +1\n0 1 0\n", "roots 1\n0 1 0", "roots 1\n 0 1 0\n", "roots 1\n0 1 0 \n", "roots 1\n0  1 0\n", "roots 1\n0 1  0\n", "roots 1\n\n0 1 0\n", "roots 1\n0 1 0\n\n", "roots 1\n0 1 0\n ",
	"roots 1\n0\n", "roots 1\n0 1\n", "roots 1\n0 1 0 0\n", "roots 1\n1 0 0\n", "roots 1\n2 0 0\n", "roots 1\n-1 1 0\n", "roots 1\n-0 1 0\n", "roots 1\n00 1 0\n", "roots 1\n+0 1 0\n",
	"roots 1\n0 -0 0\n", "roots 1\n0 +3 0\n", "roots 1\n0 03 0\n", "roots 1\n0 -03 0\n", "roots 1\n0 --3 0\n", "roots 1\n0 - 0\n", "roots 1\n0 3- 0\n", "roots 1\n0 a 0\n", "roots 1\n0 3\x00 0\n",
	"roots 1\n0 3 2\n", "roots 1\n0 3 -1\n", "roots 1\n0 3 01\n",
	"roots 1\n0 1000000000000000 0\n", "roots 1\n0 -1000000000000000 0\n", "roots 1\n0 9999999999999999 0\n", "roots 1\n0 -9999999999999999 0\n", "roots 1\n0 0999999999999999 0\n",
	"roots 1\n0 10000000000000000 0\n", "roots 1\n0 -10000000000000000 0\n", "roots 1\n0 00999999999999999 0\n", "roots 1\n0 9223372036854775807 0\n", "roots 1\n0 -9223372036854775808 0\n", "roots 1\n0 18446744073709551617 0\n", "roots 1\n0 99999999999999999999999 0\n",
	"roots 18446744073709551617\n0 1 0\n", "roots 4294967297\n0 1 0\n", "roots 1\n18446744073709551616 1 0\n", "roots 1\n4294967296 1 0\n",
}

func TestP7TextsOfNoGraph(t *testing.T) {
	types := []string{"ir", "rri"}
	long := append([]string{"roots" + strings.Repeat(" 0", 41) + "\n", "roots\n" + strings.Repeat("0 1 0\n", 401), "roots\n" + strings.Repeat("0 1 0\n", 5000)}, wrongTexts...)
	for _, s := range long {
		if g, ok := impl.ReadGraph(types, s); ok || !sameGraphs(g, impl.Graph{}) {
			t.Errorf("ReadGraph(%q) = %v, %v", s, g, ok)
		}
	}
	for _, s := range []string{"roots" + strings.Repeat(" 0", 40) + "\n", "roots\n" + strings.Repeat("0 1 0\n", 400)} {
		if g, ok := impl.ReadGraph(types, s); !ok || impl.GraphText(types, g) != s {
			t.Errorf("ReadGraph(%q) = %v, %v", s, g, ok)
		}
	}
}

var textShape = regexp.MustCompile(`^roots( (0|[1-9][0-9]{0,2}))*\n((0|[1-9])( (0|-?[1-9][0-9]{0,14}))+\n)*$`)

// isText says by the shape of a text and the numbers in it whether a graph of "ir" and "rri" has it.
func isText(s string) bool {
	if !textShape.MatchString(s) {
		return false
	}
	lines := strings.Split(strings.TrimSuffix(s, "\n"), "\n")
	nodes := len(lines) - 1
	isRef := func(word string) bool {
		n, err := strconv.Atoi(word)
		return err == nil && n >= 0 && n <= nodes
	}
	roots := strings.Fields(lines[0])[1:]
	if len(roots) > 40 || nodes > 400 || slices.ContainsFunc(roots, func(w string) bool { return !isRef(w) }) {
		return false
	}
	for _, l := range lines[1:] {
		w := strings.Fields(l)
		if !(w[0] == "0" && len(w) == 3 && isRef(w[2]) || w[0] == "1" && len(w) == 4 && isRef(w[1]) && isRef(w[2])) {
			return false
		}
	}
	return true
}

// TestP7TurnedTexts turns, leaves out and puts in bytes of texts.
func TestP7TurnedTexts(t *testing.T) {
	d := &dice{73}
	types := []string{"ir", "rri"}
	const letters = "0123456789 \n-+r\x00"
	right := 0
	for range 4000 {
		s := impl.GraphText(types, d.someGraph(types, d.below(4), d.below(4)))
		for range 1 + d.below(2) {
			at, c := d.below(int64(len(s))), string(letters[d.below(int64(len(letters)))])
			s = s[:at] + []string{c + s[at+1:], c + s[at:], s[at+1:]}[d.below(3)]
			if s == "" {
				s = "\n"
			}
		}
		g, ok := impl.ReadGraph(types, s)
		if ok != isText(s) || ok && impl.GraphText(types, g) != s || !ok && !sameGraphs(g, impl.Graph{}) {
			t.Errorf("ReadGraph(%q) = %v, %v", s, g, ok)
		}
		if ok {
			right++
		}
	}
	if right < 100 {
		t.Errorf("only %d of the texts were graphs", right)
	}
}

func TestP7LinesForGraphs(t *testing.T) {
	types := []string{"rrrrrrr", "rrrrrrrr", strings.Repeat("i", 15), strings.Repeat("i", 16), strings.Repeat("i", 23)}
	g := graph([]int64{1}, node(0, 2, 2, 1, 0, 0, 0, 2), node(1, 3, 4, 3, 4, 1, 0, 0, 2), node(2, make([]int64, 15)...), node(3, make([]int64, 16)...), node(4, make([]int64, 23)...))
	for root, want := range map[int64]int64{0: 0, 1: 8, 2: 8, 3: 2, 4: 3, 5: 3} {
		g.Roots = []int64{root, root}
		if n := impl.LinesFor(types, g); n != want {
			t.Errorf("LinesFor from %d = %d, want %d", root, n, want)
		}
	}
	if n := impl.LinesFor(types, impl.Graph{}); n != 0 {
		t.Errorf("LinesFor of nothing = %d", n)
	}
	full := impl.Graph{Roots: []int64{1}}
	for i := range int64(400) {
		full.Nodes = append(full.Nodes, node(0, manyRefs(23, (i+1)%400+1)...))
	}
	if n := impl.LinesFor([]string{strings.Repeat("r", 23)}, full); n != 1200 {
		t.Errorf("LinesFor of the greatest = %d", n)
	}
}

// roomyGraph is a copy of g with spare room behind all its lists, and a look at all of that memory.
func roomyGraph(g impl.Graph) (impl.Graph, func() string) {
	roots, allRoots := roomyNumbers(g.Roots)
	h := impl.Graph{Roots: roots}
	looks := [][]int64{allRoots}
	all := make([]impl.Obj, len(g.Nodes)+2)
	for i, o := range g.Nodes {
		vals, allVals := roomyNumbers(o.Vals)
		all[i] = impl.Obj{Type: o.Type, Vals: vals}
		looks = append(looks, allVals)
	}
	all[len(g.Nodes)] = node(77, 7)
	h.Nodes = all[:len(g.Nodes)]
	return h, func() string {
		text := ""
		for _, l := range looks {
			text += numbersText(l) + ";"
		}
		for _, o := range all {
			text += numbersText(append([]int64{o.Type}, o.Vals...)) + ";"
		}
		return text
	}
}

func numbersText(l []int64) string {
	text := ""
	for _, n := range l {
		text += strconv.FormatInt(n, 10) + " "
	}
	return text
}

// spoil writes into all memory of an answer, and behind it.
func spoil(g impl.Graph) {
	spoilNumbers(g.Roots)
	for _, o := range g.Nodes {
		spoilNumbers(o.Vals)
	}
}

func spoilNumbers(l []int64) {
	l = l[:cap(l)]
	for i := range l {
		l[i] = -99
	}
}

func TestP17ArgumentsOfGraphsStay(t *testing.T) {
	types, allTypes := roomyTexts([]string{"ir", "rri"})
	g, look := roomyGraph(graph([]int64{2, 0, 4}, node(0, 9, 2), node(1, 1, 4, 7), node(0, 8, 3), node(0, 9, 4)))
	before := look()
	text := impl.GraphText(types, g)
	plain := impl.Plain(types, g)
	want := copied(plain)
	spoil(plain)
	read, _ := impl.ReadGraph(types, text)
	spoil(read)
	spoilNumbers(impl.Reached(types, g))
	impl.Alike(types, g, g)
	impl.LinesFor(types, g)
	if now := look(); now != before {
		t.Errorf("the graph became %s, it was %s", now, before)
	}
	if !sameTexts(allTypes, []string{"ir", "rri", "spare", "spare", "spare"}) {
		t.Errorf("the types became %q", allTypes)
	}
	if again := impl.Plain(types, g); !sameGraphs(again, want) || impl.GraphText(types, g) != text {
		t.Errorf("Plain again = %v, GraphText = %q", again, impl.GraphText(types, g))
	}
	if l := impl.Reached(types, g); !sameNumbers(l, []int64{0, 1, 3}) {
		t.Errorf("Reached again = %v", l)
	}
}

// TestP17ListsOfAGraphAreApart: what is written into one list of an answer is not seen in another one.
func TestP17ListsOfAGraphAreApart(t *testing.T) {
	types := []string{"ir"}
	vals := []int64{5, 1}
	shared := graph([]int64{1, 2}, node(0, vals...), node(0, vals...))
	read, _ := impl.ReadGraph(types, "roots 1 2\n0 5 2\n0 5 1\n")
	for _, g := range []impl.Graph{impl.Plain(types, shared), read} {
		before := copied(g)
		for i := range g.Nodes {
			spoilNumbers(g.Nodes[i].Vals)
			g.Nodes[i] = copied(before).Nodes[i]
			if !sameGraphs(g, before) {
				t.Errorf("writing into node %d of %v left %v", i, before, g)
			}
		}
	}
}
