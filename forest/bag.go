package forest

import (
	"spandrel/api"
	"spandrel/span"
)

// bag is spans by their IDs; none of them stands above itself.
type bag map[int]api.Span

// put puts a span in, if it may be there, and counts what came of it.
func (b bag) put(s api.Span, c *api.Counts) {
	old, there := b[s.ID]
	switch {
	case there && old == s:
		c.Same++
	case there:
		c.Other++
	case len(b) >= api.MaxSpans:
		c.Full++
	case b.aboveItself(s):
		c.Cycle++
	default:
		b[s.ID] = s
		c.Added++
	}
}

// aboveItself tells whether a span that is not there would stand above itself.
func (b bag) aboveItself(s api.Span) bool {
	for up, there := b[s.Parent]; there; up, there = b[up.Parent] {
		if up.Parent == s.ID {
			return true
		}
	}
	return false
}

// sorted is all spans in their order.
func (b bag) sorted() []api.Span {
	var l []api.Span
	for _, s := range b {
		l = append(l, s)
	}
	return span.Sort(l...)
}

// lastEnd is the greatest end.
func (b bag) lastEnd() int {
	end := 0
	for _, s := range b {
		end = max(end, s.End)
	}
	return end
}

// fromTop is the roots, then the orphans, each with all that stands beneath it.
func (b bag) fromTop() []api.Branch {
	var roots, orphans []api.Branch
	under := map[int][]api.Span{}
	for _, s := range b.sorted() {
		if s.Parent == 0 {
			roots = append(roots, api.Branch{Span: s})
		} else if _, there := b[s.Parent]; there {
			under[s.Parent] = append(under[s.Parent], s)
		} else {
			orphans = append(orphans, api.Branch{Orphan: true, Span: s})
		}
	}
	var l []api.Branch
	for _, top := range append(roots, orphans...) {
		l = unfold(l, top, under)
	}
	return l
}

// unfold puts a branch behind others, and behind it what stands beneath it.
func unfold(l []api.Branch, top api.Branch, under map[int][]api.Span) []api.Branch {
	l = append(l, top)
	for _, s := range under[top.Span.ID] {
		l = unfold(l, api.Branch{Depth: top.Depth + 1, Span: s}, under)
	}
	return l
}
