package label

import (
	"cmp"
	"slices"

	"culprit/api"
)

// marked: a site that carries its label, so that it is known wherever the site is moved.
type marked struct {
	api.Site
	label int
}

// order: what sites are held against each other by; the first that tells them apart decides.
type order []func(a, b marked) int

// Sorted answers all labels, in the order of their sites.
func Sorted(sites []api.Site) []int {
	all := make([]marked, len(sites))
	for i, site := range sites {
		all[i] = marked{Site: site, label: i + 1}
	}
	slices.SortFunc(all, siteOrder().compare)
	labels := make([]int, len(all))
	for i, m := range all {
		labels[i] = m.label
	}
	return labels
}

// siteOrder ends with the labels: no two are the same, so nothing is left to how the sort goes about it.
func siteOrder() order {
	return order{
		func(a, b marked) int { return cmp.Compare(a.Module, b.Module) },
		func(a, b marked) int { return cmp.Compare(a.At.Line, b.At.Line) },
		func(a, b marked) int { return cmp.Compare(a.At.Col, b.At.Col) },
		func(a, b marked) int { return cmp.Compare(a.Rule, b.Rule) },
		func(a, b marked) int { return cmp.Compare(a.label, b.label) },
	}
}

func (o order) compare(a, b marked) int {
	for _, by := range o {
		if c := by(a, b); c != 0 {
			return c
		}
	}
	return 0
}
