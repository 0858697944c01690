// Package term: messages without numbers. See doc/01-term.md.
//
// Of what is no term nothing is promised but that each call ends and panics at nothing. May keeps to that by itself: it
// stops at the first node that breaks a bound. The other faces ask May ahead of going down, since what is no term may be
// as deep and as wide as it likes, and may even stand within itself.
package term

import (
	"cmp"
	"slices"
	"strings"

	"countersign/api"
)

// May says whether t is a term.
func May(t api.Term) bool {
	nodes := 0
	return walk(t, 1, func(part api.Term, deep int) bool {
		nodes++
		return nodes <= api.MaxSize && deep <= api.MaxDeep && formed(part)
	})
}

// Size counts the nodes of t.
func Size(t api.Term) int {
	if !May(t) {
		return 0
	}
	nodes := 0
	walk(t, 1, func(api.Term, int) bool {
		nodes++
		return true
	})
	return nodes
}

// Same says whether a and b are one term.
func Same(a, b api.Term) bool {
	return May(a) && May(b) && order(a, b) == 0
}

// Less says whether a stands ahead of b.
func Less(a, b api.Term) bool {
	return May(a) && May(b) && order(a, b) < 0
}

// Has says whether x is t or stands within it.
func Has(t, x api.Term) bool {
	if !May(t) || !May(x) {
		return false
	}
	missed := walk(t, 1, func(part api.Term, _ int) bool {
		return order(part, x) != 0
	})
	return !missed
}

// Nonces lists the numbers of the Nonces in t, rising, each once.
func Nonces(t api.Term) []int {
	if !May(t) {
		return nil
	}
	var found []int
	walk(t, 1, func(part api.Term, _ int) bool {
		if part.Kind == api.Nonce {
			found = append(found, part.N)
		}
		return true
	})
	slices.Sort(found)
	return slices.Compact(found)
}

// Sort lists the terms of l, rising, each once. What is no term has no place in the order, and is left out.
func Sort(l []api.Term) []api.Term {
	sorted := make([]api.Term, 0, len(l))
	for _, t := range l {
		if May(t) {
			sorted = append(sorted, t)
		}
	}
	slices.SortFunc(sorted, order)
	sorted = slices.CompactFunc(sorted, func(a, b api.Term) bool {
		return order(a, b) == 0
	})
	for i := range len(sorted) {
		sorted[i] = fresh(sorted[i])
	}
	return sorted
}

// walk hands visit each node of t with how deep it stands, a node ahead of its Kids, and stops as soon as visit says no;
// it answers whether visit never did.
func walk(t api.Term, deep int, visit func(part api.Term, deep int) bool) bool {
	if !visit(t, deep) {
		return false
	}
	for i := range len(t.Kids) {
		if !walk(t.Kids[i], deep+1, visit) {
			return false
		}
	}
	return true
}

// formed says whether a node by itself, whatever its Kids are, is as its Kind asks.
func formed(t api.Term) bool {
	if len(t.Kids) != kidsOf(t.Kind) {
		return false
	}
	switch t.Kind {
	case api.Atom:
		return t.N == 0 && len(t.S) <= api.MaxAtom
	case api.Nonce:
		return t.S == "" && t.N >= 0 && t.N <= api.MaxNonce
	}
	return t.N == 0 && t.S == ""
}

// kidsOf answers how many Kids a node of that Kind has; -1, which no list is long, where the Kind is none.
func kidsOf(kind int) int {
	switch kind {
	case api.Atom, api.Nonce:
		return 0
	case api.Hash, api.Pub:
		return 1
	case api.Mac, api.Sig, api.Pair:
		return 2
	}
	return -1
}

// order is below 0, 0 or above 0 as the term a stands ahead of the term b, is it, or stands behind it. Where the Kinds are
// the same, so are the numbers of Kids.
func order(a, b api.Term) int {
	node := cmp.Or(cmp.Compare(a.Kind, b.Kind), cmp.Compare(a.N, b.N), strings.Compare(a.S, b.S))
	if node != 0 {
		return node
	}
	for i := range len(a.Kids) {
		if kid := order(a.Kids[i], b.Kids[i]); kid != 0 {
			return kid
		}
	}
	return 0
}

// fresh is the term t in memory of its own: a caller may write to what it is answered, and to the spare room of it.
func fresh(t api.Term) api.Term {
	var kids []api.Term
	for _, kid := range t.Kids {
		kids = append(kids, fresh(kid))
	}
	t.Kids = kids
	return t
}
