package proof

import (
	"slices"

	"countersign/api"
	"countersign/term"
)

// A plan is a proof on its way: what its goal is made of, how each of that comes out of what is known, if it does, and
// the moves so far.
//
// It need not count its moves: what is taken out of what is known stands at most MaxDeep deep there, so that it costs at
// most 16; a goal of MaxSize nodes has at most 32 ends; and with a move for each node above these, that makes at most 544.
type plan struct {
	wanted []api.Term // in order
	paths  []path     // of each that is wanted
	moves  []api.Move
}

// A path leads to a term: from the known one of that number, by moves of these Kinds, each from the result of the last.
type path struct {
	found  bool
	number int
	opens  []int
}

// planFor is a plan for the goal t, ahead of its first move.
func planFor(t api.Term) *plan {
	wanted := term.Sort(parts(t))
	return &plan{wanted: wanted, paths: make([]path, len(wanted))}
}

// look keeps, of the term t to which way leads and of all that stands open in it, the first path to what is wanted.
func (p *plan) look(t api.Term, way path) {
	if at, is := slices.BinarySearchFunc(p.wanted, t, order); is && !p.paths[at].found {
		p.paths[at] = path{found: true, number: way.number, opens: slices.Clone(way.opens)}
	}
	for kind := api.MKnown; kind <= api.MPair; kind++ {
		r, opens := ruleOf(api.Move{Kind: kind}).(opening)
		if !opens {
			continue
		}
		if kid, fits := r.apply([]api.Term{t}); fits {
			p.look(kid, path{number: way.number, opens: append(way.opens, kind)})
		}
	}
}

// prove adds the moves that end with the term t, which can be made, and answers the number of the last. An Atom needs one
// move, wherever else it stands.
func (p *plan) prove(t api.Term) int {
	if t.Kind == api.Atom {
		return p.add(api.Move{Kind: api.MAtom, S: t.S})
	}
	if at, is := slices.BinarySearchFunc(p.wanted, t, order); is && p.paths[at].found {
		return p.follow(p.paths[at])
	}
	var numbers [2]int
	for i, kid := range t.Kids {
		numbers[i] = p.prove(kid)
	}
	return p.add(api.Move{Kind: builder(t.Kind), A: numbers[0], B: numbers[1]})
}

// follow adds the moves of a path, and answers the number of the last.
func (p *plan) follow(way path) int {
	last := p.add(api.Move{Kind: api.MKnown, A: way.number})
	for _, kind := range way.opens {
		last = p.add(api.Move{Kind: kind, A: last})
	}
	return last
}

// add adds a move, and answers its number.
func (p *plan) add(m api.Move) int {
	p.moves = append(p.moves, m)
	return len(p.moves) - 1
}

// builder answers the Kind of the move that makes a term of that Kind of its Kids; 0, if none does.
func builder(kind int) int {
	for move := api.MKnown; move <= api.MPair; move++ {
		if r, builds := ruleOf(api.Move{Kind: move}).(building); builds && r.kind == kind {
			return move
		}
	}
	return 0
}
