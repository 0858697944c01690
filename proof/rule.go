package proof

import "countersign/api"

// A rule says what comes of the terms to which a move points, as many as it asks for; false, if they don't fit it.
type rule interface {
	apply(from []api.Term) (api.Term, bool)
}

// known takes a known term as it is.
type known struct{}

// spoken makes an Atom, of nothing but its text.
type spoken struct{ text string }

// opening takes the Kid of that number out of a term of that Kind.
type opening struct{ kind, kid int }

// building makes a term of that Kind of so many Kids.
type building struct{ kind, kids int }

func (known) apply(from []api.Term) (api.Term, bool) {
	return from[0], true
}

func (r spoken) apply([]api.Term) (api.Term, bool) {
	return api.Term{Kind: api.Atom, S: r.text}, true
}

func (r opening) apply(from []api.Term) (api.Term, bool) {
	whole := from[0]
	if whole.Kind != r.kind {
		return api.Term{}, false
	}
	return whole.Kids[r.kid], true
}

func (r building) apply(from []api.Term) (api.Term, bool) {
	return api.Term{Kind: r.kind, Kids: from}, true
}

// ruleOf answers the rule of a move; none, if the move's Kind is none.
func ruleOf(m api.Move) rule {
	switch m.Kind {
	case api.MKnown:
		return known{}
	case api.MAtom:
		return spoken{m.S}
	case api.MLeft:
		return opening{api.Pair, 0}
	case api.MRight:
		return opening{api.Pair, 1}
	case api.MOpen:
		return opening{api.Sig, 1}
	case api.MHash:
		return building{api.Hash, 1}
	case api.MPub:
		return building{api.Pub, 1}
	case api.MMac:
		return building{api.Mac, 2}
	case api.MSig:
		return building{api.Sig, 2}
	case api.MPair:
		return building{api.Pair, 2}
	}
	return nil
}
