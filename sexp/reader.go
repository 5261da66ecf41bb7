package sexp

import "steelyard/api"

// reader has the lists that aren't closed, each within the one ahead of it; the first one is none, but takes what is within no list.
type reader struct {
	open []api.Sexp
}

// newReader gives a reader that read nothing yet.
func newReader() *reader { return &reader{open: make([]api.Sexp, 1)} }

// within tells within how many lists the next token is.
func (r *reader) within() int { return len(r.open) - 1 }

// last gives what the next expression is put into.
func (r *reader) last() *api.Sexp { return &r.open[len(r.open)-1] }

// put puts an expression into the last list that isn't closed.
func (r *reader) put(x api.Sexp) {
	list := r.last()
	list.Kids = append(list.Kids, x)
}

// read takes the next token; an error, if it can't be there.
func (r *reader) read(token api.Token) api.Errno {
	switch token.Kind {
	case api.TokOpen:
		if r.within() >= api.MaxDeep {
			return api.ErrDeep
		}
		r.open = append(r.open, api.Sexp{List: true, Tok: token})
	case api.TokClose:
		if r.within() == 0 {
			return api.ErrParen
		}
		list := *r.last()
		r.open = r.open[:r.within()]
		r.put(list)
	default:
		r.put(api.Sexp{Tok: token})
	}
	return api.OK
}
