package script

import (
	"steelyard/api"
	"steelyard/nat"
	"steelyard/term"
)

// reader is what the commands ahead told.
type reader struct {
	bench    *nat.Bench
	commands map[string]command
	words    map[string]int
	unknowns map[string]unknown
	counts   map[int]int // how many unknowns there are of each sort
	macros   map[string]*macro
	terms    *term.Terms
	asserts  []int
	begun    bool // was there a command that set-logic may not be behind?
	checked  bool
	asked    bool // was there a get-model?
	ended    bool
}

// newReader gives a reader ahead of all commands, for numbers of so many limbs.
func newReader(limbs int) *reader {
	return &reader{
		bench:    nat.New(limbs),
		commands: commands(),
		words:    words(),
		unknowns: map[string]unknown{},
		counts:   map[int]int{},
		macros:   map[string]*macro{},
		terms:    term.New(0, 0),
	}
}

// script gives the formula of the commands that were read.
func (r *reader) script() api.Script {
	return api.Script{
		Bools:   r.names(api.SortBool),
		Reals:   r.names(api.SortReal),
		Nodes:   r.terms.Nodes(),
		Asserts: r.asserts,
		Check:   r.checked,
		Model:   r.asked,
	}
}

// names gives the names of all unknowns of a sort, by their numbers.
func (r *reader) names(sort int) []string {
	list := make([]string, r.counts[sort])
	for name, u := range r.unknowns {
		if u.sort == sort {
			list[u.number] = name
		}
	}
	return list
}

// readAll reads commands, up to an exit.
func (r *reader) readAll(list []api.Sexp) api.Fault {
	for _, x := range list {
		if fault := r.read(x); fault.Code != api.OK {
			return fault
		}
		if r.ended {
			break
		}
	}
	return api.Fault{}
}

// read reads a command.
func (r *reader) read(x api.Sexp) api.Fault {
	if len(x.Kids) == 0 || !isSymbol(x.Kids[0]) {
		return told(api.ErrParen, x)
	}
	head, parts := x.Kids[0], x.Kids[1:]
	c, ok := r.commands[head.Tok.Text]
	switch {
	case !ok:
		return told(api.ErrWord, head)
	case !c.when(r):
		return told(api.ErrOrder, x)
	case len(parts) < c.least || len(parts) > c.most:
		return told(api.ErrCount, x)
	}
	r.begun = r.begun || !c.aside
	return c.do(r, parts)
}

// told gives an error as a fault where an expression begins; none, of OK.
func told(code api.Errno, x api.Sexp) api.Fault {
	if code == api.OK {
		return api.Fault{}
	}
	return api.Fault{Code: code, At: x.Tok.At}
}
