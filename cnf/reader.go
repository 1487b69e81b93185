package cnf

import (
	"strings"

	"trestle/api"
)

// reader goes through a text: line by line up to that of the counts, then word by word.
type reader struct {
	text    string
	at      int // what stands ahead of it has been read
	vars    int // what the line of the counts tells
	most    int // how many clauses it tells
	clauses []api.Clause
	open    bool // the last clause has no 0 yet
}

// counts reads the comments ahead of the line of the counts, and that line.
func (r *reader) counts() api.Fault {
	for r.atComment() {
		r.line()
	}
	at := r.at
	vars, clauses, ok := countsOf(r.line())
	if !ok {
		return api.Fault{At: at, Code: api.ErrProblem}
	}
	r.vars, r.most = vars, clauses
	return api.Fault{}
}

// words reads what stands behind the line of the counts.
func (r *reader) words() api.Fault {
	for r.at < len(r.text) {
		switch r.text[r.at] {
		case blank, tab, carriageReturn, lineEnd:
			r.at++
		case comment:
			if r.atComment() {
				r.line()
				continue
			}
			// It is a word, as what any other byte begins; what is wrong with that is told there.
			fallthrough
		default:
			at := r.at
			if e := r.take(r.word()); e != api.OK {
				return api.Fault{At: at, Code: e}
			}
		}
	}
	if r.open || len(r.clauses) < r.most {
		return api.Fault{At: len(r.text), Code: api.ErrCount}
	}
	return api.Fault{}
}

// take puts what a word says to the clauses.
func (r *reader) take(word string) api.Errno {
	x, ok := numberOf(word)
	switch {
	case !ok:
		return api.ErrForm
	case x != 0 && !isLiteral(x, r.vars):
		return api.ErrVar
	case !r.open:
		if len(r.clauses) == r.most {
			return api.ErrCount
		}
		r.clauses = append(r.clauses, nil)
		r.open = true
		// What begins a clause is its first literal, or its 0.
		fallthrough
	default:
		return r.put(x)
	}
}

// put puts a literal to the clause that is open, or closes it by a 0.
func (r *reader) put(x int) api.Errno {
	last := &r.clauses[len(r.clauses)-1]
	switch {
	case x == 0:
		r.open = false
	case len(*last) == api.MaxItems:
		return api.ErrLong
	default:
		*last = append(*last, x)
	}
	return api.OK
}

// atComment tells whether a comment begins here.
func (r *reader) atComment() bool {
	if r.at > 0 && r.text[r.at-1] != lineEnd {
		return false
	}
	rest := r.text[r.at:]
	if rest == "" || rest[0] != comment {
		return false
	}
	return len(rest) == 1 || rest[1] == blank || rest[1] == lineEnd
}

// line is what is left of the line here, without its end; the reader goes behind that.
func (r *reader) line() string {
	line := r.text[r.at:]
	if n := strings.IndexByte(line, lineEnd); n >= 0 {
		r.at += n + 1
		return line[:n]
	}
	r.at = len(r.text)
	return line
}

// word is the word that begins here.
func (r *reader) word() string {
	word := r.text[r.at:]
	if n := strings.IndexAny(word, between); n >= 0 {
		word = word[:n]
	}
	r.at += len(word)
	return word
}
