package tablet

import (
	"slices"

	"wardmote/api"
	"wardmote/cmd"
	"wardmote/octet"
	"wardmote/once"
	"wardmote/rows"
	"wardmote/span"
)

// Save answers all of the store as bytes.
func (s *Store) Save() []byte {
	if s == nil {
		return nil
	}
	w := octet.New()
	w.Num(uint32(s.last))
	w.Byte(byte(s.code))
	w.Byte(byte(len(s.l)))
	for _, t := range s.l {
		w.Byte(frozenByte(t.frozen))
		t.write(w)
	}
	return w.Done()
}

func frozenByte(frozen bool) byte {
	if frozen {
		return 1
	}
	return 0
}

// Load answers the store that Save wrote as b; false of bytes that it did not write.
func Load(b []byte) (*Store, bool) {
	s := &Store{}
	if !octet.Read(b, s.take) {
		return nil, false
	}
	return s, true
}

// take takes what Save wrote; r fails of anything else.
func (s *Store) take(r *octet.Reader) {
	s.last = int(r.Num())
	s.code = api.Errno(r.Byte())
	n := r.Byte()
	if n > api.MaxTablets {
		r.Fail()
	}
	for range n {
		frozen := takeFrozen(r)
		t := take(r)
		t.frozen = frozen
		s.l = append(s.l, t)
	}
	if !span.Apart(s.spans()...) || !slices.IsSortedFunc(s.l, byLo) || !s.rightLast() {
		r.Fail()
	}
}

func takeFrozen(r *octet.Reader) bool {
	b := r.Byte()
	if b > frozenByte(true) {
		r.Fail()
	}
	return b == frozenByte(true)
}

// rightLast tells whether the command of Last may have told this Code, and left these tablets.
func (s *Store) rightLast() bool {
	newest := s.newest()
	if s.last < newest || s.last > maxGen {
		return false
	}
	switch s.code {
	case api.OK:
		// A tablet with that Gen was there: if it is not any more, its place is free.
		return newest == s.last || s.hasRoom()
	case api.ErrForm, api.ErrNone:
		return newest < s.last
	case api.ErrBusy, api.ErrFull:
		// Other tablets were in the way, and their Gens are below Last.
		return newest < s.last && s.last > 1
	}
	return false
}

// newest answers the greatest Gen of the tablets; 0 of none.
func (s *Store) newest() int {
	gen := 0
	for _, t := range s.l {
		gen = max(gen, t.gen)
	}
	return gen
}

// hasRoom tells whether one more tablet could be there, with names of its own.
func (s *Store) hasRoom() bool {
	return len(s.l) < api.MaxTablets && !span.Cover(s.spans()...)
}

// state answers all of t as bytes. It is frozen: that needs no telling.
func (t *tablet) state() []byte {
	w := octet.New()
	t.write(w)
	return w.Done()
}

// fromState answers the tablet, not frozen, that state wrote as b; false of bytes that it did not write.
func fromState(b []byte) (*tablet, bool) {
	var t *tablet
	if !octet.Read(b, func(r *octet.Reader) { t = take(r) }) {
		return nil, false
	}
	return t, true
}

func (t *tablet) write(w *octet.Writer) {
	span.Write(w, t.span)
	w.Num(uint32(t.gen))
	t.table.Write(w)
	t.cache.Write(w)
}

// take takes what write wrote of a tablet that commands may have made; r fails of anything else.
func take(r *octet.Reader) *tablet {
	t := &tablet{span: span.Take(r), gen: int(r.Num()), table: rows.Take(r), cache: once.Take(r)}
	if !rightGen(t.gen) || !t.hasOwnRows() || !t.hasOwnReplies() {
		r.Fail()
	}
	return t
}

// hasOwnRows tells whether all rows are in the span.
func (t *tablet) hasOwnRows() bool {
	for _, x := range t.rows() {
		if !span.Has(t.span, x.Name) {
			return false
		}
	}
	return true
}

// reply is what a client was told of its number.
type reply struct {
	seq    int
	answer api.Answer
}

// hasOwnReplies tells whether operations may have told what the cache has, and brought the rows.
func (t *tablet) hasOwnReplies() bool {
	l, ok := replies(t.cache)
	untouched := len(l) == 0 && t.table.Len() == 0
	return ok && (untouched || slices.ContainsFunc(l, reply.mayBringRows))
}

// mayBringRows tells whether the client may have brought a row, by this number
// or by one below it. Who brought the first row is in the cache for good: so it
// can't be that all were told rows, and by their number 1.
func (x reply) mayBringRows() bool {
	return x.seq > 1 || len(x.answer.Rows) == 0
}

// replies answers what c has, by the bytes that it writes; false, unless operations tell all of it.
func replies(c *once.Cache) ([]reply, bool) {
	w := octet.New()
	c.Write(w)
	var l []reply
	ok := octet.Read(w.Done(), func(r *octet.Reader) {
		for range r.Num() {
			l = append(l, takeReply(r))
		}
	})
	return l, ok
}

// takeReply takes what one client was told; r fails of what no operation tells.
func takeReply(r *octet.Reader) reply {
	// Who was told does not matter.
	r.Byte()
	seq := int(r.Num())
	a, why := cmd.DecodeAnswer(r.Text(api.MaxBytes))
	if why != api.OK || !operationTells(a) {
		r.Fail()
	}
	return reply{seq, a}
}

// operationTells tells whether an operation that was done may have told a.
func operationTells(a api.Answer) bool {
	switch a.Code {
	case api.OK:
		return cmd.SameAnswer(a, api.Answer{Rows: a.Rows, Span: a.Span}) && rangeTells(a.Span, a.Rows)
	case api.ErrCond, api.ErrKind, api.ErrFull:
		return cmd.SameAnswer(a, told(a.Code))
	}
	return false
}

// rangeTells tells whether a table may have these rows in s: names that rise, and none without columns.
func rangeTells(s api.Span, l []api.Named) bool {
	for i, x := range l {
		if !span.Has(s, x.Name) || i > 0 && l[i-1].Name >= x.Name || len(x.R.L) == 0 {
			return false
		}
	}
	return true
}
