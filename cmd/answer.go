package cmd

import (
	"bytes"
	"slices"

	"wardmote/api"
	"wardmote/octet"
	"wardmote/row"
	"wardmote/span"
)

// EncodeAnswer answers all of a as bytes; ErrArg of an answer with a part that may not be.
func EncodeAnswer(a api.Answer) ([]byte, api.Errno) {
	if !rightAnswer(a) {
		return nil, api.ErrArg
	}
	w := octet.New()
	writeAnswer(w, a)
	return w.Done(), api.OK
}

func rightAnswer(a api.Answer) bool {
	return within(int(a.Code), 0, maxByte) && rightRows(a.Rows) && span.Right(a.Span) &&
		within(a.Group, 0, maxByte) && within(a.To, 0, maxByte) && within(a.Do, 0, maxByte) &&
		within(a.Gen, 0, maxGen) && within(a.Old, 0, maxGen) &&
		rightPlace(a.At) && len(a.State) <= api.MaxBytes
}

// rightRows asks nothing of the order of the names.
func rightRows(l []api.Named) bool {
	if len(l) > api.MaxScan {
		return false
	}
	for _, x := range l {
		if !row.Name(x.Name) || !row.Right(x.R) {
			return false
		}
	}
	return true
}

// writeAnswer writes a, which is right.
func writeAnswer(w *octet.Writer, a api.Answer) {
	w.Byte(byte(a.Code))
	w.Byte(byte(len(a.Rows)))
	for _, x := range a.Rows {
		w.Text([]byte(x.Name))
		row.Write(w, x.R)
	}
	span.Write(w, a.Span)
	w.Byte(byte(a.Group))
	w.Byte(byte(a.To))
	w.Byte(byte(a.Do))
	w.Num(uint32(a.Gen))
	w.Num(uint32(a.Old))
	w.Text([]byte(a.At))
	w.Text(a.State)
}

// DecodeAnswer answers what EncodeAnswer wrote as b; ErrForm of bytes that it did not write.
func DecodeAnswer(b []byte) (api.Answer, api.Errno) {
	var a api.Answer
	if !octet.Read(b, func(r *octet.Reader) { a = takeAnswer(r) }) {
		return api.Answer{}, api.ErrForm
	}
	return a, api.OK
}

// takeAnswer takes what writeAnswer wrote; r fails of anything else.
func takeAnswer(r *octet.Reader) api.Answer {
	a := api.Answer{Code: api.Errno(r.Byte())}
	for range r.Byte() {
		a.Rows = append(a.Rows, api.Named{Name: takeName(r), R: row.Take(r)})
	}
	a.Span = span.Take(r)
	a.Group, a.To, a.Do = int(r.Byte()), int(r.Byte()), int(r.Byte())
	a.Gen, a.Old = int(r.Num()), int(r.Num())
	a.At, a.State = takeName(r), r.Text(api.MaxBytes)
	if !rightAnswer(a) {
		r.Fail()
	}
	return a
}

// SameAnswer tells whether all fields of both are the same, right or not.
func SameAnswer(a, b api.Answer) bool {
	return a.Code == b.Code && slices.EqualFunc(a.Rows, b.Rows, sameNamed) && a.Span == b.Span &&
		a.Group == b.Group && a.To == b.To && a.Do == b.Do &&
		a.Gen == b.Gen && a.Old == b.Old &&
		a.At == b.At && bytes.Equal(a.State, b.State)
}

func sameNamed(a, b api.Named) bool {
	return a.Name == b.Name && row.Same(a.R, b.R)
}
