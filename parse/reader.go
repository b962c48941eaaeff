package parse

import (
	"strconv"

	"changeling/api"
	"changeling/word"
)

// maxOpen is how many brackets, blocks and signs ahead may be open within one another.
const maxOpen = api.MaxDeep + 1

// fault is a code, and where; zero, if nothing is wrong.
type fault struct{ code, at int }

func (f fault) is() bool { return f.code != api.OK }

// note makes f this fault, unless there has been one.
func (f *fault) note(code, at int) {
	if !f.is() {
		*f = fault{code, at}
	}
}

// placed is a word, and where it begins.
type placed struct {
	part part
	at   int
}

// reader goes over the words of a text. With the first fault none are left, so that all reading comes to its end.
type reader struct {
	words []placed // those to come
	size  int      // of the whole text, in bytes
	open  int
	wrong fault // the first word that can't be read on
	late  fault // the first statement that can't be where it is: told only if nothing is wrong
}

// readerOf is a reader at the beginning of s.
func readerOf(s string) *reader {
	words, code, at := word.All(s)
	r := &reader{size: len(s), wrong: fault{code, at}}
	for _, w := range words {
		r.words = append(r.words, placed{partOf(w), w.At})
	}
	return r
}

// at is where the next word begins; behind the last one, where the text ends.
func (r *reader) at() int {
	if len(r.words) == 0 {
		return r.size
	}
	return r.words[0].at
}

// ahead is the word that comes that many words behind the next one; nil, if there is none.
func (r *reader) ahead(n int) part {
	if n >= len(r.words) {
		return nil
	}
	return r.words[n].part
}

// skip goes on behind the next word, of which it is known that there is one.
func (r *reader) skip() { r.words = r.words[1:] }

// fail notes what is wrong at the next word.
func (r *reader) fail(code int) {
	r.wrong.note(code, r.at())
	r.words = nil
}

// seesAt tells whether that word is s, a sign or a word of the language.
func (r *reader) seesAt(n int, s fixed) bool {
	f, is := r.ahead(n).(fixed)
	return is && f == s
}

// sees tells whether the next word is s.
func (r *reader) sees(s fixed) bool { return r.seesAt(0, s) }

// take goes on behind s, if it is next.
func (r *reader) take(s fixed) bool {
	sees := r.sees(s)
	if sees {
		r.skip()
	}
	return sees
}

// need goes on behind s, which must be next.
func (r *reader) need(s fixed) {
	if !r.take(s) {
		r.fail(api.ErrParse)
	}
}

// end fails at what stands behind all.
func (r *reader) end() {
	if len(r.words) > 0 {
		r.fail(api.ErrParse)
	}
}

// until tells whether there is a word that comes ahead of s.
func (r *reader) until(s fixed) bool { return len(r.words) > 0 && !r.sees(s) }

// enter goes on behind s, which must be next, and with which something is open that counts.
func (r *reader) enter(s fixed) {
	if r.open == maxOpen && r.sees(s) {
		r.fail(api.ErrDeep)
	}
	r.need(s)
	r.open++
}

// leave goes on behind s, which must be next and ends what was open.
func (r *reader) leave(s fixed) {
	r.need(s)
	r.open--
}

// name reads NAME.
func (r *reader) name() string {
	n, is := r.ahead(0).(name)
	return r.called(string(n), is)
}

// class reads CLASS.
func (r *reader) class() string {
	c, is := r.ahead(0).(class)
	return r.called(string(c), is)
}

// called goes on behind s, the next word, if that is of the kind that must be there.
func (r *reader) called(s string, is bool) string {
	if !is {
		r.fail(api.ErrParse)
		return ""
	}
	if len(s) > api.MaxName {
		r.fail(api.ErrLimit)
		return ""
	}
	r.skip()
	return s
}

// number reads NUMBER, which may be up to most.
func (r *reader) number(most int64) int32 {
	digits, is := r.ahead(0).(number)
	if !is {
		r.fail(api.ErrParse)
		return 0
	}
	n, err := strconv.ParseInt(string(digits), 10, 32)
	if err != nil || n > most {
		r.fail(api.ErrLimit)
		return 0
	}
	r.skip()
	return int32(n)
}

// typeName reads TYPE.
func (r *reader) typeName() string {
	for _, t := range [...]fixed{"int", "boolean", "String"} {
		if r.take(t) {
			return string(t)
		}
	}
	return r.class()
}
