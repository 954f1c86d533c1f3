package match

import (
	"iter"
	"math/bits"
	"slices"
)

// places is a set of places of a text, as bits: those of the first word are from 64*first on.
type places struct {
	first int
	words []uint64
}

// only is the set of one place.
func only(at int) places {
	return places{first: at / 64, words: []uint64{1 << (at % 64)}}
}

// has tells whether a place is in the set.
func (p places) has(at int) bool {
	i := at/64 - p.first
	return 0 <= i && i < len(p.words) && p.words[i]>>(at%64)&1 == 1
}

// add puts a place into the set.
func (p *places) add(at int) {
	p.cover(at/64, at/64+1)
	p.words[at/64-p.first] |= 1 << (at % 64)
}

// fill puts the places from one up to another into the set, with both.
func (p *places) fill(from, to int) {
	p.cover(from/64, to/64+1)
	for i := from / 64; i <= to/64; i++ {
		word := ^uint64(0)
		if i == from/64 {
			word <<= from % 64
		}
		if i == to/64 {
			word &= ^uint64(0) >> (63 - to%64)
		}
		p.words[i-p.first] |= word
	}
}

// join puts all places of another set into the set.
func (p *places) join(other places) {
	if len(other.words) == 0 {
		return
	}
	p.cover(other.first, other.first+len(other.words))
	for i, word := range other.words {
		p.words[other.first-p.first+i] |= word
	}
}

// cover makes room for the words from one up to another.
func (p *places) cover(from, to int) {
	if len(p.words) == 0 {
		p.first = from
	}
	if ahead := p.first - from; ahead > 0 {
		p.words = slices.Insert(p.words, 0, make([]uint64, ahead)...)
		p.first = from
	}
	if behind := to - p.first - len(p.words); behind > 0 {
		p.words = append(p.words, make([]uint64, behind)...)
	}
}

// copied is the same set, in memory of its own.
func (p places) copied() places {
	return places{first: p.first, words: slices.Clone(p.words)}
}

// less takes all places of another set out of the set.
func (p *places) less(other places) {
	for i := range p.words {
		p.words[i] &^= other.word(p.first + i)
	}
}

// meets tells whether the set has a place that is in another one.
func (p places) meets(other places) bool {
	for i, word := range p.words {
		if word&other.word(p.first+i) != 0 {
			return true
		}
	}
	return false
}

// word is the bits of the places from 64*i on.
func (p places) word(i int) uint64 {
	if i -= p.first; 0 <= i && i < len(p.words) {
		return p.words[i]
	}
	return 0
}

// none tells whether the set is empty.
func (p places) none() bool {
	for _, word := range p.words {
		if word != 0 {
			return false
		}
	}
	return true
}

// up tells the places, the least one first.
func (p places) up() iter.Seq[int] {
	return func(yield func(at int) bool) {
		for i, word := range p.words {
			for ; word != 0; word &= word - 1 {
				if !yield(64*(p.first+i) + bits.TrailingZeros64(word)) {
					return
				}
			}
		}
	}
}

// down tells the places, the greatest one first.
func (p places) down() iter.Seq[int] {
	return func(yield func(at int) bool) {
		for i, word := range slices.Backward(p.words) {
			for word != 0 {
				bit := bits.Len64(word) - 1
				word &^= 1 << bit
				if !yield(64*(p.first+i) + bit) {
					return
				}
			}
		}
	}
}
