// Package way looks for the shortest way from one row of things to another.
package way

import (
	"container/heap"
	"slices"

	"darning/api"
)

// A place is a complex number: its real part tells how far the old row was
// gone through, its imaginary part how far the fresh one was.
const (
	dropStep = 1
	addStep  = 1i
	keepStep = dropStep + addStep
)

// Kinds of steps beside those of package api: no step has led to a place yet,
// or the search began there.
const (
	unreached = 0
	begin     = '.'
)

// Step of a way: its kind (api.Keep, api.Drop, api.Add) and its thing.
type Step struct {
	Kind byte
	Text string
}

// search is what is known of the places between two rows.
type search struct {
	old, fresh []string
	open       spots
	turns      int
	led        []byte // by index: the kind of the step that led to a place first
}

// Find tells the way with the fewest drops and adds; of several the one that,
// at the first step in which they differ, keeps, or, if none does, drops.
func Find(old, fresh []string) []Step {
	s := &search{old: old, fresh: fresh}
	s.led = make([]byte, (len(old)+1)*(len(fresh)+1))
	end := complex(float64(len(old)), float64(len(fresh)))
	heap.Push(&s.open, spot{kind: begin})
	for s.led[s.index(end)] == unreached {
		s.settle(heap.Pop(&s.open).(spot))
	}
	return s.stepsTo(end)
}

// index of a place in the list of all places.
func (s *search) index(place complex128) int {
	return int(real(place))*(len(s.fresh)+1) + int(imag(place))
}

// settle notes the step that led to a spot's place, and opens the places behind
// it. The first spot to come for a place has the best way to it, because all
// ways to one place with as many drops and adds are of one length.
func (s *search) settle(at spot) {
	if s.led[s.index(at.place)] != unreached {
		return
	}
	s.led[s.index(at.place)] = at.kind
	x, y := int(real(at.place)), int(imag(at.place))
	if x < len(s.old) && y < len(s.fresh) && s.old[x] == s.fresh[y] {
		// Where a thing can be kept, no shorter way drops or adds it, so
		// nothing else is opened. The turn stays, for what is kept costs
		// nothing: this way goes on ahead of those that stood behind it.
		heap.Push(&s.open, spot{at.place + keepStep, at.far, at.turn, api.Keep})
		return
	}
	if x < len(s.old) {
		s.change(at, dropStep, api.Drop)
	}
	if y < len(s.fresh) {
		s.change(at, addStep, api.Add)
	}
}

// change opens the place one drop or add farther on.
func (s *search) change(at spot, step complex128, kind byte) {
	if s.led[s.index(at.place+step)] != unreached {
		return
	}
	s.turns++
	heap.Push(&s.open, spot{at.place + step, at.far + 1, s.turns, kind})
}

// stepsTo goes back from a place to the beginning and tells the steps between.
func (s *search) stepsTo(place complex128) []Step {
	var steps []Step
	for place != 0 {
		kind := s.led[s.index(place)]
		switch kind {
		case api.Keep:
			place -= keepStep
		case api.Drop:
			place -= dropStep
		default:
			place -= addStep
		}
		steps = append(steps, Step{kind, s.thing(place, kind)})
	}
	slices.Reverse(steps)
	return steps
}

// thing that a step of that kind, from that place on, goes past.
func (s *search) thing(place complex128, kind byte) string {
	if kind == api.Add {
		return s.fresh[int(imag(place))]
	}
	return s.old[int(real(place))]
}
