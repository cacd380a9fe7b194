package shelf

import "hypogeum/api"

// Arm: after so many changes the power goes; Off: is it gone? Crash: it comes back.
func (s *Shelf) Arm(n int) {
	if s == nil {
		return
	}
	s.armed, s.left = true, max(n, 0)
}

func (s *Shelf) Off() bool {
	return s != nil && s.off
}

func (s *Shelf) Crash(picks ...int) {
	if s == nil {
		return
	}
	for _, name := range s.names("") {
		if s.objects[name].synced {
			continue
		}
		pick := 0
		if len(picks) > 0 {
			pick, picks = picks[0], picks[1:]
		}
		s.lose(name, pick)
	}
	s.off, s.armed, s.left = false, false, 0
}

// lose: the pick says what stays of the object, if anything does.
func (s *Shelf) lose(name string, pick int) {
	b := s.objects[name].bytes
	p := uint64(pick) % (uint64(len(b)) + 2)
	if p == 0 {
		delete(s.objects, name)
		return
	}
	s.set(name, object{bytes: b[:p-1], synced: true})
}

// ready: is there a store, and has it power?
func (s *Shelf) ready() api.Errno {
	switch {
	case s == nil:
		return api.ErrArg
	case s.off:
		return api.ErrDown
	}
	return api.OK
}

// spend: a change is about to be made that nothing else stands against: it is counted, or the power goes off by it.
func (s *Shelf) spend() api.Errno {
	if s.armed {
		if s.left == 0 {
			s.off = true
			return api.ErrDown
		}
		s.left--
	}
	s.steps++
	return api.OK
}
