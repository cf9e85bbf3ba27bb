package stable

import (
	"slices"

	"dockyard/api"
	"dockyard/disk"
)

// Open answers the vote and the snapshot that are on a disk.
func Open(d *disk.Disk) (*Stable, api.Errno) {
	s := &Stable{disk: d}
	if e := s.open(); e != api.OK {
		return nil, e
	}
	return s, api.OK
}

func (s *Stable) open() api.Errno {
	if e := s.removeUnfinished(); e != api.OK {
		return e
	}
	if e := s.loadVote(); e != api.OK {
		return e
	}
	return s.loadSnapshot()
}

// removeUnfinished takes away what a crash has cut off: the next write begins these files anew.
func (s *Stable) removeUnfinished() api.Errno {
	for _, name := range []string{newVote, newSnap} {
		if _, there := s.disk.Read(name); !there {
			continue
		}
		if e := s.disk.Remove(name); e != api.OK {
			return e
		}
	}
	return api.OK
}

func (s *Stable) loadVote() api.Errno {
	s.vote = api.Vote{For: nobody}
	b, there := s.disk.Read(voteFile)
	if !there {
		return api.OK
	}
	v, valid := readVote(b)
	if !valid {
		return api.ErrStableForm
	}
	s.vote = v
	return api.OK
}

// loadSnapshot takes the greatest valid snapshot, and removes the files of the others.
func (s *Stable) loadSnapshot() api.Errno {
	names := slices.DeleteFunc(s.disk.Names(), func(name string) bool { return !isSnapFile(name) })
	taken := s.takeLatest(names)
	for _, name := range names {
		if name == taken {
			continue
		}
		if e := s.disk.Remove(name); e != api.OK {
			return e
		}
	}
	return api.OK
}

// takeLatest takes the last valid one of these files, and answers its name: no name, if none is valid.
func (s *Stable) takeLatest(names []string) string {
	for _, name := range slices.Backward(names) {
		b, _ := s.disk.Read(name)
		if x, valid := readSnapshot(name, b); valid {
			s.snapshot = x
			return name
		}
	}
	return ""
}
