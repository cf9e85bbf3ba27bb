package stable

import "dockyard/api"

// SetVote stores a vote.
func (s *Stable) SetVote(v api.Vote) api.Errno {
	switch {
	case s.broken != api.OK:
		return s.broken
	case !rightVote(v):
		return api.ErrStableForm
	case v.Term < s.vote.Term || v.Term == s.vote.Term && v.For != s.vote.For && s.vote.For != nobody:
		return api.ErrStableOld
	case v == s.vote:
		return api.OK
	}
	s.broken = s.write(newVote, voteFile, v.Term, v.For+1)
	if s.broken == api.OK {
		s.vote = v
	}
	return s.broken
}

// Save stores a snapshot.
func (s *Stable) Save(x api.Snapshot) api.Errno {
	switch {
	case s.broken != api.OK:
		return s.broken
	case !rightSnapshot(x):
		return api.ErrStableForm
	case s.snapshot.Index >= x.Index:
		return api.ErrStableOld
	}
	s.broken = s.replaceSnapshot(x)
	return s.broken
}

func (s *Stable) replaceSnapshot(x api.Snapshot) api.Errno {
	if e := s.write(newSnap, snapFile(x.Index), x.Index, x.Term, x.Config.Voters, x.Config.Learners, x.Data); e != api.OK {
		return e
	}
	previous := s.snapshot.Index
	// Even if the removal fails, the new file is there, and Open would take it.
	s.snapshot = cloned(x)
	if previous == 0 {
		return api.OK
	}
	return s.disk.Remove(snapFile(previous))
}

// write puts a file of these parts in place as a whole: the file of that name is the one before, or it is this one.
func (s *Stable) write(unfinished, name string, parts ...any) api.Errno {
	b, e := framed(parts...)
	if e != api.OK {
		return e
	}
	if e := s.disk.Append(unfinished, b); e != api.OK {
		return e
	}
	if e := s.disk.Sync(unfinished); e != api.OK {
		return e
	}
	return s.disk.Rename(unfinished, name)
}
