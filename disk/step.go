package disk

import "dockyard/api"

// Append writes b behind the file's end, and creates a file that is not there.
func (d *Disk) Append(name string, b []byte) api.Errno {
	if e := d.allow(d.refuseAppend(name, b)); e != api.OK {
		return e
	}
	// Ahead of the step: the bytes are there even if the disk fails at it.
	d.write(name, b)
	return d.step()
}

// Sync makes all bytes of the file durable.
func (d *Disk) Sync(name string) api.Errno {
	f := d.files[name]
	e := d.begin(refuseNone(f))
	if e == api.OK {
		f.sync()
	}
	return e
}

// Truncate leaves the file its first n bytes.
func (d *Disk) Truncate(name string, n int) api.Errno {
	f := d.files[name]
	e := d.begin(refuseTruncate(f, n))
	if e == api.OK {
		f.truncate(n)
	}
	return e
}

// Rename gives the file another name, and removes the file that had it.
func (d *Disk) Rename(from, to string) api.Errno {
	f := d.files[from]
	e := d.begin(refuseRename(f, to))
	if e == api.OK {
		// In this order a file that gets its own name stays.
		delete(d.files, from)
		d.files[to] = f
	}
	return e
}

// Remove takes the file away.
func (d *Disk) Remove(name string) api.Errno {
	e := d.begin(refuseNone(d.files[name]))
	if e == api.OK {
		delete(d.files, name)
	}
	return e
}

// begin answers why an operation has no effect; unless it is refused, the call is a step.
func (d *Disk) begin(refusal api.Errno) api.Errno {
	if e := d.allow(refusal); e != api.OK {
		return e
	}
	return d.step()
}

// allow puts death ahead of what an operation is refused for.
func (d *Disk) allow(refusal api.Errno) api.Errno {
	if d.dead {
		return api.ErrDiskDead
	}
	return refusal
}

// step counts a step, and answers ErrDiskDead if the disk fails at it.
func (d *Disk) step() api.Errno {
	d.steps++
	if d.fuse == 0 {
		d.dead = true
		return api.ErrDiskDead
	}
	if d.fuse > 0 {
		d.fuse--
	}
	return api.OK
}

func (d *Disk) write(name string, b []byte) {
	f := d.files[name]
	if f == nil {
		f = &file{}
		d.files[name] = f
	}
	f.bytes = append(f.bytes, b...)
}

func (d *Disk) refuseAppend(name string, b []byte) api.Errno {
	if !validName(name) {
		return api.ErrDiskName
	}
	if len(b) > d.Free() {
		return api.ErrDiskFull
	}
	return api.OK
}

func refuseNone(f *file) api.Errno {
	if f == nil {
		return api.ErrDiskNone
	}
	return api.OK
}

func refuseTruncate(f *file, n int) api.Errno {
	if f == nil {
		return api.ErrDiskNone
	}
	if n < 0 || n > len(f.bytes) {
		return api.ErrDiskRange
	}
	return api.OK
}

func refuseRename(f *file, to string) api.Errno {
	if f == nil {
		return api.ErrDiskNone
	}
	if !validName(to) {
		return api.ErrDiskName
	}
	return api.OK
}
