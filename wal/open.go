package wal

import (
	"dockyard/api"
	"dockyard/disk"
)

// Open answers the log that is on a disk; a segment counts as full from limit bytes on.
func Open(d *disk.Disk, limit int) (*Wal, api.Errno) {
	w := &Wal{disk: d, limit: max(limit, 1)}
	if e := w.open(); e != api.OK {
		return nil, e
	}
	return w, api.OK
}

func (w *Wal) open() api.Errno {
	found := segmentsOn(w.disk)
	if len(found) == 0 {
		return w.create(1)
	}
	w.load(found)
	return w.mend(found[len(w.segments):])
}

// segmentsOn answers the numbers of a disk's segments, ascending, as their names are.
func segmentsOn(d *disk.Disk) []uint64 {
	var l []uint64
	for _, name := range d.Names() {
		if number, is := segmentNumber(name); is {
			l = append(l, number)
		}
	}
	return l
}

// create begins the log anew, with an empty segment.
func (w *Wal) create(number uint64) api.Errno {
	w.content = content{segments: []uint64{number}}
	name := fileName(number)
	if e := w.disk.Append(name, nil); e != api.OK {
		return e
	}
	return w.disk.Sync(name)
}

// load reads the segments up to the log's end.
func (w *Wal) load(found []uint64) {
segments:
	for i, number := range found {
		if i > 0 && number != w.next() {
			break
		}
		w.segments = append(w.segments, number)
		b, _ := w.disk.Read(fileName(number))
		for r, whole := range records(b) {
			if !whole || !w.follows(r.entry) {
				break segments
			}
			w.records = append(w.records, r)
		}
	}
}

// mend takes away what stands behind the log's end, and makes sure that a crash leaves the rest.
func (w *Wal) mend(beyond []uint64) api.Errno {
	if e := w.remove(beyond); e != api.OK {
		return e
	}
	if e := w.cut(); e != api.OK {
		return e
	}
	for _, number := range w.segments {
		if e := w.disk.Sync(fileName(number)); e != api.OK {
			return e
		}
	}
	return api.OK
}

// cut takes away what stands in the last segment behind its entries.
func (w *Wal) cut() api.Errno {
	name := fileName(w.tail())
	if b, _ := w.disk.Read(name); len(b) == w.size() {
		return api.OK
	}
	return w.disk.Truncate(name, w.size())
}
