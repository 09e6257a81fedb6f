package disk

import "stemma/api"

// Create makes a file.
func (d *Disk) Create(name string) api.Errno {
	if e := d.refusal(name); e != api.OK {
		return e
	}
	if _, there := d.files[name]; there {
		return api.ErrThere
	}
	if len(d.files) >= api.MaxFiles {
		return api.ErrFull
	}
	return d.step(d.fail.done, func() { d.files[name] = file{} })
}

// Append lays bytes behind a file's.
func (d *Disk) Append(name string, p []byte) api.Errno {
	f, e := d.find(name)
	if e != api.OK {
		return e
	}
	if len(p) > d.most-d.Used() {
		return api.ErrFull
	}
	return d.step(true, func() { d.files[name] = file{append(f.data, p...), f.safe} })
}

// Sync makes a file's bytes safe.
func (d *Disk) Sync(name string) api.Errno {
	f, e := d.find(name)
	if e != api.OK {
		return e
	}
	return d.step(false, func() { d.files[name] = file{f.data, len(f.data)} })
}

// Rename gives a file another name.
func (d *Disk) Rename(old, now string) api.Errno {
	if e := d.refusal(old, now); e != api.OK {
		return e
	}
	f, e := d.find(old)
	if e != api.OK {
		return e
	}
	return d.step(d.fail.done, func() {
		delete(d.files, old) // ahead of laying it, so that a file keeps a name that is the same
		d.files[now] = f
	})
}

// Remove takes a file away.
func (d *Disk) Remove(name string) api.Errno {
	if _, e := d.find(name); e != api.OK {
		return e
	}
	return d.step(d.fail.done, func() { delete(d.files, name) })
}

// Cut lets a file have its first bytes alone.
func (d *Disk) Cut(name string, n int) api.Errno {
	f, e := d.find(name)
	if e != api.OK {
		return e
	}
	if n < 0 || n > len(f.data) {
		return api.ErrArg
	}
	return d.step(d.fail.done, func() { d.files[name] = safeFile(f.data[:n]) })
}

// step does what a call that nothing speaks against is to do, and counts it; or the power fails in it, and
// then it is done only if doneInFailure says so.
func (d *Disk) step(doneInFailure bool, do func()) api.Errno {
	if d.fail.isNow() {
		d.down = true
		if doneInFailure {
			do()
		}
		return api.ErrDown
	}
	do()
	d.steps++
	d.fail = d.fail.nearer()
	return api.OK
}
