package disk

import "stemma/api"

// keepAll is what says of a piece that all of it stays.
const keepAll = 255

// failure is what Fail said; the zero value is that nothing was said.
type failure struct {
	said bool
	left int // how many steps go well still
	done bool
}

// isNow tells whether the power fails in the next step.
func (f failure) isNow() bool { return f.said && f.left == 0 }

// nearer tells the failure behind one step that went well.
func (f failure) nearer() failure {
	if f.said {
		f.left--
	}
	return f
}

// Fail says in which step the power fails.
func (d *Disk) Fail(n int, done bool) api.Errno {
	if e := d.refusal(); e != api.OK {
		return e
	}
	if n < 0 {
		return api.ErrArg
	}
	d.fail = failure{said: true, left: n, done: done}
	return api.OK
}

// Down tells whether the power has failed.
func (d *Disk) Down() bool {
	return d != nil && d.down
}

// Start gives the power again.
func (d *Disk) Start(keep []byte) {
	if d == nil {
		return
	}
	d.down = false
	d.fail = failure{}
	for _, name := range d.List() {
		d.files[name], keep = survivor(d.files[name], keep)
	}
}

// survivor tells what stays of a file, all of it safe, and what its pieces leave of keep.
func survivor(f file, keep []byte) (file, []byte) {
	end := f.safe
	for at := f.safe; at < len(f.data); {
		next := min(at+api.Sector-at%api.Sector, len(f.data))
		stays := 0
		if len(keep) > 0 {
			stays = staying(keep[0], next-at)
			keep = keep[1:]
		}
		if stays > 0 {
			end = at + stays
		}
		clear(f.data[at+stays : next]) // they are seen where a later piece stays
		at = next
	}
	return safeFile(f.data[:end]), keep
}

// staying tells how many bytes stay of a piece of that length.
func staying(keep byte, length int) int {
	if keep == keepAll {
		return length
	}
	return int(keep) % (length + 1)
}
