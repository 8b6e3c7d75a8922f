package trim

import (
	"fettle/api"
	"fettle/audit"
	"fettle/image"
	"fettle/plan"
)

// Dry: what Sparsify would give back. Nothing is written.
func (t *Tool) Dry() (plan.Report, api.Errno) {
	var r plan.Report
	e := t.with(func(im *image.Image) (e api.Errno) {
		r, e = plan.Make(im)
		return e
	})
	return r, e
}

// punch: clusters are given back, step by step; how many steps were done.
func punch(im *image.Image, kind int, steps [][]int64) (int, api.Errno) {
	for done, step := range steps {
		if e := im.Punch(kind, step...); e != api.OK {
			return done, e
		}
	}
	return len(steps), api.OK
}

// Sparsify: the clusters that no guest's structure reaches are given back, step by step; how many steps were done.
func (t *Tool) Sparsify() (plan.Report, int, api.Errno) {
	r, e := t.Dry()
	if e != api.OK {
		return plan.Report{}, 0, e
	}
	done := 0
	e = t.with(func(im *image.Image) (e api.Errno) {
		done, e = punch(im, r.Kind, r.Steps)
		return e
	})
	if e != api.OK {
		return plan.Report{}, done, e
	}
	return r, done, api.OK
}

// Squeeze: the clusters whose bytes are all 0 are given back, step by step; how many clusters were.
func (t *Tool) Squeeze() (int, api.Errno) {
	clusters := 0
	e := t.with(func(im *image.Image) api.Errno {
		steps, kind, e := plan.Blanks(im)
		if e != api.OK {
			return e
		}
		done, e := punch(im, kind, steps)
		for _, step := range steps[:done] {
			clusters += len(step)
		}
		return e
	})
	return clusters, e
}

// Pull: all that is read from behind is held by the image itself; how many clusters that were.
func (t *Tool) Pull() (int, api.Errno) {
	pulled := 0
	e := t.with(func(im *image.Image) api.Errno {
		for g := range im.Guest() {
			was, e := im.Pull(g)
			if e != api.OK {
				return e
			}
			if was {
				pulled++
			}
		}
		return api.OK
	})
	return pulled, e
}

// Compact: the clusters in use stand at the file's beginning, and the file ends behind the last; how many were moved.
func (t *Tool) Compact() (int, api.Errno) {
	moved := 0
	e := t.with(func(im *image.Image) api.Errno {
		var info audit.Info
		for {
			high, low, e := im.Ends()
			if e != api.OK {
				return e
			}
			if low < 0 || low > high {
				return t.cut((high + 1) * im.Cluster())
			}
			if moved == 0 {
				if info, e = audit.Check(t.Bytes()); e != api.OK {
					return e
				}
			}
			if e := im.Move(high, low, info.Spots(high)...); e != api.OK {
				return e
			}
			follow(info.Refs, high, low)
			moved++
		}
	})
	return moved, e
}

// follow: references, as they are when a cluster was moved: if it is a table, they
// stand in another cluster. (It isn't moved again itself.) A Check for each move would
// look over all of the file each time.
func follow(refs []audit.Ref, from, to int64) {
	for i := range refs {
		if refs[i].At.Table == from {
			refs[i].At.Table = to
		}
	}
}

// cut: the file is so many bytes long, if it is longer.
func (t *Tool) cut(size int64) api.Errno {
	if t.Len() <= size {
		return api.OK
	}
	if e := t.Truncate(size); e != api.OK {
		return e
	}
	return t.Flush()
}
