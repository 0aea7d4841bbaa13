package disk

import "ciborium/api"

// Arm says that the power goes at the n-th operation from now on; with 0 at none.
func (d *Disk) Arm(n int) api.Errno {
	switch {
	case d == nil:
		return api.ErrNil
	case n < 0:
		return api.ErrArg
	}
	d.armed = n
	return api.OK
}

// Off turns the power off, and nothing is armed any more.
func (d *Disk) Off() {
	if d == nil {
		return
	}
	d.dead, d.armed = true, 0
}

// On turns the power on again; of what was pending just the sectors that keep names are flushed, and the others are lost.
func (d *Disk) On(keep []int) api.Errno {
	switch {
	case d == nil:
		return api.ErrNil
	case !d.dead:
		return api.ErrOn
	}
	d.dead = false
	for _, i := range keep {
		if s, ok := d.pending[i]; ok {
			d.flushed[i] = s
		}
	}
	d.forget()
	return api.OK
}

// Dead says whether the power is off.
func (d *Disk) Dead() bool { return d != nil && d.dead }

// outage is ErrDead while the power is off.
func (d *Disk) outage() api.Errno {
	switch {
	case d == nil:
		return api.ErrNil
	case d.dead:
		return api.ErrDead
	}
	return api.OK
}

// operation counts one towards that at which the power goes, and is ErrDead if this is it.
func (d *Disk) operation() api.Errno {
	switch d.armed {
	case 0:
		return api.OK
	case 1:
		d.Off()
		return api.ErrDead
	}
	d.armed--
	return api.OK
}
