package disk

// Flush lets all that was written last.
func (d *Disk) Flush() { d.powered(d.keepAll) }

// Crash loses what doesn't last, but for what is kept, and what is torn.
func (d *Disk) Crash(keep []bool, torn, tear int) {
	d.settle(func(i int) int {
		switch {
		case i == torn:
			return modulo(tear, sectorBytes)
		case i < len(keep) && keep[i]:
			return sectorBytes
		}
		return 0
	})
	d.stop = endless
}

// Ops tells how many writes and flushes there were.
func (d *Disk) Ops() int { return d.ops }

// Stop lets the power go when there were so many writes and flushes.
func (d *Disk) Stop(ops int) { d.stop = max(ops, 0) }

// Dead tells whether the power is gone.
func (d *Disk) Dead() bool { return d.ops >= d.stop }

// powered does something, and counts it, if there is power.
func (d *Disk) powered(do func()) {
	if d.Dead() {
		return
	}
	do()
	d.ops++
}

// keepAll lets the whole of each write last.
func (d *Disk) keepAll() {
	d.settle(func(int) int { return sectorBytes })
}

// settle lets so many bytes of each write last as are told of the i-th one, and the others be lost.
func (d *Disk) settle(much func(i int) int) {
	for i, w := range d.waiting {
		// The writes go in order: what is lost of one is as the ones ahead of it left it.
		copy(d.lasting[w.at][:much(i)], w.sector[:])
		d.seen[w.at] = d.lasting[w.at]
	}
	d.waiting = nil
}

// modulo gives what is left over when n is parted by m; that isn't below 0, though n be.
func modulo(n, m int) int { return (n%m + m) % m }
