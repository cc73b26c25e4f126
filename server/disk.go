package server

import (
	"bytes"

	"larder/api"
	"larder/record"
)

// disk is what a server leaves behind.
type disk struct {
	snap, log []byte
	synced    int
}

// diskOf makes a disk of a snapshot, whose number is seq, and a log that was taken whole. Of the log only what is not in the snapshot stays; all of it is safe.
func diskOf(snap []byte, seq int64, log []byte) disk {
	d := disk{snap: bytes.Clone(snap)}
	entries, _ := record.Read(log)
	for len(entries) > 0 && entries[0].Seq <= seq {
		entries = entries[1:]
	}
	d.write(entries)
	d.sync()
	return d
}

// write lays entries behind the log.
func (d *disk) write(entries []api.Entry) {
	for _, e := range entries {
		// The desk makes no entry that may not be written.
		line, _ := record.Line(e)
		d.log = append(d.log, line...)
	}
}

// save lays a new snapshot down: behind it the log has nothing more to tell.
func (d *disk) save(snap []byte) { *d = disk{snap: snap} }

// sync makes all of the log safe.
func (d *disk) sync() { d.synced = len(d.log) }

// told tells what lies there.
func (d *disk) told() api.Disk {
	return api.Disk{Snap: bytes.Clone(d.snap), Log: bytes.Clone(d.log), Synced: d.synced}
}
