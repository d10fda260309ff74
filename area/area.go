// Package area: some sectors of a disk that one thing has for itself, numbered from 0 on.
// Where the disk fails here, that is a panic with api.ErrDisk: no function between here and a face needs to hand it on, and the face recovers it.
package area

import (
	"daybook/api"
	"daybook/disk"
)

// Area is such sectors: the disk's number of the first one, and how many there are.
type Area struct {
	disk           *disk.Disk
	First, Sectors int
}

// On is the area of these sectors; ErrPlace, if there is no disk, they are fewer than least, or the disk has them not.
func On(d *disk.Disk, first int, sectors int, least int) (Area, error) {
	// The sum of first and sectors may be more than an int can be; this difference is none.
	if d == nil || sectors < least || first < 0 || first > d.Sectors()-sectors {
		return Area{}, api.ErrPlace
	}
	return Area{d, first, sectors}, nil
}

// Read reads a sector; false: it is broken. That is no failure of the disk, which goes on.
func (a Area) Read(i int) (string, bool) {
	text, ok := a.disk.Read(a.First + i)
	if !ok && a.disk.Dead() {
		panic(api.ErrDisk)
	}
	return text, ok
}

// Write writes a sector.
func (a Area) Write(i int, text string) {
	if !a.disk.Write(a.First+i, text) {
		panic(api.ErrDisk)
	}
}

// Sync makes all that was written safe.
func (a Area) Sync() {
	if !a.disk.Sync() {
		panic(api.ErrDisk)
	}
}

// Failed tells a face whether what it recovered is a failure of the disk. A panic of another kind is not answered for here, and goes on.
func Failed(recovered any) bool {
	if recovered == nil {
		return false
	}
	if recovered != any(api.ErrDisk) {
		panic(recovered)
	}
	return true
}
