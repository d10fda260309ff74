// Package store: payloads of transactions on a disk, numbered from 1 on: in a log first, in a tree when the log is full.
// The log has the first sectors of the disk, then come two tallies, and the tree has all others. In log and tree a payload stands with its number: so where a crash comes when the tree is saved and the log is not empty yet, it is seen that they have the same. And where it comes in a Create, when the tree is empty and the log is not, it is seen whether the log has all that there was, from number 1 on, or goes on behind what is no more.
package store

import (
	"errors"
	"math"
	"slices"

	"daybook/api"
	"daybook/disk"
	"daybook/payload"
	"daybook/tree"
	"daybook/wal"
)

const (
	logSectors = 2*((numberSize+payload.Greatest+199)/200) + 3 // two of the greatest entries have room, by P7
	tallyAt    = logSectors
	treeAt     = tallyAt + tallies
)

// Store is what is on a disk.
type Store struct {
	disk  *disk.Disk
	log   *wal.Log
	tally tally
	count int // how many payloads there are
	taken int // what their pairs take of the tree's room
}

// Create makes an empty store. If the disk dies in it, a store that was there is as it was, or empty.
func Create(d *disk.Disk) error {
	if !isPlace(d) {
		return api.ErrPlace
	}
	if err := forget(d); err != nil {
		return err
	}
	if err := tree.Create(d, treeAt, treeSectors(d)); err != nil {
		return err
	}
	return wal.Create(d, 0, logSectors)
}

// forget makes both tallies tell of nothing: a store that is no more must not be missed. As long as it is there the one that tells of most goes last, if there is one.
func forget(d *disk.Disk) error {
	t, _ := tallyOf(d)
	for range tallies {
		t = t.next(0)
		if err := t.write(d); err != nil {
			return err
		}
	}
	return nil
}

// Open opens a store. It tells all payloads, too, in order.
func Open(d *disk.Disk) (*Store, []string, error) {
	if !isPlace(d) {
		return nil, nil, api.ErrPlace
	}
	t, err := tallyOf(d)
	if err != nil {
		return nil, nil, err
	}
	s := &Store{disk: d, tally: t}
	all, err := s.inTree()
	if err != nil {
		return nil, nil, err
	}
	if s.log, err = openLog(d); err != nil {
		return nil, nil, err
	}
	if s.isCutOff(all) {
		if err := s.log.Reset(); err != nil {
			return nil, nil, err
		}
	}
	all, ok := withLog(all, entriesOf(s.log))
	for _, text := range all {
		s.keep(text)
	}
	if !ok || s.count < t.count || s.taken > s.room() {
		return nil, nil, api.ErrForm
	}
	return s, all, nil
}

func isPlace(d *disk.Disk) bool { return d != nil && d.Sectors() >= api.MinDisk }

func treeSectors(d *disk.Disk) int { return d.Sectors() - treeAt }

// room is what the pairs of all payloads may take: by P12 the tree has room for them twice, as it was saved and as it is.
func (s *Store) room() int { return 16 * (treeSectors(s.disk) - 24) / 2 }

func (s *Store) keep(text string) {
	s.count++
	s.taken += takes(len(text))
}

// inTree is all that the tree has.
func (s *Store) inTree() ([]string, error) {
	t, err := s.tree()
	if err != nil {
		return nil, err
	}
	pairs, err := t.Scan(nil, math.MaxInt)
	if err != nil {
		return nil, err
	}
	all, ok := joinAll(pairs)
	if !ok {
		return nil, api.ErrForm
	}
	return all, nil
}

// tree is the tree as it was saved last. It is opened anew each time: so a change that comes to nothing leaves no trace.
func (s *Store) tree() (*tree.Tree, error) { return tree.Open(s.disk, treeAt, treeSectors(s.disk)) }

func openLog(d *disk.Disk) (*wal.Log, error) { return wal.Open(d, 0, logSectors) }

// isCutOff tells whether what was ahead of the log is no more, for a Create was under way. Then the log is to be empty, too.
func (s *Store) isCutOff(inTree []string) bool {
	entries := entriesOf(s.log)
	return s.tally.count == 0 && len(inTree) == 0 && len(entries) > 0 && entries[0].number > 1
}

// withLog is all that the tree has, and what the log has behind it; false: they do not go together.
func withLog(all []string, entries []entry) ([]string, bool) {
	if len(entries) == 0 {
		return all, true
	}
	first := entries[0].number
	for i, e := range entries {
		if e.number == len(all)+1 {
			all = append(all, e.text)
		}
		if e.number != first+i || e.number < 1 || e.number > len(all) || all[e.number-1] != e.text {
			return nil, false
		}
	}
	return all, first+len(entries)-1 >= len(all)
}

// Count is how many payloads there are.
func (s *Store) Count() int { return s.count }

// HasRoom tells whether there is room for one more payload, of so many bytes.
func (s *Store) HasRoom(length int) bool { return s.taken+takes(length) <= s.room() }

// Look looks whether the store is still there, as it was left; ErrForm, if somebody else has written there since.
func (s *Store) Look() error {
	t, err := tallyOf(s.disk)
	if err == nil && t.count != s.tally.count {
		err = api.ErrForm
	}
	return err
}

// Add lays a payload behind the others, and makes sure of it.
func (s *Store) Add(text string) error {
	if err := s.Look(); err != nil {
		return err
	}
	e := entry{s.count + 1, text}
	err := s.log.Append(e.bytes())
	if errors.Is(err, api.ErrFull) {
		if err = s.Checkpoint(); err == nil {
			err = s.log.Append(e.bytes())
		}
	}
	if err == nil {
		err = s.log.Sync()
	}
	if err != nil {
		return err
	}
	t := s.tally.next(e.number)
	if err := t.write(s.disk); err != nil {
		return err
	}
	s.tally = t
	s.keep(text)
	return nil
}

// Checkpoint lays what the log has into the tree, and empties the log.
func (s *Store) Checkpoint() error {
	if err := s.Look(); err != nil {
		return err
	}
	t, err := s.tree()
	if err != nil {
		return err
	}
	for _, e := range entriesOf(s.log) {
		for _, x := range e.pairs() {
			if err := t.Put(x.Key, x.Value); err != nil {
				return err
			}
		}
	}
	if err := t.Save(); err != nil {
		return err
	}
	return s.log.Reset()
}

// Get tells a payload; ErrArg, if none has this number.
func (s *Store) Get(number int) (string, error) {
	if number < 1 || number > s.count {
		return "", api.ErrArg
	}
	t, err := s.tree()
	if err != nil {
		return "", err
	}
	for _, e := range entriesOf(s.log) {
		if e.number == number {
			return e.text, nil
		}
	}
	pairs, err := t.Scan(keyOf(number, 0), partsOf(payload.Greatest))
	if err != nil {
		return "", err
	}
	e, ok := join(number, pairs)
	if !ok {
		return "", api.ErrForm
	}
	return e.text, nil
}

// All tells all payloads, in order, each as Get tells it.
func (s *Store) All() ([]string, error) {
	all, err := s.inTree()
	if err != nil {
		return nil, err
	}
	all, ok := withLog(all, entriesOf(s.log))
	if !ok || len(all) != s.count {
		return nil, api.ErrForm
	}
	return all, nil
}

// Again is All, and looks at all that is on the disk: at the log, too, though it is known what that had.
func (s *Store) Again() ([]string, error) {
	l, err := openLog(s.disk)
	if err != nil {
		return nil, err
	}
	if !slices.Equal(entriesOf(l), entriesOf(s.log)) {
		return nil, api.ErrForm
	}
	return s.All()
}
