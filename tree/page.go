package tree

import (
	"sort"

	"daybook/api"
	"daybook/disk"
	"daybook/numbers"
)

const (
	body          = disk.Size - 2 // bytes of a sector that a page's entries may take
	greatestPair  = 2 + api.MaxKey + api.MaxValue
	greatestChild = 1 + api.MaxKey + linkSize
	linkSize      = 2 + 4

	// mostAbove is the greatest level: by least a page has three children or more (the root: two), and a disk has no room for the leaves that would be below a higher one.
	mostAbove = 7
)

// page is a leaf, which has pairs, or an inner page, which has children. Its entries stand by rising keys; what is cut or joined may take more bytes than a sector has.
type page interface {
	level() int             // how many pages lie below it on the way to a pair
	count() int             // how many entries it has
	key(i int) string       // an entry's key
	size(i int) int         // how many bytes an entry takes
	least() int             // a page with neighbours that has fewer bytes than this is joined with one of them
	part(from, to int) page // some of its entries
	text() string           // what a sector has of it
}

// aim is what is searched for: it tells how a key stands to it, below 0: ahead of it, 0: there, above 0: behind it.
type aim func(key string) int

// pair is one of a tree.
type pair struct{ key, value string }

// leaf is a page of pairs.
type leaf []pair

func (l leaf) level() int             { return 0 }
func (l leaf) count() int             { return len(l) }
func (l leaf) key(i int) string       { return l[i].key }
func (l leaf) size(i int) int         { return 2 + len(l[i].key) + len(l[i].value) }
func (l leaf) least() int             { return (body - greatestPair) / 2 }
func (l leaf) part(from, to int) page { return l[from:to] }

func (l leaf) text() string {
	b := []byte{0, byte(len(l))}
	for _, x := range l {
		b = numbers.AppendText(b, x.key)
		b = numbers.AppendText(b, x.value)
	}
	return filled(b)
}

// search is where the first pair stands that is not ahead of the aim, and whether it is there.
func (l leaf) search(where aim) (int, bool) {
	at := sort.Search(len(l), func(i int) bool { return where(l[i].key) >= 0 })
	return at, at < len(l) && where(l[at].key) == 0
}

// link leads to a page: its sector, and the check of the whole sector. So what stands in a page stands for all that is below it.
type link struct {
	at    int
	check uint32
}

// child is a page that is led to, and the lowest key that it may have.
type child struct {
	low string
	link
}

// inner is a page of children, so many pages above the pairs.
type inner struct {
	above    int
	children []child
}

func (n inner) level() int             { return n.above }
func (n inner) count() int             { return len(n.children) }
func (n inner) key(i int) string       { return n.children[i].low }
func (n inner) size(i int) int         { return 1 + len(n.children[i].low) + linkSize }
func (n inner) least() int             { return (body - greatestChild) / 2 }
func (n inner) part(from, to int) page { return inner{n.above, n.children[from:to]} }

func (n inner) text() string {
	b := []byte{byte(n.above), byte(len(n.children))}
	for _, c := range n.children {
		b = appendLink(numbers.AppendText(b, c.low), c.link)
	}
	return filled(b)
}

// search is the child that has what is aimed at, if one has it: the last that does not begin behind the aim.
func (n inner) search(where aim) int {
	behind := sort.Search(len(n.children), func(i int) bool { return where(n.children[i].low) > 0 })
	return max(behind-1, 0)
}

func appendLink(b []byte, l link) []byte {
	return numbers.Append(numbers.Append(b, uint64(l.at), 2), uint64(l.check), 4)
}

// filled is a text with noughts behind, as long as a sector.
func filled(b []byte) string { return string(append(b, make([]byte, disk.Size-len(b))...)) }

func readLink(r *numbers.Reader) link { return link{r.Number(2), uint32(r.Number(4))} }

// parse takes a sector's text apart; false: it is no page's.
func parse(text string) (page, bool) {
	r := &numbers.Reader{Rest: text}
	p := readPage(r)
	if r.Wrong || p.text() != text {
		return nil, false
	}
	return p, true
}

func readPage(r *numbers.Reader) page {
	above, many := r.Number(1), r.Number(1)
	if above == 0 {
		l := make(leaf, many)
		for i := range l {
			l[i] = pair{r.Text(1, api.MaxKey), r.Text(0, api.MaxValue)}
		}
		return l
	}
	n := inner{above, make([]child, many)}
	for i := range n.children {
		n.children[i] = child{r.Text(0, api.MaxKey), readLink(r)}
	}
	r.Wrong = r.Wrong || many < 2 || above > mostAbove
	return n
}
