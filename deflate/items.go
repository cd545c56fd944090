package deflate

import (
	"iter"
	"slices"

	"quire/api"
)

// Item: a byte, or a copy.
type Item struct{ Byte, Len, Dist int }

// Parse answers items that tell b.
func Parse(b []byte) []Item { return slices.Collect(newFinder(b).items(0, len(b))) }

// Unparse answers the bytes that items tell.
func Unparse(l []Item) ([]byte, bool) {
	var b []byte
	for _, item := range l {
		if !item.fits(len(b)) || item.size() > api.MaxFile-len(b) {
			return nil, false
		}
		if item.Len == 0 {
			b = append(b, byte(item.Byte))
			continue
		}
		for range item.Len { // one by one, since a copy may go over itself
			b = append(b, b[len(b)-item.Dist])
		}
	}
	return b, true
}

// fits tells whether it is an item that may stand behind so many bytes.
func (item Item) fits(behind int) bool {
	if item.Len == 0 {
		return item.Dist == 0 && item.Byte >= 0 && item.Byte <= 255
	}
	return item.Byte == 0 && item.Len >= shortest && item.Len <= longest && item.Dist >= 1 && item.Dist <= min(farthest, behind)
}

// size answers how many bytes it tells.
func (item Item) size() int { return max(1, item.Len) }

// mostChains is how many chains there are for a long text; a short one needs no more than it has bytes.
const mostChains = 1 << 15

// mostTries is how many places of a chain are looked at. A text of at most 64 bytes again and again is found whole, since as many places reach back over one that is at most 64 bytes behind.
const mostTries = 128

// none is no place.
const none = -1

// finder knows where bytes stand that a copy can be made of. Places where three bytes of one hash begin are a chain, the last one first.
type finder struct {
	text   []byte
	heads  []int // by a hash: the chain's first place
	before []int // by a place: the next one of its chain
}

func newFinder(text []byte) *finder {
	return &finder{text, slices.Repeat([]int{none}, min(mostChains, len(text)+1)), make([]int, len(text))}
}

// items hands out items that tell the text between two places. All that stands ahead of it must have been handed out; it is handed out once.
func (f *finder) items(from, to int) iter.Seq[Item] {
	return func(yield func(Item) bool) {
		for at := from; at < to; {
			item := f.item(at, to)
			if !yield(item) {
				return
			}
			for range item.size() {
				f.enter(at)
				at++
			}
		}
	}
}

// item answers the longest copy that can stand at a place, or the byte that stands there. It is never put off for a longer one that begins later, so that a run of one byte is always a copy.
func (f *finder) item(at, to int) Item {
	if most := min(longest, to-at); most >= shortest {
		if item := f.search(at, most); item.Len >= shortest {
			return item
		}
	}
	return Item{Byte: int(f.text[at])}
}

// search answers the copy of the most bytes, the nearest of several; it may be too short for one.
func (f *finder) search(at, most int) Item {
	var best Item
chain:
	for place := range f.chain(at) {
		if f.text[place+best.Len] != f.text[at+best.Len] { // no longer than the best one
			continue chain
		}
		for i := range most {
			if f.text[place+i] != f.text[at+i] {
				if i > best.Len {
					best = Item{Len: i, Dist: at - place}
				}
				continue chain
			}
		}
		best = Item{Len: most, Dist: at - place}
		break chain
	}
	return best
}

// chain hands out places where the same three bytes may stand as at a place, the nearest first.
func (f *finder) chain(at int) iter.Seq[int] {
	return func(yield func(int) bool) {
		place := f.heads[f.hash(at)]
		for range mostTries {
			if place == none || at-place > farthest || !yield(place) {
				return
			}
			place = f.before[place]
		}
	}
}

// enter puts a place into its chain. The last two have no three bytes, and are in none.
func (f *finder) enter(at int) {
	if at+shortest > len(f.text) {
		return
	}
	h := f.hash(at)
	f.before[at] = f.heads[h]
	f.heads[h] = at
}

// hash answers a number of the three bytes at a place; other bytes may have it too.
func (f *finder) hash(at int) int {
	return (int(f.text[at])<<10 ^ int(f.text[at+1])<<5 ^ int(f.text[at+2])) % len(f.heads)
}
