package stim_test

import (
	"math/rand"
	"slices"
	"strings"
	"testing"

	"trestle/api"
	"trestle/samples"
)

// 12.3: a text without bytes has no witness, of whatever size; where the size may not be, that is told.
func TestAllOfNothing(t *testing.T) {
	for _, z := range append(sizes(), size{api.MaxItems, api.MaxItems}) {
		readsAll(t, "", z)
		unread(t, "", z, 0, api.ErrStatus)
	}
	for _, n := range outside() {
		unreadBoth(t, "", size{n, 0}, 0, api.ErrRange)
		unreadBoth(t, "", size{0, n}, 0, api.ErrRange)
	}
}

// 12.3: several witnesses one behind the other, in their order, also the same one again.
func TestAllOfSeveral(t *testing.T) {
	readsAll(t, "0\nb0\n.\n2\nb1\n.\n", size{}, said(0, bad(0)), said(2, bad(1)))
	z := size{1, 0}
	one, other := shown(samples.Told(-1, "0", "", ""), bad(0)), shown(samples.Told(0, "1", ""), justice(0), bad(0))
	readsAll(t, "1\nb0\n0\n\n\n.\n1\nj0 b0\n1\n\nc loop 0\n.\n2\nb0\n.\n1\nb0\nx\n\n\n.\n", z, one, other, said(2, bad(0)), one)
	for n := range 6 {
		readsAll(t, strings.Repeat("0\nb0\n.\n", n), size{}, slices.Repeat([]api.Witness{said(0, bad(0))}, n)...)
	}
}

// 12.3: the first fault is told with its place in the text, whichever of several witnesses has it, and of two the first one.
func TestAllOfWrongOnes(t *testing.T) {
	right, z := full()
	text := samples.Lines(right...)
	for ahead := range 4 {
		for i := range right {
			lines := slices.Clone(right)
			lines[i] = "?"
			for _, behind := range []string{"", text, "x", samples.Lines(lines...)} {
				s := strings.Repeat(text, ahead) + samples.Lines(lines...) + behind
				unreadAll(t, s, z, ahead*len(text)+placeOf(right, i), codeOf(i))
			}
			cut := strings.Repeat(text, ahead) + samples.Lines(right[:i]...)
			if i > 0 {
				unreadAll(t, cut, z, len(cut), codeOf(i))
				unreadAll(t, cut[:len(cut)-1], z, ahead*len(text)+placeOf(right, i-1), codeOf(i-1))
			}
		}
	}
	unreadAll(t, "0\nb0\n.\n2\n", size{}, 9, api.ErrProp)
	unreadAll(t, "0\nb0\n.\n\n0\nb0\n.\n", size{}, 7, api.ErrStatus)
	unreadAll(t, "0\nb0\n.\nx", size{}, 7, api.ErrStatus)
	unreadAll(t, "0\nb0\n.\n1\nb0\n.\n", size{}, 12, api.ErrForm)
}

// many is the text of n witnesses.
func many(n int) string { return strings.Repeat("0\nb0\n.\n", n) }

// 12.3: as many witnesses as may be, and more: the place of the first one too many.
func TestAllOfMany(t *testing.T) {
	const place = 7 * api.MaxItems
	readsAll(t, many(api.MaxItems), size{}, slices.Repeat([]api.Witness{said(0, bad(0))}, api.MaxItems)...)
	for _, n := range []int{1, 2, 100, api.MaxItems} {
		unreadAll(t, many(api.MaxItems+n), size{}, place, api.ErrLong)
		unread(t, many(api.MaxItems+n), size{}, 7, api.ErrForm)
	}
	unreadAll(t, many(api.MaxItems)+"1\nj7\n\n\n\nc loop 1\n.\n", size{}, place, api.ErrLong)
	unreadAll(t, "2\nb16383 j16383\n.\n"+many(api.MaxItems), size{}, place+11, api.ErrLong)
	most := many(api.MaxText / 7)
	unreadAll(t, most, size{}, place, api.ErrLong)
	unreadAll(t, most, size{-1, 0}, 0, api.ErrRange)
	unreadAll(t, most+many(1), size{}, 0, api.ErrLong)
}

// R1: a wrong line goes ahead of too many witnesses, since it is named first, wherever it stands.
func TestAllOfManyAndWrong(t *testing.T) {
	for _, n := range []int{0, 1, api.MaxItems - 1, api.MaxItems, api.MaxItems + 1, api.MaxItems + 100} {
		at := 7 * n
		unreadAll(t, many(n)+"x\n", size{}, at, api.ErrStatus)
		unreadAll(t, many(n)+"0", size{}, at, api.ErrStatus)
		unreadAll(t, many(n)+"0\nb0 b0\n.\n", size{}, at+2, api.ErrProp)
		unreadAll(t, many(n)+"1\nb0\n\n.\n", size{}, at+6, api.ErrForm)
		unreadAll(t, many(n)+"0\nb0\n.", size{}, at+5, api.ErrForm)
		unreadAll(t, many(n)+"3\n"+many(api.MaxItems+1), size{}, at, api.ErrStatus)
	}
}

// 12.3: witnesses by chance one behind the other, some bytes of them changed: All says what the chapter's words say.
func TestAllByChance(t *testing.T) {
	r := rand.New(rand.NewSource(127))
	seen := map[api.Errno]int{}
	for range 20000 {
		z, s := sizes()[r.Intn(len(sizes()))], ""
		for range 1 + r.Intn(5) {
			s += withX(textBy(t, witnessBy(z, r.Intn), z), r.Intn)
		}
		for range r.Intn(3) {
			s = samples.Changed(s, "012bjx. \nc9", r.Intn)
		}
		readAsWords(t, s, z)
		_, f := allOf(s, z)
		seen[f.Code]++
	}
	for _, e := range []api.Errno{api.OK, api.ErrStatus, api.ErrProp, api.ErrForm} {
		if seen[e] < 1000 {
			t.Errorf("%v came but %d times", e, seen[e])
		}
	}
}
