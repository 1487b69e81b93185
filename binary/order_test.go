package binary_test

import (
	"slices"
	"strings"
	"testing"

	"trestle/api"
	"trestle/samples"
)

// parts is a text's parts, which can be made wrong one by one.
type parts struct {
	header string
	body   []bodyLine
	gates  []string
	end    []string
	behind string
}

func (p parts) text() string {
	s := fullText(p.body, p.gates, p.end) + p.behind
	return strings.Replace(s, fullHeader, p.header, 1)
}

// put puts something else into the header.
func (p *parts) put(old, by string) { p.header = strings.Replace(p.header, old, by, 1) }

// mistake makes a text wrong, and tells its place: that hangs on what stands ahead of it, where nothing is wrong if it is what is told.
type mistake struct {
	make func(p *parts)
	at   func(p *parts) int
	code api.Errno
}

func nowhere(*parts) int { return 0 }

// mistakes is what can be wrong, in the order in which 5.1 names it.
func mistakes() []mistake {
	last := len(fullBody()) - 1
	return []mistake{
		{func(p *parts) { p.behind += strings.Repeat("\n", api.MaxText) }, nowhere, api.ErrLong},
		{func(p *parts) { p.header += " " }, nowhere, api.ErrHeader},
		{func(p *parts) { p.header = strings.TrimSuffix(p.header, "2") + "16385" }, nowhere, api.ErrCount},
		{func(p *parts) { p.put("aig", "aag") }, nowhere, api.ErrHeader},
		{func(p *parts) { p.put(" 9", " 10") }, nowhere, api.ErrCount},
		{func(p *parts) { p.body[0].text += " " }, func(p *parts) int { return lineAt(p.body, 0) }, api.ErrLine},
		{func(p *parts) { p.body[3].text += " 0" }, func(p *parts) int { return lineAt(p.body, 3) }, api.ErrLine},
		{func(p *parts) { p.body[5].text = "01" }, func(p *parts) int { return lineAt(p.body, 5) }, api.ErrLine},
		{func(p *parts) { p.body[6].text = "" }, func(p *parts) int { return lineAt(p.body, 6) }, api.ErrLine},
		{func(p *parts) { p.body[9].text = "16385" }, func(p *parts) int { return lineAt(p.body, 9) }, api.ErrLine},
		{func(p *parts) { p.body[14].text = "-1" }, func(p *parts) int { return lineAt(p.body, 14) }, api.ErrLine},
		{func(p *parts) { p.body[last].text = "2147483648" }, func(p *parts) int { return lineAt(p.body, last) }, api.ErrLine},
		{func(p *parts) { p.gates[0] = "\x00" }, func(p *parts) int { return numberAt(p.body, p.gates, 0) }, api.ErrDelta},
		{func(p *parts) { p.gates[1] = "\x0e" }, func(p *parts) int { return numberAt(p.body, p.gates, 1) }, api.ErrDelta},
		{func(p *parts) { p.gates[4] = "\x13" }, func(p *parts) int { return numberAt(p.body, p.gates, 4) }, api.ErrDelta},
		{func(p *parts) { p.gates[5] = "\x85\x00" }, func(p *parts) int { return numberAt(p.body, p.gates, 5) }, api.ErrDelta},
		{func(p *parts) { p.end[2] = "f1 " }, func(p *parts) int { return len(fullText(p.body, p.gates, p.end[:2])) }, api.ErrLine},
		{func(p *parts) { p.behind += "x" }, func(p *parts) int { return len(fullText(p.body, p.gates, p.end)) }, api.ErrLine},
		{func(p *parts) { p.body[1].text = "19 7" }, nowhere, api.ErrReset},
		{func(p *parts) { p.body[4].text = "99" }, nowhere, api.ErrLit},
		{func(p *parts) { p.end[1] = "l4 a b" }, nowhere, api.ErrSymbol},
	}
}

// 5.1, R1: of all that can be wrong in a text, alone, two by two and all together from each one on, what is named first is told.
func TestReadInOrder(t *testing.T) {
	all := mistakes()
	told := func(made ...mistake) {
		t.Helper()
		p := parts{header: fullHeader, body: fullBody(), gates: fullGates(), end: fullEnd()}
		// From behind, so that what is wrong first stands in the end.
		for _, m := range slices.Backward(made) {
			m.make(&p)
		}
		refuses(t, p.text(), made[0].at(&p), made[0].code)
	}
	for i, first := range all {
		told(first)
		for _, second := range all[i+1:] {
			told(first, second)
		}
		told(all[i:]...)
	}
	if p := (parts{fullHeader, fullBody(), fullGates(), fullEnd(), ""}); p.text() != allOf() {
		t.Errorf("%s", samples.Short(p.text()))
	}
}
