package tests

import (
	"fmt"
	"strings"
	"testing"

	"loop.example/g01346/impl"
)

// newDesk is the desk that the document tells as the new one.
func newDesk() impl.Desk {
	return impl.Desk{Rows: exampleRows(), Sizes: ints(4, 3, 3), Jobs: plainJobs(2, 2, 1, 1, 3, 1), Ways: square()}
}

// newDeskBut returns a new desk with one thing changed.
func newDeskBut(how func(d *impl.Desk)) impl.Desk {
	d := newDesk()
	how(&d)
	return d
}

// fullDesk has as much of everything as a desk can have.
func fullDesk() impl.Desk {
	return impl.Desk{Rows: fullRows(), Sizes: repeat(16, int64(1000)), Jobs: repeat(12, edgeJob()), Ways: equalWays(8, 1000)}
}

// leastDesk has as little.
func leastDesk() impl.Desk {
	return impl.Desk{Rows: oneRow(0, []float32{0}, []float32{0}), Sizes: ints(1), Jobs: longJobs(1), Ways: ints(0)}
}

func rightDesks() []impl.Desk {
	list := []impl.Desk{newDesk(), fullDesk(), leastDesk(), newDeskBut(func(d *impl.Desk) { d.Ways = equalWays(7, 3) }), newDeskBut(func(d *impl.Desk) { d.Ways = make([]int64, 64) })}
	return append(list, manyDesks(60)...)
}

// wrongDesks are new desks with one thing wrong.
func wrongDesks() []impl.Desk {
	list := []impl.Desk{{}, {Rows: exampleRows()}}
	for _, r := range invalidRows() {
		list = append(list, newDeskBut(func(d *impl.Desk) { d.Rows = r }))
	}
	for _, sizes := range wrongSizes() {
		list = append(list, newDeskBut(func(d *impl.Desk) { d.Sizes = sizes }))
	}
	for _, jobs := range wrongJobs() {
		list = append(list, newDeskBut(func(d *impl.Desk) { d.Jobs = jobs }))
	}
	for _, ways := range append(wrongWays(), equalWays(9, 1), equalWays(10, 0), make([]int64, 81), make([]int64, 100), make([]int64, 65), make([]int64, 63)) {
		list = append(list, newDeskBut(func(d *impl.Desk) { d.Ways = ways }))
	}
	return list
}

func TestValidDesk(t *testing.T) {
	for _, d := range rightDesks() {
		wantBool(t, "ValidDesk "+deskText(d), impl.ValidDesk(d), true)
	}
	for _, d := range wrongDesks() {
		wantBool(t, fmt.Sprintf("ValidDesk %.300s", deskText(d)), impl.ValidDesk(d), false)
	}
}

func TestSameDesk(t *testing.T) {
	all := append(rightDesks(), wrongDesks()...)
	for i, d := range all {
		wantBool(t, fmt.Sprintf("SameDesk %.300s", deskText(d)), impl.SameDesk(d, copyDesk(d)), true)
		other := all[(i+1)%len(all)]
		wantBool(t, fmt.Sprintf("SameDesk %.300s and %.300s", deskText(d), deskText(other)), impl.SameDesk(d, other), deskText(d) == deskText(other))
	}
	for _, how := range []func(d *impl.Desk){
		func(d *impl.Desk) { d.Rows.Vars = 3 }, func(d *impl.Desk) { d.Rows.Numbers[3] = num(bitsMinusZero) }, func(d *impl.Desk) { d.Rows.Bounds[1] = 2 }, func(d *impl.Desk) { d.Rows.Gains[0] = 1 },
		func(d *impl.Desk) { d.Rows.Numbers = d.Rows.Numbers[:3] }, func(d *impl.Desk) { d.Rows.Bounds = nil }, func(d *impl.Desk) { d.Rows.Gains = append(d.Rows.Gains, 0) },
		func(d *impl.Desk) { d.Sizes[0] = 3 }, func(d *impl.Desk) { d.Sizes[2] = 4 }, func(d *impl.Desk) { d.Sizes = d.Sizes[:2] }, func(d *impl.Desk) { d.Sizes = append(d.Sizes, 3) }, func(d *impl.Desk) { d.Sizes = nil },
		func(d *impl.Desk) { d.Jobs[0].Long = 1 }, func(d *impl.Desk) { d.Jobs[0].Due = 1 }, func(d *impl.Desk) { d.Jobs[1].Weight = 2 }, func(d *impl.Desk) { d.Jobs[1].Ready = 1 }, func(d *impl.Desk) { d.Jobs = d.Jobs[:1] },
		func(d *impl.Desk) { d.Jobs = append(d.Jobs, d.Jobs[1]) }, func(d *impl.Desk) { d.Jobs = nil }, func(d *impl.Desk) { d.Jobs[0], d.Jobs[1] = d.Jobs[1], d.Jobs[0] },
		func(d *impl.Desk) { d.Ways[1], d.Ways[4] = 2, 2 }, func(d *impl.Desk) { d.Ways[15] = 1 }, func(d *impl.Desk) { d.Ways = d.Ways[:15] }, func(d *impl.Desk) { d.Ways = append(d.Ways, 0) }, func(d *impl.Desk) { d.Ways = nil },
	} {
		d := newDeskBut(how)
		wantBool(t, "SameDesk of a new one and "+deskText(d), impl.SameDesk(newDesk(), d), false)
		wantBool(t, "SameDesk of a new one behind "+deskText(d), impl.SameDesk(d, newDesk()), false)
	}
	nan := func(bits uint32) impl.Desk { return newDeskBut(func(d *impl.Desk) { d.Rows.Gains[1] = num(bits) }) }
	wantBool(t, "SameDesk with not-a-numbers", impl.SameDesk(nan(bitsNaN), nan(0xff800001)), true)
	wantBool(t, "SameDesk with infinities", impl.SameDesk(nan(bitsInf), nan(bitsMinusInf)), false)
	wantBool(t, "SameDesk of nil and empty", impl.SameDesk(impl.Desk{}, impl.Desk{Rows: impl.Rows{Numbers: []float32{}, Bounds: []float32{}, Gains: []float32{}}, Sizes: ints(), Jobs: []impl.Job{}, Ways: ints()}), true)
}

func TestNewDesk(t *testing.T) {
	d := impl.NewDesk()
	wantText(t, "NewDesk", fmt.Sprint(d), "{{2 [1 1 1 0] [4 3] [2 1]} [4 3 3] [{2 2 1 0} {1 3 1 0}] [0 1 2 1 1 0 1 2 2 1 0 1 1 2 1 0]}")
	wantText(t, "NewDesk, to the last bit", deskText(d), deskText(newDesk()))
	wantBool(t, "ValidDesk of NewDesk", impl.ValidDesk(d), true)
}

// runText tells the outputs of a script, and whether the desk is another one
// behind it.
func runText(d impl.Desk, script string) string {
	last, outputs, ok := impl.RunDesk(d, script)
	if !ok {
		return fmt.Sprintf("fails, %q, %v", outputs, deskText(last) == deskText(impl.Desk{}))
	}
	return fmt.Sprintf("%q %v", outputs, deskText(last) == deskText(d))
}

// failed is what runText tells where RunDesk fails.
const failed = `fails, "", true`

func TestRunDesk(t *testing.T) {
	for _, c := range []struct{ what, script, want string }{
		{"an empty script", "", `"" true`},
		{"an empty line", "\n", `"what\n" true`},
		{"empty lines", "\n\n\n", `"what\nwhat\nwhat\n" true`},
		{"a line", "gain\n", `"40e00000\n" true`},
		{"lines between empty ones", "\ngain\n\ntour\n", `"what\n40e00000\nwhat\n0,1,2,3\n" true`},
		{"the document's lines", "gain\ntour\nbins 5\n", `"40e00000\n0,1,2,3\n3\n" true`},
		{"lines that see what those before changed", "sizes 7\nsizes\nhalves\nsizes 1,2\nsizes\nhalves\n", `"ok\n7\n7\nok\n1,2\n1\n" false`},
		{"a part that is put back", "sizes 7\nsizes 4,3,3\n", `"ok\nok\n" true`},
		{"lines that change nothing", "sizes 0\nsizes x\nsizes \nsize\n", `"no\nno\nno\nwhat\n" true`},
		{"rows that are dropped one after another", "drop 0\nrows\ngain\ndrop 0\nrows\n", `"ok\n2;3f800000,00000000;40400000;40000000,3f800000\nno\nno\n2;3f800000,00000000;40400000;40000000,3f800000\n" false`},
		{"rows that are scaled", "rows 1;c0800000;40000000;40400000\nscale\nrows\nscale\nrows\n", `"ok\nok\n1;bf800000;3f000000;40400000\nok\n1;bf800000;3f000000;40400000\n" false`},
		{"lines with other ends", "gain\r\nsizes 7\r\n", `"what\nno\n" true`},
		{"any bytes", "\x00\n\xff\xfe\ngain\x00\n", `"what\nwhat\nwhat\n" true`},
		{"no newline at the end", "gain", failed},
		{"no newline behind the last line", "gain\ntour", failed},
		{"a blank behind the last newline", "gain\n ", failed},
		{"another end", "gain\r", failed},
		{"one blank", " ", failed},
	} {
		wantText(t, "RunDesk of "+c.what, runText(impl.NewDesk(), c.script), c.want)
	}
	for _, d := range wrongDesks() {
		for _, script := range []string{"", "\n", "gain\n", "sizes 4,3,3\n"} {
			wantText(t, fmt.Sprintf("RunDesk of %q at %.300s", script, deskText(d)), runText(d, script), failed)
		}
	}
}

func TestLongScripts(t *testing.T) {
	lines := func(line string, count int) string { return strings.Repeat(line+"\n", count) }
	for _, c := range []struct{ what, script, want string }{
		{"as many empty lines as there can be", lines("", 16000), fmt.Sprintf("%q true", lines("what", 16000))},
		{"one more", lines("", 16001), failed},
		{"lines of one byte", lines("x", 8000), fmt.Sprintf("%q true", lines("what", 8000))},
		{"one more empty line", lines("x", 8000) + "\n", failed},
		{"outputs that are longer than a script", lines("ways", 3200), fmt.Sprintf("%q true", lines("0,1,2,1,1,0,1,2,2,1,0,1,1,2,1,0", 3200))},
		{"outputs that are longer, and one byte more", lines("ways", 3200) + "\n", failed},
		{"one long line", strings.Repeat("x", 15999) + "\n", `"what\n" true`},
		{"one line that is longer", strings.Repeat("x", 16000) + "\n", failed},
		{"one long line of a form", "sizes " + strings.Repeat("1", 15993) + "\n", `"no\n" true`},
		{"many blanks", strings.Repeat(" ", 15999) + "\n", `"what\n" true`},
		{"no newline at the end of as many bytes as there can be", strings.Repeat("x", 16000), failed},
		{"very many lines", lines("gain", 100000), failed},
	} {
		wantText(t, "RunDesk of "+c.what, runText(impl.NewDesk(), c.script), c.want)
	}
}

func TestCountOutputs(t *testing.T) {
	lines := func(line string, count int) string { return strings.Repeat(line+"\n", count) }
	for _, c := range []struct{ what, text, want string }{
		{"nothing", "", "0 0 true"},
		{"no", "no\n", "1 0 true"},
		{"what", "what\n", "1 0 true"},
		{"ok", "ok\n", "0 1 true"},
		{"outputs of all kinds", "ok\nno\n3\nwhat\n0,1,2,3\n40e00000\nno\n-7\n", "3 5 true"},
		{"other words", "No\nNO\nnot\n no\nno \nwhats\nwha\nn\nno no\nno what\nwhat\x00\nno\r\n\tno\nwhat?\nnowhat\nnone\n", "0 16 true"},
		{"empty lines", "\n\nno\n\n", "1 3 true"},
		{"an empty line", "\n", "0 1 true"},
		{"no last newline", "no", "0 0 false"},
		{"no last newline behind others", "no\nwhat\nok", "0 0 false"},
		{"a blank behind the last newline", "no\n ", "0 0 false"},
		{"as many bytes as there can be", lines("no", 5333) + "\n", "5333 1 true"},
		{"as many bytes of what", lines("what", 3200), "3200 0 true"},
		{"as many empty lines", lines("", 16000), "0 16000 true"},
		{"one byte more", lines("what", 3200) + "\n", "0 0 false"},
		{"one newline more", lines("", 16001), "0 0 false"},
		{"as many bytes without a last newline", strings.Repeat("n", 16000), "0 0 false"},
		{"very many lines", lines("no", 100000), "0 0 false"},
	} {
		wantText(t, "CountOutputs of "+c.what, fmt.Sprint(impl.CountOutputs(c.text)), c.want)
	}
}
