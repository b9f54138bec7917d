package tests

import (
	"fmt"
	"strings"
	"testing"

	"loop.example/g01346/impl"
)

func caseOf(name string, f impl.Form, proof ...[]int64) impl.Case {
	return impl.Case{Name: name, Form: f, Proof: proof}
}

// stageCase is that of the stage's example, and fullCase has as much as a case
// can have.
func stageCase() impl.Case { return caseOf("a", formOf(1, ints(1), ints(-1)), nil) }
func fullCase() impl.Case {
	clause := ints(1, -2, 3, -4, 5, -6, 7, -8, 9, -10)
	return caseOf("zyxwvuts", formOf(10, repeat(48, clause)...), repeat(128, clause)...)
}

func copyCase(c impl.Case) impl.Case {
	return impl.Case{Name: c.Name, Form: copyForm(c.Form), Proof: copyForm(impl.Form{Clauses: c.Proof}).Clauses}
}

func rightCases() []impl.Case {
	list := []impl.Case{
		stageCase(), fullCase(), caseOf("q", formOf(1)), caseOf("npm", formOf(1)), caseOf("bwm", formOf(1)), caseOf("abcdefgh", formOf(10)), caseOf("zzzzzzzz", formOf(10), ints(-10)),
		caseOf("abc", formOf(10, nil, ints(1, -10)), nil, ints(-9), ints(-1, 5, 10)), caseOf("none", never()), caseOf("proof", never(), ints(-1), nil), caseOf("other", never(), ints(2), ints(2), nil, ints(1)),
		caseOf("x", formOf(1), make([][]int64, 128)...), caseOf("x", formOf(1, make([][]int64, 48)...), nil),
	}
	for _, f := range rightForms() {
		list = append(list, caseOf("form", f), caseOf("form", f, f.Clauses...))
	}
	return list
}

func wrongCases() []impl.Case {
	var list []impl.Case
	for _, name := range []string{"", "A", "aB", "abcdefghi", "a1", "a ", " a", "`", "{", "\x00", "a\x00", "\xff", "é", "a,", "a\n", strings.Repeat("a", 256), strings.Repeat("a", 257), strings.Repeat("a", 5000)} {
		list = append(list, caseOf(name, formOf(1)), caseOf(name, formOf(1, ints(1), ints(-1)), nil))
	}
	for _, f := range wrongForms() {
		list = append(list, caseOf("a", f), caseOf("a", f, nil))
	}
	for _, c := range wrongClauses() {
		if c.letters >= 1 && c.letters <= 10 {
			list = append(list, caseOf("a", formOf(c.letters), c.clause), caseOf("a", formOf(c.letters), nil, c.clause), caseOf("a", formOf(c.letters), c.clause, nil))
		}
	}
	return append(list, impl.Case{}, caseOf("a", impl.Form{}), caseOf("a", formOf(1), make([][]int64, 129)...), caseOf("a", formOf(10), repeat(129, ints(1))...), caseOf("a", formOf(1), make([][]int64, 256)...), caseOf("a", formOf(1), make([][]int64, 5000)...))
}

func TestValidCase(t *testing.T) {
	for _, c := range rightCases() {
		wantBool(t, fmt.Sprint("ValidCase ", c), impl.ValidCase(c), true)
	}
	for _, c := range wrongCases() {
		wantBool(t, fmt.Sprintf("ValidCase %.99s", fmt.Sprint(c)), impl.ValidCase(c), false)
	}
}

func TestSameCases(t *testing.T) {
	all := append(rightCases(), wrongCases()...)
	var copies []impl.Case
	for _, c := range all {
		copies = append(copies, copyCase(c))
		wantBool(t, fmt.Sprintf("SameCases %.99s", fmt.Sprint(c)), impl.SameCases([]impl.Case{c}, []impl.Case{copyCase(c)}), true)
	}
	wantBool(t, "SameCases, all", impl.SameCases(all, copies), true)
	wantBool(t, "SameCases, one less", impl.SameCases(all, copies[1:]), false)
	wantBool(t, "SameCases, the last one less", impl.SameCases(all[:len(all)-1], copies), false)
	wantBool(t, "SameCases, none", impl.SameCases(nil, []impl.Case{}), true)
	wantBool(t, "SameCases, none and one", impl.SameCases(nil, all[:1]), false)
	wantBool(t, "SameCases, nil and empty", impl.SameCases([]impl.Case{{Form: impl.Form{Clauses: [][]int64{}}, Proof: [][]int64{}}}, []impl.Case{{}}), true)
	wantBool(t, "SameCases, nil and empty clauses", impl.SameCases([]impl.Case{caseOf("a", formOf(1, nil), ints())}, []impl.Case{caseOf("a", formOf(1, ints()), nil)}), true)
	a := caseOf("a", formOf(2, ints(1), ints(-2)), ints(1), ints(2))
	for _, b := range []impl.Case{
		caseOf("b", a.Form, a.Proof...), caseOf("aa", a.Form, a.Proof...), caseOf("", a.Form, a.Proof...), caseOf("a", formOf(3, a.Form.Clauses...), a.Proof...), caseOf("a", formOf(2, ints(1)), a.Proof...),
		caseOf("a", formOf(2, ints(-2), ints(1)), a.Proof...), caseOf("a", formOf(2, ints(1), ints(2)), a.Proof...), caseOf("a", a.Form), caseOf("a", a.Form, ints(1)), caseOf("a", a.Form, ints(1), ints(-2)),
		caseOf("a", a.Form, ints(2), ints(1)), caseOf("a", a.Form, ints(1), ints(2), nil), caseOf("a", a.Form, ints(1, 2)), caseOf("a", formOf(2, ints(1), ints(-2), ints(1)), ints(2)),
	} {
		wantBool(t, fmt.Sprint("SameCases of ", a, b), impl.SameCases([]impl.Case{a}, []impl.Case{b}), false)
		wantBool(t, fmt.Sprint("SameCases of two, ", a, b), impl.SameCases([]impl.Case{a, b}, []impl.Case{a, a}), false)
		wantBool(t, fmt.Sprint("SameCases in another order ", a, b), impl.SameCases([]impl.Case{a, b}, []impl.Case{b, a}), false)
	}
}

func storeText(c impl.Case) string {
	bytes, ok := impl.StoreCase(c)
	return fmt.Sprintf("%q %v", bytes, ok)
}

func storeAllText(list []impl.Case) string {
	bytes, ok := impl.StoreCases(list)
	return fmt.Sprintf("%q %v", bytes, ok)
}

func loadText(s string) string { return fmt.Sprint(impl.LoadCase(s)) }

func recoverText(s string) string { return fmt.Sprint(impl.RecoverCases(s)) }

// noCase is what LoadCase tells where there is none.
const noCase = "{ {0 []} []} false"

func TestStoreCase(t *testing.T) {
	for _, c := range []struct {
		c    impl.Case
		want string
	}{
		{stageCase(), "CAS1\x01a\x01\x02\x01\x01\x01\x01\xff\x00L\xab"},
		{caseOf("q", formOf(1)), "CAS1\x01q\x01\x00\x00\x0e4"},
		{caseOf("npm", formOf(1)), "CAS1\x03npm\x01\x00\x00\x00\x00"},
		{caseOf("bwm", formOf(1)), "CAS1\x03bwm\x01\x00\x00\x00\x0c"},
		{caseOf("rgr", formOf(1)), "CAS1\x03rgr\x01\x00\x00\xff\x00"},
		{caseOf("zzzzzzzz", formOf(10), ints(-10)), "CAS1\x08zzzzzzzz\x0a\x00\x01\x01\xf6\xc1\x0c"},
		{caseOf("abc", formOf(10, nil, ints(1, -10)), nil, ints(-9), ints(-1, 5, 10)), "CAS1\x03abc\x0a\x02\x03\x00\x02\x01\xf6\x00\x01\xf7\x03\xff\x05\x0a\x92\x00"},
	} {
		wantText(t, fmt.Sprint("StoreCase ", c.c), storeText(c.c), fmt.Sprintf("%q true", c.want))
		wantText(t, fmt.Sprintf("LoadCase %q", c.want), loadText(c.want), fmt.Sprint(c.c, " true"))
	}
	for _, c := range rightCases() {
		bytes, ok := impl.StoreCase(c)
		wantBool(t, fmt.Sprint("StoreCase ", c), ok, true)
		wantText(t, fmt.Sprintf("LoadCase %.99q", bytes), loadText(bytes), fmt.Sprint(c, " true"))
		wantText(t, fmt.Sprintf("RecoverCases %.99q", bytes), recoverText(bytes), fmt.Sprint([]impl.Case{c}, len(bytes), " true"))
	}
	for _, c := range wrongCases() {
		wantText(t, fmt.Sprintf("StoreCase %.99s", fmt.Sprint(c)), storeText(c), `"" false`)
		wantText(t, fmt.Sprintf("StoreCases %.99s", fmt.Sprint(c)), storeAllText([]impl.Case{c}), `"" false`)
		wantText(t, fmt.Sprintf("StoreCases with %.99s", fmt.Sprint(c)), storeAllText([]impl.Case{stageCase(), c, stageCase()}), `"" false`)
	}
	full, _ := impl.StoreCase(fullCase())
	wantText(t, "how long the longest case is", fmt.Sprint(len(full)), fmt.Sprint(4+1+8+3+(48+128)*11+2))
}

// checkNumber returns the check number of bytes, beginning with start, without
// asking the program.
func checkNumber(start int, s string) int {
	for i := range len(s) {
		start = (start*907 + int(s[i]) + 179) % 65003
	}
	return start
}

// sealed returns bytes with their check number.
func sealed(body string) string {
	check := checkNumber(0, body)
	return body + string([]byte{byte(check % 256), byte(check / 256)})
}

// wrongBodies are bytes that are those of no case, whatever comes behind.
func wrongBodies() []string {
	zeros := func(n int) string { return strings.Repeat("\x00", n) }
	list := []string{
		"", "C", "CAS1", "CAS2\x01a\x01\x00\x00", "cas1\x01a\x01\x00\x00", "DAS1\x01a\x01\x00\x00", "CAS\x01a\x01\x00\x00", " CAS1\x01a\x01\x00\x00", "CAS1\x01a", "CAS1\x01a\x01", "CAS1\x01a\x01\x00",
		"CAS1\x00\x01\x00\x00", "CAS1\x09abcdefghi\x01\x00\x00", "CAS1\x01A\x01\x00\x00", "CAS1\x01`\x01\x00\x00", "CAS1\x01{\x01\x00\x00", "CAS1\x02a\xff\x01\x00\x00", "CAS1\x02\xc3\xa9\x01\x00\x00", "CAS1\xffa\x01\x00\x00",
		"CAS1\x01a\x00\x00\x00", "CAS1\x01a\x0b\x00\x00", "CAS1\x01a\xff\x00\x00", "CAS1\x01a\x80\x00\x00", "CAS1\x01a\x00\x01\x00\x00", "CAS1\x01a\x0b\x01\x00\x00", "CAS1\x01a\x01\x31\x00" + zeros(49), "CAS1\x01a\x01\xff\x00" + zeros(255),
		"CAS1\x01a\x01\x00\x81" + zeros(129), "CAS1\x01a\x01\x00\xff" + zeros(255), "CAS1\x01a\x01\x30\x81" + zeros(48+129), "CAS1\x01a\x01\x00\x00\x00", "CAS1\x01a\x01\x01\x00", "CAS1\x01a\x01\x00\x01", "CAS1\x01a\x01\x01\x00\x00\x00", "CAS1\x01a\x01\x00\x01\x00\x00",
	}
	for _, clause := range []string{"\x01\x00", "\x01\x03", "\x01\xfd", "\x01\x80", "\x01\x7f", "\x02\x02\x01", "\x02\x01\x01", "\x02\x01\xff", "\x02\xff\x01", "\x03\x01\x02\x02", "\x02\x00\x01", "\x02\x01\x00", "\x02\x01\x03", "\x01", "\x02\x01", "\xff\x01"} {
		list = append(list, "CAS1\x01a\x02\x01\x00"+clause, "CAS1\x01a\x02\x00\x01"+clause, "CAS1\x01a\x02\x02\x00\x01\x01"+clause, "CAS1\x01a\x02\x01\x01\x00"+clause)
	}
	for _, clause := range []string{"\x01\x0b", "\x01\xf5", "\x0b\x01\x02\x03\x04\x05\x06\x07\x08\x09\x0a\x0b", "\x0b\x01\x02\x03\x04\x05\x06\x07\x08\x09\x0a\x0a"} {
		list = append(list, "CAS1\x01a\x0a\x01\x00"+clause, "CAS1\x01a\x0a\x00\x01"+clause)
	}
	return list
}

func TestLoadCaseFails(t *testing.T) {
	stage, _ := impl.StoreCase(stageCase())
	for _, body := range wrongBodies() {
		for _, s := range []string{body, sealed(body)} {
			wantText(t, fmt.Sprintf("LoadCase %.99q", s), loadText(s), noCase)
			wantText(t, fmt.Sprintf("RecoverCases %.99q", s), recoverText(s), "[] 0 true")
			wantText(t, fmt.Sprintf("RecoverCases behind one, %.99q", s), recoverText(stage+s), fmt.Sprint([]impl.Case{stageCase()}, len(stage), " true"))
		}
	}
	for _, s := range append(edgeTexts(), stage+"x", stage+"\x00", stage+"C", stage+"CAS1", stage+stage, stage+stage[:len(stage)-1], "x"+stage, stage[1:], strings.Repeat("CAS1", 2000)) {
		wantText(t, fmt.Sprintf("LoadCase %.99q", s), loadText(s), noCase)
	}
	body := stage[:len(stage)-2]
	low, high := stage[len(stage)-2:len(stage)-1], stage[len(stage)-1:]
	wantText(t, "LoadCase, as it was stored", loadText(body+low+high), fmt.Sprint(stageCase(), " true"))
	for what, s := range map[string]string{"the check number turned around": body + high + low, "half of it": body + low, "none": body, "it and one byte": body + low + high + high, "that of the beginning 1": body + string([]byte{byte(checkNumber(1, body)), byte(checkNumber(1, body) >> 8)})} {
		wantText(t, "LoadCase, "+what, loadText(s), noCase)
	}
}

func TestStoreCases(t *testing.T) {
	list := []impl.Case{stageCase(), fullCase(), caseOf("q", formOf(1)), caseOf("npm", formOf(1)), stageCase(), caseOf("proof", never(), ints(-1), nil), fullCase(), caseOf("bwm", formOf(1)), stageCase()}
	all, ends := "", []int{0}
	for _, c := range list {
		bytes, _ := impl.StoreCase(c)
		all += bytes
		ends = append(ends, len(all))
	}
	for n := range 9 {
		wantText(t, fmt.Sprint("StoreCases, so many: ", n), storeAllText(list[:n]), fmt.Sprintf("%q true", all[:ends[n]]))
		want := fmt.Sprint(list[:n], ends[n], " true")
		for _, behind := range []string{"", "x", "\x00", "C", "CAS1", all[:4], all[:15], all[ends[1] : ends[2]-1], "CAS1\x01a\x01\x00\x00\x00\x00"} {
			wantText(t, fmt.Sprintf("RecoverCases, so many: %d, with %.20q", n, behind), recoverText(all[:ends[n]]+behind), want)
		}
	}
	most := fmt.Sprint(list[:8], ends[8], " true")
	wantText(t, "StoreCases, one too many", storeAllText(list), `"" false`)
	wantText(t, "StoreCases, very many", storeAllText(repeat(5000, stageCase())), `"" false`)
	wantText(t, "RecoverCases, one more than there can be", recoverText(all), most)
	wantText(t, "RecoverCases, many more", recoverText(all+all+all), most)
	wantText(t, "RecoverCases of nothing", recoverText(""), "[] 0 true")
	for _, s := range edgeTexts() {
		wantText(t, fmt.Sprintf("RecoverCases %.99q", s), recoverText(s), "[] 0 true")
	}
}

// TestFilesThatAreCut cuts a file at each byte, and changes each byte of it: what
// is intact before comes back.
func TestFilesThatAreCut(t *testing.T) {
	list := []impl.Case{stageCase(), caseOf("q", formOf(1)), caseOf("abc", formOf(10, nil, ints(1, -10)), nil, ints(-9), ints(-1, 5, 10)), caseOf("npm", formOf(1))}
	all, _ := impl.StoreCases(list)
	var ends []int
	for n := range len(list) + 1 {
		some, _ := impl.StoreCases(list[:n])
		ends = append(ends, len(some))
	}
	intact := func(at int) string {
		n := 0
		for n < len(list) && ends[n+1] <= at {
			n++
		}
		return fmt.Sprint(list[:n], ends[n], " true")
	}
	for at := range len(all) + 1 {
		wantText(t, fmt.Sprint("RecoverCases, cut at ", at), recoverText(all[:at]), intact(at))
		wantBool(t, fmt.Sprint("LoadCase, cut at ", at), loadText(all[:at]) != noCase, at == ends[1])
	}
	for at := range len(all) {
		for by := 1; by < 256; by++ {
			changed := all[:at] + string([]byte{all[at] ^ byte(by)}) + all[at+1:]
			wantText(t, fmt.Sprintf("RecoverCases, changed at %d by %d", at, by), recoverText(changed), intact(at))
			wantText(t, fmt.Sprintf("LoadCase, changed at %d by %d", at, by), loadText(changed[:ends[1]]), map[bool]string{true: noCase, false: fmt.Sprint(list[0], " true")}[at < ends[1]])
		}
	}
}
