package report_test

import (
	"fmt"
	"math/big"
	"math/rand"
	"strconv"
	"strings"
	"testing"

	"collator/api"
	"collator/report"
)

// no holds bytes that are those of no entries against Decode.
func no(t *testing.T, name, s string) {
	t.Helper()
	if l, code := report.Decode(s); len(l) > 0 || code != api.ErrForm {
		t.Errorf("%s: Decode(%q) = %+v, %d", name, s, l, code)
	}
}

// pieces is an entry's bytes, taken apart into its numbers, and its texts with their lengths.
func pieces(e api.Entry) []string {
	text := func(s string) []string { return []string{fmt.Sprint(len(s)), ":", s} }
	number := func(n int) []string { return []string{fmt.Sprint(n), ";"} }
	var all []string
	for _, p := range [][]string{number(e.Op), text(e.Path), text(e.From), number(e.Old), number(e.New), text(e.Data), number(e.Score), text(wantScript(e.Script))} {
		all = append(all, p...)
	}
	return all
}

// huge is numbers that are larger than any that the language has, and some whose rest, modulo what it has, would be small.
func huge() []string {
	return []string{
		"999", "4294967296", "4294967297", "4294967298", "2147483648", "2147483647", "9223372036854775807", "9223372036854775808", "18446744073709551615",
		"18446744073709551616", "18446744073709551617", "18446744073709551618", "184467440737095516161", "99999999999999999999",
		"340282366920938463463374607431768211457", strings.Repeat("1", 400), strings.Repeat("9", 4000),
	}
}

// TestEachNumberL1 has each number, and each text's length, as what it may not be.
func TestEachNumberL1(t *testing.T) {
	for _, e := range ordinary() {
		whole := pieces(e)
		if s := strings.Join(whole, ""); !checkDecode(t, s) {
			t.Fatalf("%q are the bytes of no entries", s)
		}
		for i, p := range whole {
			if i+1 == len(whole) || whole[i+1] != ";" && whole[i+1] != ":" {
				continue
			}
			with := func(other string) string {
				return strings.Join(whole[:i], "") + other + strings.Join(whole[i+1:], "")
			}
			for _, other := range append(huge(),
				"", "0"+p, "00"+p, strings.Repeat("0", 400)+p, "+"+p, "-"+p, "--"+p, " "+p, p+" ", p+"\n", "\x00"+p, p+"\x00", p+".", p+".0", p+"e0", "0x"+p, "0b1", "0o1", "1_0", "_"+p, p+"_",
				"a", "x"+p, p+"x", "/", ":", ";", "\xd9\xa1", "\xef\xbc\x91", "'"+p+"'", `"`+p+`"`, p+p+p+p,
			) {
				no(t, fmt.Sprintf("%q of Op %d is %q", p, e.Op, other), with(other))
			}
			for _, bits := range []uint{8, 16, 31, 32, 63, 64, 128} {
				more, _ := new(big.Int).SetString(p, 10)
				more.Add(more, new(big.Int).Lsh(big.NewInt(1), bits))
				no(t, fmt.Sprintf("%q of Op %d is more by a power of two", p, e.Op), with(more.String()))
			}
			for _, end := range []string{"", ",", " ", "\n", "::", ";;", ":;", ";:", "\x00"} {
				no(t, fmt.Sprintf("%q of Op %d ends with %q", p, e.Op, end), strings.Join(whole[:i+1], "")+end+strings.Join(whole[i+2:], ""))
			}
			other := map[string]string{":": ";", ";": ":"}[whole[i+1]]
			no(t, fmt.Sprintf("%q of Op %d ends with %q", p, e.Op, other), strings.Join(whole[:i+1], "")+other+strings.Join(whole[i+2:], ""))
		}
	}
}

func TestBytesThatAreThoseOfNoEntriesL1(t *testing.T) {
	for _, s := range []string{
		"1", ";", ":", "0", "1;", "1:", "0;", "0:", "\n", " ", "\x00", "\xff", "x", "+", "-", "=", "=1;", "1;1", "1;1:", "1;1:a", "1;0:", "1;0:0:", "1;1:a0:0;1;0:0;0",
		"1;1:a0:0;1;0:0;", "1;1:a0:0;1;0:0", "1;1:a0:0;1;0:0;0:x", "1;1:a0:0;1;0:0;0:\n", "1;1:a0:0;1;0:0;0: ", " 1;1:a0:0;1;0:0;0:", "\n1;1:a0:0;1;0:0;0:", "1;1:a0:0;1;0:0;0:0", "1;1:a0:0;1;0:0;0:1;",
		// A length larger than what is left, or less than what was meant.
		"1;2:a0:0;1;0:0;0:", "1;17:a0:0;1;0:0;0:", "1;16:a0:0;1;0:0;0:", "1;15:a0:0;1;0:0;0:", "1;0:a0:0;1;0:0;0:", "1;1:ab0:0;1;0:0;0:", "1;1:a1:0;1;0:0;0:", "1;1:a0:0;1;1:0;0:", "1;1:a0:0;1;0:0;1:", "1;1:a0:0;1;0:0;2:x",
		"3;1:e0:2;2;0:0;4:=1;", "3;1:e0:2;2;0:0;2:=1;", "3;1:e0:2;2;0:0;9:+1;5:abcd", "3;1:e0:2;2;0:0;3:=1",
		// Op, kinds and Score out of bounds.
		"0;1:a0:0;1;0:0;0:", "6;1:a0:0;1;0:0;0:", "9;1:a0:0;1;0:0;0:", "10;1:a0:0;1;0:0;0:", "-1;1:a0:0;1;0:0;0:",
		"1;1:a0:1;1;0:0;0:", "1;1:a0:0;0;0:0;0:", "1;1:a0:0;4;0:0;0:", "1;1:a0:4;1;0:0;0:", "2;1:d0:0;0;0:0;0:", "2;1:d0:4;0;0:0;0:", "2;1:d0:1;1;0:0;0:", "4;1:c0:0;3;0:0;0:", "4;1:c0:1;0;0:0;0:", "4;1:c0:4;1;0:0;0:", "4;1:c0:1;4;0:0;0:",
		"3;1:e0:1;2;0:0;0:", "3;1:e0:2;3;0:0;0:", "3;1:e0:0;0;0:0;0:", "5;1:b1:q1;2;0:50;0:", "5;1:b1:q2;3;0:50;0:", "5;1:b1:q2;2;0:0;0:", "5;1:b1:q2;2;0:101;0:", "5;1:b1:q2;2;0:1000;0:", "5;1:b1:q2;2;0:-5;0:", "5;1:b1:q2;2;0:050;0:",
		// What an entry of its Op may not have.
		"1;1:a1:q0;1;0:0;0:", "1;1:a0:0;1;0:1;0:", "1;1:a0:0;1;0:0;3:=1;", "2;1:d1:q3;0;0:0;0:", "2;1:d0:3;0;1:x0;0:", "2;1:d0:3;0;0:1;0:", "2;1:d0:3;0;0:0;3:=1;", "3;1:e1:q2;2;0:0;0:", "3;1:e0:2;2;1:x0;0:", "3;1:e0:2;2;0:1;0:",
		"4;1:c1:q1;3;0:0;0:", "4;1:c0:1;3;0:1;0:", "4;1:c0:1;3;0:0;3:-1;", "5;1:b1:b2;2;0:50;0:", "5;1:b1:q2;2;1:x50;0:",
		// Fields that lack, or change places.
		"1;1:a0;1;0:0;0:", "1;1:a0:1;0:0;0:", "1;1:a0:0;1;0;0:", "1;1:a0:0;1;0:0:", "1:a0:0;1;0:0;0:", "1;a0:0;1;0:0;0:", "1;0:1:a0;1;0:0;0:", "1;1:a0:1;0;0:0;0:", "1;1:a0:0:0;1;0;0:",
	} {
		no(t, "no entries", s)
		checkDecode(t, s)
		no(t, "behind what may be", wantOne(added("A", 1, ""))+s)
	}
}

func TestScriptsThatMayNotBeL1(t *testing.T) {
	for _, s := range []string{
		"=", "=;", "=0;", "=1", "1;", "x1;", "=01;", "=001;", "=+1;", "=-1;", "= 1;", "=1;;", "=1; ", " =1;", "=1:", "-01;", "-0;", "+0;", "+1;", "+1;1:", "+1;2:x", "+1;01:x", "+01;1:x", "+2;1:x", "+1;1:x1:y", "+1;0:x", "=1;1:x",
		"=1;=1;", "-1;-1;", "+1;1:a+1;1:b", "+1;1:a-1;", "=1048577;", "-1048577;", "=9223372036854775808;", "=18446744073709551617;", "=1;\n", "\x00", "0", ";", ":",
	} {
		for _, head := range []string{"3;1:e0:2;2;0:0;", "5;1:e1:q2;2;0:50;", "1;1:e0:0;2;0:0;", "2;1:e0:2;0;0:0;", "4;1:e0:2;1;0:0;"} {
			no(t, "a Script that may not be", fmt.Sprintf("%s%d:%s", head, len(s), s))
			no(t, "a Script that may not be, and more", fmt.Sprintf("%s%d:%s", head, len(s), s)+wantOne(added("f", 1, "")))
		}
	}
}

// TestLengthsOfOtherSignsL1 has lengths in which a sign is no digit, but which, taken for one, would be that of the text.
func TestLengthsOfOtherSignsL1(t *testing.T) {
	for ahead := range 10 {
		for b := range 256 {
			length := strings.TrimPrefix(strconv.Itoa(ahead), "0") + string([]byte{byte(b)})
			for _, n := range []int{10*ahead + b - '0', 10*ahead + int(byte(b-'0')), 10*ahead + b, 10*ahead + b - '0' + 256, 10*ahead + b - 'a' + 10, 10*ahead + b - 'A' + 10, 10 * ahead, ahead} {
				if n < 0 {
					continue
				}
				text := strings.Repeat("z", n)
				checkDecode(t, "1;1:p0:0;2;"+length+":"+text+"0;0:")
				checkDecode(t, "1;"+length+":"+text+"0:0;2;0:0;0:")
				checkDecode(t, "3;1:p0:2;2;0:0;"+length+":+1;1:"+strings.Repeat("z", max(n-5, 0)))
			}
		}
	}
}

// signs is what a byte may become: those that stand for something, and some others.
const signs = "0123456789:;=-+abdefghqrs/xy\n \x00\x80\xff"

func TestBytesCutOffGrownAndChangedL1(t *testing.T) {
	var rows []string
	for i, e := range ordinary() {
		rows = append(rows, wantOne(e))
		if i > 0 {
			rows = append(rows, wantOne(ordinary()[i-1])+wantOne(e))
		}
	}
	rows = append(rows, wantOne(added("0123456789", 2, "9;8:7")), wantOne(renamed("q", "b", 100)))
	var may int
	for _, s := range rows {
		count := func(other string) {
			if checkDecode(t, other) {
				may++
			}
		}
		for i := range len(s) {
			count(s[:i])
			count(s[i:])
			count(s[:i] + s[i+1:])
			if i > 0 {
				count(s[:i-1] + s[i:i+1] + s[i-1:i] + s[i+1:])
			}
			for b := range 256 {
				count(s[:i] + string([]byte{byte(b)}) + s[i+1:])
				count(s[:i] + string([]byte{byte(b)}) + s[i:])
			}
		}
		for b := range 256 {
			no(t, "a byte too many behind it", s+string([]byte{byte(b)}))
			no(t, "a byte too many ahead of it", string([]byte{byte(b)})+s)
		}
	}
	if may < 1000 {
		t.Errorf("only %d of what bytes have become may be", may)
	}
}

// TestCutOffL1 holds that what is cut off anywhere but behind an entry is told of no entries.
func TestCutOffL1(t *testing.T) {
	l := ordinary()
	ends := map[int]int{0: 0}
	s := ""
	for i, e := range l {
		s += wantOne(e)
		ends[len(s)] = i + 1
	}
	for i := range len(s) + 1 {
		n, whole := ends[i]
		if !whole {
			no(t, "cut off", s[:i])
			continue
		}
		if got, code := report.Decode(s[:i]); code != api.OK || !same(got, l[:n]) {
			t.Errorf("Decode(%q) = %+v, %d", s[:i], got, code)
		}
	}
}

func TestTwoBytesChangedL1(t *testing.T) {
	for _, s := range []string{wantOne(added("a", 1, "")), wantOne(deleted("d", 3)), wantOne(renamed("q", "b", 10, keep(1)))} {
		for i := range len(s) {
			for j := range i {
				for _, b := range []byte(signs) {
					for _, c := range []byte(signs) {
						other := []byte(s)
						other[i], other[j] = b, c
						checkDecode(t, string(other))
					}
				}
			}
		}
	}
}

// TestBytesOfChanceL1 puts together pieces of entries' bytes, and others, as chance has it.
func TestBytesOfChanceL1(t *testing.T) {
	chance := rand.New(rand.NewSource(12))
	may := 0
	for range 30000 {
		var list []string
		for range 1 + chance.Intn(3) {
			list = append(list, pieces(ordinary()[chance.Intn(7)])...)
		}
		for range chance.Intn(3) {
			i := chance.Intn(len(list))
			switch chance.Intn(4) {
			case 0:
				list[i] = []string{"0", "1", "2", "3", "4", "5", "10", "100", "-1", "01", "", "a", "=1;"}[chance.Intn(13)]
			case 1:
				list = append(list[:i], list[i+1:]...)
			case 2:
				j := chance.Intn(len(list))
				list[i], list[j] = list[j], list[i]
			default:
				list[i] += list[chance.Intn(len(list))]
			}
			if len(list) == 0 {
				break
			}
		}
		if checkDecode(t, strings.Join(list, "")) {
			may++
		}
	}
	if may < 1000 || may > 29000 {
		t.Errorf("%d of 30000 may be", may)
	}
	for range 30000 {
		s := make([]byte, chance.Intn(30))
		for i := range s {
			s[i] = signs[chance.Intn(len(signs))]
		}
		checkDecode(t, string(s))
	}
}
