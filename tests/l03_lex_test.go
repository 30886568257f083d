package tests

import (
	"math"
	"regexp"
	"slices"
	"strings"
	"testing"
	"unsafe"

	"loop.example/g00700/impl"
)

const maxName = 40

var keywords = strings.Fields("BEGIN END function if else while for in break continue next exit return delete print printf length substr index split toupper int")

var signs = strings.Fields("&& || == != !~ <= += { } ( ) [ ] ; , = ! < + - * / % ~ ? : $")

func numTok(n int, at int) impl.Tok {
	return impl.Tok{Kind: impl.TkNum, N: n, At: at}
}

func strTok(s string, at int) impl.Tok {
	return impl.Tok{Kind: impl.TkStr, S: s, At: at}
}

func reTok(s string, at int) impl.Tok {
	return impl.Tok{Kind: impl.TkRe, S: s, At: at}
}

func nameTok(s string, at int) impl.Tok {
	return impl.Tok{Kind: impl.TkName, S: s, At: at}
}

func callTok(s string, at int) impl.Tok {
	return impl.Tok{Kind: impl.TkCall, S: s, At: at}
}

func wordTok(s string, at int) impl.Tok {
	return impl.Tok{Kind: impl.TkWord, S: s, At: at}
}

func signTok(s string, at int) impl.Tok {
	return impl.Tok{Kind: impl.TkSign, S: s, At: at}
}

func checkLex(t *testing.T, s string, want ...impl.Tok) {
	t.Helper()
	if l, k := impl.Lex(s); k != -1 || !slices.Equal(l, want) {
		t.Errorf("Lex(%q) = %v, %d; want %v, -1", s, l, k, want)
	}
}

func checkNoLex(t *testing.T, s string, at int) {
	t.Helper()
	if l, k := impl.Lex(s); k != at || l != nil {
		t.Errorf("Lex(%q) = %v, %d; want nil, %d", s, l, k, at)
	}
}

func TestIsWord(t *testing.T) {
	for _, word := range keywords {
		if !impl.IsWord(word) || impl.NameOk(word) {
			t.Errorf("%q: IsWord %v, NameOk %v", word, impl.IsWord(word), impl.NameOk(word))
		}
		for _, s := range []string{word + "x", word + "1", "_" + word, strings.ToUpper(word[:1]) + strings.ToLower(word[1:])} {
			if impl.IsWord(s) || !impl.NameOk(s) {
				t.Errorf("%q: IsWord %v, NameOk %v", s, impl.IsWord(s), impl.NameOk(s))
			}
		}
		for _, s := range []string{word + " ", " " + word, word + "\x00", word + "("} {
			if impl.IsWord(s) || impl.NameOk(s) {
				t.Errorf("%q: IsWord %v, NameOk %v", s, impl.IsWord(s), impl.NameOk(s))
			}
		}
	}
	for _, s := range []string{"", "x", "begin", "end", "func", "do", "getline", "sub", "gsub", "match", "tolower", "NR", "NF", "$", "&&", "\xff", strings.Repeat("int", 2000)} {
		if impl.IsWord(s) {
			t.Errorf("IsWord(%q)", s)
		}
	}
}

func TestNameOk(t *testing.T) {
	name := regexp.MustCompile(`^[A-Za-z_][A-Za-z0-9_]?$`)
	for a := range 256 {
		for b := range 257 {
			s := string([]byte{byte(a), byte(b)})
			if b == 256 {
				s = s[:1]
			}
			want := name.MatchString(s) && s != "if" && s != "in"
			if impl.NameOk(s) != want {
				t.Fatalf("NameOk(%q) = %v", s, !want)
			}
		}
	}
	for _, x := range []struct {
		s  string
		ok bool
	}{
		{"", false}, {"_a9", true}, {"aZ_0z", true}, {"a b", false}, {"a-b", false}, {"abc\n", false}, {"abc\x00", false}, {"aé", false}, {"ab\xff", false},
		{"NR", true}, {"Int", true}, {"9a", false}, {"$ab", false},
		{strings.Repeat("a", maxName), true}, {strings.Repeat("a", maxName+1), false}, {strings.Repeat("_", maxName), true}, {strings.Repeat("9", maxName), false},
		{"_" + strings.Repeat("9", maxName-1), true}, {"_" + strings.Repeat("9", maxName), false}, {strings.Repeat("a", maxName-1) + "-", false},
		{strings.Repeat("a", 100000), false},
	} {
		if impl.NameOk(x.s) != x.ok {
			t.Errorf("NameOk(%q) = %v", x.s, !x.ok)
		}
	}
}

func TestLexGaps(t *testing.T) {
	for _, s := range []string{"", " ", "\n", "\t", " \t\n \n\t", "#", "##", "# a", "#\n", "# a\n", "#\n#", " # \"\n\t# /\n #@", "#\x00\xff\r&|.>\\'"} {
		checkLex(t, s)
	}
	for _, gap := range []string{" ", "\n", "\t"} {
		checkLex(t, "a"+gap+"b", nameTok("a", 0), nameTok("b", 2))
		checkLex(t, gap+gap+"a"+gap, nameTok("a", 2))
	}
	// Comments with and without a last newline, and where a # starts none.
	checkLex(t, "a#b", nameTok("a", 0))
	checkLex(t, "a# b\n", nameTok("a", 0))
	checkLex(t, "a#\nb", nameTok("a", 0), nameTok("b", 3))
	checkLex(t, "#a\nb#\n#b", nameTok("b", 3))
	checkLex(t, "a # \"x\n\n# ' @\n\t b#", nameTok("a", 0), nameTok("b", 16))
	checkLex(t, "a#\tb\rc # d", nameTok("a", 0))
	checkLex(t, "\"#\"#\"", strTok("#", 0))
	checkLex(t, "/#/#/", reTok("#", 0))
	// Other bytes that some count as whitespace.
	for _, b := range "\r\v\f\x00" {
		checkNoLex(t, " "+string(b), 1)
	}
	checkNoLex(t, "a\u00a0", 1)
}

func TestLexNumbers(t *testing.T) {
	for _, x := range []struct {
		s string
		n int
	}{
		{"0", 0}, {"7", 7000000}, {"007", 7000000}, {"12", 12000000}, {"1.5", 1500000}, {"1.50", 1500000}, {"0.000001", 1}, {"0.0000019", 1}, {"0.0000001", 0},
		{"1.23456789", 1234567}, {"00.10", 100000}, {"9000000", impl.MaxDec}, {"8999999.999999", impl.MaxDec - 1},
		// Too large for a decimal.
		{"9000000.000001", impl.MaxDec}, {"9000001", impl.MaxDec}, {"99999999", impl.MaxDec}, {"18446744073709551617", impl.MaxDec},
		{strings.Repeat("9", impl.MaxSrc), impl.MaxDec}, {"1." + strings.Repeat("9", 3000), 1999999}, {strings.Repeat("0", 3000) + "1", 1000000},
	} {
		checkLex(t, x.s, numTok(x.n, 0))
		if n, _ := impl.ReadDec(x.s); n != x.n {
			t.Errorf("ReadDec(%q) = %d", x.s, n)
		}
	}
	checkLex(t, "1 2", numTok(1000000, 0), numTok(2000000, 2))
	checkLex(t, "1.5 2.5", numTok(1500000, 0), numTok(2500000, 4))
	checkLex(t, "1a", numTok(1000000, 0), nameTok("a", 1))
	checkLex(t, "1.5e3", numTok(1500000, 0), nameTok("e3", 3))
	checkLex(t, "0x1F(", numTok(0, 0), callTok("x1F", 1), signTok("(", 4))
	checkLex(t, "1_", numTok(1000000, 0), nameTok("_", 1))
	// A sign before a number is a token of its own.
	checkLex(t, "-1", signTok("-", 0), numTok(1000000, 1))
	checkLex(t, "+1.5", signTok("+", 0), numTok(1500000, 1))
	checkLex(t, "1-2", numTok(1000000, 0), signTok("-", 1), numTok(2000000, 2))
	// A point that no digit follows or precedes, and two points.
	for _, x := range []struct {
		s  string
		at int
	}{
		{"7.", 1}, {"7. 5", 1}, {"7.a", 1}, {"7.#\n5", 1}, {"7.\n5", 1}, {"x + 12.;", 6}, {".", 0}, {".5", 0}, {" .5", 1}, {"-.5", 1}, {"a.5", 1},
		{"1.5.2", 3}, {"1.5.", 3}, {"1..5", 1}, {"1.2.3.4", 3}, {"1.5 .5", 4}, {"1 .5", 2},
	} {
		checkNoLex(t, x.s, x.at)
	}
}

func TestLexNames(t *testing.T) {
	for _, name := range []string{"a", "Z", "_", "_9", "aZ_0z", "NR", "NF", "begin", "Int", "ints", "_if", "printf1", strings.Repeat("a", maxName), "_" + strings.Repeat("9", maxName-1)} {
		checkLex(t, name, nameTok(name, 0))
		checkLex(t, " "+name+";", nameTok(name, 1), signTok(";", len(name)+1))
		checkLex(t, name+"(", callTok(name, 0), signTok("(", len(name)))
		for _, gap := range []string{" ", "\n", "\t", "#\n"} {
			checkLex(t, name+gap+"(", nameTok(name, 0), signTok("(", len(name+gap)))
		}
		checkLex(t, name+"[", nameTok(name, 0), signTok("[", len(name)))
		checkLex(t, name+"\"\"", nameTok(name, 0), strTok("", len(name)))
		checkNoLex(t, name+".", len(name))
		checkNoLex(t, name+"é", len(name))
	}
	for _, word := range keywords {
		checkLex(t, word, wordTok(word, 0))
		checkLex(t, word+"(", wordTok(word, 0), signTok("(", len(word)))
		checkLex(t, word+" (", wordTok(word, 0), signTok("(", len(word)+1))
		checkLex(t, word+"1 "+word, nameTok(word+"1", 0), wordTok(word, len(word)+2))
		checkLex(t, "1"+word, numTok(1000000, 0), wordTok(word, 1))
		checkLex(t, word+"x(", callTok(word+"x", 0), signTok("(", len(word)+1))
	}
	checkLex(t, "f(f (x))", callTok("f", 0), signTok("(", 1), nameTok("f", 2), signTok("(", 4), nameTok("x", 5), signTok(")", 6), signTok(")", 7))
	for _, name := range []string{strings.Repeat("a", maxName+1), strings.Repeat("_", maxName+1), "x" + strings.Repeat("9", maxName), strings.Repeat("int", 20), strings.Repeat("z", impl.MaxSrc-9)} {
		for _, behind := range []string{"", "(", " (", ";", "\n", "@"} {
			checkNoLex(t, name+behind, 0)
			checkNoLex(t, "f(1) \n"+name+behind, 6)
		}
	}
	// More than 40 bytes that are two tokens.
	checkLex(t, "9"+strings.Repeat("a", maxName), numTok(9000000, 0), nameTok(strings.Repeat("a", maxName), 1))
	checkNoLex(t, "9"+strings.Repeat("a", maxName+1), 1)
}

func TestLexStrings(t *testing.T) {
	for _, x := range []struct{ s, content string }{
		{`""`, ""}, {`"a"`, "a"}, {`" a  b "`, " a  b "}, {`"/"`, "/"}, {`"#"`, "#"}, {"\"\t\"", "\t"}, {"\"\x00\r\xff\"", "\x00\r\xff"}, {`"é"`, "é"}, {`"'"`, "'"},
		{`"\n"`, "\n"}, {`"\t"`, "\t"}, {`"\""`, "\""}, {`"\\"`, "\\"}, {`"\\n"`, `\n`}, {`"\\\n"`, "\\\n"}, {`"\\\\"`, `\\`}, {`"\"\""`, `""`}, {`"a\tb\nc"`, "a\tb\nc"},
		{`"\\\""`, `\"`}, {`"nt"`, "nt"}, {`"\nn\tt"`, "\nn\tt"}, {`"` + strings.Repeat("x", 1900) + `"`, strings.Repeat("x", 1900)},
	} {
		checkLex(t, x.s, strTok(x.content, 0))
		checkLex(t, " "+x.s+x.s, strTok(x.content, 1), strTok(x.content, 1+len(x.s)))
		checkLex(t, "x"+x.s+"y", nameTok("x", 0), strTok(x.content, 1), nameTok("y", 1+len(x.s)))
	}
	for _, s := range []string{
		`"`, `"a`, `"a b; `, `"\"`, `"\\\"`, `"\`, `"a\`, `"\\`, `"\n`, "\"\n\"", "\"a\nb\"", "\"a\n", "\"\\\n\"", "\"ab\\\n", "\"a # \nb\"",
		`"\q"`, `"\a"`, `"\r"`, `"\0"`, `"\/"`, `"\'"`, `"\N"`, `"\ "`, "\"\\\x00\"", "\"\\\xff\"", "\"\\\t\"", `"ab\q`, `"\q`, `"\\\q"`, `"\nq\"`,
		`"` + strings.Repeat(`\"`, 1500),
	} {
		checkNoLex(t, s, 0)
		checkNoLex(t, "\n "+s, 2)
		checkNoLex(t, `"ok" `+s, 5)
		checkNoLex(t, `x`+s+" @", 1)
	}
	// Where the closing sign is the opening one of a string that does not end.
	checkNoLex(t, `"a""`, 3)
	checkNoLex(t, `"\\""`, 4)
	checkNoLex(t, `'a'`, 0)
	for b := range 256 {
		one := string([]byte{byte(b)})
		if want, ok := map[string]string{"n": "\n", "t": "\t", `"`: `"`, `\`: `\`}[one]; ok {
			checkLex(t, `x "a\`+one+`b"`, nameTok("x", 0), strTok("a"+want+"b", 2))
		} else {
			checkNoLex(t, `x "a\`+one+`b"`, 2)
		}
		switch one {
		case `"`:
			checkLex(t, `x "a"b`, nameTok("x", 0), strTok("a", 2), nameTok("b", 5))
		case `\`, "\n":
			checkNoLex(t, `x "a`+one+`b"`, 2)
		default:
			checkNoLex(t, `x "a`+one+`b`, 2)
			checkLex(t, `x "a`+one+`b"`, nameTok("x", 0), strTok("a"+one+"b", 2))
		}
	}
}

func TestLexRegularExpressions(t *testing.T) {
	for _, content := range []string{
		"", "a", "a+b|c", " a ", "#", `"`, `\/`, `\\`, `\\\/`, `\\\\`, `a\/b\/`, `\n`, `\t`, `\"`, `\q`, `\.`, `\é`, "[", "]", "[^", "*", "\t", "\r", "\x00\xff", "\\\x00", "\\\t", "é", "&|@.>'",
		strings.Repeat(`\/`, 900),
	} {
		s := "/" + content + "/"
		checkLex(t, s, reTok(content, 0))
		checkLex(t, " "+s+"~"+s, reTok(content, 1), signTok("~", 1+len(s)), reTok(content, 2+len(s)))
		checkLex(t, "("+s+")", signTok("(", 0), reTok(content, 1), signTok(")", 1+len(s)))
	}
	for _, s := range []string{"/", "/a", "/ x; ", `/\/`, `/\\\/`, `/\`, `/a\`, `/\\`, "/\n/", "/a\nb/", "/a\n", "/\\\n/", "/a\\\n", "/[\\/]", "/#\n/"} {
		checkNoLex(t, s, 0)
		checkNoLex(t, "\n "+s, 2)
		checkNoLex(t, "x ~ "+s, 4)
		checkNoLex(t, "/ok/ ~"+s+" @", 6)
	}
	for b := range 256 {
		one := string([]byte{byte(b)})
		if one == "\n" {
			checkNoLex(t, `! /a\`+one+`b/`, 2)
		} else {
			checkLex(t, `! /a\`+one+`b/`, signTok("!", 0), reTok(`a\`+one+"b", 2))
		}
		switch one {
		case "/":
			checkLex(t, "! /a/b", signTok("!", 0), reTok("a", 2), nameTok("b", 5))
		case "\n":
			checkNoLex(t, "! /a\nb/", 2)
		default:
			checkNoLex(t, "! /a"+one+"b", 2)
			checkLex(t, "! /a"+one+"b/", signTok("!", 0), reTok("a"+one+"b", 2))
		}
	}
}

func TestLexSlashBehindEach(t *testing.T) {
	gaps := []string{"", " ", "\n", "\t", " # c\n", "#\n#/\n", "\n\n \t"}
	divides := map[string][]impl.Tok{
		"1":     {numTok(1000000, 0)},
		"1.5":   {numTok(1500000, 0)},
		`"s"`:   {strTok("s", 0)},
		`"/"`:   {strTok("/", 0)},
		"/r/":   {reTok("r", 0)},
		"x":     {nameTok("x", 0)},
		"ints":  {nameTok("ints", 0)},
		"x1":    {nameTok("x1", 0)},
		")":     {signTok(")", 0)},
		"]":     {signTok("]", 0)},
		"(x)":   {signTok("(", 0), nameTok("x", 1), signTok(")", 2)},
		"f()":   {callTok("f", 0), signTok("(", 1), signTok(")", 2)},
		"{)":    {signTok("{", 0), signTok(")", 1)},
		"int x": {wordTok("int", 0), nameTok("x", 4)},
	}
	for before, toks := range divides {
		for _, gap := range gaps {
			s := before + gap
			checkLex(t, s+"/a/1", append(slices.Clone(toks), signTok("/", len(s)), nameTok("a", len(s)+1), signTok("/", len(s)+2), numTok(1000000, len(s)+3))...)
			checkLex(t, s+"/", append(slices.Clone(toks), signTok("/", len(s)))...)
			// The second / begins a regular expression, behind the first one.
			checkLex(t, s+"//a/", append(slices.Clone(toks), signTok("/", len(s)), reTok("a", len(s)+1))...)
		}
	}
	starts := map[string][]impl.Tok{
		"":   nil,
		"f(": {callTok("f", 0), signTok("(", 1)},
		"x/": {nameTok("x", 0), signTok("/", 1)},
		"x;": {nameTok("x", 0), signTok(";", 1)},
	}
	for _, word := range keywords {
		starts[word] = []impl.Tok{wordTok(word, 0)}
	}
	for _, sign := range signs {
		if sign != ")" && sign != "]" && sign != "/" {
			starts[sign] = []impl.Tok{signTok(sign, 0)}
		}
	}
	for before, toks := range starts {
		for _, gap := range gaps {
			s := before + gap
			checkLex(t, s+"/a/1", append(slices.Clone(toks), reTok("a", len(s)), numTok(1000000, len(s)+3))...)
			checkLex(t, s+"//", append(slices.Clone(toks), reTok("", len(s)))...)
			checkNoLex(t, s+"/", len(s))
			checkNoLex(t, s+"/a\n/", len(s))
		}
	}
	if len(starts) != 4+len(keywords)+len(signs)-3 {
		t.Errorf("%d cases", len(starts))
	}
}

func TestLexSigns(t *testing.T) {
	for i, first := range signs {
		if first != "/" {
			checkLex(t, first, signTok(first, 0))
			checkLex(t, "\n"+first+" x", signTok(first, 1), nameTok("x", len(first)+2))
		}
		checkLex(t, "1"+first, numTok(1000000, 0), signTok(first, 1))
		for j, second := range signs {
			if first == "/" || second == "/" || j < 7 && i < 7 {
				continue
			}
			checkLex(t, first+" "+second, signTok(first, 0), signTok(second, len(first)+1))
			if len(first) == 1 && len(second) == 1 && slices.Contains(signs, first+second) {
				checkLex(t, first+second, signTok(first+second, 0))
			} else if len(second) == 1 {
				checkLex(t, first+second, signTok(first, 0), signTok(second, len(first)))
			}
		}
	}
	checkLex(t, "===", signTok("==", 0), signTok("=", 2))
	checkLex(t, "====", signTok("==", 0), signTok("==", 2))
	checkLex(t, "!==", signTok("!=", 0), signTok("=", 2))
	checkLex(t, "=!=", signTok("=", 0), signTok("!=", 1))
	checkLex(t, "!!~", signTok("!", 0), signTok("!~", 1))
	checkLex(t, "<==", signTok("<=", 0), signTok("=", 2))
	checkLex(t, "++=", signTok("+", 0), signTok("+=", 1))
	checkLex(t, "=+=-=", signTok("=", 0), signTok("+=", 1), signTok("-", 3), signTok("=", 4))
	checkLex(t, "&&&&||||", signTok("&&", 0), signTok("&&", 2), signTok("||", 4), signTok("||", 6))
	checkLex(t, "~!~", signTok("~", 0), signTok("!~", 1))
	checkLex(t, "x/=2", nameTok("x", 0), signTok("/", 1), signTok("=", 2), numTok(2000000, 3))
	for _, x := range []struct {
		s  string
		at int
	}{
		{"&", 0}, {"|", 0}, {" & ", 1}, {"a|b", 1}, {"a & b", 2}, {"&|", 0}, {"|&", 0}, {"& &", 0}, {"|\n|", 0}, {"&#\n&", 0}, {"&&&", 2}, {"|||", 2}, {"a && b & c", 7}, {"&=", 0}, {"=&", 1},
		{">", 0}, {"a >= b", 2}, {"<>", 1}, {"=>", 1}, {"^", 0}, {"a^2", 1},
	} {
		checkNoLex(t, x.s, x.at)
	}
}

func TestLexRejectedBytes(t *testing.T) {
	const known = "#{}()[];,=!<+-*%~?:$/\"&|"
	gap := regexp.MustCompile(`^[A-Za-z0-9_ \n\t]$`)
	n := 0
	for b := range 256 {
		one := string([]byte{byte(b)})
		checkLex(t, "x # "+one+"\ny", nameTok("x", 0), nameTok("y", 6))
		if gap.MatchString(one) || strings.Contains(known, one) {
			continue
		}
		n++
		checkNoLex(t, one, 0)
		checkNoLex(t, one+one+" a", 0)
		checkNoLex(t, "\n "+one, 2)
		checkNoLex(t, "x"+one, 1)
		checkNoLex(t, "f(1) "+one, 5)
		checkNoLex(t, "# c\nx #d\n"+one+" # e", 9)
		checkLex(t, "x#"+one, nameTok("x", 0))
	}
	if n != 256-26-26-10-1-3-len(known) {
		t.Errorf("%d bytes start no token", n)
	}
	// The first of several.
	checkNoLex(t, "a @ @", 2)
	checkNoLex(t, "a @ \"", 2)
	checkNoLex(t, "\"a @", 0)
	checkNoLex(t, "7. @", 1)
	checkNoLex(t, "a @", 2)
}

func TestLexSourceLimit(t *testing.T) {
	const most = impl.MaxSrc
	checkLex(t, strings.Repeat(" ", most))
	checkLex(t, "#"+strings.Repeat("x", most-1))
	checkLex(t, strings.Repeat("\n", most-1)+"a", nameTok("a", most-1))
	checkLex(t, `"`+strings.Repeat("x", most-2)+`"`, strTok(strings.Repeat("x", most-2), 0))
	checkLex(t, "/"+strings.Repeat("x", most-2)+"/", reTok(strings.Repeat("x", most-2), 0))
	checkNoLex(t, strings.Repeat(" ", most-1)+"@", most-1)
	checkNoLex(t, strings.Repeat(" ", most-1)+`"`, most-1)
	checkNoLex(t, `"`+strings.Repeat("x", most-1), 0)
	for _, part := range []string{"a ", ";", "a(", `""`, "1+", "=", "f/1\n"} {
		s := strings.Repeat(part, most/len(part))
		if l, k := impl.Lex(s); len(s) != most || k != -1 || len(l) < most/4 {
			t.Errorf("%q, %d bytes: %d tokens, %d", part, len(s), len(l), k)
		}
		checkNoLex(t, s+" ", 0)
	}
	for _, s := range []string{strings.Repeat(" ", most+1), strings.Repeat(";", most+1), "#" + strings.Repeat("x", most), strings.Repeat(" ", most) + "@", "a @" + strings.Repeat(" ", most), strings.Repeat("; ", 50*most)} {
		checkNoLex(t, s, 0)
	}
}

// wantLex follows the list of tokens, each as a pattern.
func wantLex(s string) ([]impl.Tok, int) {
	if len(s) > impl.MaxSrc {
		return nil, 0
	}
	var l []impl.Tok
	for at := len(gapPattern.FindString(s)); at < len(s); {
		k, size := wantToken(s[at:], len(l) > 0 && isOperand(l[len(l)-1]))
		if size == 0 {
			return nil, at
		}
		k.At = at
		l = append(l, k)
		at += size
		at += len(gapPattern.FindString(s[at:]))
	}
	return l, -1
}

var (
	gapPattern    = regexp.MustCompile(`^(?:[ \t\n]|#[^\n]*)*`)
	numberPattern = regexp.MustCompile(`^[0-9]+(?:\.[0-9]+)?`)
	stringPattern = regexp.MustCompile(`^"(?:[^"\\\n]|\\[nt"\\])*"`)
	rePattern     = regexp.MustCompile(`^/(?:[^/\\\n]|\\[^\n])*/`)
	wordPattern   = regexp.MustCompile(`^[A-Za-z_][A-Za-z0-9_]*`)
	signPattern   = regexp.MustCompile(`^(?:&&|\|\||[=!<+]=|!~|[{}()\[\];,=!<+\-*/%~?:$])`)
)

func isOperand(k impl.Tok) bool {
	kinds := []int{impl.TkNum, impl.TkStr, impl.TkRe, impl.TkName}
	return slices.Contains(kinds, k.Kind) || k.Kind == impl.TkSign && (k.S == ")" || k.S == "]")
}

// wantToken returns the token at the beginning of s and its size, or 0.
func wantToken(s string, behindOperand bool) (impl.Tok, int) {
	if m := numberPattern.FindString(s); m != "" {
		n, _ := impl.ReadDec(m)
		return numTok(n, 0), len(m)
	}
	if m := stringPattern.FindString(s); m != "" {
		decode := strings.NewReplacer(`\n`, "\n", `\t`, "\t", `\"`, `"`, `\\`, `\`)
		return strTok(decode.Replace(m[1:len(m)-1]), 0), len(m)
	}
	if m := wordPattern.FindString(s); m != "" {
		switch {
		case len(m) > maxName:
			return impl.Tok{}, 0
		case slices.Contains(keywords, m):
			return wordTok(m, 0), len(m)
		case strings.HasPrefix(s[len(m):], "("):
			return callTok(m, 0), len(m)
		}
		return nameTok(m, 0), len(m)
	}
	if s[0] == '/' && !behindOperand {
		m := rePattern.FindString(s)
		if m == "" {
			return impl.Tok{}, 0
		}
		return reTok(m[1:len(m)-1], 0), len(m)
	}
	m := signPattern.FindString(s)
	return signTok(m, 0), len(m)
}

// checkTokens compares Lex with wantLex, and recovers the tokens from their
// texts: each from its own, and all of them from the texts one after the other.
func checkTokens(t *testing.T, s string) {
	t.Helper()
	l, k := impl.Lex(s)
	if want, at := wantLex(s); k != at || !slices.Equal(l, want) {
		t.Fatalf("Lex(%q) = %v, %d; want %v, %d", s, l, k, want, at)
	}
	text := ""
	for i := range l {
		checkOneTokText(t, l[i])
		l[i].At = len(text)
		text += impl.TokText(l[i])
		// What follows a name separates it from a ( unless it is a call.
		if l[i].Kind != impl.TkCall {
			text += " "
		}
	}
	if m, k := impl.Lex(text); len(text) <= impl.MaxSrc && (k != -1 || !slices.Equal(l, m)) {
		t.Fatalf("Lex(%q) = %v, %d; want %v, the tokens of %q", text, m, k, l, s)
	}
}

func checkOneTokText(t *testing.T, k impl.Tok) {
	t.Helper()
	k.At = 0
	text, want := impl.TokText(k), []impl.Tok{k}
	switch {
	case k.Kind == impl.TkCall:
		text += "("
		want = append(want, signTok("(", len(k.S)))
	case k.Kind == impl.TkSign && k.S == "/":
		// At the start it would begin a regular expression.
		text = "1 " + text
		want = []impl.Tok{numTok(1000000, 0), signTok("/", 2)}
	}
	if l, at := impl.Lex(text); len(text) <= impl.MaxSrc && (at != -1 || !slices.Equal(l, want)) {
		t.Fatalf("Lex(%q) = %v, %d; want %v, -1", text, l, at, want)
	}
}

func TestLexAgainstPatterns(t *testing.T) {
	for _, s := range allStrings("a1.\"\\/n\n#(=)", 5) {
		checkTokens(t, s)
	}
	for _, s := range allStrings("a/\\\"\n])", 6) {
		checkTokens(t, s)
	}
	for _, s := range allStrings("&|=!~<+> /", 5) {
		checkTokens(t, s)
	}
}

func TestLexMadeSources(t *testing.T) {
	parts := slices.Concat(signs, keywords, []string{
		"x", "y1", "_z", "f(", "g (", "1", "20.50", "0.0000009", "99999999", "7.", ".", `"a"`, `"\n\t\"\\"`, `"`, `"\q"`, `\`, "/a/", `/\//`, "/", "//", " ", " ", " ", "\n", "\t", "#", "# c\n",
		"@", "&", "|", ">", "\x00", "\xff", "é", strings.Repeat("k", maxName), strings.Repeat("k", maxName+1),
	})
	good := slices.DeleteFunc(slices.Clone(parts), func(s string) bool {
		l, k := impl.Lex(s)
		return k >= 0 && s != "/" || len(l) == 1 && len(l[0].S) == maxName
	})
	if len(good) > len(parts)-11 || len(good) < len(parts)-16 {
		t.Errorf("%d of %d parts have tokens", len(good), len(parts))
	}
	seed := uint64(3)
	next := func(n int) int {
		seed = seed*6364136223846793005 + 1442695040888963407
		return int(seed>>33) % n
	}
	accepted := 0
	for range 20000 {
		from := parts
		if next(4) > 0 {
			from = good
		}
		s := ""
		for range next(40) {
			s += from[next(len(from))]
			if next(2) == 0 {
				s += " "
			}
		}
		checkTokens(t, s)
		if _, k := impl.Lex(s); k == -1 {
			accepted++
		}
	}
	if accepted < 5000 {
		t.Errorf("only %d sources have tokens", accepted)
	}
}

func TestTokText(t *testing.T) {
	for _, x := range []struct {
		k    impl.Tok
		text string
	}{
		{numTok(0, 0), "0"}, {numTok(1500000, 0), "1.5"}, {numTok(1, 9), "0.000001"}, {numTok(-2500000, 0), "-2.5"}, {numTok(impl.MaxDec, 0), "9000000"}, {numTok(-impl.MaxDec, 0), "-9000000"},
		// Numbers that are no decimals.
		{numTok(impl.MaxDec+1, 0), ""}, {numTok(-impl.MaxDec-1, 0), ""}, {numTok(math.MaxInt, 0), ""}, {numTok(math.MinInt, 0), ""},
		{strTok("", 0), `""`}, {strTok("a b", 3), `"a b"`}, {strTok("\n\t\"\\", 0), `"\n\t\"\\"`}, {strTok(`\n`, 0), `"\\n"`}, {strTok("/#'", 0), `"/#'"`}, {strTok("\x00\r\xffé", 0), "\"\x00\r\xffé\""},
		{reTok("", 0), "//"}, {reTok(`a\/b`, 0), `/a\/b/`}, {reTok("\n\"\t/", 0), "/\n\"\t//"},
		{nameTok("x", 0), "x"}, {callTok("f", 0), "f"}, {wordTok("if", 0), "if"}, {signTok("&&", 0), "&&"}, {signTok("/", 0), "/"},
		// Texts that are no such tokens.
		{nameTok("", 0), ""}, {nameTok("if", -1), "if"}, {nameTok("9 \n\"\xff", 0), "9 \n\"\xff"}, {callTok("a(", 0), "a("}, {wordTok("x", math.MinInt), "x"}, {signTok("@", 0), "@"}, {signTok("\\", 0), "\\"},
		// Fields without a meaning.
		{impl.Tok{Kind: impl.TkNum, S: "x", N: 2000000}, "2"}, {impl.Tok{Kind: impl.TkStr, S: "x", N: 2000000}, `"x"`}, {impl.Tok{Kind: impl.TkSign, S: ";", N: -1, At: 4}, ";"},
	} {
		if got := impl.TokText(x.k); got != x.text {
			t.Errorf("TokText(%v) = %q; want %q", x.k, got, x.text)
		}
	}
	for _, kind := range []int{math.MinInt, -7, -1, 0, 8, 9, 257, math.MaxInt} {
		if got := impl.TokText(impl.Tok{Kind: kind, S: "x", N: 1000000}); got != "" {
			t.Errorf("TokText of kind %d = %q", kind, got)
		}
	}
}

func TestTokTextIsLexedAgain(t *testing.T) {
	for _, n := range decimals() {
		if n >= 0 {
			checkOneTokText(t, numTok(n, 0))
		}
	}
	for a := range 256 {
		for b := range 256 {
			checkOneTokText(t, strTok(string([]byte{byte(a), byte(b)}), 0))
		}
	}
	for _, s := range allStrings("nt\\\"\n\t/", 4) {
		checkOneTokText(t, strTok(s, 0))
	}
	for _, sign := range signs {
		checkOneTokText(t, signTok(sign, 0))
	}
	for _, word := range keywords {
		checkOneTokText(t, wordTok(word, 0))
	}
	for _, name := range []string{"x", "_", "a9", strings.Repeat("Z", maxName)} {
		checkOneTokText(t, nameTok(name, 0))
		checkOneTokText(t, callTok(name, 0))
	}
	for _, s := range []string{"", "a", `\/`, `\\`, `[^"]+|#`, "\x00\xff"} {
		checkOneTokText(t, reTok(s, 0))
	}
}

func checkPlace(t *testing.T, s string, at, line, position int) {
	t.Helper()
	if a, b := impl.PlaceOf(s, at); a != line || b != position {
		t.Errorf("PlaceOf(%q, %d) = %d, %d; want %d, %d", s, at, a, b, line, position)
	}
}

func TestPlaceOf(t *testing.T) {
	for _, x := range []struct {
		s                  string
		at, line, position int
	}{
		{"ab\nc", 3, 2, 1}, {"", 0, 1, 1}, {"a", 0, 1, 1}, {"a", 1, 1, 2}, {"ab", 2, 1, 3},
		// At, before and behind a newline, and at the length of the string.
		{"ab\nc", 0, 1, 1}, {"ab\nc", 1, 1, 2}, {"ab\nc", 2, 1, 3}, {"ab\nc", 4, 2, 2}, {"\n", 0, 1, 1}, {"\n", 1, 2, 1}, {"\n\n", 1, 2, 1}, {"\n\n", 2, 3, 1}, {"a\n", 1, 1, 2}, {"a\n", 2, 2, 1},
		{"a\n\nb", 2, 2, 1}, {"a\n\nb", 3, 3, 1}, {"\r\nx", 1, 1, 2}, {"\r\nx", 2, 2, 1}, {"a\rb", 2, 1, 3}, {"é\té", 4, 1, 5}, {"\xff\n\x00", 2, 2, 1},
		// Not in the string.
		{"", 1, 0, 0}, {"", -1, 0, 0}, {"a\n", 3, 0, 0}, {"ab\nc", 5, 0, 0}, {"ab\nc", -1, 0, 0}, {"\n\n", -2, 0, 0}, {"ab", math.MaxInt, 0, 0}, {"ab", math.MinInt, 0, 0},
	} {
		checkPlace(t, x.s, x.at, x.line, x.position)
	}
	// Any length: the limit of a source is none of a place.
	checkPlace(t, strings.Repeat("a\n", 5000)+"bc", 10001, 5001, 2)
	checkPlace(t, strings.Repeat("a", 10000), 10000, 1, 10001)
}

func TestEachByteHasItsPlace(t *testing.T) {
	for _, s := range allStrings("a\n\r", 7) {
		line, position := 1, 1
		for at := range len(s) + 1 {
			checkPlace(t, s, at, line, position)
			position++
			if at < len(s) && s[at] == '\n' {
				line, position = line+1, 1
			}
		}
		checkPlace(t, s, -1, 0, 0)
		checkPlace(t, s, len(s)+1, 0, 0)
	}
}

// The place of a token leads back to it.
func TestPlacesOfTokens(t *testing.T) {
	s := "BEGIN { # start\n\tx = \"a\";\n\n}\n/b/ { print\n\n x}"
	lines := strings.SplitAfter(s, "\n")
	l, _ := impl.Lex(s)
	if len(l) != 12 {
		t.Errorf("Lex(%q) = %v", s, l)
	}
	for _, k := range l {
		line, position := impl.PlaceOf(s, k.At)
		if !strings.HasPrefix(lines[line-1][position-1:], impl.TokText(k)) {
			t.Errorf("%v is at line %d, position %d", k, line, position)
		}
	}
}

func sharesBytes(a, b string) bool {
	if a == "" || b == "" {
		return false
	}
	first, start := uintptr(unsafe.Pointer(unsafe.StringData(a))), uintptr(unsafe.Pointer(unsafe.StringData(b)))
	return first < start+uintptr(len(b)) && start < first+uintptr(len(a))
}

func TestLexResultsAreNew(t *testing.T) {
	s := strings.Join([]string{"alpha", "beta(", `"gamma"`, "while", "&&", "/delta/", "1"}, " ")
	l, _ := impl.Lex(s)
	for _, k := range l {
		if sharesBytes(k.S, s) || sharesBytes(impl.TokText(k), k.S) {
			t.Errorf("%v shares its bytes", k)
		}
	}
	kept := slices.Clone(l)
	clear(l)
	if m, _ := impl.Lex(s); !slices.Equal(m, kept) {
		t.Errorf("Lex(%q) = %v; want %v", s, m, kept)
	}
}
