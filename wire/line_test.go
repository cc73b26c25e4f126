package wire_test

import (
	"math/rand"
	"slices"
	"strings"
	"testing"

	"larder/api"
	"larder/wire"
)

// wantLine holds Line's answer against words and an error.
func wantLine(t *testing.T, s string, e api.Errno, words ...string) {
	t.Helper()
	got, f := wire.Line([]byte(s))
	if f != e || !slices.Equal(texts(got), words) {
		t.Fatalf("Line(%.80q) = %.200q, %d, want %.200q, %d", s, texts(got), f, words, e)
	}
}

func TestLineOfPlainWords(t *testing.T) {
	for _, s := range []string{"", " ", "\n", "\t\n\v\f\r ", strings.Repeat(" ", 1024)} {
		wantLine(t, s, api.OK)
	}
	wantLine(t, "a", api.OK, "a")
	wantLine(t, "abc d\\e\\", api.OK, "abc", "d\\e\\")
	wantLine(t, " a  b\r\n", api.OK, "a", "b")
	wantLine(t, `\n \x41 \"`[:8], api.OK, `\n`, `\x41`)
	for c := range 256 {
		b := string([]byte{byte(c)})
		switch {
		case strings.Contains("\t\n\v\f\r ", b):
			wantLine(t, "x"+b+"y", api.OK, "x", "y")
			wantLine(t, b+"''"+b, api.OK, "")
		case b == "'" || b == `"`:
			wantLine(t, "x"+b+"y", api.ErrWireQuote)
		default:
			wantLine(t, "x"+b+"y", api.OK, "x"+b+"y")
			wantLine(t, b, api.OK, b)
			wantLine(t, "''"+b, api.ErrWireQuote)
			wantLine(t, `""`+b, api.ErrWireQuote)
		}
	}
}

func TestLineOfDoubleQuotes(t *testing.T) {
	wantLine(t, `""`, api.OK, "")
	wantLine(t, `"" a"" ""`, api.OK, "", "a", "")
	wantLine(t, `a"b c"`, api.OK, "ab c")
	wantLine(t, `"'"`, api.OK, "'")
	wantLine(t, `"\x41\xfF\x00\xAa\x0d"`, api.OK, "A\xff\x00\xaa\r")
	wantLine(t, `"\x" "\x4" "\x4g" "\xg4" "\x\x41" "\x\"" "\X41"`, api.OK, "x", "x4", "x4g", "xg4", "xA", `x"`, "X41")
	wantLine(t, `"\\x41"`, api.OK, `\x41`)
	wantLine(t, "\"\t\n\v\f\r \"", api.OK, "\t\n\v\f\r ")
	for c := range 256 {
		want := string([]byte{byte(c)})
		if i := strings.IndexByte("nrtba", byte(c)); i >= 0 {
			want = "\n\r\t\b\a"[i : i+1]
		}
		wantLine(t, `"\`+string([]byte{byte(c)})+`"`, api.OK, want)
		if c != '"' && c != '\\' {
			wantLine(t, `"`+string([]byte{byte(c)})+`"`, api.OK, string([]byte{byte(c)}))
		}
		// Each byte as a digit behind \x.
		digit := strings.IndexByte("0123456789abcdef", byte(c))
		if c >= 'A' && c <= 'F' {
			digit = c - 'A' + 10
		}
		if digit >= 0 {
			wantLine(t, `"\x3`+string([]byte{byte(c)})+`"`, api.OK, string([]byte{byte(0x30 + digit)}))
			wantLine(t, `"\x`+string([]byte{byte(c)})+`7"`, api.OK, string([]byte{byte(digit*16 + 7)}))
		} else if c != '"' && c != '\\' {
			wantLine(t, `"\x3`+string([]byte{byte(c)})+`"`, api.OK, "x3"+string([]byte{byte(c)}))
			wantLine(t, `"\x`+string([]byte{byte(c)})+`7"`, api.OK, "x"+string([]byte{byte(c)})+"7")
		}
	}
	for _, s := range []string{`"`, `"a`, `a"`, `"a\`, `"a\"`, `"\`, `"\x`, `"\x4`, `"\x41`, `"\x4\"`, `"a"b`, `"a""b"`, `"a"'b'`, `a "b" c"d"e`, `"""`, `"a\\\"`} {
		wantLine(t, s, api.ErrWireQuote)
		wantLine(t, s+" ", api.ErrWireQuote)
	}
}

func TestLineOfSingleQuotes(t *testing.T) {
	wantLine(t, `''`, api.OK, "")
	wantLine(t, `'' a'' ''`, api.OK, "", "a", "")
	wantLine(t, `a'b c'`, api.OK, "ab c")
	wantLine(t, `'"'`, api.OK, `"`)
	wantLine(t, `'\n\x41\\n\"' '\'' '\\''`, api.OK, `\n\x41\\n\"`, "'", `\'`)
	wantLine(t, "'\t\n\v\f\r '", api.OK, "\t\n\v\f\r ")
	for c := range 256 {
		if b := string([]byte{byte(c)}); b != "'" && b != `\` {
			wantLine(t, "'"+b+"'", api.OK, b)
			wantLine(t, `'\`+b+"'", api.OK, `\`+b)
		}
	}
	for _, s := range []string{`'`, `'a`, `a'`, `'\`, `'\'`, `'\\'`, `'a'b`, `'a''b'`, `'a'"b"`, `'''`} {
		wantLine(t, s, api.ErrWireQuote)
		wantLine(t, s+" ", api.ErrWireQuote)
	}
}

func TestLineRefusesInItsOrder(t *testing.T) {
	wantLine(t, strings.Repeat("x", 1024), api.OK, strings.Repeat("x", 1024))
	wantLine(t, strings.Repeat("x", 1025), api.ErrWireLine)
	wantLine(t, strings.Repeat(" ", 1025), api.ErrWireLine)
	wantLine(t, "'"+strings.Repeat("x", 1024), api.ErrWireLine)
	wantLine(t, "'"+strings.Repeat("x", 1023), api.ErrWireQuote)
	wantLine(t, strings.Repeat("x", 100000), api.ErrWireLine)
	words := strings.Split(strings.Repeat("a", 128), "")
	wantLine(t, strings.Repeat("a ", 128), api.OK, words...)
	wantLine(t, strings.Repeat("'a' ", 128), api.OK, words...)
	wantLine(t, strings.Repeat("a ", 129), api.ErrWireLine)
	wantLine(t, strings.Repeat("'' ", 129), api.ErrWireLine)
	wantLine(t, strings.Repeat("a ", 512), api.ErrWireLine)
	wantLine(t, strings.Repeat("a ", 511)+"''", api.ErrWireLine)
	wantLine(t, strings.Repeat("a ", 511)+"' ", api.ErrWireQuote)
	wantLine(t, strings.Repeat("a ", 300)+"''x", api.ErrWireQuote)
	wantLine(t, "''x "+strings.Repeat("a ", 300), api.ErrWireQuote)
}

// split takes a line apart as the chapter's words say, state by state; false: the quotes are wrong.
func split(s string) ([]string, bool) {
	var words []string
	for {
		s = strings.TrimLeft(s, "\t\n\v\f\r ")
		if s == "" {
			return words, true
		}
		n := strings.IndexAny(s, "\t\n\v\f\r \"'")
		if n < 0 {
			return append(words, s), true
		}
		word := s[:n]
		s = s[n:]
		if s[0] == '"' || s[0] == '\'' {
			said, rest, ok := unquoted(s[1:], s[:1])
			if !ok || rest != "" && !strings.Contains("\t\n\v\f\r ", rest[:1]) {
				return nil, false
			}
			word, s = word+said, rest
		}
		words = append(words, word)
	}
}

// unquoted tells what a quoted part says up to its end, and what stands behind it.
func unquoted(s, quote string) (said, rest string, ok bool) {
	const hex = "0123456789abcdef"
	for s != "" {
		switch {
		case strings.HasPrefix(s, quote):
			return said, s[1:], true
		case strings.HasPrefix(s, `\'`) && quote == "'":
			said, s = said+"'", s[2:]
		case s[0] != '\\' || quote == "'":
			said, s = said+s[:1], s[1:]
		case len(s) == 1:
			return "", "", false
		case len(s) >= 4 && s[1] == 'x' && strings.Contains(hex, strings.ToLower(s[2:3])) && strings.Contains(hex, strings.ToLower(s[3:4])):
			n := 16*strings.Index(hex, strings.ToLower(s[2:3])) + strings.Index(hex, strings.ToLower(s[3:4]))
			said, s = said+string([]byte{byte(n)}), s[4:]
		default:
			c := s[1:2]
			if i := strings.Index("nrtba", c); i >= 0 {
				c = "\n\r\t\b\a"[i : i+1]
			}
			said, s = said+c, s[2:]
		}
	}
	return "", "", false
}

// wantSplit holds Line against the chapter's words.
func wantSplit(t *testing.T, s string) {
	t.Helper()
	words, ok := split(s)
	switch {
	case len(s) > api.MaxLine:
		wantLine(t, s, api.ErrWireLine)
	case !ok:
		wantLine(t, s, api.ErrWireQuote)
	case len(words) > api.MaxArgs:
		wantLine(t, s, api.ErrWireLine)
	default:
		wantLine(t, s, api.OK, words...)
	}
}

func TestP8_1_EveryShortLine(t *testing.T) {
	const letters = `"'\ x4n`
	var try func(s string, n int)
	try = func(s string, n int) {
		wantSplit(t, s)
		if n == 0 {
			return
		}
		for _, c := range letters {
			try(s+string(c), n-1)
		}
	}
	try("", 6)
}

func TestP8_1_DrawnLines(t *testing.T) {
	r := rand.New(rand.NewSource(8))
	for range 20000 {
		letters := []string{`"'\ xa4n`, "a \n", `a "" '' `, "\"a\\x41\n\x00\xff"}[r.Intn(4)]
		b := make([]byte, r.Intn(1+r.Intn(1040)))
		for i := range b {
			b[i] = letters[r.Intn(len(letters))]
		}
		wantSplit(t, string(b))
	}
}

// spelled writes a word so that Line reads it: plain bytes, and a quoted part where one is needed or drawn.
func spelled(r *rand.Rand, word string) string {
	plain := strings.IndexAny(word, "\t\n\v\f\r \"'")
	if plain < 0 {
		plain = len(word)
		if plain > 0 && r.Intn(2) == 0 {
			return word
		}
	}
	plain = r.Intn(plain + 1)
	s, quoted := word[:plain], word[plain:]
	if !strings.ContainsAny(quoted, `\`) && r.Intn(2) == 0 {
		return s + "'" + strings.ReplaceAll(quoted, "'", `\'`) + "'"
	}
	s += `"`
	for _, c := range []byte(quoted) {
		i := strings.IndexByte("\n\r\t\b\a", c)
		switch {
		case r.Intn(3) == 0:
			hex := []string{"0123456789abcdef", "0123456789ABCDEF"}[r.Intn(2)]
			s += `\x` + hex[c/16:c/16+1] + hex[c%16:c%16+1]
		case i >= 0 && r.Intn(2) == 0:
			s += `\` + "nrtba"[i:i+1]
		case c == '"' || c == '\\' || r.Intn(4) == 0 && !strings.Contains("nrtbax", string(rune(c))):
			s += `\` + string([]byte{c})
		default:
			s += string([]byte{c})
		}
	}
	return s + `"`
}

func TestLineReadsWhatIsSpelled(t *testing.T) {
	r := rand.New(rand.NewSource(9))
	for range 20000 {
		var words []string
		s := ""
		for range r.Intn(5) {
			b := make([]byte, r.Intn(8))
			for i := range b {
				if b[i] = byte(r.Intn(256)); r.Intn(2) == 0 {
					b[i] = "'\" \\nax\r\n"[r.Intn(9)]
				}
			}
			words = append(words, string(b))
			for range 1 + r.Intn(2) {
				s += []string{" ", "\t", "\n", "\v", "\f", "\r"}[r.Intn(6)]
			}
			s += spelled(r, string(b))
		}
		wantLine(t, s, api.OK, words...)
	}
}
