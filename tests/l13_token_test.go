package tests

import (
	"math"
	"regexp"
	"slices"
	"strconv"
	"strings"
	"testing"

	"loop.example/arraylanguage/impl"
)

// allSigns are the signs, each at the place that is its value.
const allSigns = "+-*&|=<%#!,@/()"

// number returns the token of a number.
func number(n int) impl.Token {
	return impl.Token{Kind: impl.TokNum, Value: n}
}

// name returns the token of a name.
func name(c byte) impl.Token {
	return impl.Token{Kind: impl.TokName, Value: int(c - 'a')}
}

// sign returns the token of a sign.
func sign(value int) impl.Token {
	return impl.Token{Kind: impl.TokSign, Value: value}
}

// tokens returns TokensOf of a call that has to succeed.
func tokens(t *testing.T, s string) []impl.Token {
	t.Helper()
	list, ok := impl.TokensOf(s)
	if !ok || !impl.ValidTokens(list) {
		t.Fatalf("TokensOf(%q) = %v, %v", s, list, ok)
	}
	return list
}

// wantNoTokens fails unless TokensOf returns nothing and false.
func wantNoTokens(t *testing.T, s string) {
	t.Helper()
	if list, ok := impl.TokensOf(s); ok || len(list) > 0 {
		t.Errorf("TokensOf(%q) = %v, %v", s, list, ok)
	}
}

// format returns FormatTokens of valid tokens.
func format(t *testing.T, list []impl.Token) string {
	t.Helper()
	s := impl.FormatTokens(list)
	if !impl.ValidTokens(list) || (s == "") != (len(list) == 0) {
		t.Fatalf("FormatTokens(%v) = %q", list, s)
	}
	return s
}

var (
	oneToken  = regexp.MustCompile(`^ *(_[1-9][0-9]*|[1-9][0-9]*|0|[a-d]|[-+*&|=<%#!,@/()])`)
	endOfNum  = regexp.MustCompile(`[0-9]$`)
	startsNum = regexp.MustCompile(`^[0-9_]`)
)

// tokensByPattern returns the tokens of a text, cut off one by one.
func tokensByPattern(s string) ([]impl.Token, bool) {
	var list []impl.Token
	if len(s) > impl.MaxText {
		return nil, false
	}
	for strings.Trim(s, " ") != "" {
		match := oneToken.FindStringSubmatch(s)
		if match == nil {
			return nil, false
		}
		s = s[len(match[0]):]
		text := match[1]
		switch {
		case endOfNum.MatchString(text):
			n, err := strconv.Atoi(strings.Replace(text, "_", "-", 1))
			if err != nil || n < -impl.MaxNum || n > impl.MaxNum || startsNum.MatchString(s) {
				return nil, false
			}
			list = append(list, number(n))
		case strings.Contains("abcd", text):
			list = append(list, name(text[0]))
		default:
			list = append(list, sign(strings.Index(allSigns, text)))
		}
	}
	return list, len(list) <= impl.MaxTokens
}

// everyShortText calls f for each text of at most four bytes out of some.
func everyShortText(f func(s string)) {
	const bytes = "019_ ad-(e."
	texts := []string{""}
	for range 5 {
		var longer []string
		for _, s := range texts {
			f(s)
			for i := range len(bytes) {
				longer = append(longer, s+bytes[i:i+1])
			}
		}
		texts = longer
	}
}

// longTexts are texts at the limits, and beyond them.
func longTexts() []string {
	list := []string{strings.Repeat(" ", 200), strings.Repeat(" ", 201), strings.Repeat("1", 200), strings.Repeat("0", 100)}
	for _, part := range []string{"a", "a ", "(", " 7", "_1 ", "a_1000000", "1000000 ", "- ", "    b", "     b", "1000000a"} {
		for _, times := range []int{19, 20, 21, 24, 25, 26, 39, 40, 41, 50, 100, 200, 201} {
			list = append(list, strings.Repeat(part, times))
		}
	}
	return append(list, strings.Repeat(" ", 199)+"a", strings.Repeat(" ", 200)+"a", "a"+strings.Repeat(" ", 199), "a"+strings.Repeat(" ", 200))
}

// validTexts are texts that have tokens.
func validTexts() []string {
	var list []string
	everyShortText(func(s string) {
		if _, ok := tokensByPattern(s); ok {
			list = append(list, s)
		}
	})
	for _, s := range longTexts() {
		if _, ok := tokensByPattern(s); ok {
			list = append(list, s)
		}
	}
	for i := range len(allSigns) {
		for j := range len(allSigns) {
			list = append(list, string([]byte{allSigns[i], allSigns[j]}), string([]byte{' ', allSigns[i], ' ', ' ', allSigns[j], ' '}))
		}
	}
	return append(list, "1000000", "_1000000", "999999 _999999", "10a20b_30c0d", "+/ a 3  _4", "(2*3)-1", "1 2 # b , 3", "a@ @a")
}

// validTokenLists are valid tokens: all lists of at most three of some tokens,
// and lists at the limits.
func validTokenLists() [][]impl.Token {
	some := []impl.Token{number(0), number(-1), number(10), number(impl.MaxNum), number(-impl.MaxNum), name('a'), name('d'), sign(0), sign(1), sign(13), sign(14)}
	lists := [][]impl.Token{nil}
	for first := 0; len(lists[first]) < 3; first++ {
		for _, one := range some {
			lists = append(lists, append(slices.Clone(lists[first]), one))
		}
	}
	for _, one := range some {
		lists = append(lists, slices.Repeat([]impl.Token{one}, impl.MaxTokens))
	}
	lists = append(lists, slices.Repeat([]impl.Token{number(5), name('b')}, impl.MaxTokens/2))
	var each []impl.Token
	for value := range len(allSigns) {
		each = append(each, sign(value))
	}
	for c := byte('a'); c <= 'd'; c++ {
		each = append(each, name(c))
	}
	return append(lists, each)
}

// otherTokens are tokens that no text has.
func otherTokens() []impl.Token {
	list := []impl.Token{{Kind: impl.TokName, Value: 4}, {Kind: impl.TokName, Value: -1}, {Kind: impl.TokSign, Value: 15}, {Kind: impl.TokSign, Value: -1}}
	for _, n := range beyond() {
		for kind := range 3 {
			list = append(list, impl.Token{Kind: kind, Value: n})
		}
	}
	for _, kind := range []int{-1, 3, 4, math.MaxInt, math.MinInt} {
		list = append(list, impl.Token{Kind: kind}, impl.Token{Kind: kind, Value: 1})
	}
	return list
}

// wantNoText fails unless tokens are not valid and have no text.
func wantNoText(t *testing.T, list []impl.Token) {
	t.Helper()
	if s := impl.FormatTokens(list); s != "" || impl.ValidTokens(list) {
		t.Errorf("FormatTokens(%v) = %q, ValidTokens = %v", list, s, impl.ValidTokens(list))
	}
}

func TestP92TokensHaveTexts(t *testing.T) {
	for _, s := range validTexts() {
		list := tokens(t, s)
		if back := format(t, list); len(back) <= impl.MaxText && !slices.Equal(tokens(t, back), list) {
			t.Errorf("TokensOf(%q) = %v, but TokensOf(%q) = %v", s, list, back, tokens(t, back))
		}
	}
}

func TestP92TokensAreThoseOfTheText(t *testing.T) {
	check := func(s string) {
		list, ok := impl.TokensOf(s)
		if want, fine := tokensByPattern(s); ok != fine || ok && !slices.Equal(list, want) || !ok && len(list) > 0 {
			t.Errorf("TokensOf(%q) = %v, %v, want %v, %v", s, list, ok, want, fine)
		}
	}
	everyShortText(check)
	for _, s := range slices.Concat(validTexts(), longTexts()) {
		check(s)
	}
	for c := range 256 {
		for _, s := range []string{string([]byte{byte(c)}), string([]byte{'a', byte(c)}), string([]byte{byte(c), '5'}), string([]byte{'5', byte(c), '6'})} {
			check(s)
		}
	}
}

func TestP92TokensHaveTheirValues(t *testing.T) {
	for s, want := range map[string][]impl.Token{
		"":                 nil,
		"   ":              nil,
		"0":                {number(0)},
		"1000000 _1000000": {number(impl.MaxNum), number(-impl.MaxNum)},
		"0 0":              {number(0), number(0)},
		"5 _6":             {number(5), number(-6)},
		"5-6":              {number(5), sign(1), number(6)},
		"5-_6":             {number(5), sign(1), number(-6)},
		"a_6b7":            {name('a'), number(-6), name('b'), number(7)},
		"abcd":             {name('a'), name('b'), name('c'), name('d')},
		"--4":              {sign(1), sign(1), number(4)},
		allSigns: {sign(0), sign(1), sign(2), sign(3), sign(4), sign(5), sign(6), sign(7),
			sign(8), sign(9), sign(10), sign(11), sign(12), sign(13), sign(14)},
	} {
		if list := tokens(t, s); !slices.Equal(list, want) {
			t.Errorf("TokensOf(%q) = %v", s, list)
		}
	}
	if impl.TokNum != 0 || impl.TokName != 1 || impl.TokSign != 2 || impl.MaxText != 200 || impl.MaxTokens != 40 || impl.Names != 4 {
		t.Error("a constant is not that of the document")
	}
}

func TestP92OtherTextsHaveNoTokens(t *testing.T) {
	for _, s := range []string{
		"01", "00", "_0", "_01", "_", "__1", "_ 1", "1_", "5_6", "_5_6", "_a", "_-1", "a_", "1000001", "_1000001", "0000001",
		"10000000", "9223372036854775808", "18446744073709551617", "_18446744073709551617", "3.5", "e", "A", "z", "a e", "1e", "1e5", "\t", "a\n", "\x00", "é", "¦", "\xff", "5:", "a:1", ">", "~",
		"'", "a [", "1 2 3 x", "٣", strings.Repeat("1", 200),
		strings.Repeat("a", 41), strings.Repeat("- ", 41), strings.Repeat("1 ", 41),
		strings.Repeat(" ", 201), "a" + strings.Repeat(" ", 200), strings.Repeat("1 ", 101),
	} {
		wantNoTokens(t, s)
	}
}

func TestP93SpacesDoNotMatterAroundTexts(t *testing.T) {
	for _, s := range validTexts() {
		list := tokens(t, s)
		for _, spaces := range []string{" ", "   "} {
			for _, wide := range []string{spaces + s, s + spaces, spaces + s + spaces} {
				if len(wide) > impl.MaxText {
					wantNoTokens(t, wide)
				} else if !slices.Equal(tokens(t, wide), list) {
					t.Errorf("TokensOf(%q) = %v, but TokensOf(%q) = %v", s, list, wide, tokens(t, wide))
				}
			}
		}
	}
	// Without tokens, and with other texts, spaces do not help.
	for _, s := range []string{"_", "5_6", "01", "e"} {
		wantNoTokens(t, " "+s+" ")
	}
}

func TestP94TextsCanBePutTogether(t *testing.T) {
	texts := validTexts()
	for i, s := range texts {
		// All pairs are too many: each text has some partners.
		for _, other := range []string{texts[(i*7+3)%len(texts)], texts[(i*i)%len(texts)], s, "", "5", "_7", "b", "("} {
			both := s + " " + other
			want := slices.Concat(tokens(t, s), tokens(t, other))
			if len(both) > impl.MaxText || len(want) > impl.MaxTokens {
				wantNoTokens(t, both)
			} else if list := tokens(t, both); !slices.Equal(list, want) {
				t.Errorf("TokensOf(%q) = %v, want %v", both, list, want)
			}
		}
	}
}

func TestP95TokensHaveTexts(t *testing.T) {
	for _, list := range validTokenLists() {
		s := format(t, list)
		if len(s) > impl.MaxText {
			wantNoTokens(t, s)
		} else if back := tokens(t, s); !slices.Equal(back, list) {
			t.Errorf("FormatTokens(%v) = %q, whose tokens are %v", list, s, back)
		}
	}
}

func TestP95TokensHaveTheirTexts(t *testing.T) {
	for _, x := range []struct {
		list []impl.Token
		want string
	}{
		{nil, ""},
		{[]impl.Token{number(0)}, "0"},
		{[]impl.Token{number(-impl.MaxNum), number(impl.MaxNum)}, "_1000000 1000000"},
		{[]impl.Token{sign(0), sign(12), name('a'), number(3), number(-4)}, "+/a 3 _4"},
		{[]impl.Token{name('a'), name('b'), sign(1), name('c'), sign(14), name('d')}, "a b-c)d"},
		{[]impl.Token{number(1), sign(1), number(-1), sign(13), number(2), name('d'), number(3)}, "1-_1(2 d 3"},
		// A text of tokens may be too long for tokens of the text.
		{slices.Repeat([]impl.Token{number(-impl.MaxNum)}, 40), strings.Repeat("_1000000 ", 39) + "_1000000"},
	} {
		if s := format(t, x.list); s != x.want {
			t.Errorf("FormatTokens(%v) = %q", x.list, s)
		}
	}
	for value := range len(allSigns) {
		if s := format(t, []impl.Token{sign(value)}); s != allSigns[value:value+1] {
			t.Errorf("the sign %d is %q", value, s)
		}
	}
}

func TestP95OtherTokensHaveNoText(t *testing.T) {
	for _, bad := range otherTokens() {
		wantNoText(t, []impl.Token{bad})
		wantNoText(t, []impl.Token{bad, number(1)})
		wantNoText(t, []impl.Token{name('a'), sign(0), bad})
	}
	for _, one := range []impl.Token{number(1), name('a'), sign(0)} {
		wantNoText(t, slices.Repeat([]impl.Token{one}, impl.MaxTokens+1))
		wantNoText(t, slices.Repeat([]impl.Token{one}, 1000))
	}
}

func TestP96TokensCanBeLeftOut(t *testing.T) {
	for _, list := range validTokenLists() {
		for n := len(list); n >= 0; n-- {
			if !impl.ValidTokens(list[:n]) {
				t.Errorf("%v are not valid", list[:n])
			}
		}
	}
	// A list is valid for as long as all of its tokens are.
	for _, bad := range otherTokens() {
		for n := range 3 {
			list := slices.Repeat([]impl.Token{number(3)}, 3)
			list[n] = bad
			if impl.ValidTokens(list) || !impl.ValidTokens(list[:n]) || impl.ValidTokens(list[:n+1]) {
				t.Errorf("ValidTokens(%v) = %v", list, impl.ValidTokens(list))
			}
		}
	}
}

func TestP167TextsHaveOnlyTheSpacesThatTheyNeed(t *testing.T) {
	check := func(list []impl.Token) {
		s := format(t, list)
		if strings.Contains(s, "  ") || strings.Trim(s, " ") != s {
			t.Errorf("FormatTokens(%v) = %q", list, s)
		}
		needed := 0
		for i := 1; i < len(list); i++ {
			if list[i-1].Kind != impl.TokSign && list[i].Kind != impl.TokSign {
				needed++
			}
		}
		if strings.Count(s, " ") != needed {
			t.Errorf("FormatTokens(%v) = %q", list, s)
		}
	}
	for _, list := range validTokenLists() {
		check(list)
	}
	for _, s := range validTexts() {
		check(tokens(t, s))
	}
}

func TestTokensAreFresh(t *testing.T) {
	one, other := tokens(t, "a 1+b"), tokens(t, "a 1+b")
	want := slices.Clone(other)
	for i := range one[:cap(one)] {
		one[:cap(one)][i] = number(9)
	}
	if !slices.Equal(other, want) || !slices.Equal(tokens(t, "a 1+b"), want) {
		t.Errorf("two lists of tokens share memory: %v", other)
	}
	spare := append(slices.Clone(want), number(7), number(8))
	before := slices.Clone(spare)
	if s := impl.FormatTokens(spare[:len(want)]); s != "a 1+b" || !impl.ValidTokens(spare[:len(want)]) || !slices.Equal(spare, before) {
		t.Errorf("%v became %v, with the text %q", before, spare, s)
	}
}
