package tests

import (
	"maps"
	"regexp"
	"slices"
	"strconv"
	"strings"
	"testing"

	"loop.example/g00648/impl"
)

// scriptConfig is that of the heap that is there at first.
func scriptConfig() impl.Config {
	return impl.Config{Lines: 20, Log: 6, Young: 24, Types: []string{"ir", "rri"}}
}

// actLines have the names of acts with just so many numbers.
func actLines() map[string]struct{ kind, count int64 } {
	return map[string]struct{ kind, count int64 }{
		"new": {impl.AcNew, 1}, "get": {impl.AcGet, 2}, "set": {impl.AcSet, 3}, "ref": {impl.AcRef, 2}, "put": {impl.AcPut, 3}, "drop": {impl.AcDrop, 1},
		"same": {impl.AcSame, 2}, "type": {impl.AcType, 1}, "durable": {impl.AcDurable, 1}, "begin": {impl.AcBegin, 0}, "publish": {impl.AcPublish, 2},
		"root": {impl.AcRoot, 1}, "commit": {impl.AcCommit, 0}, "abort": {impl.AcAbort, 0}, "minor": {impl.AcMinor, 0}, "major": {impl.AcMajor, 0}, "evict": {impl.AcEvict, 1},
	}
}

var decimalForm = regexp.MustCompile(`^(0|-?[1-9][0-9]{0,15})$`)

// numbersIn is false when one of the words is not in decimal.
func numbersIn(words []string) ([]int64, bool) {
	var numbers []int64
	for _, word := range words {
		if !decimalForm.MatchString(word) {
			return nil, false
		}
		n, err := strconv.ParseInt(word, 10, 64)
		if err != nil {
			return nil, false
		}
		numbers = append(numbers, n)
	}
	return numbers, true
}

// A handScript keeps no heap: it asks HeapPlay for all acts since the last line heap that said "ok".
type handScript struct {
	config impl.Config
	acts   []impl.Act
	power  int64
}

func (h *handScript) opened(c impl.Config) { *h = handScript{config: c, power: -1} }

func (h *handScript) run() impl.Run { return impl.HeapPlay(impl.Format(h.config), h.acts) }

// scriptByHand is chapter 16, line by line.
func scriptByHand(text string) string {
	if len(text) > 4000 || strings.Count(text, "\n") > 40 || text != "" && !strings.HasSuffix(text, "\n") {
		return "too long\n"
	}
	h := &handScript{}
	h.opened(scriptConfig())
	said := ""
	for line := range strings.Lines(text) {
		line = strings.Trim(strings.TrimSuffix(line, "\n"), " ")
		for strings.Contains(line, "  ") {
			line = strings.ReplaceAll(line, "  ", " ")
		}
		if line != "" {
			words := strings.Split(line, " ")
			said += h.line(words[0], words[1:]) + "\n"
		}
	}
	return said
}

func (h *handScript) line(word string, words []string) string {
	numbers, ok := numbersIn(words)
	a, isAct := actLines()[word]
	switch {
	case word == "heap":
		return h.heap(words)
	case word == "power" && ok && len(numbers) == 1:
		h.power = numbers[0]
		return "power " + words[0]
	case word == "crash" && ok:
		return h.act(impl.Act{Kind: impl.AcCrash, Keep: numbers})
	case isAct && ok && int64(len(numbers)) == a.count:
		return h.act(act(a.kind, numbers...))
	case len(words) == 0 && slices.Contains([]string{"now", "safe", "map", "risk", "used"}, word):
		return h.ask(word)
	}
	return "what"
}

func (h *handScript) heap(words []string) string {
	if len(words) < 3 {
		return "what"
	}
	numbers, ok := numbersIn(words[:3])
	if !ok {
		return "what"
	}
	c := impl.Config{Lines: numbers[0], Log: numbers[1], Young: numbers[2], Types: words[3:]}
	if !impl.ConfigOk(c) {
		return "no"
	}
	h.opened(c)
	return "ok"
}

func (h *handScript) act(a impl.Act) string {
	a.Power = h.power
	h.power = -1
	h.acts = append(h.acts, a)
	answer := lastOf(h.run().Answers)
	if answer.Code != 0 {
		return "no " + strconv.FormatInt(answer.Code, 10)
	}
	return "ok " + strconv.FormatInt(answer.N, 10)
}

func (h *handScript) ask(word string) string {
	run := h.run()
	if run.Off && word != "map" && word != "risk" {
		return "off"
	}
	behind := ""
	switch word {
	case "now":
		behind = impl.GraphText(h.config.Types, run.Now)
	case "safe":
		behind = impl.GraphText(h.config.Types, run.Safe)
	case "map":
		behind = numbersText(heldMap(run.Dev))
	case "risk":
		behind = numbersText(impl.AtRisk(run.Dev))
	case "used":
		behind = strconv.FormatInt(run.Used, 10)
	}
	behind = strings.ReplaceAll(strings.TrimRight(behind, "\n "), "\n", " / ")
	return strings.TrimRight(word+" "+behind, " ")
}

// script is of these lines, each ended.
func script(lines ...string) string {
	if len(lines) == 0 {
		return ""
	}
	return strings.Join(lines, "\n") + "\n"
}

// wantSaid holds what a script says against want, and against scriptByHand.
func wantSaid(t *testing.T, text string, want string) {
	t.Helper()
	if got := impl.RunScript(text); got != want {
		t.Errorf("%q\nsays %q\nwant %q", text, got, want)
	}
	if got := scriptByHand(text); got != want {
		t.Errorf("%q by hand\nsays %q\nwant %q", text, got, want)
	}
}

// wantLast is of the last line alone, all others stand ahead of it.
func wantLast(t *testing.T, want string, lines ...string) {
	t.Helper()
	holdScript(t, script(lines...))
	said := strings.Split(strings.TrimSuffix(impl.RunScript(script(lines...)), "\n"), "\n")
	if lastOf(said) != want {
		t.Errorf("%q says %q, want %q", lines, lastOf(said), want)
	}
}

func holdScript(t *testing.T, text string) string {
	t.Helper()
	got := impl.RunScript(text)
	if want := scriptByHand(text); got != want {
		t.Fatalf("%q\nsays %q\nwant %q", text, got, want)
	}
	return got
}

// durablePair has an old pair, of slot 0 and handle 0, in line 10.
func durablePair(more ...string) []string {
	return append([]string{"new 0", "set 0 0 7", "begin", "publish 0 0", "commit"}, more...)
}

// offHeap lost its power at the second step of a line publish.
func offHeap(more ...string) []string {
	return append(durablePair("begin", "power 1", "publish 1 0"), more...)
}

const noSlots = " 0 0 0 0 0 0 0 0"

const noHandles = " 0 0 0 0 0 0 0 0 0 0 0 0"

func TestP16EachLineOfAct(t *testing.T) {
	for _, c := range []struct {
		want  string
		lines []string
	}{
		{"ok 0", []string{"new 0"}}, {"ok 1", []string{"new 1", "new 0"}}, {"no 3", []string{"new 2"}}, {"no 3", []string{"new -1"}},
		{"ok 7", durablePair("get 0 0")}, {"no 5", durablePair("get 0 1")}, {"no 4", durablePair("get 0 2")}, {"no 2", durablePair("get 1 0")}, {"no 2", []string{"get -1 0"}},
		{"ok 0", []string{"new 0", "set 0 0 -9"}}, {"ok -9", []string{"new 0", "set 0 0 -9", "get 0 0"}}, {"no 6", durablePair("set 0 0 1")}, {"no 5", durablePair("set 0 1 0")},
		{"ok -1", durablePair("ref 0 1")}, {"ok 1", []string{"new 0", "put 0 1 0", "ref 0 1"}}, {"no 5", durablePair("ref 0 0")}, {"no 2", []string{"ref 12 0"}},
		{"ok 0", []string{"new 1", "put 0 1 0"}}, {"ok 0", []string{"new 1", "put 0 1 -1"}}, {"no 2", []string{"new 1", "put 0 1 1"}}, {"no 5", []string{"new 1", "put 0 2 0"}}, {"no 6", durablePair("put 0 1 -1")},
		{"ok 0", durablePair("drop 0")}, {"no 2", []string{"drop 0"}}, {"no 2", durablePair("drop 0", "drop 0")},
		{"ok 1", durablePair("root 0", "same 0 1")}, {"ok 0", []string{"new 0", "new 0", "same 0 1"}}, {"no 2", durablePair("same 0 1")},
		{"ok 1", []string{"new 1", "type 0"}}, {"no 2", []string{"type 0"}},
		{"ok 1", durablePair("durable 0")}, {"ok 0", []string{"new 0", "durable 0"}}, {"no 2", []string{"durable 11"}},
		{"ok 0", []string{"begin"}}, {"no 6", []string{"begin", "begin"}}, {"no 7", []string{"begin", "begin", "new 0"}},
		{"ok 0", []string{"begin", "publish 7 -1"}}, {"no 8", []string{"begin", "publish 8 -1"}}, {"no 2", []string{"begin", "publish 0 0"}}, {"no 6", []string{"publish 0 -1"}},
		{"ok -1", []string{"root 0"}}, {"ok 1", durablePair("root 0")}, {"no 8", []string{"root 8"}},
		{"ok 0", []string{"begin", "commit"}}, {"no 6", []string{"commit"}}, {"no 7", []string{"begin", "drop 0", "commit"}},
		{"ok 0", []string{"begin", "abort"}}, {"no 6", []string{"abort"}}, {"ok 0", []string{"begin", "drop 0", "abort"}},
		{"ok 0", []string{"minor"}}, {"ok 0", []string{"begin", "drop 0", "minor"}}, {"ok 0", []string{"major"}}, {"ok 0", []string{"begin", "drop 0", "major"}},
		{"ok 0", []string{"evict 3"}}, {"ok 0", []string{"evict -1"}}, {"ok 0", []string{"evict 9999999999999999"}}, {"ok 0", []string{"begin", "drop 0", "evict 0"}},
		{"ok 0", []string{"crash"}}, {"ok 0", []string{"crash 2"}}, {"ok 0", []string{"crash 2 1 0 -1 9"}}, {"no 2", []string{"new 0", "crash", "drop 0"}},
		{"no 10", []string{"heap 20 6 3 ir", "new 0", "new 0"}}, {"no 11", []string{"heap 8 3 99 ir", "new 0", "new 0", "begin", "publish 0 0", "publish 1 1", "commit"}},
		{"no 12", []string{"heap 20 1 24 ir", "new 0", "begin", "publish 0 0", "publish 4 0"}},
		{"no 13", []string{"new 0", "begin", "power 0", "publish 0 0"}}, {"no 14", offHeap("new 0")}, {"no 14", offHeap("minor")}, {"ok 0", offHeap("crash")},
	} {
		wantLast(t, c.want, c.lines...)
	}
	wantLast(t, "no 9", append([]string{"heap 20 6 99 ir"}, slices.Repeat([]string{"new 0"}, 13)...)...)
}

// TestP16NumbersOfEachName: each name with just its numbers, with one too few and one too many.
func TestP16NumbersOfEachName(t *testing.T) {
	counts := map[string]int64{"power": 1, "now": 0, "safe": 0, "map": 0, "risk": 0, "used": 0}
	for name, a := range actLines() {
		counts[name] = a.count
	}
	for name, count := range counts {
		for n := range int64(6) {
			line := name + strings.Repeat(" 0", int(n))
			for _, ahead := range [][]string{nil, durablePair("begin"), offHeap()} {
				holdScript(t, script(append(slices.Clone(ahead), line, "used")...))
			}
			said := impl.RunScript(script(line))
			if (said == "what\n") != (n != count) {
				t.Errorf("%q says %q", line, said)
			}
			for _, wrong := range []string{"00", "x", "-0", "+0", "-", "0x0", "0.", "99999999999999999"} {
				for at := range n {
					words := slices.Repeat([]string{"0"}, int(n))
					words[at] = wrong
					wantSaid(t, script(name+" "+strings.Join(words, " ")), "what\n")
				}
			}
		}
	}
	for n := range 60 {
		wantSaid(t, script("crash"+strings.Repeat(" 2", n)), "ok 0\n")
		wantSaid(t, script("crash"+strings.Repeat(" 2", n)+" 02"), "what\n")
	}
	for n := range 3 {
		wantSaid(t, script("heap"+strings.Repeat(" 9", n)), "what\n")
	}
	wantSaid(t, script("heap 9 9 9"), "no\n")
}

// TestP16NoSuchWords: words are told apart byte by byte.
func TestP16NoSuchWords(t *testing.T) {
	for _, line := range []string{"fly", "New 0", "NEW 0", "ne 0", "neww 0", "new0", "new,0", "0", "0 new", "-1", "ok", "what", "off", "no 3", "/", "use", "useds", "h", "\x00", "\xff", "n\u00e9w 0", "new\x000", "roots 0"} {
		wantSaid(t, script(line), "what\n")
		wantSaid(t, script("new 0", line, "used"), "ok 0\nwhat\nused 3\n")
	}
}

// TestP16Blanks: blanks alone part words.
func TestP16Blanks(t *testing.T) {
	wantSaid(t, " \n", "")
	wantSaid(t, "\n\n   \n\n", "")
	for _, line := range []string{"set 0 0 5", "  set 0 0 5", "set 0 0 5  ", "   set   0  0    5   ", " set 0 0 5 "} {
		wantSaid(t, script("new 0", line, "  get  0  0"), "ok 0\nok 0\nok 5\n")
	}
	for b := range 256 {
		s := string([]byte{byte(b)})
		for _, line := range []string{s + "used", "used" + s, s + " used", "used " + s, "us" + s + "ed", s} {
			holdScript(t, script("new 0", line, "used"))
		}
		for _, line := range []string{"get" + s + "0 0", "get 0" + s + "0", "get 0 0" + s, "get " + s + "0 0", "get 0 " + s} {
			holdScript(t, script("new 0", line, "used"))
		}
		if b < 32 && b != '\n' {
			wantSaid(t, script("used"+s, s+"used", s, "new"+s+"0", "new 0"+s, "heap 20 6 24 ir"+s), "what\nwhat\nwhat\nwhat\nwhat\nno\n")
		}
	}
	for _, wide := range []string{"\u00a0", "\u2003", "\u3000", "\u0085", "\ufeff"} {
		wantSaid(t, script("used"+wide, wide, "new"+wide+"0"), "what\nwhat\nwhat\n")
	}
	wantSaid(t, "used\r\nnew 0\r\n", "what\nwhat\n")
}

// TestP16Numbers: each form of a number, in an act, a line power and a line heap.
func TestP16Numbers(t *testing.T) {
	for _, s := range []string{"0", "1", "-1", "9", "10", "-10", "123456", "999999999999999", "1000000000000000", "-1000000000000000", "9999999999999999", "-9999999999999999"} {
		wantSaid(t, script("new 0", "set 0 0 "+s, "get 0 0", "power "+s), "ok 0\nok 0\nok "+s+"\npower "+s+"\n")
		wantSaid(t, script("heap "+s+" 6 24 ir", "heap 20 "+s+" 24 ir", "heap 200 6 "+s+" ir"), map[bool]string{true: "no\nok\nno\n", false: "no\nno\nno\n"}[s == "1" || s == "9" || s == "10"])
	}
	for _, s := range []string{"00", "-0", "-00", "01", "-01", "007", "0000000000000000", "10000000000000000", "-10000000000000000", "99999999999999999", "9223372036854775807", "-9223372036854775808",
		"18446744073709551616", "123456789012345678901234567890", "-", "--1", "+", "+1", "1+", "1-", "1_000", "1,000", "1.0", "1e3", "0x1", "0b1", "0o7", "a", "1a", "\u0661", "\uff11", "\x01", "1\x00", "\t1", "1\t", "''", "nil"} {
		wantSaid(t, script("new 0", "set 0 0 "+s, "get 0 0", "power "+s, "crash 2 "+s, "drop "+s), "ok 0\nwhat\nok 0\nwhat\nwhat\nwhat\n")
		wantSaid(t, script("heap "+s+" 6 24 ir", "heap 20 "+s+" 24 ir", "heap 20 6 "+s+" ir", "used"), "what\nwhat\nwhat\nused 0\n")
	}
}

func TestP16LinesThatAsk(t *testing.T) {
	great := " 0 0 1 0 0 0 0 0 / 0" + strings.Repeat(" 0", 8) + " 1" + strings.Repeat(" 0", 13) + " -3"
	for _, c := range []struct {
		ahead []string
		want  [5]string
	}{
		{nil, [5]string{"now roots" + noHandles + noSlots, "safe roots" + noSlots, "map", "risk", "used 0"}},
		{durablePair(), [5]string{"now roots 1 0 0 0 0 0 0 0 0 0 0 0 1 0 0 0 0 0 0 0 / 0 7 0", "safe roots 1 0 0 0 0 0 0 0 / 0 7 0", "map 10", "risk", "used 3"}},
		{durablePair("minor"), [5]string{"now roots 1 0 0 0 0 0 0 0 0 0 0 0 1 0 0 0 0 0 0 0 / 0 7 0", "safe roots 1 0 0 0 0 0 0 0 / 0 7 0", "map 10", "risk", "used 0"}},
		// In a region.
		{durablePair("begin", "set 0 0 8", "new 1", "publish 7 1"), [5]string{"now roots 1 2 0 0 0 0 0 0 0 0 0 0 1 0 0 0 0 0 0 2 / 0 8 0 / 1 0 0 0", "safe roots 1 0 0 0 0 0 0 0 / 0 7 0", "map 10", "risk 2 10", "used 7"}},
		{durablePair("begin", "set 0 0 8", "evict 10"), [5]string{"now roots 1 0 0 0 0 0 0 0 0 0 0 0 1 0 0 0 0 0 0 0 / 0 8 0", "safe roots 1 0 0 0 0 0 0 0 / 0 7 0", "map 10", "risk", "used 3"}},
		{durablePair("begin", "new 9"), [5]string{"now roots 1 0 0 0 0 0 0 0 0 0 0 0 1 0 0 0 0 0 0 0 / 0 7 0", "safe roots 1 0 0 0 0 0 0 0 / 0 7 0", "map 10", "risk", "used 3"}},
		// When the heap is off: its device is there.
		{offHeap(), [5]string{"off", "off", "map 10", "risk 4", "off"}},
		{durablePair("begin", "publish 0 -1", "new 1", "publish 3 1", "power 1", "commit"), [5]string{"off", "off", "map 10", "risk 2 11", "off"}},
		{durablePair("begin", "publish 0 -1", "new 1", "publish 3 1", "power 2", "commit"), [5]string{"off", "off", "map 10 11", "risk 2 3 11", "off"}},
		{offHeap("crash"), [5]string{"now roots" + noHandles + " 1 0 0 0 0 0 0 0 / 0 7 0", "safe roots 1 0 0 0 0 0 0 0 / 0 7 0", "map 10", "risk", "used 0"}},
		{[]string{"heap 8 1 6 r"}, [5]string{"now roots" + noHandles + noSlots, "safe roots" + noSlots, "map", "risk", "used 0"}},
		// Several lines of one object.
		{[]string{"heap 30 1 99 iiiiiiiirrrrrrrriiiiiii", "new 0", "put 0 8 0", "set 0 22 -3", "begin", "publish 2 0", "commit", "drop 0", "major"},
			[5]string{"now roots" + noHandles + great, "safe roots" + great, "map 5 6 7", "risk", "used 0"}},
	} {
		for i, word := range []string{"now", "safe", "map", "risk", "used"} {
			wantLast(t, c.want[i], append(slices.Clone(c.ahead), word)...)
			// Asked twice, and behind all others, it says the same.
			wantLast(t, c.want[i], append(slices.Clone(c.ahead), word, "used", "risk", "map", "safe", "now", word)...)
		}
	}
}

// TestP16GraphsWithoutAText: the word alone, where a number is beyond what a text has.
func TestP16GraphsWithoutAText(t *testing.T) {
	for n, text := range map[string]bool{"999999999999999": true, "-999999999999999": true, "1000000000000000": false, "-1000000000000000": false, "9999999999999999": false} {
		lines := []string{"new 0", "set 0 0 " + n, "now"}
		if text {
			wantLast(t, "now roots 1 0 0 0 0 0 0 0 0 0 0 0"+noSlots+" / 0 "+n+" 0", lines...)
			continue
		}
		wantLast(t, "now", lines...)
		wantLast(t, "safe roots"+noSlots, append(lines, "safe")...)
		wantLast(t, "safe", append(lines, "begin", "publish 0 0", "commit", "set 0 0 1", "safe")...)
		wantLast(t, "now roots"+noHandles+noSlots, append(lines, "drop 0", "now")...)
	}
}

// TestP16Power: which act has the power of a line power. The line publish needs four steps.
func TestP16Power(t *testing.T) {
	ahead := []string{"new 0", "begin"}
	for _, c := range []struct {
		want  string
		lines []string
	}{
		{"ok 0", []string{"publish 0 0"}},
		{"no 13", []string{"power 0", "publish 0 0"}},
		{"no 13", []string{"power 3", "publish 0 0"}},
		{"ok 0", []string{"power 4", "publish 0 0"}},
		{"ok 0", []string{"power 9999999999999999", "publish 0 0"}},
		{"ok 0", []string{"power -1", "publish 0 0"}},
		{"ok 0", []string{"power -9999999999999999", "publish 0 0"}},
		// Lines that are no acts leave it to the act behind them.
		{"no 13", []string{"power 3", "now", "safe", "map", "risk", "used", "publish 0 0"}},
		{"no 13", []string{"power 3", "", "   ", "publish 0 0"}},
		{"no 13", []string{"power 3", "publish 0", "publish 0 0 0", "publish 0 00", "fly", "now 1", "power", "power x", "power 1 2", "heap", "heap 20 6", "heap x 6 24 ir", "crash x", "publish 0 0"}},
		// The later one stands.
		{"ok 0", []string{"power 3", "power 4", "publish 0 0"}},
		{"ok 0", []string{"power 0", "power -1", "publish 0 0"}},
		{"no 13", []string{"power 4", "power 3", "publish 0 0"}},
		// One act alone has it, and a refused one too.
		{"ok 0", []string{"power 0", "get 0 0", "publish 0 0"}},
		{"ok 0", []string{"power 3", "minor", "publish 0 0"}},
		{"ok 0", []string{"power 4", "publish 0 0", "publish 4 0"}},
		{"no 7", []string{"power 3", "publish 8 0", "publish 0 0"}},
		{"ok 0", []string{"power 0", "publish 8 0", "abort", "begin", "publish 0 0"}},
		{"ok 0", []string{"power 0", "drop 5", "abort"}},
		// A line heap that says "ok" takes it, one that says "no" does not.
		{"ok 0", []string{"power 0", "heap 20 6 24 ir", "new 0", "begin", "publish 0 0"}},
		{"no 13", []string{"power 3", "heap 20 6 24", "heap 20 6 24 x", "heap 7 1 24 ir", "publish 0 0"}},
		{"ok 0", []string{"power 0", "heap 20 6 24 ir", "crash"}},
		// Off: an act that has the power is refused, and a crash behind it has all.
		{"no 14", []string{"power 0", "publish 0 0", "publish 0 0"}},
		{"ok 0", []string{"power 0", "publish 0 0", "power 0", "new 0", "crash"}},
		{"ok 0", []string{"power 0", "publish 0 0", "power 0", "crash"}},
	} {
		wantLast(t, c.want, append(slices.Clone(ahead), c.lines...)...)
		wantLast(t, c.want, append([]string{"power 0"}, append(slices.Clone(ahead), c.lines...)...)...)
	}
	// A crash takes its power, too: seven steps, with two records in two lines.
	off := durablePair("begin", "set 0 0 8", "publish 1 0", "power 1", "commit", "power 0", "used", "power 2", "used")
	holdScript(t, script(off...))
	for power := range int64(11) {
		lines := append(slices.Clone(off), "power "+strconv.FormatInt(power, 10), "crash 2 2 2", "safe", "crash", "safe")
		said := holdScript(t, script(lines...))
		if strings.Contains(said, "no 13\noff\nok 0\nsafe roots 1 0 0 0 0 0 0 0 / 0 7 0\n") != (power < 8) {
			t.Errorf("a crash with power %d: %q", power, said)
		}
	}
}

// TestP16KeepsOfACrash: a second record, in the second line that is at risk, takes one step more to undo.
func TestP16KeepsOfACrash(t *testing.T) {
	for _, c := range []struct{ power, crash, want string }{
		{"1", "crash", "ok 0"}, {"1", "crash 2", "ok 0"}, {"1", "crash 2 0", "ok 0"}, {"1", "crash 0 1", "ok 0"}, {"1", "crash 2 3", "ok 0"}, {"1", "crash 0 2", "no 13"}, {"1", "crash -1 2 2 2", "no 13"},
		{"2", "crash", "ok 0"}, {"2", "crash 1", "ok 0"}, {"2", "crash 0 1", "no 13"}, {"2", "crash 9 2", "no 13"}, {"2", "crash 1 -1", "ok 0"},
	} {
		wantLast(t, c.want, durablePair("begin", "publish 1 0", "power "+c.power, "publish 4 0", "power 6", c.crash)...)
	}
}

func TestP16LinesHeap(t *testing.T) {
	fresh := "now roots" + noHandles + noSlots + "\nsafe roots" + noSlots + "\nmap\nrisk\nused 0\n"
	asks := []string{"now", "safe", "map", "risk", "used"}
	for _, line := range []string{"heap 20 6 24 ir rri", "heap 8 1 2 i", "heap 8 3 2 r", "heap 128 32 400 " + strings.Repeat("r", 23), "heap 20 6 24 i r i r i r i r i r i r"} {
		wantSaid(t, script(append([]string{line}, asks...)...), "ok\n"+fresh)
		for _, ahead := range [][]string{durablePair(), durablePair("begin", "set 0 0 1"), durablePair("begin", "new 9"), offHeap(), {"power 0"}} {
			said := holdScript(t, script(append(append(slices.Clone(ahead), line), asks...)...))
			if !strings.HasSuffix(said, "\nok\n"+fresh) {
				t.Errorf("%q behind %q: %q", line, ahead, said)
			}
		}
	}
	for _, line := range []string{
		"heap 20 6 24", "heap 0 0 0 ir", "heap 7 1 24 ir", "heap 129 6 24 ir", "heap 20 0 24 ir", "heap 20 16 24 ir", "heap 100 33 24 ir", "heap 20 6 1 ir", "heap 20 6 401 ir", "heap -20 6 24 ir",
		"heap 20 -6 24 ir", "heap 20 6 -24 ir", "heap 9999999999999999 6 24 ir", "heap 20 6 24 x", "heap 20 6 24 ir x", "heap 20 6 24 IR", "heap 20 6 24 7", "heap 20 6 24 ir\t", "heap 20 6 24 ir rri 7",
		"heap 20 6 24 " + strings.Repeat("i", 24), "heap 20 6 24 i i i i i i i i i i i i i", "heap 65556 6 24 ir",
	} {
		wantSaid(t, script(append([]string{line}, asks...)...), "no\n"+fresh)
		for _, ahead := range [][]string{durablePair(), durablePair("begin", "set 0 0 1"), durablePair("begin", "new 9"), offHeap()} {
			// The heap stays.
			with, without := append(append(slices.Clone(ahead), line), asks...), append(slices.Clone(ahead), asks...)
			if said := holdScript(t, script(with...)); strings.Replace(said, "\nno\n", "\n", 1) != impl.RunScript(script(without...)) {
				t.Errorf("%q behind %q: %q", line, ahead, said)
			}
		}
	}
	// The types of the new heap count.
	wantSaid(t, script("new 1", "heap 20 6 24 i ii iii", "new 2", "get 0 2", "new 3", "heap 20 6 24 ri", "get 0 0", "new 0", "ref 0 0"), "ok 0\nok\nok 0\nok 0\nno 3\nok\nno 2\nok 0\nok -1\n")
}

func TestP16LimitsOfScripts(t *testing.T) {
	wantSaid(t, "", "")
	wantSaid(t, "\n", "")
	for _, text := range []string{"x", " ", "used", "used\nused", "\n\nused", "used\n ", strings.Repeat("\n", 40) + "x"} {
		wantSaid(t, text, "too long\n")
	}
	for _, line := range []string{"", "  ", "used", "new 0", "fly", "crash"} {
		lines := slices.Repeat([]string{line}, 41)
		if said := holdScript(t, script(lines[:40]...)); said == "too long\n" {
			t.Errorf("40 lines %q: %q", line, said)
		}
		wantSaid(t, script(lines...), "too long\n")
		wantSaid(t, script(lines[:40]...)+line+"x", "too long\n")
		wantSaid(t, script(append([]string{"used"}, lines[:40]...)...), "too long\n")
	}
	// 4000 bytes and one more, of blanks, of words, of lines, and of bytes that are none.
	for _, c := range [][2]string{
		{"used" + strings.Repeat(" ", 3995) + "\n", "used 0\n"},
		{strings.Repeat(" ", 3999) + "\n", ""},
		{strings.Repeat("x", 3999) + "\n", "what\n"},
		{strings.Repeat("\xff", 3999) + "\n", "what\n"},
		{"crash " + strings.Repeat(" 2", 1996) + " \n", "ok 0\n"},
		{"new 0\n" + strings.Repeat(" ", 3989) + "used\n", "ok 0\nused 3\n"},
		{strings.Repeat(strings.Repeat(" ", 95)+"used\n", 40), strings.Repeat("used 0\n", 40)},
	} {
		if len(c[0]) != 4000 {
			t.Fatalf("%d bytes", len(c[0]))
		}
		wantSaid(t, c[0], c[1])
		wantSaid(t, " "+c[0], "too long\n")
	}
	wantSaid(t, strings.Repeat("x", 4000), "too long\n")
	wantSaid(t, strings.Repeat("\n", 4001), "too long\n")
	wantSaid(t, strings.Repeat("used\n", 100000), "too long\n")
}

// lineOfAct is how a script says an act.
func lineOfAct(a impl.Act) string {
	if a.Kind == impl.AcCrash {
		return "crash" + strings.TrimRight(" "+numbersText(a.Keep), " ")
	}
	for name, known := range actLines() {
		if known.kind == a.Kind {
			return strings.TrimRight(name+" "+numbersText([]int64{a.A, a.B, a.C}[:known.count]), " ")
		}
	}
	return "fly"
}

// sayable: the numbers of an act have sixteen digits at most.
func sayable(a impl.Act) bool {
	for _, n := range append([]int64{a.A, a.B, a.C, a.Power}, a.Keep...) {
		if n < -9999999999999999 || n > 9999999999999999 {
			return false
		}
	}
	return a.Kind >= impl.AcNew && a.Kind <= impl.AcCrash
}

// someScript has acts of which few are refused, with power that fails now and then.
func (d *dice) someScript(count int64) []string {
	c := scriptConfig()
	var lines []string
	if d.below(2) == 0 {
		c = impl.Config{Lines: 8 + d.below(18), Young: 6 + d.below(50), Types: []string{"ir", "rri", "irr"}[:1+d.below(3)]}
		c.Log = 1 + d.below(min(6, c.Lines-5))
		lines = append(lines, "heap "+numbersText([]int64{c.Lines, c.Log, c.Young})+strings.Join(c.Types, " "))
	}
	list := slices.DeleteFunc(d.someWork(impl.Format(c), mostActs), func(a impl.Act) bool { return !sayable(a) })
	off := false
	for i, n := range impl.StepsOf(impl.Format(c), list) {
		switch {
		case off && d.below(3) == 0:
			lines = append(lines, "crash 2 1 0 2 1")
			off = false
		case n > 0 && d.below(3) == 0:
			lines = append(lines, "power "+strconv.FormatInt(d.below(n+1), 10))
			off = true
		}
		lines = append(lines, lineOfAct(list[i]))
	}
	return lines[:min(count, int64(len(lines)))]
}

// someNoise is a line that does nothing to an act behind it.
func (d *dice) someNoise() string {
	noise := []string{"now", "safe", "map", "risk", "used", "", "   ", " used ", "fly", "new", "new 00", "get 0", "used 1", "heap 20 6", "heap 20 6 24", "heap 20 6 24 x", "power", "power 01", "crash -", "\tused", "\xff", "begin 0"}
	return noise[d.below(int64(len(noise)))]
}

// TestP16AnyScripts holds scripts against HeapPlay, act by act, with power and without.
func TestP16AnyScripts(t *testing.T) {
	d := &dice{state: 160}
	said := map[string]int{}
	for range 250 {
		var lines []string
		for _, line := range d.someScript(30) {
			lines = append(lines, line)
			for len(lines) < 38 && d.below(3) == 0 {
				lines = append(lines, d.someNoise())
			}
		}
		lines = append(lines[:min(38, len(lines))], "now", "safe")
		for line := range strings.Lines(holdScript(t, script(lines...))) {
			said[strings.Split(strings.TrimSuffix(line, "\n"), " ")[0]]++
		}
	}
	for _, word := range []string{"ok", "no", "what", "off", "now", "safe", "map", "risk", "used", "power"} {
		if said[word] < 20 {
			t.Errorf("%q was said %d times alone", word, said[word])
		}
	}
}

// saidBehind is what each of the lines of a script says, "" where it says nothing.
func saidBehind(lines []string) []string {
	var all []string
	was := ""
	for i := range lines {
		said := impl.RunScript(script(lines[:i+1]...))
		all = append(all, strings.TrimPrefix(said, was))
		was = said
	}
	return all
}

// TestP16WhatWasSaidStays, whatever stands behind it.
func TestP16WhatWasSaidStays(t *testing.T) {
	d := &dice{state: 161}
	for range 60 {
		lines := d.someScript(40)
		whole := impl.RunScript(script(lines...))
		for i := range lines {
			said := impl.RunScript(script(lines[:i]...))
			if !strings.HasPrefix(whole, said) {
				t.Fatalf("%q\nsays %q, its first %d lines %q", lines, whole, i, said)
			}
			for _, more := range []string{d.someNoise(), "crash", "heap 8 1 9 i", "power 0", "\x00"} {
				if longer := impl.RunScript(script(append(slices.Clone(lines[:i]), more)...)); !strings.HasPrefix(longer, said) {
					t.Fatalf("%q behind %q: %q, ahead of it %q", more, lines[:i], longer, said)
				}
			}
		}
	}
}

// TestP16LinesThatAskChangeNothing: with such lines behind each of its lines, a script says the same beside them.
func TestP16LinesThatAskChangeNothing(t *testing.T) {
	d := &dice{state: 162}
	for range 50 {
		lines := d.someScript(20)
		want := saidBehind(lines)
		for _, ask := range []string{"now", "safe", "map", "risk", "used", "", "fly", "power 1 2", "heap 20 6 24", "new 00"} {
			var among []string
			for _, line := range lines {
				among = append(among, line, ask)
			}
			got := saidBehind(among)
			for i := range lines {
				if got[2*i] != want[i] {
					t.Fatalf("line %d of %q with %q behind each says %q, without %q", i, lines, ask, got[2*i], want[i])
				}
			}
		}
	}
}

// TestP16TheFirstHeap is as one of a line heap.
func TestP16TheFirstHeap(t *testing.T) {
	d := &dice{state: 163}
	for _, lines := range [][]string{nil, durablePair("now", "safe", "map", "used"), offHeap("risk", "map", "crash", "now"), {"new 2"}, {"used"}, d.someScript(30), d.someScript(30), d.someScript(39)} {
		if got, want := impl.RunScript(script(append([]string{"heap 20 6 24 ir rri"}, lines...)...)), "ok\n"+impl.RunScript(script(lines...)); got != want {
			t.Errorf("%q\nsays %q\nwant %q", lines, got, want)
		}
	}
}

// TestP16AnyBytes: whatever a script is, it is answered.
func TestP16AnyBytes(t *testing.T) {
	d := &dice{state: 164}
	for range 400 {
		holdScript(t, d.text(d.below(300))+"\n")
		lines := d.someScript(12)
		text := []byte(script(lines...))
		for range 1 + d.below(4) {
			at := d.below(int64(len(text)) + 1)
			switch d.below(3) {
			case 0:
				text = slices.Insert(text, int(at), byte(d.below(256)))
			case 1:
				text = append(text[:at], " \n-09ir\t"[d.below(8)])
				text = append(text, '\n')
			default:
				if at < int64(len(text)) {
					text[at] ^= 1 << d.below(8)
				}
			}
		}
		holdScript(t, string(text))
	}
}

// TestP16AnyNumbers: handles, fields and slots that are not there.
func TestP16AnyNumbers(t *testing.T) {
	d := &dice{state: 165}
	some := []string{"0", "1", "2", "7", "8", "11", "12", "-1", "-2", "127", "128", "9999999999999999", "-9999999999999999", "4294967296"}
	pick := func() string { return some[d.below(int64(len(some)))] }
	names := slices.Sorted(maps.Keys(actLines()))
	for range 150 {
		lines := durablePair("new 1")
		if d.below(2) == 0 {
			lines = append(lines, "begin")
		}
		for range 25 {
			line := names[d.below(int64(len(names)))]
			for range actLines()[line].count {
				line += " " + pick()
			}
			lines = append(lines, line)
		}
		holdScript(t, script(lines...))
	}
}

func TestP17ScriptsSayTheSameAgain(t *testing.T) {
	d := &dice{state: 170}
	for range 40 {
		text := script(d.someScript(40)...)
		other := script(d.someScript(40)...)
		first := impl.RunScript(text)
		impl.RunScript(other)
		if again := impl.RunScript(text); again != first {
			t.Fatalf("%q\nsays %q, then %q", text, first, again)
		}
	}
}
