package order_test

import (
	"fmt"
	"testing"

	"larder/api"
)

func TestP14_12_Pops(t *testing.T) {
	playAll(t,
		turn{five, "ZPOPMIN k", bulks("aa 2"), "3 c 5 d 9 b 10 a"}, turn{five, "ZPOPMIN k 1", bulks("aa 2"), "3 c 5 d 9 b 10 a"}, turn{five, "ZPOPMIN k 3", bulks("aa 2 c 3 d 5"), "9 b 10 a"}, turn{five, "ZPOPMIN k 5", bulks("aa 2 c 3 d 5 b 9 a 10"), ""}, turn{five, "ZPOPMIN k 6", bulks("aa 2 c 3 d 5 b 9 a 10"), ""}, turn{five, "ZPOPMIN k " + greatest, bulks("aa 2 c 3 d 5 b 9 a 10"), ""}, turn{five, "ZPOPMIN k 4294967296", bulks("aa 2 c 3 d 5 b 9 a 10"), ""}, turn{five, "ZPOPMIN k 0", "[]", five}, turn{"", "ZPOPMIN k", "[]", ""}, turn{"", "ZPOPMIN k 2", "[]", ""}, turn{"", "ZPOPMIN k 0", "[]", ""}, turn{"1 a", "ZPOPMIN k", bulks("a 1"), ""}, turn{`1 "" 1 a 1 b`, "ZPOPMIN k 2", bulks(`"" 1 a 1`), "1 b"}, turn{least + " a " + greatest + " b", "ZPOPMIN k", bulks("a " + least), greatest + " b"},
		turn{five, "ZPOPMAX k", bulks("a 10"), "2 aa 3 c 5 d 9 b"}, turn{five, "ZPOPMAX k 1", bulks("a 10"), "2 aa 3 c 5 d 9 b"}, turn{five, "ZPOPMAX k 2", bulks("a 10 b 9"), "2 aa 3 c 5 d"}, turn{five, "ZPOPMAX k 5", bulks("a 10 b 9 d 5 c 3 aa 2"), ""}, turn{five, "ZPOPMAX k " + greatest, bulks("a 10 b 9 d 5 c 3 aa 2"), ""}, turn{five, "ZPOPMAX k 0", "[]", five}, turn{"", "ZPOPMAX k", "[]", ""}, turn{"", "ZPOPMAX k 2", "[]", ""}, turn{"1 a 1 b 1 c", "ZPOPMAX k 2", bulks("c 1 b 1"), "1 a"},
	)
	for _, name := range []string{"ZPOPMIN", "ZPOPMAX"} {
		for _, c := range []row{
			{"-1", api.BadRange}, {least, api.BadRange}, {"-1 1", api.BadRange}, {"x", api.BadInt}, {`""`, api.BadInt}, {"01", api.BadInt}, {"1.5", api.BadInt}, {"9223372036854775808", api.BadInt}, {"x 1", api.BadInt}, {"COUNT 1", api.BadInt}, {"1 1", api.BadSyntax}, {"0 x", api.BadSyntax}, {`1 ""`, api.BadSyntax},
		} {
			playAll(t, turn{five, name + " k " + c.line, c.want, five}, turn{"", name + " k " + c.line, c.want, ""}, turn{"", name + " t " + c.line, c.want, ""})
		}
		playAll(t, turn{"", name + " t", api.BadKind, ""}, turn{"", name + " t 0", api.BadKind, ""}, turn{"", name + " s 1", api.BadKind, ""})
	}
}

func TestP14_13_ZMPOP(t *testing.T) {
	playAll(t,
		turn{five, "ZMPOP 1 k MIN", `["k" [["aa" "2"]]]`, "3 c 5 d 9 b 10 a"}, turn{five, "ZMPOP 1 k MAX", `["k" [["a" "10"]]]`, "2 aa 3 c 5 d 9 b"}, turn{five, "ZMPOP 1 k min count 2", `["k" [["aa" "2"] ["c" "3"]]]`, "5 d 9 b 10 a"}, turn{five, "ZMPOP 1 k MAX COUNT 2", `["k" [["a" "10"] ["b" "9"]]]`, "2 aa 3 c 5 d"}, turn{"1 a 2 b", "ZMPOP 1 k MIN COUNT 2", `["k" [["a" "1"] ["b" "2"]]]`, ""}, turn{"1 a 2 b", "ZMPOP 1 k MAX COUNT " + greatest, `["k" [["b" "2"] ["a" "1"]]]`, ""},
		turn{"", "ZMPOP 1 k MIN", "nil array", ""}, turn{"", "ZMPOP 3 k none k MAX COUNT 5", "nil array", ""},
		turn{five, "ZMPOP 2 none k MIN", `["k" [["aa" "2"]]]`, "3 c 5 d 9 b 10 a"}, turn{five, "ZMPOP 4 none x k z MAX", `["k" [["a" "10"]]]`, "2 aa 3 c 5 d 9 b"}, turn{five, "ZMPOP 2 z k MIN COUNT 9", `["z" [["q" "1"] ["r" "2"]]]`, five}, turn{five, "ZMPOP 3 z k z MAX", `["z" [["r" "2"]]]`, five}, turn{"1 a", "ZMPOP 2 k k MIN", `["k" [["a" "1"]]]`, ""},
		// The words are keys where keys are meant.
		turn{"1 a", "ZMPOP 3 MIN MAX k MIN", `["k" [["a" "1"]]]`, ""}, turn{"1 a", "ZMPOP 2 MIN COUNT 1", api.BadSyntax, "1 a"},
		// All keys are wanted to be ranked sets.
		turn{five, "ZMPOP 2 k t MIN", api.BadKind, five}, turn{five, "ZMPOP 2 t k MIN", api.BadKind, five}, turn{five, "ZMPOP 2 k s MIN", api.BadKind, five}, turn{five, "ZMPOP 3 none k t MAX COUNT 1", api.BadKind, five}, turn{"", "ZMPOP 2 none t MAX", api.BadKind, ""},
	)
	for _, c := range []row{
		{"0 k MIN", api.BadRange}, {"-1 k MIN", api.BadRange}, {least + " k MIN", api.BadRange}, {"x k MIN", api.BadInt}, {`"" k MIN`, api.BadInt}, {"01 k MIN", api.BadInt}, {"9223372036854775808 k MIN", api.BadInt}, {"0 k x", api.BadRange}, {"x k x", api.BadInt},
		{"2 k MIN", api.BadSyntax}, {"3 k MIN", api.BadSyntax}, {"2 k t", api.BadSyntax}, {"9 k t MIN", api.BadSyntax}, {greatest + " k MIN", api.BadSyntax}, {"1 k t", api.BadSyntax}, {"1 k MID", api.BadSyntax}, {`1 k ""`, api.BadSyntax}, {"1 k t MIN", api.BadSyntax}, {"2 k t LEFT", api.BadSyntax},
		{"1 k MIN COUNT", api.BadSyntax}, {"1 k MIN x", api.BadSyntax}, {"1 k MIN MIN", api.BadSyntax}, {"1 k MIN MAX", api.BadSyntax}, {"1 k MIN LIMIT 1", api.BadSyntax}, {"1 k MIN 1", api.BadSyntax}, {"1 k MIN COUNT 1 x", api.BadSyntax}, {"1 k MIN COUNT 1 COUNT 1", api.BadSyntax}, {"1 k COUNT 1 MIN", api.BadSyntax}, {"1 k MID COUNT x", api.BadSyntax},
		{"1 k MIN COUNT 0", api.BadRange}, {"1 k MAX COUNT -1", api.BadRange}, {"1 k MIN COUNT 0 x", api.BadRange}, {"1 k MIN COUNT x", api.BadInt}, {"1 k MIN COUNT x x", api.BadInt}, {"1 k MIN COUNT COUNT 1", api.BadInt}, {"1 t MIN COUNT 0", api.BadRange}, {"1 t x", api.BadSyntax},
	} {
		playAll(t, turn{five, "ZMPOP " + c.line, c.want, five}, turn{"", "ZMPOP " + c.line, c.want, ""})
	}
}

// TestP14_12_UpToTheLast: a set is popped empty, one by one and in twos, from both ends.
func TestP14_12_UpToTheLast(t *testing.T) {
	for _, by := range []int{1, 2, 7} {
		s := made(t, api.MaxQuota)
		for i := range 60 {
			s.Draw([]byte{byte(i * 91)})
			do(s, 0, fmt.Sprintf("ZADD k %d m%02d", i/3, i))
		}
		for from, to := 0, 60; from < to; {
			var want []string
			for range min(by, to-from) {
				want = append(want, fmt.Sprintf("m%02d", from), fmt.Sprint(from/3))
				from++
			}
			play(t, s, 0, row{fmt.Sprintf("ZPOPMIN k %d", by), quoted(want)})
			want = nil
			for range min(by, to-from) {
				to--
				want = append(want, fmt.Sprintf("m%02d", to), fmt.Sprint(to/3))
			}
			play(t, s, 0, row{fmt.Sprintf("ZPOPMAX k %d", by), quoted(want)}, row{"ZCARD k", to - from})
			wantRoom(t, s)
		}
		wantGone(t, s, "k")
	}
}
