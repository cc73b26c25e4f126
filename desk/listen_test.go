package desk_test

import (
	"fmt"
	"strings"
	"testing"
)

func TestP19_7_Subscribe(t *testing.T) {
	d := made(t, 500)
	play(t, d, "0@0 SUBSCRIBE b a b => 0: [\"subscribe\" \"b\" :1], 0: [\"subscribe\" \"a\" :2], 0: [\"subscribe\" \"b\" :2]", "0@0 PSUBSCRIBE a a* a => 0: [\"psubscribe\" \"a\" :3], 0: [\"psubscribe\" \"a*\" :4], 0: [\"psubscribe\" \"a\" :4]", "0@0 SUBSCRIBE a => 0: [\"subscribe\" \"a\" :4]",
		"1@0 SUBSCRIBE a => 1: [\"subscribe\" \"a\" :1]", "2@0 PUBSUB CHANNELS => 2: [\"a\" \"b\"]", "2@0 PUBSUB NUMPAT => 2: :2", "entries =>")
	wantOuts(t, d, 2, [][]byte{[]byte("SUBSCRIBE"), nil}, "2: [\"subscribe\" \"\" :1]")
	wantOuts(t, d, 3, [][]byte{[]byte("PUBLISH"), {}, {}}, "2: [\"message\" \"\" \"\"], 3: :1")
}

func TestP19_7_Unsubscribe(t *testing.T) {
	d := made(t, 500)
	play(t, d, "0@0 UNSUBSCRIBE => 0: [\"unsubscribe\" nil :0]", "0@0 PUNSUBSCRIBE => 0: [\"punsubscribe\" nil :0]", "0@0 UNSUBSCRIBE a a => 0: [\"unsubscribe\" \"a\" :0], 0: [\"unsubscribe\" \"a\" :0]", "0@0 GET k => 0: nil",
		"0@0 PSUBSCRIBE z x y => 0: [\"psubscribe\" \"z\" :1], 0: [\"psubscribe\" \"x\" :2], 0: [\"psubscribe\" \"y\" :3]", "0@0 UNSUBSCRIBE => 0: [\"unsubscribe\" nil :3]", "0@0 UNSUBSCRIBE x => 0: [\"unsubscribe\" \"x\" :3]",
		"0@0 SUBSCRIBE c a b => 0: [\"subscribe\" \"c\" :4], 0: [\"subscribe\" \"a\" :5], 0: [\"subscribe\" \"b\" :6]", "0@0 PUNSUBSCRIBE a => 0: [\"punsubscribe\" \"a\" :6]", "0@0 UNSUBSCRIBE b b none => 0: [\"unsubscribe\" \"b\" :5], 0: [\"unsubscribe\" \"b\" :5], 0: [\"unsubscribe\" \"none\" :5]",
		"0@0 PUNSUBSCRIBE => 0: [\"punsubscribe\" \"x\" :4], 0: [\"punsubscribe\" \"y\" :3], 0: [\"punsubscribe\" \"z\" :2]", "0@0 PUNSUBSCRIBE => 0: [\"punsubscribe\" nil :2]", "0@0 GET k => 0: ERR not now", "0@0 UNSUBSCRIBE => 0: [\"unsubscribe\" \"a\" :1], 0: [\"unsubscribe\" \"c\" :0]", "0@0 GET k => 0: nil")
}

func TestP19_7_MaxSubs(t *testing.T) {
	d := made(t, 500)
	if got := act(d, "0@0 "+list("SUBSCRIBE", 64, "k0 k1")); strings.Count(got, "subscribe") != 66 || !strings.HasSuffix(got, "[\"subscribe\" \"k1\" :64]") {
		t.Errorf("64 names: %s", got)
	}
	play(t, d, "0@0 SUBSCRIBE a => 0: ERR too many", "0@0 SUBSCRIBE k3 a => 0: ERR too many", "0@0 PSUBSCRIBE k3 => 0: ERR too many", "0@0 SUBSCRIBE k3 => 0: [\"subscribe\" \"k3\" :64]", "1@0 PUBSUB CHANNELS a => 1: []", "1@0 PUBSUB NUMPAT => 1: :0",
		"0@0 UNSUBSCRIBE k3 => 0: [\"unsubscribe\" \"k3\" :63]", "0@0 PSUBSCRIBE x y => 0: ERR too many", "0@0 PSUBSCRIBE x x => 0: [\"psubscribe\" \"x\" :64], 0: [\"psubscribe\" \"x\" :64]", "0@0 SUBSCRIBE x => 0: ERR too many", "1@0 SUBSCRIBE x => 1: [\"subscribe\" \"x\" :1]")
	play(t, d, "2@0 "+list("PSUBSCRIBE", 65, "")+" => 2: ERR too many", "2@0 GET k => 2: nil", "2@0 "+list("SUBSCRIBE", 65, "")+" => 2: ERR too many", "2@0 UNSUBSCRIBE => 2: [\"unsubscribe\" nil :0]")
}

func TestP19_7_Publish(t *testing.T) {
	d := made(t, 500)
	for c := 7; c > 0; c-- {
		play(t, d, fmt.Sprintf("%d@0 PSUBSCRIBE n* => %d: [\"psubscribe\" \"n*\" :1]", c, c))
	}
	play(t, d, "4@0 SUBSCRIBE news => 4: [\"subscribe\" \"news\" :2]", "4@0 PSUBSCRIBE [mn]ew? => 4: [\"psubscribe\" \"[mn]ew?\" :3]", "2@0 RESET => 2: +RESET", "5@0 QUIT => 5: +OK", "leave 6",
		"0@0 PUBLISH news hi => 1: [\"pmessage\" \"n*\" \"news\" \"hi\"], 3: [\"pmessage\" \"n*\" \"news\" \"hi\"], 4: [\"message\" \"news\" \"hi\"], 4: [\"pmessage\" \"[mn]ew?\" \"news\" \"hi\"], 4: [\"pmessage\" \"n*\" \"news\" \"hi\"], 7: [\"pmessage\" \"n*\" \"news\" \"hi\"], 0: :6",
		"0@0 PUBLISH News hi => 0: :0", "2@0 PUBLISH mews hi => 4: [\"pmessage\" \"[mn]ew?\" \"mews\" \"hi\"], 2: :1", "4@0 PUBLISH news hi => 4: ERR not now", "entries =>")
}

func TestP19_7_PublishToTheOneWhoWaits(t *testing.T) {
	// Who waits listens to nothing, so its messages need not be held back; a held-back PUBLISH comes in its turn.
	d := made(t, 500)
	play(t, d, "1@0 SUBSCRIBE a => 1: [\"subscribe\" \"a\" :1]", "2@0 BLPOP q 0 =>", "2@0 PUBLISH a m =>", "2@0 SUBSCRIBE a =>", "2@0 GET k =>", "0@0 PUBLISH a n => 1: [\"message\" \"a\" \"n\"], 0: :1",
		"0@0 RPUSH q e => 0: :1, 2: [\"q\" \"e\"], 1: [\"message\" \"a\" \"m\"], 2: :1, 2: [\"subscribe\" \"a\" :1], 2: ERR not now")
}

func TestP19_7_Pubsub(t *testing.T) {
	d := made(t, 500)
	play(t, d, "0@0 PUBSUB CHANNELS => 0: []", "0@0 PUBSUB NUMSUB => 0: []", "0@0 PUBSUB NUMSUB a a => 0: [\"a\" :0 \"a\" :0]", "0@0 PUBSUB NUMPAT => 0: :0",
		"1@0 SUBSCRIBE b a * => 1: [\"subscribe\" \"b\" :1], 1: [\"subscribe\" \"a\" :2], 1: [\"subscribe\" \"*\" :3]", "2@0 SUBSCRIBE a ab => 2: [\"subscribe\" \"a\" :1], 2: [\"subscribe\" \"ab\" :2]", "2@0 PSUBSCRIBE a* p => 2: [\"psubscribe\" \"a*\" :3], 2: [\"psubscribe\" \"p\" :4]", "1@0 PSUBSCRIBE p => 1: [\"psubscribe\" \"p\" :4]",
		"0@0 PUBSUB CHANNELS => 0: [\"*\" \"a\" \"ab\" \"b\"]", "0@0 PUBSUB CHANNELS a* => 0: [\"a\" \"ab\"]", "0@0 PUBSUB CHANNELS p => 0: []", "0@0 PUBSUB NUMSUB b a p a => 0: [\"b\" :1 \"a\" :2 \"p\" :0 \"a\" :2]", "0@0 PUBSUB NUMPAT => 0: :2",
		"0@0 PUBSUB CHANNELS a b => 0: "+wrongNumber, "0@0 PUBSUB NUMPAT a => 0: "+wrongNumber, "0@0 PUBSUB NOPE => 0: ERR syntax", "0@0 PUBSUB NOPE a b c => 0: ERR syntax", "0@0 PUBSUB HELP => 0: ERR syntax", "0@0 PUBSUB => 0: "+wrongNumber)
	wantOuts(t, d, 0, [][]byte{[]byte("PUBSUB"), []byte("CHANNELS"), {}}, "0: []")
	wantOuts(t, d, 0, [][]byte{[]byte("PUBSUB"), {}}, "0: ERR syntax")
}
