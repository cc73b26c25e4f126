package desk_test

import "testing"

func TestP19_11_Example1(t *testing.T) {
	play(t, made(t, 1000), "0@5 SET a 1 => 0: +OK", "1@5 GET a => 1: \"1\"", "entries => 1@5 0 SET a 1", "entries =>")
}

func TestP19_6_Example2(t *testing.T) {
	play(t, made(t, 1000), "0@0 MULTI => 0: +OK", "0@0 INCR n => 0: +QUEUED", "0@0 GET => 0: ERR wrong number of arguments", "0@0 EXEC => 0: EXECABORT", "0@0 GET n => 0: nil")
}

func TestP19_7_Example3(t *testing.T) {
	d := made(t, 1000)
	play(t, d, "0@0 WATCH a => 0: +OK", "1@0 SET a 2 => 1: +OK", "0@0 MULTI => 0: +OK", "0@0 SET a 3 => 0: +QUEUED", "0@0 EXEC => 0: nil array")
	play(t, d, "1@0 SET a 1 => 1: +OK", "0@0 WATCH a => 0: +OK", "1@0 SET a 1 => 1: +OK", "0@0 MULTI => 0: +OK", "0@0 SET a 3 => 0: +QUEUED", "0@0 EXEC => 0: [+OK]", "0@0 GET a => 0: \"3\"")
}

func TestP19_5_Example4(t *testing.T) {
	play(t, made(t, 1000), "2@10 BLPOP x y 50 =>", "2@11 PING =>", "3@12 RPUSH y e f => 3: :2, 2: [\"y\" \"e\"], 2: +PONG", "entries => 1@12 0 RPUSH y e f, 2@12 0 LPOP y")
}

func TestP19_2_Example5(t *testing.T) {
	play(t, made(t, 1000), "2@10 BLPOP x 50 =>", "tick 59 =>", "tick 60 => 2: nil array")
}

func TestP19_8_Example6(t *testing.T) {
	play(t, made(t, 1000), "1@0 BLPOP q 0 =>", "2@0 BLPOP q 0 =>", "0@0 MULTI => 0: +OK", "0@0 RPUSH q a => 0: +QUEUED", "0@0 LPOP q => 0: +QUEUED", "0@0 EXEC => 0: [:1 \"a\"]", "0@0 RPUSH q b c => 0: :2, 1: [\"q\" \"b\"], 2: [\"q\" \"c\"]")
}

func TestP19_7_Example7(t *testing.T) {
	play(t, made(t, 1000), "4@0 SUBSCRIBE s t => 4: [\"subscribe\" \"s\" :1], 4: [\"subscribe\" \"t\" :2]", "4@0 GET a => 4: ERR not now", "5@0 PUBLISH s hi => 4: [\"message\" \"s\" \"hi\"], 5: :1")
}

func TestP19_4_Example8(t *testing.T) {
	play(t, made(t, 1000), "0@0 QUIT => 0: +OK", "0@0 PING =>", "leave 0", "0@0 PING => 0: +PONG", "break 6@0 => 6: ERR Protocol error")
}

func TestP19_3_Example9(t *testing.T) {
	d := made(t, 1000)
	play(t, d, "8@9 PING =>", "-1@9 PING =>")
	if d.Space().Clock() != 0 {
		t.Error("the clock has moved")
	}
	play(t, d, "0@9 => 0: ERR too many")
}

func TestP19_9_Example10(t *testing.T) {
	play(t, made(t, 1000), "1@0 BLMOVE x y LEFT RIGHT 0 =>", "2@0 BLPOP y 0 =>", "0@0 RPUSH x e => 0: :1, 1: \"e\", 2: [\"y\" \"e\"]")
}
