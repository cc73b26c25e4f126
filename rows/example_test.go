package rows_test

import (
	"testing"

	"larder/api"
)

// TestExamples: the chapter's, one behind the other in one space.
func TestExamples(t *testing.T) {
	s := made(t, 4000)
	play(t, s, 0,
		row{"RPUSH l a b c", 3}, row{"LPUSH l x y", 5}, row{"LRANGE l 0 -1", `["y" "x" "a" "b" "c"]`},
		row{"LLEN l", 5}, row{"LINDEX l -1", `"c"`}, row{"LINDEX l 5", "nil"}, row{"LINDEX l 1.5", api.BadInt},
		row{"LPOP l", `"y"`}, row{"LPOP l 0", "[]"}, row{"RPOP l 2", `["c" "b"]`}, row{"LPOP none", "nil"}, row{"LPOP none 0", "nil array"}, row{"LPOP l -1", api.BadRange}, row{"LPOP l 1 2", api.BadSyntax}, row{"LPOP", api.BadArity})
	wantList(t, s, "l", "x a")
	play(t, s, 0, row{"LPOP l 9", `["x" "a"]`}, row{"LLEN l", 0})
	wantGone(t, s, "l")
	play(t, s, 0, row{"LPUSHX l q", 0}, row{"RPUSH l a b a c a", 5}, row{"LREM l -2 a", 2})
	wantList(t, s, "l", "a b c")
	play(t, s, 0, row{"LREM l 0 zz", 0}, row{"LREM l -9223372036854775808 a", 1})
	wantList(t, s, "l", "b c")
	play(t, s, 0, row{"LINSERT l before c z", 3})
	wantList(t, s, "l", "b z c")
	play(t, s, 0,
		row{"LINSERT l AROUND c z", api.BadSyntax}, row{"LINSERT l AFTER q z", -1}, row{"LINSERT none AFTER q z", 0},
		row{"LSET l 0 B", "OK"})
	wantList(t, s, "l", "B z c")
	play(t, s, 0, row{"LSET l -4 q", api.BadRange}, row{"LSET none 0 q", api.BadKey}, row{"LSET none x q", api.BadInt}, row{"LTRIM l 1 -1", "OK"})
	wantList(t, s, "l", "z c")
	play(t, s, 0, row{"LTRIM l 5 9", "OK"})
	wantGone(t, s, "l")
	play(t, s, 0, row{"RPUSH l 1 2 3", 3}, row{"LMOVE l l RIGHT LEFT", `"3"`})
	wantList(t, s, "l", "3 1 2")
	play(t, s, 0, row{"RPOPLPUSH l m", `"2"`})
	wantList(t, s, "l", "3 1")
	wantList(t, s, "m", "2")
	play(t, s, 0, row{"LMOVE none m LEFT LEFT", "nil"}, row{"LMOVE l m UP LEFT", api.BadSyntax})
	store(t, s, "t", api.Value{Kind: api.ValText, Text: []byte("v")}, 0)
	play(t, s, 0,
		row{"LMOVE none t LEFT LEFT", api.BadKind}, row{"LPUSH t a", api.BadKind}, row{"LMPOP 2 none t LEFT", api.BadKind},
		row{"RPUSH p a b c a b a", 6}, row{"LPOS p a", 0}, row{"LPOS p a RANK 2", 3}, row{"LPOS p a RANK -1", 5}, row{"LPOS p a COUNT 0", "[0 3 5]"}, row{"LPOS p a RANK -2 COUNT 5", "[3 0]"}, row{"LPOS p a RANK 2 COUNT 0 MAXLEN 4", "[3]"},
		row{"LPOS p a RANK 0", api.BadRange}, row{"LPOS p a COUNT", api.BadSyntax}, row{"LPOS p z COUNT 1", "[]"}, row{"LPOS none z", "nil"},
		row{"LMPOP 2 none p RIGHT COUNT 2", `["p" ["a" "b"]]`}, row{"LMPOP 1 none LEFT", "nil array"}, row{"LMPOP 0 p LEFT", api.BadRange}, row{"LMPOP 2 p LEFT", api.BadSyntax}, row{"LMPOP 1 p LEFT COUNT 0", api.BadRange}, row{"LMPOP x p LEFT", api.BadInt}, row{"LMPOP 1 p UP", api.BadSyntax}, row{"LMPOP 9223372036854775807 p LEFT", api.BadSyntax})
	wantList(t, s, "p", "a b c a")
}
