package board_test

import (
	"fmt"
	"testing"

	"larder/api"
	"larder/board"
)

// costOf is what a key of n bytes with a value of this kind, as kinds has it, costs by R9.
func costOf(n, kind int) int {
	return 24 + words8(n) + []int{0, 3, 8 + 3*(6+3), 40 + 2*(16+3+3), 40 + 2*(16+3), 96 + 3*(40+6)}[kind]
}

// words8 is the cost of a text of n bytes, B(n).
func words8(n int) int { return 2 + (n+7)/8 }

func TestP15_5_Memory(t *testing.T) {
	s := made(t, 4321)
	sum := 0
	for kind, v := range kinds()[1:] {
		for db := range api.MaxDB {
			key := wide(7 * db)
			storeIn(t, s, db, key, v, uint64(db))
			sum += costOf(len(key), kind+1)
			play(t, s, 0, row{fmt.Sprintf("@%d MEMORY USAGE %q", db, key), costOf(len(key), kind+1)}, row{"@3 MEMORY USED", sum}, row{"@2 MEMORY usage none", "nil"})
			wantChanged(t, s)
		}
		play(t, s, 0, row{"FLUSHALL", "OK"}, row{"MEMORY USED", 0})
		sum = 0
	}
	store(t, s, "a", textOf("1"), 9)
	play(t, s, 0,
		row{"MEMORY USAGE a", 30}, row{"MEMORY USED", 30}, row{"MEMORY QUOTA", 4321}, row{"@1 MEMORY QUOTA", 4321}, row{"@1 MEMORY USAGE a", "nil"}, row{"MEMORY USAGE USAGE", "nil"},
		row{"MEMORY", api.BadArity}, row{"MEMORY USAGE", api.BadSyntax}, row{"MEMORY USAGE a a", api.BadSyntax}, row{"MEMORY USAGE none a", api.BadSyntax}, row{"MEMORY USED a", api.BadSyntax}, row{"MEMORY QUOTA a", api.BadSyntax}, row{"MEMORY QUOTA a b c", api.BadSyntax}, row{"MEMORY FREE", api.BadSyntax}, row{"MEMORY FREE a", api.BadSyntax}, row{`MEMORY ""`, api.BadSyntax}, row{"MEMORY USE", api.BadSyntax}, row{"MEMORY a", api.BadSyntax})
	play(t, s, 9, row{"MEMORY USAGE a", "nil"}, row{"MEMORY USED", 0})
	for _, quota := range []int{api.MinQuota, api.MaxQuota} {
		play(t, made(t, quota), 0, row{"MEMORY QUOTA", quota})
	}
}

func TestP15_5_Command(t *testing.T) {
	s := made(t, 256)
	many := len(board.Commands())
	play(t, s, 0,
		row{"COMMAND", api.BadArity}, row{"COMMAND COUNT", many}, row{"@3 command count", many}, row{"COMMAND COUNT x", api.BadSyntax}, row{"COMMAND COUNT COUNT", api.BadSyntax}, row{"COMMAND INFO", api.BadSyntax}, row{"COMMAND INFO get", api.BadSyntax}, row{`COMMAND ""`, api.BadSyntax}, row{"COMMAND LIST", api.BadSyntax}, row{"COMMAND get x", api.BadSyntax},
		row{"COMMAND GETKEYS", api.BadName}, row{"COMMAND GETKEYS nosuch", api.BadName}, row{`COMMAND GETKEYS ""`, api.BadName}, row{"COMMAND GETKEYS nosuch 1 2", api.BadName}, row{"COMMAND GETKEYS get", api.BadArity}, row{"COMMAND GETKEYS get x y", api.BadArity}, row{"COMMAND GETKEYS time x", api.BadArity}, row{"COMMAND GETKEYS time", api.BadSyntax}, row{"COMMAND GETKEYS memory used", api.BadSyntax}, row{"COMMAND GETKEYS lmpop x a left", api.BadSyntax}, row{"COMMAND GETKEYS zunion 2 a", api.BadSyntax}, row{"COMMAND GETKEYS command getkeys get x", api.BadSyntax},
		row{"COMMAND GETKEYS memory usage k", bulks("k")}, row{"COMMAND GETKEYS sort a by b get c store d", bulks("a")}, row{"COMMAND GETKEYS zunionstore to 2 a b", bulks("to a b")}, row{`command getkeys del a "" a`, bulks(`a "" a`)}, row{"COMMAND GETKEYS hset h f", api.BadArity}, row{"COMMAND GETKEYS hset h f v g", bulks("h")})
	wantChanged(t, s)
}
