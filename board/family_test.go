package board_test

import (
	"slices"
	"strings"
	"testing"

	"larder/api"
	"larder/board"
	"larder/nest"
	"larder/order"
	"larder/rows"
	"larder/space"
	"larder/text"
)

// family is a package with commands of its own.
type family struct {
	rows []api.Command
	do   func(*space.Space, uint64, int, [][]byte) api.Reply
}

func families() []family {
	return []family{{text.Commands(), text.Do}, {rows.Commands(), rows.Do}, {nest.Commands(), nest.Do}, {order.Commands(), order.Do}}
}

// familyLines is commands of the families, right and wrong ones.
var familyLines = []string{
	"SET a 1", "set a 2 px 40", "SET a x NX", "SET a x EX 0", "GET a", "GET l", "GET none", "GETSET a 5", "GETDEL b", "GETEX a PERSIST", "GETRANGE a 0 9", "SETRANGE a 3 q", "APPEND a z", "STRLEN a", "INCR n", "INCRBY n 4", "DECR n", "DECRBY n x", "INCR a", "MSET p 1 q 2", "MSET p 1 q", "MSETNX p 1 r 2", "MGET a n none l", "SETNX x 1", "SETEX x 5 y", "PSETEX x 0 y", "SETBIT bits 9 1", "GETBIT bits 9", "BITCOUNT bits", "BITPOS bits 1", "BITOP OR both bits a", "BITFIELD bits SET u8 0 255 GET i4 2",
	"RPUSH l 1 2 3", "LPUSH l 0", "RPUSHX none x", "LPUSHX l x", "LPOP l", "RPOP l 2", "LLEN l", "LRANGE l 0 -1", "LINDEX l 1", "LSET l 0 q", "LSET l 99 q", "LREM l 0 q", "LTRIM l 0 3", "LINSERT l BEFORE 2 w", "LPOS l 2", "LMOVE l m LEFT RIGHT", "RPOPLPUSH l m", "LMPOP 2 none m LEFT", "LMPOP 0 m LEFT", "LPUSH a x",
	"HSET h f 1 g 2", "HSETNX h f 9", "HGET h f", "HMGET h f none", "HGETALL h", "HKEYS h", "HVALS h", "HLEN h", "HEXISTS h f", "HSTRLEN h f", "HINCRBY h f 4", "HSCAN h 0", "HDEL h g", "HSET h f", "SADD s a b c", "SADD u b d", "SREM s a", "SISMEMBER s b", "SMISMEMBER s b q", "SMEMBERS s", "SCARD s", "SPOP s", "SMOVE s u c", "SINTER s u", "SINTERCARD 2 s u", "SINTERSTORE v s u", "SUNION s u", "SUNIONSTORE v s u", "SDIFF s u", "SDIFFSTORE v s u", "SSCAN v 0", "SADD h x",
	"ZADD z 1 a 2 b 3 c", "ZADD z XX x a", "ZINCRBY z 5 a", "ZSCORE z a", "ZMSCORE z a none", "ZCARD z", "ZCOUNT z 1 2", "ZLEXCOUNT z - +", "ZRANK z a", "ZREVRANK z a WITHSCORE", "ZRANGE z 0 -1 WITHSCORES", "ZREVRANGE z 0 -1", "ZRANGEBYSCORE z 1 9", "ZREVRANGEBYSCORE z 9 1", "ZRANGEBYLEX z - +", "ZREVRANGEBYLEX z + -", "ZRANGESTORE y z 0 1", "ZUNION 2 z y", "ZINTER 2 z y", "ZDIFF 2 z y", "ZUNIONSTORE w 2 z y", "ZINTERSTORE w 2 z y", "ZDIFFSTORE w 2 z y", "ZINTERCARD 2 z y", "ZSCAN z 0", "ZPOPMIN z", "ZPOPMAX z", "ZMPOP 1 w MIN", "ZREM z b", "ZREMRANGEBYRANK z 0 0", "ZREMRANGEBYSCORE y 1 2", "ZREMRANGEBYLEX y - +", "ZADD l 1 a",
}

// TestP15_5_AsByTheFamilies: each of their commands, three times over, in a space of its own and by its own package in another.
func TestP15_5_AsByTheFamilies(t *testing.T) {
	s, twin := made(t, 2000), made(t, 2000)
	given := map[string]bool{}
	for round := range 3 {
		for i, line := range familyLines {
			command, now, db := words(line), uint64(10*round+i/9), i%29/28
			for _, f := range families() {
				name := strings.ToUpper(command[0])
				if !slices.ContainsFunc(f.rows, func(c api.Command) bool { return c.Name == name }) {
					continue
				}
				given[name] = true
				got, want := told(board.Do(s, now, db, args(command...))), told(f.do(twin, now, db, args(command...)))
				if got != want || got == refusal(api.BadName) {
					t.Errorf("%s: %s, want %s", line, got, want)
				}
			}
			if picture(s) != picture(twin) || !slices.Equal(s.Changed(), twin.Changed()) || s.Clock() != twin.Clock() {
				t.Fatalf("behind %s there is\n%s\nand should be\n%s", line, picture(s), picture(twin))
			}
		}
	}
	for _, f := range families() {
		for _, c := range f.rows {
			if !given[c.Name] {
				t.Errorf("%s was not given", c.Name)
			}
		}
	}
}

// TestP15_5_EveryNameHasItsPackage: with every small number of arguments, of any database.
func TestP15_5_EveryNameHasItsPackage(t *testing.T) {
	for _, f := range families() {
		for _, c := range f.rows {
			for n := 1; n <= 6; n++ {
				for _, db := range []int{0, 3, 4, -1} {
					s, twin := fed(t), fed(t)
					command := append([]string{strings.ToLower(c.Name)}, slices.Repeat([]string{"k"}, n-1)...)
					got, want := told(board.Do(s, 5, db, args(command...))), told(f.do(twin, 5, db, args(command...)))
					if got != want || picture(s) != picture(twin) {
						t.Errorf("%v in %d: %s, want %s", command, db, got, want)
					}
				}
			}
		}
	}
}

// TestP15_5_NoFamilyHasTheOwnNames: so each command is of one package alone.
func TestP15_5_NoFamilyHasTheOwnNames(t *testing.T) {
	for _, c := range chapterRows() {
		for _, f := range families() {
			if r := told(f.do(made(t, 256), 0, 0, args(c.Name))); r != refusal(api.BadName) {
				t.Errorf("%s: %s", c.Name, r)
			}
		}
	}
}
